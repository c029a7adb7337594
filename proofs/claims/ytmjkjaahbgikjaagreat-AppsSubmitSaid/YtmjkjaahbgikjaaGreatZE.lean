/- My texts, in one. -/
import Derived.Test.YtmjkjaahbgikjaaGreatZD
set_option linter.all false
set_option maxRecDepth 100000
set_option maxHeartbeats 4000000
namespace Go.Proofs.YtmjkjaahbgikjaaGreat
open Go.RowKit
open IntKind (i64)
open Go.Proofs.Tryz (prog)
def XW (p:Tx) (ds:List QD) (w:World) (e:Ending) (w':World) : Prop:=∃ A n c,e = .returned (.slice A n c)∧n=(cA p ds).length∧w'.ownsRow w.heap.size 9 1 (.slice A n c) n ((cA p ds).map sv)∧Ext w w'
theorem El {w:World} {B B':Nat} {e:TypeId} {k:Nat} {v:Value} {n:Nat} {xs:List Value} (h:w.ownsRow B e k v n xs) (hB:B'≤B) : w.ownsRow B' e k v n xs:=by
 refine ⟨h.1,?_⟩
 rcases h.2 with hn | ⟨g,cap,cur,rfl,hb,hr⟩
 ·exact .inl hn
 ·exact .inr ⟨g,cap,cur,rfl,Nat.le_trans hB hb,hr⟩
theorem KG {w wr V w3:World} {B n:Nat} {v v':Value} {l:List Tx} {T:ByteArray} (HX:Ext w wr) (hV:Ext wr V) (hn:n=l.length) (HO:wr.ownsRow B 9 1 v n (l.map sv)) (hB:w.heap.size≤B)
  (ho3:w3.ownsRow B 9 1 v' (n + 1) (l.map sv ++ [.string T])) (hg3:V.grownBy w3 v.ownBlock) : w3.ownsRow B 9 1 v' (l ++ [T.data.toList]).length ((l ++ [T.data.toList]).map sv)∧Ext w w3:=by
 refine ⟨?_,(HX.trans hV).trans' (cM hg3 ?_ (OX HO hB))⟩
 ·rw [List.length_append,List.length_singleton,← hn,List.map_append,List.map_singleton,aaz]
  exact ho3
 ·exact Nat.le_trans HX.size hV.size
theorem Tf (ds:List QD) (vl vq:Value) (S:ByteArray) (w:World) (hq:QAt w vq ds) (hlen:ds.length≤1000) (hp:∀ q∈ds,q.path.length≤1000000000) :
  Calls prog 55 #[.agg #[vl,vq],.string S] w (XW S.data.toList ds w):=by
 obtain ⟨j0,hj,hy0,hy1,hy2⟩:=info_parts Tryz.infoStr
 obtain ⟨A,N,c,rfl,hN,hc1,hc2,hcell⟩:=hq.open
 have HC:=Lib.hid hcell
 have HN:=Lib.hid hN
 have HP:=Lib.hid hp
 have hN1:N≤1000:=by omega
 clear hcell hN hq hp
 go_enter Tryz.func55,Tryz.ntmps55
 go_wp2
 refine Xu (fun W0 hW0=>?_)
 have X0:=Lib.hid (show Ext w W0 by rw [hW0]; exact aO _ _)
 have b1:W0.cell? ⟨w.heap.size,1,none⟩=some (.slice A N c):=by rw [hW0]; simp [go_sem]
 clear hW0
 go_loopw [5,6] (fun v i wr=>∃ (k:Nat),k≤N∧i = .int .i64 k∧wr.ownsRow W0.heap.size 9 1 v (cA S.data.toList (ds.take k)).length ((cA S.data.toList (ds.take k)).map sv)∧Ext W0 wr) (fun _ i _=>N - (intOf i).toNat)
 case atStart=>exact ⟨0,by omega,rfl,World.ownsRow_nil W0 _ _ 1,Ext.refl _⟩
 case round =>
  obtain ⟨k,hkN,rfl,ho,hx⟩:=hrel
  have HX:=Lib.hid hx
  have b1r:=hx.cell' b1
  have hkd:=Wu S.data.toList (ds.take k)
  rw [List.length_take] at hkd
  obtain ⟨n,hn⟩ : ∃ n,n=(cA S.data.toList (ds.take k)).length:=⟨_,rfl⟩
  rw [← hn] at ho hkd
  obtain ⟨Av,cv,rfl,hv1,hv2⟩:=cG ho
  have HNN:=Lib.hid hn
  have HO:=Lib.hid ho
  have hn1:n≤1000:=by omega
  clear hx ho hn hkd
  have i0:(0:Int)≤(k:Int):=by omega
  by_cases hlt:k < N
  ·have i1:(k:Int) < (N:Int):=by omega
   have hkl:k < ds.length:=by have:=HN.out; omega
   have HS:=Lib.hid (TB (p:=S.data.toList) hkl)
   by_cases hS:S=⟨#[]⟩
   ·have hE:S.toList = []:=by rw [hS,ByteArray.toList_eq]
    have HK:=Lib.hid (show cA S.data.toList (ds.take (k + 1))=cA S.data.toList (ds.take k) by rw [hS]; show cA [] _ = cA [] _; rw [EF,EF])
    clear hS
    go_wp2
    go_roundw
    case rel=>exact ⟨k + 1,by omega,by simp,by rw [HK.out,← HNN.out]; exact HO.out,HX.out⟩
    case measure=>simp [intOf]; omega
   ·have hne:S.data.toList≠[]:=fun h=>hS (aar.2 h)
    have hE : ¬ S.toList = []:=by rw [ByteArray.toList_eq]; exact hne
    have hE2:S.toList.isEmpty=false:=by simp [hE]
    have hE3:(!S.toList.isEmpty)=true:=by simp [hE]
    obtain ⟨g,rfl,hg,hqc⟩:=HC.out (by omega)
    obtain ⟨P,Ac,cc,h1,h2,h3,h4,h5⟩:=(hqc k hkl).ex
    have c0:=(X0.out.trans HX.out).cell h1
    have HPP:=Lib.hid h4
    have hPs:P.size≤1000000000:=by rw [v6,h4]; exact HP.out _ (List.getElem_mem hkl)
    clear hqc h1 h2 h3 h4 h5 hS
    go_wp2_with fail
    (with_reducible refine (OP P _ hPs).mono ?_)
    rintro e w2 ⟨T,rfl,hT,hTs,rfl⟩
    have HT:=Lib.hid hT
    clear hT
    by_cases hTS:T=S
    ·have HK:=Lib.hid (show cA S.data.toList (ds.take (k + 1))=cA S.data.toList (ds.take k) ++ [P.data.toList] by
      rw [HS.out,YS hne (by rw [← HPP.out,← HT.out,hTS]),HPP.out]; rfl)
     have q1:(T.toList==S.toList)=true:=by rw [hTS]; simp
     clear hTS hne
     go_wp2_with (at_builtin; refine DP _ rfl (.tmp 27) (.tmp 34) 33 33 rfl W0.heap.size 9 j0 (.string ⟨#[]⟩) 16 Tryz.underlying33 hj hy0 hy1 hy2 rfl _ n ((cA S.data.toList (ds.take k)).map sv) rfl (HO.out.alloc _) _ 1 _ rfl ((Rd.one _ _ _ _ _ rfl rfl).src ?c1 Tryz.underlying33) ?c3 ?c4 ?c5 ?_)
     case c1=>first | rfl | (intro u hu; simp at hu; subst hu; rfl)
     case c3=>simp [maxLen]; omega
     case c4=>omega
     case c5=>have h2:=HX.out.size; simp; omega
     intro v' w3 ho3 hg3 _ _
     obtain ⟨y1,y2⟩:=KG HX.out (aO wr _) HNN.out HO.out (Nat.le_refl _) ho3 hg3
     have Y1:=Lib.hid y1
     have Y2:=Lib.hid y2
     obtain ⟨A3,c3,rfl,_,_⟩:=cG ho3
     clear y1 y2 ho3 hg3
     go_wp2
     go_roundw
     case rel=>exact ⟨k + 1,by omega,by simp,by rw [HK.out]; exact Y1.out,Y2.out⟩
     case measure=>simp [intOf]; omega
    ·have HK:=Lib.hid (show cA S.data.toList (ds.take (k + 1))=cA S.data.toList (ds.take k) by
      rw [HS.out,aad (by intro e; apply hTS; rw [← HPP.out,← HT.out] at e; cases T; cases S; simp only at e; rw [Array.toList_inj] at e; rw [e])]; simp)
     have q1:(T.toList==S.toList)=false:=ZH hTS
     clear hTS hne
     go_wp2
     go_roundw
     case rel=>exact ⟨k + 1,by omega,by simp,by rw [HK.out,← HNN.out]; exact HO.out,HX.out⟩
     case measure=>simp [intOf]; omega
  ·have i1 : ¬ (k:Int) < (N:Int):=by omega
   have HK:=Lib.hid (show cA S.data.toList (ds.take k)=cA S.data.toList ds by rw [List.take_of_length_le (by have:=HN.out; omega)])
   go_wp2
   go_ret
   exact ⟨Av,n,cv,rfl,by rw [← HK.out]; exact HNN.out,by rw [← HK.out]; exact El HO.out X0.out.size,X0.out.trans HX.out⟩
theorem yW:∀ (cs:List (Int×Int)) (k:Nat) (a b:Int),k < cs.length→ce (cs.set k (a,b))=((ce cs).set (k * 2) (.int .i64 a)).set (k * 2 + 1) (.int .i64 b)
 | [],k,_,_,h=>by simp at h
 | p::cs,0,a,b,_=>rfl
 | p::cs,k + 1,a,b,h=>by
  have ih:=yW cs k a b (by simpa using h)
  rw [List.set_cons_succ]
  show [Value.int .i64 p.1,.int .i64 p.2] ++ ce (cs.set k (a,b))=((([Value.int .i64 p.1,.int .i64 p.2] ++ ce cs).set ((k + 1) * 2) (.int .i64 a)).set ((k + 1) * 2 + 1) (.int .i64 b))
  rw [ih,show (k + 1) * 2=k * 2 + 1 + 1 by omega]
  rfl
theorem Kz (cs:List (Int×Int)) (k:Nat) (h:k < cs.length) : (ce cs)[k * 2]? = some (.int .i64 cs[k].1)∧(ce cs)[k * 2 + 1]? = some (.int .i64 cs[k].2):=by
 induction cs generalizing k with
 | nil=>simp at h
 | cons p cs ih =>
  cases k with
  | zero=>exact ⟨rfl,rfl⟩
  | succ k =>
   obtain ⟨h1,h2⟩:=ih k (by simpa using h)
   have e:ce (p::cs) = .int .i64 p.1 :: .int .i64 p.2::ce cs:=rfl
   rw [e,show (k + 1) * 2=k * 2 + 1 + 1 by omega]
   exact ⟨h1,h2⟩
theorem uE (qs:List QC) (k:Nat) (q:QC) (h:qs[k]? = some q) : (fT qs)[k * 3]? = some (.string q.p)∧(fT qs)[k * 3 + 1]? = some (.slice q.A q.n q.c)∧(fT qs)[k * 3 + 2]? = some (.int .i64 q.u):=by
 induction qs generalizing k with
 | nil=>simp at h
 | cons p qs ih =>
  have e:fT (p::qs) = .string p.p :: .slice p.A p.n p.c :: .int .i64 p.u::fT qs:=rfl
  cases k with
  | zero =>
   simp at h
   subst h
   exact ⟨rfl,rfl,rfl⟩
  | succ k =>
   obtain ⟨h1,h2,h3⟩:=ih k (by simpa using h)
   rw [e,show (k + 1) * 3=k * 3 + 1 + 1 + 1 by omega]
   exact ⟨h1,h2,h3⟩
def cb (q:QC) : Option Nat:=(Value.slice q.A q.n q.c).ownBlock
def xa (w:World) (B:Nat) (q:QC) (d:QD) : Prop:=q.p.data.toList=d.path∧q.u=d.user∧q.n=d.caps.length∧w.ownsRow B 98 2 (.slice q.A q.n q.c) q.n (ce d.caps)
theorem xa.ext {w w':World} {B:Nat} {q:QC} {d:QD} (h:xa w B q d) (x:Ext w w') : xa w' B q d:=⟨h.1,h.2.1,h.2.2.1,lq h.2.2.2 x⟩
theorem xa.kept {w w':World} {B:Nat} {row:Option Nat} {q:QC} {d:QD} (h:xa w B q d) (x:w.grownBy w' row) (hr:cb q=none∨cb q≠row) : xa w' B q d:=⟨h.1,h.2.1,h.2.2.1,h.2.2.2.kept x hr⟩
structure iX (w:World) (B:Nat) (v:Value) (ds:List QD) (qs:List QC) : Prop where
 row:w.ownsRow B 63 3 v ds.length (fT qs)
 len:qs.length=ds.length
 each:∀ (k:Nat) (q:QC) (h:k < ds.length),qs[k]? = some q→xa w B q ds[k]
 apart:∀ (i j:Nat) (qi qj:QC),i≠j→qs[i]? = some qi→qs[j]? = some qj→∀ g,cb qi=some g→cb qj≠some g
theorem iX.nil (w:World) (B:Nat) : iX w B (.slice none 0 0) [] []:=⟨World.ownsRow_nil w _ _ 3,rfl,fun k _ h=>absurd h (by simp),fun i j qi qj _ h=>by simp at h⟩
theorem iX.ext {w w':World} {B:Nat} {v:Value} {ds:List QD} {qs:List QC} (h:iX w B v ds qs) (x:Ext w w') : iX w' B v ds qs :=
 ⟨lq h.row x,h.len,fun k q hk hq=>(h.each k q hk hq).ext x,h.apart⟩
theorem pq {w:World} {B e e' k n R:Nat} {v:Value} {xs:List Value} {cur:Array Value} {f:Nat×Nat} (h:w.ownsRow B e k v n xs) (hR:w.heap[R]? = some (.cells cur e' f)) (he:e≠e') : v.ownBlock≠some R:=by
 rcases h.2 with ⟨rfl,_⟩ | ⟨g,cap,cur',rfl,_,hg,_⟩
 ·intro e1; cases e1
 ·intro e1
  simp [Value.ownBlock] at e1
  subst e1
  rw [hg] at hR
  injection hR with hR
  injection hR with _ h2
  exact he h2
theorem iX.kept {w w':World} {B R:Nat} {v:Value} {ds:List QD} {qs:List QC} {cur:Array Value} {e':TypeId} {f:Nat×Nat} (h:iX w B v ds qs) (x:w.grownBy w' (some R)) (hR:w.heap[R]? = some (.cells cur e' f)) (h1 : 63≠e') (h2 : 98≠e') : iX w' B v ds qs :=
 ⟨h.row.kept x (.inr (pq h.row hR h1)),h.len,fun k q hk hq=>(h.each k q hk hq).kept x (.inr (pq (h.each k q hk hq).2.2.2 hR h2)),h.apart⟩
theorem iX.rd {w:World} {B:Nat} {v:Value} {ds:List QD} {qs:List QC} (h:iX w B v ds qs) : QAt w v ds:=by
 have hl:=h.len
 rcases h.row.2 with ⟨rfl,h0⟩ | ⟨g,cap,cur,rfl,hb,hg,hc,hm,_⟩
 ·exact ⟨none,0,by rw [h0],by omega,by simp [maxLen],fun hn=>by omega⟩
 ·refine ⟨_,cap,rfl,hc,hm,fun hn=>⟨g,rfl,(Array.getElem?_eq_some_iff.1 hg).1,fun k hk=>?_⟩⟩
  obtain ⟨q,hq⟩ : ∃ q,qs[k]? = some q:=⟨qs[k]'(by omega),by rw [zq]⟩
  obtain ⟨h1,h2,h3,h4⟩:=h.each k q hk hq
  obtain ⟨c1,c2,c3⟩:=uE qs k q hq
  have hat:=fun j (hj:j < ds.length * 3)=>h.row.cellAt j hj
  refine ⟨q.p,q.A,q.c,?_,?_,?_,h1,?_⟩
  ·rw [hat _ (by omega)]; exact c1
  ·rw [hat _ (by omega),← h3]; exact c2
  ·rw [hat _ (by omega),← h2]; exact c3
  ·rw [← h3]; exact RdK.of_own h4
theorem iX.snoc {w V w4:World} {B:Nat} {v v':Value} {ds:List QD} {qs:List QC} {q:QC} {d:QD} (h:iX w B v ds qs) (x:Ext w V) (hq:xa V B q d) (hnew:∀ g,cb q=some g→∀ (i:Nat) (qi:QC),qs[i]? = some qi→cb qi≠some g)
  (hown:w4.ownsRow B 63 3 v' (ds.length + 1) (fT qs++LY q)) (hg:V.grownBy w4 v.ownBlock) : iX w4 B v' (ds ++ [d]) (qs ++ [q]):=by
 have hx:=h.ext x
 have hne:∀ q' d',xa V B q' d'→cb q' = none∨cb q'≠v.ownBlock:=fun q' d' h'=>Z2 h'.2.2.2 hx.row (by decide)
 refine ⟨by rw [List.length_append,List.length_singleton,LZ]; exact hown,by simp [h.len],fun k q' hk hq'=>?_,fun i j qi qj hij hi hj g hgi=>?_⟩
 ·rw [List.length_append,List.length_singleton] at hk
  by_cases hlt:k < ds.length
  ·rw [List.getElem?_append_left (by rw [h.len]; exact hlt)] at hq'
   rw [List.getElem_append_left hlt]
   exact (hx.each k q' hlt hq').kept hg (hne _ _ (hx.each k q' hlt hq'))
  ·obtain rfl:k=ds.length:=by omega
   rw [List.getElem?_append_right (by rw [h.len]; exact Nat.le_refl _),h.len] at hq'
   simp at hq'
   subst hq'
   rw [List.getElem_append_right (Nat.le_refl _)]
   simp only [Nat.sub_self,List.getElem_cons_zero]
   exact hq.kept hg (hne _ _ hq)
 ·by_cases h1:i < qs.length
  ·rw [List.getElem?_append_left h1] at hi
   by_cases h2:j < qs.length
   ·rw [List.getElem?_append_left h2] at hj
    exact h.apart i j qi qj hij hi hj g hgi
   ·rw [List.getElem?_append_right (by omega)] at hj
    have h3:j - qs.length=0:=by
     have:=(zg.1 hj).1
     simp at this; omega
    rw [h3] at hj
    simp at hj
    subst hj
    intro e
    exact hnew g e i qi hi hgi
  ·rw [List.getElem?_append_right (by omega)] at hi
   have h3:i - qs.length=0:=by
    have:=(zg.1 hi).1
    simp at this; omega
   rw [h3] at hi
   simp at hi
   subst hi
   by_cases h2:j < qs.length
   ·rw [List.getElem?_append_left h2] at hj
    exact hnew g hgi j qj hj
   ·exfalso
    have:=(zg.1 hj).1
    simp at this
    omega
def JO (ds:List QD) (m k:Nat) (a b:Int) : List QD:=ds.modify m fun q=>⟨q.path,q.caps.set k (a,b),q.user⟩
theorem rm (ds:List QD) (m k:Nat) (a b:Int) : (JO ds m k a b).length=ds.length:=by simp [JO]
theorem iX.put {w:World} {B:Nat} {v:Value} {ds:List QD} {qs:List QC} (h:iX w B v ds qs) {m k:Nat} (hm:m < ds.length) (hk:k < (ds[m]).caps.length) :
  ∃ gq cq g c,v = .slice (some ⟨gq,0,none⟩) ds.length cq∧w.cell? ⟨gq,m * 3 + 1,none⟩=some (.slice (some ⟨g,0,none⟩) (ds[m]).caps.length c)∧B≤g∧g < w.heap.size∧(∃ cur,w.heap[g]? = some (.cells cur 98 (0,0))) ∧
   (∀ j,w.frozen? ⟨g,j,none⟩=false)∧w.cell? ⟨g,k * 2,none⟩=some (.int .i64 ((ds[m]).caps[k]).1)∧w.cell? ⟨g,k * 2 + 1,none⟩=some (.int .i64 ((ds[m]).caps[k]).2) ∧
   ∀ a b,iX ((w.setCell ⟨g,k * 2,none⟩ (.int .i64 a)).setCell ⟨g,k * 2 + 1,none⟩ (.int .i64 b)) B v (JO ds m k a b) qs∧w.grownBy ((w.setCell ⟨g,k * 2,none⟩ (.int .i64 a)).setCell ⟨g,k * 2 + 1,none⟩ (.int .i64 b)) (some g):=by
 have hl:=h.len
 obtain ⟨q,hq⟩ : ∃ q,qs[m]? = some q:=⟨qs[m]'(by omega),by rw [zq]⟩
 obtain ⟨h1,h2,h3,h4⟩:=h.each m q hm hq
 rcases h.row.2 with ⟨_,h0⟩ | ⟨gq,cq,cur,rfl,hb,hg,hc,hmx,_⟩
 ·omega
 rcases h4.2 with ⟨_,h0⟩ | ⟨g,c,cur',ev,hb',hg',hc',hm',_⟩
 ·omega
 injection ev with eA eN eC
 have h4':w.ownsRow B 98 2 (.slice (some ⟨g,0,none⟩) q.n q.c) q.n (ce ds[m].caps):=by rw [← eA]; exact h4
 have hcq:cb q=some g:=by unfold cb; rw [eA]; rfl
 have hcell:=h.row.cellAt (m * 3 + 1) (by omega)
 rw [(uE qs m q hq).2.1,h3,eA] at hcell
 obtain ⟨k1,k2⟩:=Kz ds[m].caps k hk
 have c1:=h4'.cellAt (k * 2) (by omega)
 have c2:=h4'.cellAt (k * 2 + 1) (by omega)
 rw [k1] at c1
 rw [k2] at c2
 refine ⟨gq,cq,g,q.c,rfl,hcell,hb',(Array.getElem?_eq_some_iff.1 hg').1,⟨cur',hg'⟩,h4'.frozenAt,c1,c2,fun a b=>?_⟩
 have hgr:w.grownBy ((w.setCell ⟨g,k * 2,none⟩ (.int .i64 a)).setCell ⟨g,k * 2 + 1,none⟩ (.int .i64 b)) (some g) :=
  ⟨rfl,rfl,rfl,by simp [World.setCell],fun i _ hi=>(Below.heap_setCell _ _ _ _ (fun e=>hi (by rw [e]))).trans (Below.heap_setCell _ _ _ _ (fun e=>hi (by rw [e])))⟩
 have st:=(h4'.stored (k * 2) (.int .i64 a)).1.stored (k * 2 + 1) (.int .i64 b)
 rw [← yW _ _ _ _ hk] at st
 refine ⟨⟨?_,by rw [rm]; exact hl,fun i q' hi hq'=>?_,h.apart⟩,hgr⟩
 ·rw [rm]
  exact h.row.kept hgr (.inr (pq h.row hg' (by decide)))
 ·rw [rm] at hi
  simp only [JO,List.getElem_modify]
  by_cases him:m=i
  ·subst him
   rw [hq] at hq'
   injection hq' with hq'
   subst hq'
   rw [if_pos rfl]
   refine ⟨h1,h2,by simpa using h3,?_⟩
   rw [eA]
   exact st.1
  ·rw [if_neg him]
   exact (h.each i q' hi hq').kept hgr (.inr fun e=>h.apart m i q q' him hq hq' g hcq e)
def VU:Tx:=[114,111,111,116]
def mE:Nat→List Tx
 | 0=>[[114,111,111,116]]
 | 1=>[[114,111,111,116],[114,111,111,116,46,97],[114,111,111,116,46,98]]
 | 2=>[[114,111,111,116],[114,111,111,116,46,97],[114,111,111,116,46,97,46,120],[114,111,111,116,46,97,46,121],[114,111,111,116,46,98]]
 | 3=>[[114,111,111,116],[114,111,111,116,46,97],[114,111,111,116,46,98],[114,111,111,116,46,98,46,120],[114,111,111,116,46,98,46,120,46,112],[114,111,111,116,46,98,46,120,46,113],[114,111,111,116,46,99]]
 | _=>[[114,111,111,116],[114,111,111,116,46,97]]
def gpu:Tx:=[103,112,117]
def CO (nl:Nat) : List Tx:=([[],gpu] : List Tx).take nl
theorem qS {nl:Nat} (h:nl≤2) : (CO nl).length=nl:=by simp [CO]; omega
theorem LB (y:Nat) : (mE y).length≤7:=by
 unfold mE
 split <;> decide
theorem LA (y:Nat) : ∀ p∈mE y,p.length≤11:=by
 unfold mE
 split <;> decide
theorem Ov (y:Nat) : (mE y).Nodup:=by
 unfold mE
 split <;> decide
def Ca (p:Tx) (ps:List Tx) : List Tx:=ps.filter fun x=>decide (p≠[])&&decide (above x=p)
theorem EG (p:Tx) (ds:List QD) : cA p ds=Ca p (ds.map (·.path)):=by
 unfold cA Ca
 rw [List.filter_map]
 rfl
def rN:Int×Int:=(10000,10000)
structure G1 (nl:Nat) (ps:List Tx) (k:Nat) (ds:List QD) : Prop where
 paths:ds.map (·.path)=ps.take k
 each:∀ q∈ds,q.caps=List.replicate nl rN∧1≤q.user∧q.user≤1000000
theorem G1.nil (nl:Nat) (ps:List Tx) : G1 nl ps 0 []:=⟨rfl,by simp⟩
theorem G1.snoc {nl k:Nat} {ps:List Tx} {ds:List QD} (h:G1 nl ps k ds) (hk:k < ps.length) {u:Int} (h1 : 1≤u) (h2:u≤1000000) : G1 nl ps (k + 1) (ds ++ [⟨ps[k],List.replicate nl rN,u⟩]):=by
 refine ⟨?_,fun q hq=>?_⟩
 ·rw [List.map_append,h.paths,List.take_succ_eq_append_getElem hk]; rfl
 ·rcases List.mem_append.1 hq with hq | hq
  ·exact h.each q hq
  ·simp at hq; subst hq; exact ⟨rfl,h1,h2⟩
def abc (c:Int×Int) : Prop:=0≤c.1∧c.1≤c.2∧c.2≤10000
structure Gd (nl:Nat) (ps:List Tx) (ds:List QD) : Prop where
 paths:ds.map (·.path)=ps
 each:∀ q∈ds,q.caps.length=nl∧1≤q.user∧q.user≤1000000∧∀ c∈q.caps,abc c
 root:∀ q∈ds,q.path=VU→q.caps=List.replicate nl rN
theorem Gd.len {nl:Nat} {ps:List Tx} {ds:List QD} (h:Gd nl ps ds) : ds.length=ps.length:=by
 have:=congrArg List.length h.paths
 simpa using this
def Ic (k:Nat) (q:QD) : Int:=(q.caps.getD k (0,0)).1
def O4 (k:Nat) (l:List QD) : Int:=(l.map (Ic k)).sum
def mR (p:Tx) (ds:List QD) : List QD:=ds.filter (lx p)
theorem uS (p:Tx) (ds:List QD) : (mR p ds).length=(cA p ds).length:=by simp [mR,cA]
def Zs (k:Nat) (p:Tx) (ds:List QD) : Prop:=mR p ds≠[]→O4 k (mR p ds)=10000
structure GI (nl:Nat) (ps:List Tx) (i:Nat) (ds:List QD) : Prop where
 gd:Gd nl ps ds
 done:∀ i' (h:i' < ps.length),i' < i→∀ k,k < nl→Zs k ps[i'] ds
structure GK (nl:Nat) (ps:List Tx) (i k:Nat) (ds:List QD) : Prop where
 gi:GI nl ps i ds
 part:∀ h:i < ps.length,∀ k',k' < k→Zs k' ps[i] ds
structure GJ (nl:Nat) (ps:List Tx) (i k j:Nat) (left:Int) (ds:List QD) : Prop where
 gk:GK nl ps i k ds
 lo : 0≤left
 hi:left≤10000
 sum:∀ h:i < ps.length,O4 k ((mR ps[i] ds).take j)=10000 - left
 last:∀ h:i < ps.length,0 < j→j=(mR ps[i] ds).length→left=0
def qJ (p:Tx) (k:Nat) (a b:Int) (q:QD) : QD:=if q.path=p then ⟨q.path,q.caps.set k (a,b),q.user⟩ else q
def iM (p:Tx) (k:Nat) (a b:Int) (ds:List QD) : List QD:=ds.map (qJ p k a b)
def eV (p:Tx) (k:Nat) (a b:Int) (ds:List QD) (m:Nat) : List QD:=(ds.take m).map (qJ p k a b)++ds.drop m
theorem D6 (p:Tx) (k:Nat) (a b:Int) (ds:List QD) : eV p k a b ds 0=ds:=by simp [eV]
theorem HR (p:Tx) (k:Nat) (a b:Int) (ds:List QD) : eV p k a b ds ds.length=iM p k a b ds:=by simp [eV,iM]
theorem gS (p:Tx) (k:Nat) (a b:Int) (ds:List QD) (m:Nat) : (eV p k a b ds m).length=ds.length:=by simp [eV]; omega
theorem AJ (p:Tx) (k:Nat) (a b:Int) (ds:List QD) (m:Nat) (hm:m < ds.length) (h:m < (eV p k a b ds m).length) : (eV p k a b ds m)[m] = ds[m]:=by
 have h2:(eV p k a b ds m)[m]? = ds[m]? := by
  unfold eV
  rw [List.getElem?_append_right (by simp; omega),List.getElem?_drop]
  congr 1
  simp
  omega
 rw [zq h,zq hm] at h2
 injection h2
theorem AN (p:Tx) (k:Nat) (a b:Int) (q:QD) : (qJ p k a b q).path=q.path:=by unfold qJ; split <;> rfl
theorem Tk (p:Tx) (k:Nat) (a b:Int) (q:QD) : (qJ p k a b q).caps.length=q.caps.length:=by unfold qJ; split <;> simp
theorem H3 (p:Tx) (k:Nat) (a b:Int) (q:QD) : (qJ p k a b q).user=q.user:=by unfold qJ; split <;> rfl
theorem JN {p:Tx} {k:Nat} {a b:Int} {q:QD} (h:q.path≠p) : qJ p k a b q=q:=by unfold qJ; rw [if_neg h]
theorem LN {p:Tx} {k:Nat} {a b:Int} {ds:List QD} {m:Nat} (hm:m < ds.length) (h:ds[m].path≠p) : eV p k a b ds (m + 1)=eV p k a b ds m:=by
 unfold eV
 rw [List.take_succ_eq_append_getElem hm,List.map_append,List.drop_eq_getElem_cons hm]
 simp [JN h]
theorem Ew {α : Type} : ∀ (l:List α) (x : α) (r:List α) (f : α→α) (n:Nat),l.length=n→(l++x::r).modify n f=l++f x::r
 | [],x,r,f,_,h=>by subst h; rfl
 | y::l,x,r,f,n,h=>by
  subst h
  simp only [List.cons_append,List.length_cons,List.modify_succ_cons]
  rw [Ew l x r f _ rfl]
theorem HQ {p:Tx} {k:Nat} {a b:Int} {ds:List QD} {m:Nat} (hm:m < ds.length) (h:ds[m].path=p) : eV p k a b ds (m + 1)=(eV p k a b ds m).modify m (fun q=>⟨q.path,q.caps.set k (a,b),q.user⟩):=by
 have hl:((ds.take m).map (qJ p k a b)).length=m:=by simp; omega
 unfold eV
 rw [List.take_succ_eq_append_getElem hm,List.map_append,List.append_assoc]
 conv=>rhs; rw [List.drop_eq_getElem_cons hm]
 rw [Ew _ _ _ _ _ hl]
 simp [qJ,h]
theorem G1.start {nl:Nat} {ps:List Tx} {ds:List QD} (h:G1 nl ps ps.length ds) : GI nl ps 0 ds:=by
 refine ⟨⟨by rw [h.paths,List.take_length],fun q hq=>?_,fun q hq _=>(h.each q hq).1⟩,fun _ _ h=>by omega⟩
 obtain ⟨h1,h2,h3⟩:=h.each q hq
 refine ⟨by rw [h1]; simp,h2,h3,fun c hc=>?_⟩
 rw [h1] at hc
 have:=List.eq_of_mem_replicate hc
 subst this
 exact ⟨by decide,by decide,by decide⟩
theorem GI.toK {nl i:Nat} {ps:List Tx} {ds:List QD} (h:GI nl ps i ds) : GK nl ps i 0 ds:=⟨h,fun _ _ h=>by omega⟩
theorem GK.toJ {nl i k:Nat} {ps:List Tx} {ds:List QD} (h:GK nl ps i k ds) : GJ nl ps i k 0 10000 ds:=⟨h,by omega,by omega,fun _=>by simp [O4],fun _ h=>by omega⟩
theorem GJ.end {nl i k j:Nat} {left:Int} {ps:List Tx} {ds:List QD} (h:GJ nl ps i k j left ds) (hj:∀ h:i < ps.length,j=(cA ps[i] ds).length) : GK nl ps i (k + 1) ds:=by
 refine ⟨h.gk.gi,fun hi k' hk' hne=>?_⟩
 rcases Nat.lt_or_ge k' k with h1 | h1
 ·exact h.gk.part hi k' h1 hne
 ·obtain rfl:k' = k:=by omega
  have h2:=hj hi
  rw [← uS] at h2
  have h3:=h.sum hi
  have h4:=h.last hi (by
   have:(mR ps[i] ds).length≠0:=fun e=>hne (List.eq_nil_of_length_eq_zero e)
   omega) h2
  rw [h2,List.take_length] at h3
  omega
theorem GK.end {nl i:Nat} {ps:List Tx} {ds:List QD} (h:GK nl ps i nl ds) : GI nl ps (i + 1) ds:=by
 refine ⟨h.gi.gd,fun i' hi' hlt k hk=>?_⟩
 rcases Nat.lt_or_ge i' i with h1 | h1
 ·exact h.gi.done i' hi' h1 k hk
 ·obtain rfl:i' = i:=by omega
  exact h.part hi' k hk
theorem Mc {α : Type} {l:List α} (h:l.Nodup) {i j:Nat} (hi:i < l.length) (hj:j < l.length) (e:l[i] = l[j]) : i=j:=by
 rcases Nat.lt_trichotomy i j with h1 | h1 | h1
 ·exact absurd e (List.pairwise_iff_getElem.1 h i j hi hj h1)
 ·exact h1
 ·exact absurd e.symm (List.pairwise_iff_getElem.1 h j i hj hi h1)
theorem GZ {p:Tx} {k k':Nat} {a b:Int} {q:QD} (h:k'≠k) : Ic k' (qJ p k a b q)=Ic k' q:=by
 unfold qJ Ic
 split
 ·simp only [List.getD_eq_getElem?_getD]
  rw [List.getElem?_set_ne (by omega)]
 ·rfl
theorem Ef {p:Tx} {k:Nat} {a b:Int} {q:QD} (h:q.path=p) (hk:k < q.caps.length) : Ic k (qJ p k a b q)=a:=by
 unfold qJ Ic
 rw [if_pos h]
 simp only [List.getD_eq_getElem?_getD]
 rw [List.getElem?_set_self (by simpa using hk)]
 rfl
theorem Pb (pp p:Tx) (k:Nat) (a b:Int) (q:QD) : lx pp (qJ p k a b q)=lx pp q:=by unfold lx; rw [AN]
theorem yL (pp p:Tx) (k:Nat) (a b:Int) (ds:List QD) : mR pp (iM p k a b ds)=(mR pp ds).map (qJ p k a b):=by
 unfold mR iM
 rw [List.filter_map]
 congr 1
 apply List.filter_congr
 intro q _
 exact Pb pp p k a b q
theorem YL {p:Tx} {k k':Nat} {a b:Int} (l:List QD) (h:k'≠k) : O4 k' (l.map (qJ p k a b))=O4 k' l:=by
 unfold O4
 rw [List.map_map]
 congr 1
 apply List.map_congr_left
 intro q _
 exact GZ h
theorem B8 {p:Tx} {k:Nat} {a b:Int} (l:List QD) (h:∀ q∈l,q.path≠p) : l.map (qJ p k a b)=l:=by
 conv=>rhs; rw [← List.map_id l]
 apply List.map_congr_left
 intro q hq
 exact JN (h q hq)
theorem xA {pp:Tx} {ds:List QD} {q:QD} (h:q∈mR pp ds) : above q.path=pp∧pp≠[]:=by
 unfold mR at h
 have:=(List.mem_filter.1 h).2
 simp [lx] at this
 exact ⟨this.2,this.1⟩
theorem Gd.set {nl k:Nat} {p:Tx} {n mo:Int} {ps:List Tx} {ds:List QD} (h:Gd nl ps ds) (hp:p≠VU) (h0 : 0≤n) (h2:n≤mo) (h3:mo≤10000) : Gd nl ps (iM p k n mo ds):=by
 refine ⟨?_,fun q hq=>?_,fun q hq hr=>?_⟩
 ·unfold iM
  rw [List.map_map,← h.paths]
  apply List.map_congr_left
  intro q _
  exact AN _ _ _ _ _
 ·unfold iM at hq
  obtain ⟨q',hq',rfl⟩:=List.mem_map.1 hq
  obtain ⟨h4,h5,h6,h7⟩:=h.each q' hq'
  refine ⟨by rw [Tk]; exact h4,by rw [H3]; exact h5,by rw [H3]; exact h6,fun c hc=>?_⟩
  unfold qJ at hc
  split at hc
  ·rcases List.mem_or_eq_of_mem_set hc with hc | hc
   ·exact h7 c hc
   ·subst hc; exact ⟨h0,h2,h3⟩
  ·exact h7 c hc
 ·unfold iM at hq
  obtain ⟨q',hq',rfl⟩:=List.mem_map.1 hq
  rw [AN] at hr
  rw [JN (by rw [hr]; exact fun e=>hp e.symm)]
  exact h.root q' hq' hr
theorem GJ.step {nl i k j:Nat} {left n mo:Int} {ps:List Tx} {ds:List QD} (h:GJ nl ps i k j left ds) (hps:ps.Nodup) (hi:i < ps.length) (hj:j < (cA ps[i] ds).length) (hk:k < nl) (h0 : 0≤n) (h1:n≤left) (hlast:j + 1=(cA ps[i] ds).length→n=left) (h2:n≤mo) (h3:mo≤10000) :
  GJ nl ps i k (j + 1) (left - n) (iM ((cA ps[i] ds)[j]) k n mo ds):=by
 have hgd:=h.gk.gi.gd
 have hjl:j < (mR ps[i] ds).length:=by rw [uS]; exact hj
 obtain ⟨p,hp⟩ : ∃ p,p=(cA ps[i] ds)[j]:=⟨_,rfl⟩
 have hpp:(mR ps[i] ds)[j].path=p:=by rw [hp]; simp [cA,mR]
 have hmem:(mR ps[i] ds)[j]∈mR ps[i] ds:=List.getElem_mem hjl
 have hab:above p=ps[i]:=by rw [← hpp]; exact (xA hmem).1
 have hne0:ps[i]≠[]:=(xA hmem).2
 have hroot:p≠VU:=by
  intro e
  rw [e] at hab
  exact hne0 (hab.symm.trans (by decide))
 rw [← hp]
 have hnd:((mR ps[i] ds).map (·.path)).Nodup:=by
  unfold mR
  have h5:(ds.map (·.path)).Nodup:=by rw [hgd.paths]; exact hps
  exact List.Nodup.sublist (List.Sublist.map _ List.filter_sublist) h5
 have other:∀ i' (hi':i' < ps.length),i'≠i→mR ps[i'] (iM p k n mo ds)=mR ps[i'] ds:=by
  intro i' hi' hne
  rw [yL,B8]
  intro q hq e
  have:=(xA hq).1
  rw [e,hab] at this
  exact hne (Mc hps hi' hi this.symm)
 have hcap:k < ((mR ps[i] ds)[j]).caps.length:=by
  have:(mR ps[i] ds)[j]∈ds:=(List.mem_filter.1 hmem).1
  rw [(hgd.each _ this).1]; exact hk
 have before:((mR ps[i] ds).take j).map (qJ p k n mo)=(mR ps[i] ds).take j:=by
  apply B8
  intro q hq e
  obtain ⟨j',hj',e2⟩:=List.mem_iff_getElem.1 hq
  rw [List.length_take] at hj'
  rw [List.getElem_take] at e2
  have e3:((mR ps[i] ds).map (·.path))[j']'(by simp; omega)=((mR ps[i] ds).map (·.path))[j]'(by simpa using hjl):=by
   simp only [List.getElem_map]
   rw [e2,e,hpp]
  have:=Mc hnd _ _ e3
  omega
 refine ⟨⟨⟨hgd.set hroot h0 h2 h3,fun i' hi' hlt k' hk'=>?_⟩,fun _ k' hk'=>?_⟩,by omega,by have:=h.hi; omega,fun _=>?_,fun _ _ hjj=>?_⟩
 ·unfold Zs
  rw [other i' hi' (by omega)]
  exact h.gk.gi.done i' hi' hlt k' hk'
 ·unfold Zs
  rw [yL,YL _ (by omega)]
  intro hne
  exact h.gk.part hi k' hk' (fun e=>hne (by rw [e]; rfl))
 ·rw [yL,← List.map_take,List.take_succ_eq_append_getElem hjl,List.map_append,before]
  have hs:=h.sum hi
  unfold O4 at hs ⊢
  rw [List.map_append,List.sum_append,hs]
  simp only [List.map_cons,List.map_nil,List.sum_cons,List.sum_nil]
  rw [Ef hpp hcap]
  omega
 ·rw [yL,List.length_map,uS] at hjj
  rw [hlast hjj]
  omega
def gA (v_l:(List ByteArray)) (v_s:aa) (af:Int) (st:(List ByteArray)) (v_i:Int) (x_:ByteArray) : Option (((List ByteArray))⊕(((List ByteArray)×Int))) :=
 let al:=st
 let v_k:Int:=0
 (ah (jl al v_s v_i v_l af) ab v_k).bind fun r13 =>
 let v_k:=r13
 (hiO al v_k).bind fun b14=>(aU ([] : (List ByteArray)) b14).bind fun b15=>let v_x:(List ByteArray):=b15
 (aU v_x [x_]).bind fun b16=>let v_x:(List ByteArray):=b16
 (loO al v_k).bind fun b17=>(aU v_x b17).bind fun b18=>let al:(List ByteArray):=b18
 some (.inl al)
theorem zW (v_l:(List ByteArray)) (v_s:aa) (af:Int) (a_:(List ByteArray)) (hl:v_l.length≤1000000) : ah (l5 v_l v_s af) ab (a_,(0))=nT (gA v_l v_s af) (fun a_=>(a_,((v_l.length:Int)))) a_ 0 v_l :=
 fh v_l (S:=(List ByteArray)×Int) (fun a_ k_=>(a_,(k_))) (gA v_l v_s af) (fun a_=>(a_,((v_l.length:Int)))) (an hl) (fun k a x hx=>by
  unfold l5 gA; exact bK)
  (fun a=>by unfold l5; exact cI) a_
def gD (v_s:aa) (oU:ByteArray) (st:(List aq)) (x_:aq) : Option (((List aq))⊕(((List aq)×Int))) :=
 let al:=st
 let v_a:aq:=x_
 (dG v_a).bind fun c12=>(if (!c12)=true then some true else some (!(v_a.bC.toList==oU.toList))).bind fun q13=>if q13=true then
 some (.inl al)
 else
 let v_k:Int:=0
 (ah (jm al v_a) ab v_k).bind fun r14 =>
 let v_k:=r14
 (hiO al v_k).bind fun b15=>(aU ([] : (List aq)) b15).bind fun b16=>let v_x:(List aq):=b16
 (aU v_x [v_a]).bind fun b17=>let v_x:(List aq):=b17
 (loO al v_k).bind fun b18=>(aU v_x b18).bind fun b19=>let al:(List aq):=b19
 some (.inl al)
theorem zZ (v_s:aa) (oU:ByteArray) (a_:(List aq)) (hl:v_s.aj.length≤1000000) : ah (l7 v_s oU) ab (a_,(0))=bh (gD v_s oU) (fun a_=>(a_,((v_s.aj.length:Int)))) a_ v_s.aj :=
 ay v_s.aj (S:=(List aq)×Int) (fun a_ k_=>(a_,(k_))) (gD v_s oU) (fun a_=>(a_,((v_s.aj.length:Int)))) (an hl) (fun k a x hx=>by
  unfold l7 gD; exact bK)
  (fun a=>by unfold l7; exact cI) a_
def gB (al:(List aq)) (st:(List Int)) (x_:aq) : Option (((List Int))⊕(((List Int)×Int))) :=
 let v_l:=st
 (aU v_l [x_.fId]).bind fun b15=>let v_l:(List Int):=b15
 some (.inl v_l)
theorem zY (al:(List aq)) (a_:(List Int)) (hl:al.length≤1000000) : ah (l6 al) ab (a_,(0))=bh (gB al) (fun a_=>(a_,((al.length:Int)))) a_ al :=
 ay al (S:=(List Int)×Int) (fun a_ k_=>(a_,(k_))) (gB al) (fun a_=>(a_,((al.length:Int)))) (an hl) (fun k a x hx=>by
  unfold l6 gB; exact bK)
  (fun a=>by unfold l6; exact cI) a_
def iU (iY:(List ByteArray)) (au:ByteArray) (st:Unit) (x_:ByteArray) : Option ((Unit)⊕((Int)⊕(Bool))) :=
 if (x_.toList==au.toList)=true then
 some (.inr (.inr true))
 else
 some (.inl ())
theorem ya (iY:(List ByteArray)) (au:ByteArray) (a_:Unit) (hl:iY.length≤1000000) : ah (kq iY au) ab (0)=bh (iU iY au) (fun a_=>(.inl ((iY.length:Int)))) a_ iY :=
 ay iY (S:=Int) (fun a_ k_=>(k_)) (iU iY au) (fun a_=>(.inl ((iY.length:Int)))) (an hl) (fun k a x hx=>by
  unfold kq iU; exact bK)
  (fun a=>by unfold kq; exact cI) a_
def gF (v_s:aa) (af:Int) (au:ByteArray) (yp:Bool) (mC:Int) (st:az) (x_:am) : Option ((az)⊕((az×Int))) :=
 let v_v:=st
 (eR v_s x_.bG).bind fun c11=>let v_a:aq:=c11.1
 let bS:Bool:=c11.2
 (if bS=true then some (x_.aY==af) else some false).bind fun q12=>(if q12=true then (ni v_a.bC au).bind fun c13=>some c13 else some false).bind fun q14=>(if q14=true then (if yp=true then some true else some (v_a.cy==mC)).bind fun q15=>some q15 else some false).bind fun q16=>if q16=true then
 (di v_v x_.cF).bind fun c17=>let v_v:az:=c17
 some (.inl v_v)
 else
 some (.inl v_v)
theorem Ab (v_s:aa) (af:Int) (au:ByteArray) (yp:Bool) (mC:Int) (a_:az) (hl:v_s.ac.length≤1000000) : ah (l8 v_s af au yp mC) ab (a_,(0))=bh (gF v_s af au yp mC) (fun a_=>(a_,((v_s.ac.length:Int)))) a_ v_s.ac :=
 ay v_s.ac (S:=az×Int) (fun a_ k_=>(a_,(k_))) (gF v_s af au yp mC) (fun a_=>(a_,((v_s.ac.length:Int)))) (an hl) (fun k a x hx=>by
  unfold l8 gF; exact bK)
  (fun a=>by unfold l8; exact cI) a_
def eb (v_s:aa) (af:Int) (au:ByteArray) (st:az) (x_:aq) : Option ((az)⊕((az×Int))) :=
 let v_v:=st
 (dG x_).bind fun c9=>(if c9=true then (ni x_.bC au).bind fun c10=>some c10 else some false).bind fun q11=>if q11=true then
 (kD x_.bI af).bind fun c12=>(di v_v c12).bind fun c13=>let v_v:az:=c13
 some (.inl v_v)
 else
 some (.inl v_v)
theorem vA (v_s:aa) (af:Int) (au:ByteArray) (a_:az) (hl:v_s.aj.length≤1000000) : ah (iV v_s af au) ab (a_,(0))=bh (eb v_s af au) (fun a_=>(a_,((v_s.aj.length:Int)))) a_ v_s.aj :=
 ay v_s.aj (S:=az×Int) (fun a_ k_=>(a_,(k_))) (eb v_s af au) (fun a_=>(a_,((v_s.aj.length:Int)))) (an hl) (fun k a x hx=>by
  unfold iV eb; exact bK)
  (fun a=>by unfold iV; exact cI) a_
def gG (iY:(List ByteArray)) (v_s:aa) (af:Int) (sX:az) (st:Unit) (x_:ByteArray) : Option ((Unit)⊕((Int)⊕(Bool))) :=
 (eO v_s x_ af).bind fun c14=>(di c14 sX).bind fun c15=>let v_v:az:=c15
 (v8 v_s x_ af).bind fun c16=>(fM v_v c16).bind fun c17=>if (!c17)=true then
 some (.inr (.inr false))
 else
 (if (x_.toList==(⟨#[114,111,111,116]⟩ : ByteArray).toList)=true then (je v_s af).bind fun c18=>(tJ v_s af).bind fun c19=>(we c18 c19).bind fun c20=>(fM v_v c20).bind fun c21=>some (!c21) else some false).bind fun q22=>if q22=true then
 some (.inr (.inr false))
 else
 some (.inl ())
theorem Ae (iY:(List ByteArray)) (v_s:aa) (af:Int) (sX:az) (a_:Unit) (hl:iY.length≤1000000) : ah (l9 iY v_s af sX) ab (0)=bh (gG iY v_s af sX) (fun a_=>(.inl ((iY.length:Int)))) a_ iY :=
 ay iY (S:=Int) (fun a_ k_=>(k_)) (gG iY v_s af sX) (fun a_=>(.inl ((iY.length:Int)))) (an hl) (fun k a x hx=>by
  unfold l9 gG; exact bK)
  (fun a=>by unfold l9; exact cI) a_
def jd (v_l:(List aM)) (v_a:aM) (st:(List aM)×Bool) (x_:aM) : Option (((List aM)×Bool)⊕(((List aM)×Bool×Int))) :=
 let al:=st.1
 let cw:=st.2
 (if (!cw)=true then some (decide (x_.bq > v_a.bq)) else some false).bind fun q8=>(if q8=true then
 (aU al [v_a]).bind fun b10=>let al:(List aM):=b10
 let cw:Bool:=true
 some (al,cw)
 else
 some (al,cw)).bind fun j9=>let al:=j9.1
 let cw:=j9.2
 if (x_.bq != v_a.bq)=true then
 (aU al [x_]).bind fun b11=>let al:(List aM):=b11
 some (.inl (al,cw))
 else
 some (.inl (al,cw))
theorem CU (v_l:(List aM)) (v_a:aM) (a_:(List aM)×Bool) (hl:v_l.length≤1000000) : ah (pb v_l v_a) ab (a_.1,a_.2,(0))=bh (jd v_l v_a) (fun a_=>(a_.1,a_.2,((v_l.length:Int)))) a_ v_l :=
 ay v_l (S:=(List aM)×Bool×Int) (fun a_ k_=>(a_.1,a_.2,(k_))) (jd v_l v_a) (fun a_=>(a_.1,a_.2,((v_l.length:Int)))) (an hl) (fun k a x hx=>by
  unfold pb jd; exact bK)
  (fun a=>by unfold pb; exact cI) a_
def lC (v_l:(List aM)) (cK:Int) (st:Unit) (x_:aM) : Option ((Unit)⊕((Int)⊕(aM×Bool))) :=
 if (x_.bq==cK)=true then
 some (.inr (.inr (x_,true)))
 else
 some (.inl ())
theorem CV (v_l:(List aM)) (cK:Int) (a_:Unit) (hl:v_l.length≤1000000) : ah (pd v_l cK) ab (0)=bh (lC v_l cK) (fun a_=>(.inl ((v_l.length:Int)))) a_ v_l :=
 ay v_l (S:=Int) (fun a_ k_=>(k_)) (lC v_l cK) (fun a_=>(.inl ((v_l.length:Int)))) (an hl) (fun k a x hx=>by
  unfold pd lC; exact bK)
  (fun a=>by unfold pd; exact cI) a_
def il (v_l:(List aM)) (cK:Int) (st:Bool×(List aM)) (x_:aM) : Option ((Bool×(List aM))⊕((Bool×(List aM)×Int))) :=
 let bS:=st.1
 let al:=st.2
 let v_a:aM:=x_
 if (v_a.bq==cK)=true then
 let bS:Bool:=true
 let t6:Int:=(i64.wrap (v_a.fZ - 1))
 let t7:Int:=0
 let v_a:aM:={ v_a with fZ:=t6 }
 let v_a:aM:={ v_a with gV:=t7 }
 if (decide (v_a.fZ≤0))=true then
 some (.inl (bS,al))
 else
 (aU al [v_a]).bind fun b8=>let al:(List aM):=b8
 some (.inl (bS,al))
 else
 (aU al [v_a]).bind fun b9=>let al:(List aM):=b9
 some (.inl (bS,al))
theorem Br (v_l:(List aM)) (cK:Int) (a_:Bool×(List aM)) (hl:v_l.length≤1000000) : ah (nz v_l cK) ab (a_.1,a_.2,(0))=bh (il v_l cK) (fun a_=>(a_.1,a_.2,((v_l.length:Int)))) a_ v_l :=
 ay v_l (S:=Bool×(List aM)×Int) (fun a_ k_=>(a_.1,a_.2,(k_))) (il v_l cK) (fun a_=>(a_.1,a_.2,((v_l.length:Int)))) (an hl) (fun k a x hx=>by
  unfold nz il; exact bK)
  (fun a=>by unfold nz; exact cI) a_
def eB (v_l:(List aM)) (af:Int) (st:az) (x_:aM) : Option ((az)⊕((az×Int))) :=
 let v_v:=st
 if (x_.aY==af)=true then
 (di v_v (⟨(i64.wrap (x_.cF.bD * x_.fZ)),(i64.wrap (x_.cF.be * x_.fZ))⟩ : az)).bind fun c7=>let v_v:az:=c7
 some (.inl v_v)
 else
 some (.inl v_v)
theorem wA (v_l:(List aM)) (af:Int) (a_:az) (hl:v_l.length≤1000000) : ah (jw v_l af) ab (a_,(0))=bh (eB v_l af) (fun a_=>(a_,((v_l.length:Int)))) a_ v_l :=
 ay v_l (S:=az×Int) (fun a_ k_=>(a_,(k_))) (eB v_l af) (fun a_=>(a_,((v_l.length:Int)))) (an hl) (fun k a x hx=>by
  unfold jw eB; exact bK)
  (fun a=>by unfold jw; exact cI) a_
def Uk (a b:az) : az:=⟨i64.wrap (a.bD + b.bD),i64.wrap (a.be + b.be)⟩
def YX (a b:az) : Bool:=decide (a.bD≤b.bD)&&decide (a.be≤b.be)
def inV (n:Int) : Bool:=decide (n≥0)&&decide (n≤1125899906842624)
def G2 (a:az) : Bool:=inV a.bD&&inV a.be
theorem eE (a b:az) : di a b=some (Uk a b):=rfl
theorem kF (a b:az) : fM a b=some (YX a b):=by unfold fM YX; simp only [du,zb]
theorem Qm (n:Int) : zo n=some (inV n):=by unfold zo inV; simp only [du,zb]
theorem Jg (a:az) : tO a=some (G2 a):=by unfold tO G2; simp only [Qm,du,zb]
def Wp (a b:az) : az:=(we a b).getD az.zero
theorem F9 (a b:az) : we a b=some (Wp a b):=rfl
def xn (n bp:Int) : Int:=(vg n bp).getD 0
theorem Ny (n bp:Int) : vg n bp=some (xn n bp):=rfl
def aaw (a b:Int) : Int×Int:=(zn a b).getD (0,0)
theorem Qj (a b:Int) : zn a b=some (aaw a b):=rfl
def PN (a:az) (bp:Int) : az×Int :=
 if (!G2 a||decide (bp < 0)||decide (bp > 1000000))=true then (az.zero,1)
 else if G2 ⟨xn a.bD bp,xn a.be bp⟩=true then (⟨xn a.bD bp,xn a.be bp⟩,0) else (az.zero,11)
theorem Cr (a:az) (bp:Int) : vh a bp=some (PN a bp):=by
 unfold vh PN
 simp only [Jg,orB,zb,Ny]
 generalize (!G2 a||decide (bp < 0)||decide (bp > 1000000))=b1
 generalize G2 ⟨xn a.bD bp,xn a.be bp⟩=b2
 cases b1 <;> cases b2 <;> rfl
theorem sZ {α : Type} (c:Bool) (a b : α) : (if c=true then some a else some b)=some (if c=true then a else b):=by cases c <;> rfl
def JR (x y:bb) : Int:=(qe x y).getD 0
theorem Cq (x y:bb) : qe x y=some (JR x y):=by
 unfold JR
 have:∃ r,qe x y=some r:=by
  unfold qe
  simp only [orB,du,zb,Qj,sZ]
  exact ⟨_,rfl⟩
 obtain ⟨r,hr⟩:=this
 rw [hr]
 rfl
def R4 (a p:az) : bb:=if decide (JR ⟨a.bD,p.bD⟩ ⟨a.be,p.be⟩ < 0)=true then ⟨a.be,p.be⟩ else ⟨a.bD,p.bD⟩
theorem Qo (a p:az) : zp a p=some (R4 a p):=by
 unfold zp R4
 simp only [Cq,zb,sZ]
def XS (a p b q:az) : Int:=if (!G2 a || !G2 p || !G2 b || !G2 q)=true then 0 else JR (R4 a p) (R4 b q)
theorem NA (a p b q:az) : zr a p b q=some (XS a p b q):=by
 unfold zr XS
 simp only [Jg,orB,zb,Qo,Cq]
 simp only [sZ]
theorem PO (n:Int) : y6 n=some (decide (n≥1)&&decide (n≤1073741824)):=by
 unfold y6
 simp only [du,zb]
def aa2 (a:aM) (n:Int) : Int:=(pX a n).getD 0
theorem Ni (a:aM) (n:Int) : pX a n=some (aa2 a n):=by
 have:∃ r,pX a n=some r:=by
  unfold pX
  simp only [PO,orB,du,zb]
  simp only [sZ]
  exact ⟨_,rfl⟩
 obtain ⟨r,hr⟩:=this
 unfold aa2
 rw [hr]; rfl
theorem Us (l:List aM) (a:aM) (hl:l.length≤100000) : ∃ r,FS l a=some r∧r.1.length≤8:=by
 unfold FS
 dsimp only
 rw [CU l { a with gV:=0 } ([],a.fZ==0) (by omega)]
 obtain ⟨r,h1,h2⟩:=aR (g:=jd l { a with gV:=0 }) (fin:=fun b=>(b.1,b.2,(l.length:Int))) (fun k b=>b.1.length≤2 * k) (fun r=>r.1.length≤2 * l.length) l 0 ([],a.fZ==0) (fun j b x hx hb=>by
  have hj:=(zg.1 hx).1
  unfold jd
  simp only [du,zb]
  cases (!b.2&&decide (x.bq > a.bq)) with
  | true =>
   simp only [if_true]
   rw [aE (by simp; omega)]
   simp only [zb]
   cases (x.bq != a.bq) with
   | true =>
    simp only [if_true]
    rw [aE (by simp; omega)]
    exact ⟨_,rfl,fun a' e=>by injection e with e; subst e; simp; omega,fun r e=>by cases e⟩
   | false =>
    exact ⟨_,rfl,fun a' e=>by injection e with e; subst e; simp; omega,fun r e=>by cases e⟩
  | false =>
   simp only [zf,if_false,zb]
   cases (x.bq != a.bq) with
   | true =>
    simp only [if_true]
    rw [aE (by simp; omega)]
    exact ⟨_,rfl,fun a' e=>by injection e with e; subst e; simp; omega,fun r e=>by cases e⟩
   | false =>
    exact ⟨_,rfl,fun a' e=>by injection e with e; subst e; show b.1.length≤_; omega,fun r e=>by cases e⟩) (fun b hb=>by simpa using hb) (by simp)
 rw [h1]
 simp only [zb]
 have fin:∀ o:List aM,∃ r,(if decide ((o.length:Int) > 8)=true then some (([] : List aM),(4:Int)) else some (o,0))=some r∧r.1.length≤8:=by
  intro o
  by_cases h:(o.length:Int) > 8
  ·simp only [h,decide_true,if_true]; exact ⟨_,rfl,by simp⟩
  ·simp only [h,decide_false,zf,if_false]; exact ⟨_,rfl,by show o.length≤8; omega⟩
 cases (!r.2.1) with
 | true =>
  simp only [if_true]
  rw [aE (by simp; omega)]
  exact fin _
 | false=>exact fin _
def WJ (l:List aM) (p:Int) : aM:=(l.find? fun x=>x.bq==p).getD aM.zero
def isA (l:List aM) (p:Int) : Bool:=l.any fun x=>x.bq==p
theorem Uv (l:List aM) (p:Int) (hl:l.length≤1000000) : KK l p=some (WJ l p,isA l p):=by
 unfold KK
 dsimp only
 rw [CV l p () hl]
 have h2:=te (fun x:aM=>x.bq==p) (fun x=>(Sum.inr (x,true) : Int⊕aM×Bool)) (.inl (l.length:Int)) l
 rw [show lC l p=fun (_:Unit) x=>if (x.bq==p)=true then some (.inr (.inr (x,true))) else some (.inl ()) from rfl,h2]
 unfold WJ isA
 cases hf:l.find? fun x=>x.bq==p with
 | none =>
  have:(l.any fun x=>x.bq==p)=false:=by
   rw [List.any_eq_false]; intro x hx; have:=List.find?_eq_none.1 hf x hx; simpa using this
  rw [this]; rfl
 | some q =>
  have:(l.any fun x=>x.bq==p)=true:=by
   rw [List.any_eq_true]; exact ⟨q,List.mem_of_find?_eq_some hf,by simpa using List.find?_some hf⟩
  rw [this]; rfl
theorem PP (l:List aM) (p:Int) (hl:l.length≤1000000) : ∃ r,DC l p=some r∧r.1.length≤l.length:=by
 unfold DC
 dsimp only
 rw [Br l p (false,[]) hl]
 obtain ⟨r,h1,h2⟩:=aR (g:=il l p) (fin:=fun b=>(b.1,b.2,(l.length:Int))) (fun k b=>b.2.length≤k) (fun r=>r.2.1.length≤l.length) l 0 (false,[]) (fun j b x hx hb=>by
  have hj:=(zg.1 hx).1
  unfold il
  dsimp only
  split
  ·split
   ·exact ⟨_,rfl,fun a' e=>by injection e with e; subst e; show b.2.length≤_; omega,fun r e=>by cases e⟩
   ·rw [aE (by simp; omega)]
    exact ⟨_,rfl,fun a' e=>by injection e with e; subst e; simp; omega,fun r e=>by cases e⟩
  ·rw [aE (by simp; omega)]
   exact ⟨_,rfl,fun a' e=>by injection e with e; subst e; simp; omega,fun r e=>by cases e⟩) (fun b hb=>by simpa using hb) (by simp)
 rw [h1]
 exact ⟨_,rfl,h2⟩
theorem PQ (l:List aM) (p:Int) (hl:l.length≤1000000) : ∃ r,DD l p=some r∧r.length=l.length:=by
 unfold DD
 rw [aE (by simpa using hl)]
 simp only [zb,List.nil_append]
 have h:=aL (f:=rp p) (fun st=>st.1.length=l.length∧0≤st.2∧st.2≤(l.length:Int)) (fun st=>((l.length:Int) - st.2).toNat) (fun st=>st.1.length=l.length) (fun st ⟨h1,h2,h3⟩=>by
  unfold rp
  dsimp only
  by_cases hi:st.2 < (st.1.length:Int)
  ·obtain ⟨x,hx,_⟩:=Mt h2 hi
   have hw:i64.wrap (st.2 + 1)=st.2 + 1:=Hy (by omega) (by omega)
   simp only [hi,decide_true,if_true,hx,zb,hw]
   split
   ·exact .inl ⟨_,rfl,⟨by simpa using h1,by show 0≤st.2 + 1; omega,by show st.2 + 1≤_; omega⟩,by show ((l.length:Int) - (st.2 + 1)).toNat < ((l.length:Int) - st.2).toNat; omega⟩
   ·exact .inl ⟨_,rfl,⟨h1,by show 0≤st.2 + 1; omega,by show st.2 + 1≤_; omega⟩,by show ((l.length:Int) - (st.2 + 1)).toNat < ((l.length:Int) - st.2).toNat; omega⟩
  ·simp only [hi,decide_false,zf,if_false]
   exact .inr ⟨_,rfl,h1⟩) ab (l,0) ⟨rfl,Int.le_refl _,Int.natCast_nonneg _⟩ (by show ((l.length:Int) - 0).toNat < ab; unfold ab; omega)
 obtain ⟨r,h1,h2⟩:=h
 rw [h1]
 exact ⟨_,rfl,h2⟩
def Zz (l:List aM) (k:Int) : az:=(kD l k).getD az.zero
theorem Hf (l:List aM) (k:Int) (hl:l.length≤1000000) : kD l k=some (Zz l k):=by
 have:∃ r,kD l k=some r:=by
  unfold kD
  dsimp only
  rw [wA l k ⟨0,0⟩ hl]
  obtain ⟨r,h1,_⟩:=aR (g:=eB l k) (fin:=fun a=>(a,(l.length:Int))) (fun _ _=>True) (fun _=>True) l 0 ⟨0,0⟩ (fun j a x hx _=>by
   unfold eB
   simp only [eE,zb,sZ]
   exact ⟨_,rfl,fun _ _=>trivial,fun _ _=>trivial⟩) (fun _ _=>trivial) trivial
  rw [h1]
  exact ⟨_,rfl⟩
 obtain ⟨r,hr⟩:=this
 unfold Zz
 rw [hr]; rfl
def jK (v_s:aa) (bF:Int) (st:Unit) (x_:aq) : Option ((Unit)⊕((Int)⊕(aq×Bool))) :=
 if (x_.fId==bF)=true then
 some (.inr (.inr (x_,true)))
 else
 some (.inl ())
theorem Am (v_s:aa) (bF:Int) (a_:Unit) (hl:v_s.aj.length≤1000000) : ah (mg v_s bF) ab (0)=bh (jK v_s bF) (fun a_=>(.inl ((v_s.aj.length:Int)))) a_ v_s.aj :=
 ay v_s.aj (S:=Int) (fun a_ k_=>(k_)) (jK v_s bF) (fun a_=>(.inl ((v_s.aj.length:Int)))) (an hl) (fun k a x hx=>by
  unfold mg jK; exact bK)
  (fun a=>by unfold mg; exact cI) a_
def cE (v_s:aa) (st:Bool×(List aq)) (x_:aq) : Option ((Bool×(List aq))⊕((Bool×(List aq)×Int))) :=
 let cw:=st.1
 let v_l:=st.2
 (if (!cw)=true then (dG x_).bind fun c6=>some (!c6) else some false).bind fun q7=>if q7=true then
 let cw:Bool:=true
 some (.inl (cw,v_l))
 else
 (aU v_l [x_]).bind fun b8=>let v_l:(List aq):=b8
 some (.inl (cw,v_l))
theorem oS (v_s:aa) (a_:Bool×(List aq)) (hl:v_s.aj.length≤1000000) : ah (jI v_s) ab (a_.1,a_.2,(0))=bh (cE v_s) (fun a_=>(a_.1,a_.2,((v_s.aj.length:Int)))) a_ v_s.aj :=
 ay v_s.aj (S:=Bool×(List aq)×Int) (fun a_ k_=>(a_.1,a_.2,(k_))) (cE v_s) (fun a_=>(a_.1,a_.2,((v_s.aj.length:Int)))) (an hl) (fun k a x hx=>by
  unfold jI cE; exact bK)
  (fun a=>by unfold jI; exact cI) a_
def cU (v_s:aa) (st:Int) (x_:aq) : Option ((Int)⊕((Int×Int))) :=
 let lb:=st
 (dG x_).bind fun c13=>if c13=true then
 let lb:Int:=(i64.wrap (lb + 1))
 some (.inl lb)
 else
 some (.inl lb)
theorem oT (v_s:aa) (a_:Int) (hl:v_s.aj.length≤1000000) : ah (gJ v_s) ab (a_,(0))=bh (cU v_s) (fun a_=>(a_,((v_s.aj.length:Int)))) a_ v_s.aj :=
 ay v_s.aj (S:=Int×Int) (fun a_ k_=>(a_,(k_))) (cU v_s) (fun a_=>(a_,((v_s.aj.length:Int)))) (an hl) (fun k a x hx=>by
  unfold gJ cU; exact bK)
  (fun a=>by unfold gJ; exact cI) a_
def gI (v_s:aa) (bF:Int) (st:(List Int)×(List am)) (x_:am) : Option (((List Int)×(List am))⊕(((List Int)×(List am)×Int))) :=
 let jP:=st.1
 let v_l:=st.2
 if (x_.bG==bF)=true then
 (aU jP [x_.fId]).bind fun b6=>let jP:(List Int):=b6
 some (.inl (jP,v_l))
 else
 (aU v_l [x_]).bind fun b7=>let v_l:(List am):=b7
 some (.inl (jP,v_l))
theorem Ah (v_s:aa) (bF:Int) (a_:(List Int)×(List am)) (hl:v_s.ac.length≤1000000) : ah (me v_s bF) ab (a_.1,a_.2,(0))=bh (gI v_s bF) (fun a_=>(a_.1,a_.2,((v_s.ac.length:Int)))) a_ v_s.ac :=
 ay v_s.ac (S:=(List Int)×(List am)×Int) (fun a_ k_=>(a_.1,a_.2,(k_))) (gI v_s bF) (fun a_=>(a_.1,a_.2,((v_s.ac.length:Int)))) (an hl) (fun k a x hx=>by
  unfold me gI; exact bK)
  (fun a=>by unfold me; exact cI) a_
def gH (v_s:aa) (bF:Int) (st:(List bz)) (x_:bz) : Option (((List bz))⊕(((List bz)×Int))) :=
 let iP:=st
 if (x_.bG != bF)=true then
 (aU iP [x_]).bind fun b10=>let iP:(List bz):=b10
 some (.inl iP)
 else
 some (.inl iP)
theorem Af (v_s:aa) (bF:Int) (a_:(List bz)) (hl:v_s.aQ.length≤1000000) : ah (mc v_s bF) ab (a_,(0))=bh (gH v_s bF) (fun a_=>(a_,((v_s.aQ.length:Int)))) a_ v_s.aQ :=
 ay v_s.aQ (S:=(List bz)×Int) (fun a_ k_=>(a_,(k_))) (gH v_s bF) (fun a_=>(a_,((v_s.aQ.length:Int)))) (an hl) (fun k a x hx=>by
  unfold mc gH; exact bK)
  (fun a=>by unfold mc; exact cI) a_
def jL (v_s:aa) (bF:Int) (st:Unit) (x_:am) : Option ((Unit)⊕((Int)⊕(am×Bool))) :=
 if (x_.fId==bF)=true then
 some (.inr (.inr (x_,true)))
 else
 some (.inl ())
theorem An (v_s:aa) (bF:Int) (a_:Unit) (hl:v_s.ac.length≤1000000) : ah (mh v_s bF) ab (0)=bh (jL v_s bF) (fun a_=>(.inl ((v_s.ac.length:Int)))) a_ v_s.ac :=
 ay v_s.ac (S:=Int) (fun a_ k_=>(k_)) (jL v_s bF) (fun a_=>(.inl ((v_s.ac.length:Int)))) (an hl) (fun k a x hx=>by
  unfold mh jL; exact bK)
  (fun a=>by unfold mh; exact cI) a_
def gL (v_s:aa) (bF:Int) (st:(List am)) (x_:am) : Option (((List am))⊕(((List am)×Int))) :=
 let v_l:=st
 if (x_.fId != bF)=true then
 (aU v_l [x_]).bind fun b4=>let v_l:(List am):=b4
 some (.inl v_l)
 else
 some (.inl v_l)
theorem Ao (v_s:aa) (bF:Int) (a_:(List am)) (hl:v_s.ac.length≤1000000) : ah (mj v_s bF) ab (a_,(0))=bh (gL v_s bF) (fun a_=>(a_,((v_s.ac.length:Int)))) a_ v_s.ac :=
 ay v_s.ac (S:=(List am)×Int) (fun a_ k_=>(a_,(k_))) (gL v_s bF) (fun a_=>(a_,((v_s.ac.length:Int)))) (an hl) (fun k a x hx=>by
  unfold mj gL; exact bK)
  (fun a=>by unfold mj; exact cI) a_
def ec (v_l:(List Int)) (v_n:Int) (st:(List Int)) (x_:Int) : Option (((List Int))⊕(((List Int)×Int))) :=
 let al:=st
 if (x_ != v_n)=true then
 (aU al [x_]).bind fun b4=>let al:(List Int):=b4
 some (.inl al)
 else
 some (.inl al)
theorem vC (v_l:(List Int)) (v_n:Int) (a_:(List Int)) (hl:v_l.length≤1000000) : ah (iW v_l v_n) ab (a_,(0))=bh (ec v_l v_n) (fun a_=>(a_,((v_l.length:Int)))) a_ v_l :=
 ay v_l (S:=(List Int)×Int) (fun a_ k_=>(a_,(k_))) (ec v_l v_n) (fun a_=>(a_,((v_l.length:Int)))) (an hl) (fun k a x hx=>by
  unfold iW ec; exact bK)
  (fun a=>by unfold iW; exact cI) a_
def gK (cj:(List Int)) (st:aa) (x_:Int) : Option ((aa)⊕((aa×Int))) :=
 let v_s:=st
 (eS v_s x_).bind fun c21=>let v_c:am:=c21.1
 let bS:Bool:=c21.2
 if (!bS)=true then
 some (.inl v_s)
 else
 (eR v_s v_c.bG).bind fun c22=>let v_a:aq:=c22.1
 if v_c.a8=true then
 (pA v_a).bind fun c23=>let t24:Int:=1
 let t25:(List aM):=c23
 let v_a:aq:={ v_a with da:=t24 }
 let v_a:aq:={ v_a with bI:=t25 }
 let t26:(List Int):=[]
 let t27:(List Int):=[]
 let t28:(List Int):=[]
 let t29:(List Int):=[]
 let v_a:aq:={ v_a with bP:=t26 }
 let v_a:aq:={ v_a with dr:=t27 }
 let v_a:aq:={ v_a with jO:=t28 }
 let v_a:aq:={ v_a with jW:=t29 }
 let t30:Int:=0
 let t31:Int:=v_s.cO
 let v_a:aq:={ v_a with cd:=t30 }
 let v_a:aq:={ v_a with cH:=t31 }
 (eT v_s v_a).bind fun c32=>(sQ c32 v_c.bG).bind fun c33=>let v_s:aa:=c33.1
 some (.inl v_s)
 else
 (qz v_s v_c.fId).bind fun c34=>let v_s:aa:=c34
 let uw:Bool:=false
 (jn v_a.bP v_c.fId).bind fun c35=>let v_a:aq:={ v_a with bP:=c35.1 }
 let uw:Bool:=c35.2
 (if (!uw)=true then
 (aU ([] : (List Int)) v_a.dr).bind fun b37=>(aU b37 [v_c.fId]).bind fun b38=>let v_a:aq:={ v_a with dr:=b38 }
 some v_a
 else
 some v_a).bind fun j36=>let v_a:=j36
 (eT v_s v_a).bind fun c39=>let v_s:aa:=c39
 some (.inl v_s)
theorem Al (cj:(List Int)) (a_:aa) (hl:cj.length≤1000000) : ah (mf cj) ab (a_,(0))=bh (gK cj) (fun a_=>(a_,((cj.length:Int)))) a_ cj :=
 ay cj (S:=aa×Int) (fun a_ k_=>(a_,(k_))) (gK cj) (fun a_=>(a_,((cj.length:Int)))) (an hl) (fun k a x hx=>by
  unfold mf gK; exact bK)
  (fun a=>by unfold mf; exact cI) a_
def eP (v_s:aa) (st:(List Int)) (x_:aq) : Option (((List Int))⊕(((List Int)×Int))) :=
 let v_l:=st
 (if (x_.da==2)=true then some (decide ((i64.wrap (v_s.cO - x_.cH))≥15)) else some false).bind fun q6=>if q6=true then
 (aU v_l [x_.fId]).bind fun b7=>let v_l:(List Int):=b7
 some (.inl v_l)
 else
 some (.inl v_l)
theorem wI (v_s:aa) (a_:(List Int)) (hl:v_s.aj.length≤1000000) : ah (jJ v_s) ab (a_,(0))=bh (eP v_s) (fun a_=>(a_,((v_s.aj.length:Int)))) a_ v_s.aj :=
 ay v_s.aj (S:=(List Int)×Int) (fun a_ k_=>(a_,(k_))) (eP v_s) (fun a_=>(a_,((v_s.aj.length:Int)))) (an hl) (fun k a x hx=>by
  unfold jJ eP; exact bK)
  (fun a=>by unfold jJ; exact cI) a_
def dS (v_c:av) (au:ByteArray) (st:Unit) (x_:ax) : Option ((Unit)⊕((Int)⊕(ax×Bool))) :=
 if (x_.aC.toList==au.toList)=true then
 let v_q:ax:=x_
 (aU ([] : (List eu)) v_q.bu).bind fun b4=>let v_q:ax:={ v_q with bu:=b4 }
 some (.inr (.inr (v_q,true)))
 else
 some (.inl ())
theorem sG (v_c:av) (au:ByteArray) (a_:Unit) (hl:v_c.ae.length≤1000000) : ah (nK v_c au) ab (0)=bh (dS v_c au) (fun a_=>(.inl ((v_c.ae.length:Int)))) a_ v_c.ae :=
 ay v_c.ae (S:=Int) (fun a_ k_=>(k_)) (dS v_c au) (fun a_=>(.inl ((v_c.ae.length:Int)))) (an hl) (fun k a x hx=>by
  unfold nK dS; exact bK)
  (fun a=>by unfold nK; exact cI) a_
def co (v_c:av) (au:ByteArray) (st:(List ByteArray)) (x_:ax) : Option (((List ByteArray))⊕(((List ByteArray)×Int))) :=
 let v_l:=st
 (if (!(au.toList==(⟨#[]⟩ : ByteArray).toList))=true then (dE x_.aC).bind fun c6=>some (c6.toList==au.toList) else some false).bind fun q7=>if q7=true then
 (aU v_l [x_.aC]).bind fun b8=>let v_l:(List ByteArray):=b8
 some (.inl v_l)
 else
 some (.inl v_l)
theorem gf (v_c:av) (au:ByteArray) (a_:(List ByteArray)) (hl:v_c.ae.length≤1000000) : ah (nH v_c au) ab (a_,(0))=bh (co v_c au) (fun a_=>(a_,((v_c.ae.length:Int)))) a_ v_c.ae :=
 ay v_c.ae (S:=(List ByteArray)×Int) (fun a_ k_=>(a_,(k_))) (co v_c au) (fun a_=>(a_,((v_c.ae.length:Int)))) (an hl) (fun k a x hx=>by
  unfold nH co; exact bK)
  (fun a=>by unfold nH; exact cI) a_
def iq (bB:(List ByteArray)) (v_c:av) (v_k:Int) (st:Int) (x_:ByteArray) : Option ((Int)⊕((Int×Int))) :=
 let v_n:=st
 (jy v_c x_).bind fun c7=>let v_q:ax:=c7.1
 (aw v_q.bu v_k).bind fun b8=>let v_n:Int:=(i64.wrap (v_n + b8.kz))
 some (.inl v_n)
theorem Bw (bB:(List ByteArray)) (v_c:av) (v_k:Int) (a_:Int) (hl:bB.length≤1000000) : ah (jY bB v_c v_k) ab (a_,(0))=bh (iq bB v_c v_k) (fun a_=>(a_,((bB.length:Int)))) a_ bB :=
 ay bB (S:=Int×Int) (fun a_ k_=>(a_,(k_))) (iq bB v_c v_k) (fun a_=>(a_,((bB.length:Int)))) (an hl) (fun k a x hx=>by
  unfold jY iq; exact bK)
  (fun a=>by unfold jY; exact cI) a_
def ir (v_c:av) (st:Unit) (x_:ax) : Option ((Unit)⊕((Int)⊕(Bool))) :=
 (ei v_c x_.aC).bind fun c10=>let bB:(List ByteArray):=c10
 let v_k:Int:=0
 (ah (nF v_c bB) ab v_k).bind fun r11=>match r11 with
 | .inr m12=>some (.inr (.inr m12))
 | .inl m12 =>
 let v_k:=m12
 some (.inl ())
theorem Bz (v_c:av) (a_:Unit) (hl:v_c.ae.length≤1000000) : ah (nG v_c) ab (0)=bh (ir v_c) (fun a_=>(.inl ((v_c.ae.length:Int)))) a_ v_c.ae :=
 ay v_c.ae (S:=Int) (fun a_ k_=>(k_)) (ir v_c) (fun a_=>(.inl ((v_c.ae.length:Int)))) (an hl) (fun k a x hx=>by
  unfold nG ir; exact bK)
  (fun a=>by unfold nG; exact cI) a_
theorem pG {s:ByteArray} {k:Int} (h0 : 0≤k) (h1:k.toNat < s.size) : ∃ b,jT s k=some b:=by
 unfold jT
 rw [if_pos h0]
 have:k.toNat < s.data.toList.length:=by simpa using h1
 rw [zq this]
 exact ⟨_,rfl⟩
theorem oa (p:ByteArray) (hp:p.size≤1000000) : ∃ r,dE p=some r∧(r.size < p.size∨r.size=0):=by
 unfold dE
 have hw:∀ k:Int,-1≤k→k≤1000000000→i64.wrap (k - 1)=k - 1:=fun k h1 h2=>Hy (by omega) (by omega)
 have h:=aL (f:=eD p) (fun k=>-1≤k∧k < (p.size:Int)) (fun k=>(k + 1).toNat) (fun k=>-1≤k∧k < (p.size:Int)) (fun k ⟨h1,h2⟩=>by
  unfold eD
  by_cases hk:k≥0
  ·obtain ⟨b,hb⟩:=pG (s:=p) hk (by omega)
   simp only [hk,decide_true,if_true,hb,zb]
   cases (b != 46) with
   | true =>
    simp only [if_true,hw k h1 (by omega)]
    exact .inl ⟨_,rfl,by omega,by omega⟩
   | false=>exact .inr ⟨_,rfl,h1,h2⟩
  ·simp only [hk,decide_false,zf,if_false,zb]
   exact .inr ⟨_,rfl,h1,h2⟩) ab (i64.wrap ((p.size:Int) - 1)) (by rw [hw _ (by omega) (by omega)]; omega) (by show (i64.wrap ((p.size:Int) - 1) + 1).toNat < ab; rw [hw _ (by omega) (by omega)]; unfold ab; omega)
 obtain ⟨k,h1,h2,h3⟩:=h
 dsimp only
 rw [h1]
 simp only [zb]
 by_cases hk:k < 0
 ·simp only [hk,decide_true,if_true]
  exact ⟨_,rfl,.inr rfl⟩
 ·simp only [hk,decide_false,zf,if_false]
  unfold GX
  rw [if_pos ⟨by omega,by omega⟩]
  refine ⟨_,rfl,.inl ?_⟩
  simp only [ByteArray.size_extract]
  omega
theorem qQ {p:ByteArray} (h:(!(p.toList==(⟨#[]⟩ : ByteArray).toList))=true) : 0 < p.size:=by
 rcases Nat.eq_zero_or_pos p.size with h0 | h0
 ·exfalso
  have:p=⟨#[]⟩:=by
   cases p with
   | mk d => have : d = #[] := by apply Array.eq_empty_of_size_eq_zero; exact h0
             rw [this]
  rw [this] at h
  simp at h
 ·exact h0
theorem F3 (p:ByteArray) (hp:p.size≤1000000) : ∃ r,zc p=some r∧r.length≤p.size∧∀ q∈r,q.size≤p.size:=by
 unfold zc
 have h:=aL (f:=ob) (fun st=>st.1.length + st.2.size≤p.size∧∀ q∈st.1,q.size≤p.size) (fun st=>st.2.size) (fun st=>st.1.length≤p.size∧∀ q∈st.1,q.size≤p.size) (fun st ⟨h1,h2⟩=>by
  unfold ob
  dsimp only
  split
  ·rename_i hne
   have h0:=qQ hne
   rw [aE (by simp; omega)]
   obtain ⟨r,hr,hs⟩:=oa st.2 (by omega)
   simp only [zb,hr]
   refine .inl ⟨_,rfl,⟨by simp; omega,fun q hq=>?_⟩,by show r.size < st.2.size; omega⟩
   simp only [List.mem_append,List.mem_singleton] at hq
   rcases hq with hq | rfl
   ·exact h2 q hq
   ·omega
  ·exact .inr ⟨_,rfl,by show st.1.length≤p.size; omega,h2⟩) ab ([],p) ⟨by simp,by simp⟩ (by show p.size < ab; unfold ab; omega)
 obtain ⟨r,h1,h2,h3⟩:=h
 dsimp only
 rw [h1]
 exact ⟨_,rfl,h2,h3⟩
structure SzC (c:av) : Prop where
 labels:c.ak.length≤1000
 queues:c.ae.length≤1000
 caps:∀ q∈c.ae,q.bu.length≤1000
 paths:∀ q∈c.ae,q.aC.size≤1000000
def ET (c:av) (p:ByteArray) : ax:=(c.ae.find? fun q=>q.aC.toList==p.toList).getD ax.zero
def isQ (c:av) (p:ByteArray) : Bool:=c.ae.any fun q=>q.aC.toList==p.toList
theorem kE (c:av) (p:ByteArray) (h:SzC c) : jy c p=some (ET c p,isQ c p):=by
 unfold jy ET isQ
 have hs:=sG c p () (by have:=h.queues; omega)
 dsimp only
 rw [hs]
 have key:∀ l:List ax,(∀ q∈l,q.bu.length≤1000)→bh (dS c p) (fun _=>(Sum.inl (c.ae.length:Int) : Int⊕(ax×Bool))) () l=some (match l.find? fun q=>q.aC.toList==p.toList with | some q=>.inr (q,true) | none=>.inl (c.ae.length:Int)):=by
  intro l
  induction l with
  | nil=>intro _; rfl
  | cons q l ih =>
   intro hc
   simp only [bh,List.find?_cons]
   unfold dS
   cases hq:(q.aC.toList==p.toList) with
   | true =>
    have:=hc q (by simp)
    simp only [if_true]
    rw [aE (by simp; omega)]
    rfl
   | false =>
    simp only [zf,if_false]
    exact ih fun q hq=>hc q (by simp [hq])
 rw [key _ h.caps]
 cases hf:c.ae.find? fun q=>q.aC.toList==p.toList with
 | none =>
  have:(c.ae.any fun q=>q.aC.toList==p.toList)=false:=by
   rw [List.any_eq_false]; intro x hx; have:=List.find?_eq_none.1 hf x hx; simpa using this
  rw [this]; rfl
 | some q =>
  have:(c.ae.any fun q=>q.aC.toList==p.toList)=true:=by
   rw [List.any_eq_true]; exact ⟨q,List.mem_of_find?_eq_some hf,by simpa using List.find?_some hf⟩
  rw [this]; rfl
theorem tK (c:av) (p:ByteArray) (h:SzC c) : ∃ r,ei c p=some r∧r.length≤c.ae.length∧∀ x∈r,∃ q∈c.ae,q.aC=x:=by
 unfold ei
 have hs:=gf c p [] (by have:=h.queues; omega)
 dsimp only
 rw [hs]
 obtain ⟨r,h1,h2⟩:=aR (g:=co c p) (fin:=fun a=>(a,(c.ae.length:Int))) (fun k a=>a.length≤k∧∀ x∈a,∃ q∈c.ae,q.aC=x) (fun r=>r.1.length≤c.ae.length∧∀ x∈r.1,∃ q∈c.ae,q.aC=x) c.ae 0 [] (fun j a x hx ⟨h1,h2⟩=>by
  have hm:=List.mem_of_getElem? hx
  have hj:=(zg.1 hx).1
  obtain ⟨r,hr,_⟩:=oa x.aC (h.paths x hm)
  have hqs:=h.queues
  unfold co
  simp only [hr,zb,du]
  split
  ·rw [aE (by simp; omega)]
   refine ⟨_,rfl,fun a' e=>?_,fun r e=>by cases e⟩
   injection e with e
   subst e
   refine ⟨by simp; omega,fun y hy=>?_⟩
   simp only [List.mem_append,List.mem_singleton] at hy
   rcases hy with hy | rfl
   ·exact h2 y hy
   ·exact ⟨x,hm,rfl⟩
  ·refine ⟨_,rfl,fun a' e=>?_,fun r e=>by cases e⟩
   injection e with e
   subst e
   exact ⟨by omega,h2⟩) (fun a ⟨h1,h2⟩=>⟨by simpa using h1,h2⟩) ⟨by simp,by simp⟩
 rw [h1]
 exact ⟨_,rfl,h2⟩
def wQ (c:av) (p:ByteArray) : Bool:=(jx c p).getD false
theorem p5 (c:av) (p:ByteArray) (h:SzC c) : jx c p=some (wQ c p):=by
 have:∃ r,jx c p=some r:=by
  unfold jx
  obtain ⟨r,hr,_⟩:=tK c p h
  simp only [kE c p h,zb,hr,du]
  exact ⟨_,rfl⟩
 obtain ⟨r,hr⟩:=this
 unfold wQ
 rw [hr]
 rfl
def id' {α : Type} (x : α) : α:=x
theorem yH {α : Type} (l:List α) : l.map id' = l:=List.map_id l
def dX (a:aq) : Bool:=a.da==1||a.da==2
theorem dF (a:aq) : dG a=some (dX a):=by unfold dG dX; simp only [orB,zb]
theorem CD (n:Int) : vB n=some (decide (n≥1)&&decide (n≤1073741824)):=by unfold vB; simp only [du,zb]
theorem tT (a:aq) : pA a=some [⟨0,0,a.a8,1,-1,-1,0⟩]:=rfl
theorem Ix {α β : Type} (p : α→Bool) (l:List α) (z : α) (d : β) : (match (match l.find? p with | some q=>(Sum.inr (q,true) : β⊕(α×Bool)) | none=>.inl d) with | .inr m=>some m | .inl _=>some (z,false))=some ((l.find? p).getD z,l.any p):=by
 cases hf:l.find? p with
 | none =>
  have:l.any p=false:=by
   rw [List.any_eq_false]; intro x hx; have:=List.find?_eq_none.1 hf x hx; simpa using this
  rw [this]; rfl
 | some q =>
  have:l.any p=true:=by rw [List.any_eq_true]; exact ⟨q,List.mem_of_find?_eq_some hf,List.find?_some hf⟩
  rw [this]; rfl
def bV (s:aa) (id:Int) : aq:=(s.aj.find? fun c=>c.fId==id).getD aq.zero
def EK (s:aa) (id:Int) : Bool:=s.aj.any fun c=>c.fId==id
theorem kL {α τ : Type} (p : α→Bool) (q : α→τ) (d : τ) (l:List α) : bh (fun (_:Unit) x=>if p x=true then some (.inr (q x)) else some (.inl ())) (fun _=>d) () l=some (match l.find? p with | some x=>q x | none=>d):=by
 rw [te]
 cases l.find? p <;> rfl
theorem dH (s:aa) (id:Int) (hl:s.aj.length≤1000000) : eR s id=some (bV s id,EK s id):=by
 unfold eR bV EK
 dsimp only
 rw [Am s id () hl,show jK s id=fun (_:Unit) x=>if (x.fId==id)=true then some (.inr (.inr (x,true))) else some (.inl ()) from rfl,
  kL (fun x:aq=>x.fId==id) (fun x=>(Sum.inr (x,true) : Int⊕aq×Bool)) (.inl (s.aj.length:Int)) s.aj]
 simp only [zb]
 have h2:=Ix (fun x:aq=>x.fId==id) s.aj aq.zero (s.aj.length:Int)
 revert h2
 cases s.aj.find? fun x=>x.fId==id <;> exact fun h=>h
def my (s:aa) (id:Int) : am:=(s.ac.find? fun c=>c.fId==id).getD am.zero
def Ms (s:aa) (id:Int) : Bool:=s.ac.any fun c=>c.fId==id
theorem kR (s:aa) (id:Int) (hl:s.ac.length≤1000000) : eS s id=some (my s id,Ms s id):=by
 unfold eS my Ms
 dsimp only
 rw [An s id () hl,show jL s id=fun (_:Unit) x=>if (x.fId==id)=true then some (.inr (.inr (x,true))) else some (.inl ()) from rfl,
  kL (fun x:am=>x.fId==id) (fun x=>(Sum.inr (x,true) : Int⊕am×Bool)) (.inl (s.ac.length:Int)) s.ac]
 simp only [zb]
 have h2:=Ix (fun x:am=>x.fId==id) s.ac am.zero (s.ac.length:Int)
 revert h2
 cases s.ac.find? fun x=>x.fId==id <;> exact fun h=>h
theorem gZ (s:aa) (n:aq) (hl:s.aj.length + 1≤1000000) : eT s n=some { s with aj:=dn aq.fId s.aj n } := by
 unfold eT
 have hl':s.aj.length≤1000000:=by omega
 have h:=xy s.aj (fun x=>decide (x.fId < n.fId)) (f:=nN s n) (an hl')
  (fun k x hx=>by
   have hk:=(zg.1 hx).1
   unfold nN
   simp only [bM hx,if_true,aD hx,zb,a6 hk hl'])
  (by unfold nN; simp only [bE]; rfl)
 unfold dn
 have hK:=oX (fun x:aq=>decide (x.fId < n.fId)) s.aj
 generalize (s.aj.takeWhile fun x=>decide (x.fId < n.fId)).length=K at h hK ⊢
 dsimp only
 rw [h]
 simp only [zb]
 rw [mS hK]
 simp only [zb]
 rw [aE (by simp; omega)]
 simp only [zb]
 rw [aE (by simp; omega)]
 simp only [zb]
 by_cases hlt:K < s.aj.length
 ·have hx:s.aj[K]? = some s.aj[K]:=zq hlt
  simp only [bM hx,if_true,aD hx,zb,hx]
  cases he:(s.aj[K].fId==n.fId) with
  | true =>
   simp only [if_true,zb,a6 hlt hl']
   rw [jQ hlt]
   simp only [zb]
   rw [aE (by simp; omega)]
   simp
  | false =>
   simp only [zf,if_false,zb]
   rw [jQ hK]
   simp only [zb]
   rw [aE (by simp; omega)]
   simp
 ·have:K=s.aj.length:=by omega
  subst this
  simp only [bE,zf,if_false,zb]
  rw [jQ (Nat.le_refl _)]
  simp only [zb]
  rw [aE (by simp; omega)]
  simp
theorem CF (s:aa) (id:Int) (hl:s.ac.length≤1000000) : qz s id=some { s with ac:=s.ac.filter fun c=>c.fId != id } := by
 unfold qz
 dsimp only
 have e:gL s id=fun acc x=>if (x.fId != id)=true then (aU acc [id' x]).map (fun a=>(.inl a:List am⊕(List am×Int))) else some (.inl acc):=by
  funext acc x
  unfold gL
  dsimp only [id']
  split
  ·cases aU acc [x] <;> rfl
  ·rfl
 rw [Ao s id [] hl,e,cg (fun c:am=>c.fId != id) id' _ s.ac [] (by simpa using hl)]
 simp only [zb,List.nil_append,yH]
theorem vD (l:List Int) (n:Int) (hl:l.length≤1000000) : jn l n=some (l.filter (fun c=>c != n),decide (((l.filter (fun c=>c != n)).length:Int) < (l.length:Int))):=by
 unfold jn
 dsimp only
 have e:ec l n=fun acc x=>if (x != n)=true then (aU acc [id' x]).map (fun a=>(.inl a:List Int⊕(List Int×Int))) else some (.inl acc):=by
  funext acc x
  unfold ec
  dsimp only [id']
  split
  ·cases aU acc [x] <;> rfl
  ·rfl
 rw [vC l n [] hl,e,cg (fun c:Int=>c != n) id' _ l [] (by simpa using hl)]
 simp only [zb,List.nil_append,yH]
theorem Hq (s:aa) (hl:s.aj.length≤1000000) : tU s=some ((s.aj.filter fun b=>b.da==2&&decide (i64.wrap (s.cO - b.cH)≥15)).map aq.fId):=by
 unfold tU
 dsimp only
 have e:eP s=fun acc x=>if (x.da==2&&decide (i64.wrap (s.cO - x.cH)≥15))=true then (aU acc [x.fId]).map (fun a=>(.inl a:List Int⊕(List Int×Int))) else some (.inl acc):=by
  funext acc x
  unfold eP
  simp only [du,zb]
  split
  ·cases aU acc [x.fId] <;> rfl
  ·rfl
 rw [wI s [] hl,e,cg (fun x:aq=>x.da==2&&decide (i64.wrap (s.cO - x.cH)≥15)) aq.fId _ s.aj [] (by simpa using hl)]
 simp
theorem CC (s:aa) (id:Int) (hl:s.ac.length≤1000000) (hs:s.aQ.length≤1000000) : sQ s id=some ({ s with ac:=s.ac.filter fun c=>!(c.bG==id),aQ:=s.aQ.filter fun c=>c.bG != id },(s.ac.filter fun c=>c.bG==id).map am.fId):=by
 unfold sQ
 dsimp only
 have e2:gH s id=fun acc x=>if (x.bG != id)=true then (aU acc [id' x]).map (fun a=>(.inl a:List bz⊕(List bz×Int))) else some (.inl acc):=by
  funext acc x
  unfold gH
  dsimp only [id']
  split
  ·cases aU acc [x] <;> rfl
  ·rfl
 have k1:∀ (l:List am) (a:List Int×List am),a.1.length + a.2.length + l.length≤1000000→bh (gI s id) (fun b=>(b.1,b.2,(s.ac.length:Int))) a l=some (a.1++(l.filter fun c=>c.bG==id).map am.fId,a.2++(l.filter fun c=>!(c.bG==id)),(s.ac.length:Int)):=by
  intro l
  induction l with
  | nil=>intro a _; simp [bh]
  | cons x l ih =>
   intro a h
   simp only [List.length_cons] at h
   have step:gI s id a x=if (x.bG==id)=true then (aU a.1 [x.fId]).bind fun b=>some (.inl (b,a.2)) else (aU a.2 [x]).bind fun b=>some (.inl (a.1,b)):=rfl
   simp only [bh,List.filter_cons,step]
   cases (x.bG==id) with
   | true =>
    simp only [if_true]
    rw [aE (by simp; omega)]
    simp only [zb]
    rw [ih _ (by simp; omega)]
    simp
   | false =>
    simp only [zf,if_false]
    rw [aE (by simp; omega)]
    simp only [zb]
    rw [ih _ (by simp; omega)]
    simp
 rw [Ah s id ([],[]) hl,k1 _ _ (by simpa using hl)]
 simp only [zb]
 rw [Af s id [] hs,e2,cg (fun c:bz=>c.bG != id) id' _ s.aQ [] (by simpa using hs)]
 simp only [zb,List.nil_append,yH]
def gc (v_s:aa) (af:Int) (st:az) (x_:aX) : Option ((az)⊕((az×Int))) :=
 let v_v:=st
 (if x_.fUp=true then some (x_.aY==af) else some false).bind fun q6=>if q6=true then
 (di v_v x_.kT).bind fun c7=>let v_v:az:=c7
 some (.inl v_v)
 else
 some (.inl v_v)
theorem za (v_s:aa) (af:Int) (a_:az) (hl:v_s.aB.length≤1000000) : ah (lD v_s af) ab (a_,(0))=bh (gc v_s af) (fun a_=>(a_,((v_s.aB.length:Int)))) a_ v_s.aB :=
 ay v_s.aB (S:=az×Int) (fun a_ k_=>(a_,(k_))) (gc v_s af) (fun a_=>(a_,((v_s.aB.length:Int)))) (an hl) (fun k a x hx=>by
  unfold lD gc; exact bK)
  (fun a=>by unfold lD; exact cI) a_
def ip (v_s:aa) (af:Int) (st:az) (x_:a7) : Option ((az)⊕((az×Int))) :=
 let v_v:=st
 let v_p:a7:=x_
 (if (v_p.aY==af)=true then some (decide (v_p.n6≤v_s.cO)) else some false).bind fun q5=>(if q5=true then some (decide (v_s.cO < v_p.jR)) else some false).bind fun q6=>if q6=true then
 (di v_v v_p.iR).bind fun c7=>let v_v:az:=c7
 some (.inl v_v)
 else
 some (.inl v_v)
theorem Bv (v_s:aa) (af:Int) (a_:az) (hl:v_s.bl.length≤1000000) : ah (nD v_s af) ab (a_,(0))=bh (ip v_s af) (fun a_=>(a_,((v_s.bl.length:Int)))) a_ v_s.bl :=
 ay v_s.bl (S:=az×Int) (fun a_ k_=>(a_,(k_))) (ip v_s af) (fun a_=>(a_,((v_s.bl.length:Int)))) (an hl) (fun k a x hx=>by
  unfold nD ip; exact bK)
  (fun a=>by unfold nD; exact cI) a_
def vb (s:aa) (k:Int) : az:=(je s k).getD az.zero
theorem n8 (s:aa) (k:Int) (hl:s.aB.length≤1000000) : je s k=some (vb s k):=by
 have:∃ r,je s k=some r:=by
  unfold je
  dsimp only
  rw [za s k ⟨0,0⟩ hl]
  obtain ⟨r,h1,_⟩:=aR (g:=gc s k) (fin:=fun a=>(a,(s.aB.length:Int))) (fun _ _=>True) (fun _=>True) s.aB 0 ⟨0,0⟩ (fun j a x hx _=>by
   unfold gc
   simp only [eE,du,zb,sZ]
   exact ⟨_,rfl,fun _ _=>trivial,fun _ _=>trivial⟩) (fun _ _=>trivial) trivial
  rw [h1]
  exact ⟨_,rfl⟩
 obtain ⟨r,hr⟩:=this
 unfold vb
 rw [hr]; rfl
def XX (s:aa) (k:Int) : az:=(tJ s k).getD az.zero
theorem P3 (s:aa) (k:Int) (hl:s.bl.length≤1000000) : tJ s k=some (XX s k):=by
 have:∃ r,tJ s k=some r:=by
  unfold tJ
  dsimp only
  rw [Bv s k ⟨0,0⟩ hl]
  obtain ⟨r,h1,_⟩:=aR (g:=ip s k) (fin:=fun a=>(a,(s.bl.length:Int))) (fun _ _=>True) (fun _=>True) s.bl 0 ⟨0,0⟩ (fun j a x hx _=>by
   unfold ip
   simp only [eE,du,zb,sZ]
   exact ⟨_,rfl,fun _ _=>trivial,fun _ _=>trivial⟩) (fun _ _=>trivial) trivial
  rw [h1]
  exact ⟨_,rfl⟩
 obtain ⟨r,hr⟩:=this
 unfold XX
 rw [hr]; rfl
def eh (p:ByteArray) : ByteArray:=(dE p).getD ⟨#[]⟩
def dA:Nat→ByteArray→Nat
 | 0,_=>0
 | n + 1,p=>if p.size=0 then 0 else dA n (eh p) + 1
structure Deep (c:av) : Prop where
 few:c.ae.length≤16
 deep:∀ q∈c.ae,dA 6 q.aC≤4
structure Az (c:av) : Prop where
 sz:SzC c
 each:∀ q∈c.ae,q.bu.length=c.ak.length
 up:∀ q∈c.ae,∀ r,zc q.aC=some r→∀ x∈r,isQ c x=true
 deep:Deep c
 lab1 : 1≤c.ak.length
 leaf:∃ q∈c.ae,wQ c q.aC=true
 lsz:∀ x∈c.ak,x.size≤1000000
theorem yO {c:av} {p:ByteArray} (h:isQ c p=true) : ET c p∈c.ae∧((ET c p).aC.toList==p.toList)=true:=by
 unfold isQ at h
 unfold ET
 cases hf:c.ae.find? fun q=>q.aC.toList==p.toList with
 | none =>
  rw [List.any_eq_true] at h
  obtain ⟨q,hq,h2⟩:=h
  have:=List.find?_eq_none.1 hf q hq
  exact absurd h2 (by simpa using this)
 | some q=>exact ⟨List.mem_of_find?_eq_some hf,by simpa using List.find?_some hf⟩
theorem sy {a b:ByteArray} (h:(a.toList==b.toList)=true) : a=b:=by
 have h:a.toList=b.toList:=by simpa using h
 rw [ByteArray.toList_eq,ByteArray.toList_eq] at h
 cases a; cases b
 simp only at h
 congr 1
 exact Array.ext' h
theorem J2 {α : Type} {l:List α} {i:Int} (h0 : 0≤i) (h1:i < (l.length:Int)) : ∃ x,aw l i=some x∧x∈l:=by
 unfold aw
 rw [if_pos h0]
 have:i.toNat < l.length:=by omega
 exact ⟨l[i.toNat],zq this,List.getElem_mem this⟩
theorem FW (s:aa) (p:ByteArray) (k:Int) (b:Bool) (hf:Az s.bN) (hn:s.aB.length≤1000000) : ∃ r,tI s p k b=some r:=by
 unfold tI
 simp only [kE _ _ hf.sz,zb,orB,n8 s k hn]
 cases hc:(!isQ s.bN p||decide (k < 0)||decide (k≥(s.bN.ak.length:Int))) with
 | true=>exact ⟨_,rfl⟩
 | false =>
  simp only [Bool.or_eq_false_iff,Bool.not_eq_false',decide_eq_false_iff_not] at hc
  obtain ⟨⟨hq,hk0⟩,hk1⟩:=hc
  obtain ⟨hm,hp⟩:=yO hq
  have hpe:=sy hp
  have hps:p.size≤1000000:=by rw [← hpe]; exact hf.sz.paths _ hm
  obtain ⟨up,hup,hul,_⟩:=F3 p hps
  have hall:=hf.up _ hm up (by rw [hpe]; exact hup)
  simp only [zf,if_false,hup,zb]
  have hw:∀ i:Int,-1≤i→i≤1000000→i64.wrap (i - 1)=i - 1:=fun i h1 h2=>Hy (by omega) (by omega)
  have hw2:i64.wrap ((up.length:Int) - 2)=(up.length:Int) - 2:=Hy (by omega) (by omega)
  have h:=aL (f:=rq s up k b) (fun st=>-2≤st.2∧st.2 < (up.length:Int)) (fun st=>(st.2 + 1).toNat) (fun _=>True) (fun st ⟨h1,h2⟩=>by
   unfold rq
   dsimp only
   by_cases hi:st.2≥0
   ·obtain ⟨x,hx,hxm⟩:=J2 (l:=up) hi h2
    have hxq:=hall x hxm
    have hcap:=hf.each _ (yO hxq).1
    obtain ⟨c,hc,_⟩:=J2 (l:=(ET s.bN x).bu) (i:=k) (by omega) (by rw [hcap]; omega)
    simp only [hi,decide_true,if_true,hx,zb,kE _ _ hf.sz,hc,Cr,sZ,hw st.2 (by omega) (by omega)]
    exact .inl ⟨_,rfl,⟨by show -2≤st.2 - 1; omega,by show st.2 - 1 < _; omega⟩,by show (st.2 - 1 + 1).toNat < (st.2 + 1).toNat; omega⟩
   ·simp only [hi,decide_false,zf,if_false]
    exact .inr ⟨_,rfl,trivial⟩) ab (vb s k,i64.wrap ((up.length:Int) - 2)) ⟨by show -2≤i64.wrap ((up.length:Int) - 2); rw [hw2]; omega,by show i64.wrap ((up.length:Int) - 2) < _; rw [hw2]; omega⟩ (by show (i64.wrap ((up.length:Int) - 2) + 1).toNat < ab; rw [hw2]; unfold ab; omega)
  obtain ⟨r,h1,_⟩:=h
  rw [h1]
  exact ⟨_,rfl⟩
def BN (s:aa) (p:ByteArray) (k:Int) : az:=(tI s p k true).getD az.zero
def XT (s:aa) (p:ByteArray) (k:Int) : az:=(tI s p k false).getD az.zero
theorem n9 (s:aa) (p:ByteArray) (k:Int) (hf:Az s.bN) (hn:s.aB.length≤1000000) : lG s p k=some (BN s p k):=by
 obtain ⟨r,hr⟩:=FW s p k true hf hn
 unfold lG BN
 rw [hr]; rfl
theorem FX (s:aa) (p:ByteArray) (k:Int) (hf:Az s.bN) (hn:s.aB.length≤1000000) : v8 s p k=some (XT s p k):=by
 obtain ⟨r,hr⟩:=FW s p k false hf hn
 unfold v8 XT
 rw [hr]; rfl
def ZK (s:aa) (p:ByteArray) (k:Int) : az:=if isQ s.bN p=true then (PN (BN s p k) (ET s.bN p).cy).1 else az.zero
theorem P1 (s:aa) (p:ByteArray) (k:Int) (hf:Az s.bN) (hn:s.aB.length≤1000000) : DG s p k=some (ZK s p k):=by
 unfold DG ZK
 simp only [kE _ _ hf.sz,zb,n9 s p k hf hn,Cr]
 cases isQ s.bN p <;> rfl
def im (v_s:aa) (bF:Int) (st:az) (x_:am) : Option ((az)⊕((az×Int))) :=
 let v_v:=st
 if (x_.bJ==bF)=true then
 (di v_v x_.cF).bind fun c4=>let v_v:az:=c4
 some (.inl v_v)
 else
 some (.inl v_v)
theorem Bu (v_s:aa) (bF:Int) (a_:az) (hl:v_s.ac.length≤1000000) : ah (nA v_s bF) ab (a_,(0))=bh (im v_s bF) (fun a_=>(a_,((v_s.ac.length:Int)))) a_ v_s.ac :=
 ay v_s.ac (S:=az×Int) (fun a_ k_=>(a_,(k_))) (im v_s bF) (fun a_=>(a_,((v_s.ac.length:Int)))) (an hl) (fun k a x hx=>by
  unfold nA im; exact bK)
  (fun a=>by unfold nA; exact cI) a_
theorem PY (s:aa) (id:Int) (hl:s.aB.length≤1000000) : nC s id=some (((s.aB.find? fun c=>c.fId==id).map fun c=>(c,true)).getD (aX.zero,false)):=by
 unfold nC
 have h:=ay (S:=Int) s.aB (fun (_:Unit) k=>k) (f:=nB s id) (fun _ x=>if (x.fId==id)=true then some (.inr (.inr (x,true))) else some (.inl ())) (fun _=>.inl (s.aB.length:Int)) (an hl)
  (fun k a x hx=>by
   have hk:=(zg.1 hx).1
   unfold nB
   simp only [bM hx,if_true,aD hx,zb]
   split
   ·rfl
   ·simp only [a6 hk hl,Option.map_some])
  (fun a=>by unfold nB; simp only [bE]; rfl) ()
 dsimp only
 have h2:=te (fun x:aX=>x.fId==id) (fun x=>(Sum.inr (x,true) : Int⊕aX×Bool)) (.inl (s.aB.length:Int)) s.aB
 rw [h,h2]
 cases List.find? (fun c=>c.fId==id) s.aB <;> rfl
theorem Bs (s:aa) (n:aX) (hl:s.aB.length + 1≤1000000) : Bt s n=some { s with aB:=dn aX.fId s.aB n } := by
 unfold Bt
 have hl':s.aB.length≤1000000:=by omega
 have h:=xy s.aB (fun x=>decide (x.fId < n.fId)) (f:=pe s n) (an hl')
  (fun k x hx=>by
   have hk:=(zg.1 hx).1
   unfold pe
   simp only [bM hx,if_true,aD hx,zb,a6 hk hl'])
  (by unfold pe; simp only [bE]; rfl)
 unfold dn
 have hK:=oX (fun x:aX=>decide (x.fId < n.fId)) s.aB
 generalize (s.aB.takeWhile fun x=>decide (x.fId < n.fId)).length=K at h hK ⊢
 dsimp only
 rw [h]
 simp only [zb]
 rw [mS hK]
 simp only [zb]
 rw [aE (by simp; omega)]
 simp only [zb]
 rw [aE (by simp; omega)]
 simp only [zb]
 by_cases hlt:K < s.aB.length
 ·have hx:s.aB[K]? = some s.aB[K]:=zq hlt
  simp only [bM hx,if_true,aD hx,zb,hx]
  cases he:(s.aB[K].fId==n.fId) with
  | true =>
   simp only [if_true,zb,a6 hlt hl']
   rw [jQ hlt]
   simp only [zb]
   rw [aE (by simp; omega)]
   simp
  | false =>
   simp only [zf,if_false,zb]
   rw [jQ hK]
   simp only [zb]
   rw [aE (by simp; omega)]
   simp
 ·have:K=s.aB.length:=by omega
  subst this
  simp only [bE,zf,if_false,zb]
  rw [jQ (Nat.le_refl _)]
  simp only [zb]
  rw [aE (by simp; omega)]
  simp
theorem PW (n:Int) : y7 n=some (decide (n≥0)&&decide (n≤1073741824)):=by
 unfold y7
 simp only [du,zb]
def tr (s:aa) (id:Int) : Bool:=s.aB.any fun c=>c.fId==id
def eW (s:aa) (id:Int) : aX:=(s.aB.find? fun c=>c.fId==id).getD aX.zero
theorem na (s:aa) (id:Int) (hl:s.aB.length≤1000000) : nC s id=some (eW s id,tr s id):=by
 rw [PY s id hl]
 unfold eW tr
 cases h:s.aB.find? fun c=>c.fId==id with
 | none =>
  have:(s.aB.any fun c=>c.fId==id)=false:=by
   rw [List.any_eq_false]; intro x hx; have:=List.find?_eq_none.1 h x hx; simpa using this
  rw [this]; rfl
 | some c =>
  have:(s.aB.any fun c=>c.fId==id)=true:=by
   rw [List.any_eq_true]; exact ⟨c,List.mem_of_find?_eq_some h,by simpa using List.find?_some h⟩
  rw [this]; rfl
def aaH (s:aa) (n:aX) : Bool:=!(decide (n.fId < 0)||decide (n.fId > 999)||decide (n.aY < 0)||decide (n.aY≥(s.bN.ak.length:Int))||decide (n.eX < 0)||decide (n.eX > 99) || !(decide (n.kT.bD≥0)&&decide (n.kT.bD≤1073741824)) || !(decide (n.kT.be≥0)&&decide (n.kT.be≤1073741824)))
def Ys (s:aa) (n:aX) : aa×Int :=
 if aaH s n=false then (s,1)
 else if (tr s n.fId&&(eW s n.fId).fUp)=true then (s,7)
 else if (!tr s n.fId&&decide ((s.aB.length:Int)≥12))=true then (s,4)
 else ({ s with aB:=dn aX.fId s.aB ⟨n.fId,n.aY,n.eX,n.kT,s.cO,0,true⟩ },0)
theorem FU (s:aa) (n:aX) (hl:s.aB.length + 1≤1000000) : rb s n=some (Ys s n):=by
 unfold rb Ys
 simp only [PW,orB,zb,na s n.fId (by omega),Bs s _ hl,du]
 unfold aaH
 generalize (decide (n.fId < 0)||decide (n.fId > 999)||decide (n.aY < 0)||decide (n.aY≥(s.bN.ak.length:Int))||decide (n.eX < 0)||decide (n.eX > 99) || !(decide (n.kT.bD≥0)&&decide (n.kT.bD≤1073741824)) || !(decide (n.kT.be≥0)&&decide (n.kT.be≤1073741824)))=b1
 generalize (tr s n.fId&&(eW s n.fId).fUp)=b2
 generalize (!tr s n.fId&&decide ((s.aB.length:Int)≥12))=b3
 cases b1 <;> cases b2 <;> cases b3 <;> rfl
theorem KL (s:aa) (hl:s.aB.length≤1000000) : v7 s=some ((s.aB.filter fun b=>b.fUp&&decide (i64.wrap (s.cO - b.cH)≥10)).map aX.fId):=by
 unfold v7
 have h:=ay (S:=List Int×Int) s.aB (fun a k=>(a,k)) (f:=j7 s) (fun acc x=>if (x.fUp&&decide (i64.wrap (s.cO - x.cH)≥10))=true then (aU acc [x.fId]).map (fun a=>(.inl a:List Int⊕(List Int×Int))) else some (.inl acc)) (fun a=>(a,(s.aB.length:Int))) (an hl)
  (fun k a x hx=>by
   have hk:=(zg.1 hx).1
   unfold j7
   simp only [bM hx,if_true,aD hx,zb,du,a6 hk hl]
   split
   ·cases aU a [x.fId] <;> rfl
   ·rfl)
  (fun a=>by unfold j7; simp only [bE]; rfl) []
 rw [cg (fun b:aX=>b.fUp&&decide (i64.wrap (s.cO - b.cH)≥10)) aX.fId (fun a=>(a,(s.aB.length:Int))) s.aB [] (by simpa using hl)] at h
 dsimp only
 rw [h]
 rfl
def Nc (s:aa) (id b:Int) : aa×Int :=
 if tr s id=false then (s,2)
 else if (eW s id).fUp=false then (s,18)
 else if decide (b < 0)=true then (s,15)
 else if decide (b < (eW s id).cd)=true then (s,15)
 else if decide (i64.wrap (b - (eW s id).cd) > 1)=true then (s,1)
 else ({ s with aB:=dn aX.fId s.aB { eW s id with cH:=s.cO,cd:=b } },0)
theorem P0 (s:aa) (id b:Int) (hl:s.aB.length + 1≤1000000) : DF s id b=some (Nc s id b):=by
 unfold DF Nc
 simp only [na s id (by omega),zb,Bs s _ hl]
 generalize tr s id=b1
 generalize (eW s id).fUp=b2
 generalize decide (b < 0)=b3
 generalize decide (b < (eW s id).cd)=b4
 generalize decide (i64.wrap (b - (eW s id).cd) > 1)=b5
 cases b1 <;> cases b2 <;> cases b3 <;> cases b4 <;> cases b5 <;> rfl
def Sw (s:aa) (id:Int) : aa:=if tr s id=true then { s with aB:=dn aX.fId s.aB { eW s id with fUp:=false } } else s
theorem PZ (s:aa) (id:Int) (hl:s.aB.length + 1≤1000000) : y9 s id=some (Sw s id):=by
 unfold y9 Sw
 simp only [na s id (by omega),zb,Bs s _ hl]
 generalize tr s id=b1
 cases b1 <;> rfl
def Zx (s:aa) (id:Int) : az:=s.ac.foldl (fun v c=>if (c.bJ==id)=true then Uk v c.cF else v) az.zero
theorem PX (s:aa) (id:Int) (hl:s.ac.length≤1000000) : DE s id=some (Zx s id):=by
 unfold DE
 dsimp only
 rw [Bu s id ⟨0,0⟩ hl]
 have:im s id=fun v c=>some (.inl (if (c.bJ==id)=true then Uk v c.cF else v)):=by
  funext v c
  unfold im
  simp only [eE,zb]
  cases (c.bJ==id) <;> rfl
 rw [this,td (fun (v:az) (c:am)=>if (c.bJ==id)=true then Uk v c.cF else v)]
 rfl
def ZD (s:aa) (id:Int) : az:=if (!tr s id || !(eW s id).fUp)=true then az.zero else Wp (eW s id).kT (Zx s id)
theorem FV (s:aa) (id:Int) (hl:s.aB.length≤1000000) (hc:s.ac.length≤1000000) : y8 s id=some (ZD s id):=by
 unfold y8 ZD
 simp only [na s id hl,zb,orB,PX s id hc,F9]
 generalize (!tr s id || !(eW s id).fUp)=b1
 cases b1 <;> rfl
theorem Ed {α : Type} (key : α→Int) (l:List α) (a : α) : (dn key l a).length≤l.length + 1:=by
 unfold dn
 have h:=oX (fun x=>decide (key x < key a)) l
 generalize (l.takeWhile fun x=>decide (key x < key a)).length=K at h ⊢
 simp only [List.length_append,List.length_take,List.length_cons,List.length_drop]
 split
 ·split <;> omega
 ·omega
def kW {α : Type} (key : α→Int) (l:List α) : Prop:=l.Pairwise fun x y=>key x < key y
structure SzA (B:Nat) (a:aq) : Prop where
 queue:a.bC.size≤1000000∧0≤a.cH∧a.cH≤1000000000
 asks:a.bI.length≤B
 grants:a.bP.length≤B
 kills:a.dr.length≤B
 told:a.jO.length≤B
 lost:a.jW.length≤B
def abt (s:aa) : Prop:=(0≤s.cO∧s.cO≤1000000000)∧∀ n∈s.aB,(0≤n.cH∧n.cH≤1000000000)∧0≤n.cd
structure SzS (B:Nat) (s:aa) : Prop where
 conf:Az s.bN
 nodes:s.aB.length≤B∧kW aX.fId s.aB∧abt s
 apps:s.aj.length≤B
 conts:s.ac.length≤B
 slots:s.aQ.length≤B
 plans:s.bl.length≤B
 app:∀ a∈s.aj,SzA B a
theorem SzA.mono {B C:Nat} {a:aq} (h:SzA B a) (hc:B≤C) : SzA C a:=⟨h.queue,Nat.le_trans h.asks hc,Nat.le_trans h.grants hc,Nat.le_trans h.kills hc,Nat.le_trans h.told hc,Nat.le_trans h.lost hc⟩
theorem SzS.mono {B C:Nat} {s:aa} (h:SzS B s) (hc:B≤C) : SzS C s:=⟨h.conf,⟨Nat.le_trans h.nodes.1 hc,h.nodes.2⟩,Nat.le_trans h.apps hc,Nat.le_trans h.conts hc,Nat.le_trans h.slots hc,Nat.le_trans h.plans hc,fun a ha=>(h.app a ha).mono hc⟩
theorem SzA.zero (B:Nat) : SzA B aq.zero:=⟨⟨Nat.zero_le _,Int.le_refl _,by decide⟩,Nat.zero_le _,Nat.zero_le _,Nat.zero_le _,Nat.zero_le _,Nat.zero_le _⟩
theorem SzS.get {B:Nat} {s:aa} (h:SzS B s) (id:Int) : SzA B (bV s id):=by
 unfold bV
 cases hf:s.aj.find? fun c=>c.fId==id with
 | none=>exact SzA.zero B
 | some a=>exact h.app a (List.mem_of_find?_eq_some hf)
theorem pM {α : Type} {key : α→Int} {l:List α} {a x : α} (h:x∈dn key l a) : x=a∨x∈l:=by
 unfold dn at h
 simp only [List.mem_append,List.mem_cons] at h
 rcases h with h | h | h
 ·exact .inr (List.mem_of_mem_take h)
 ·exact .inl h
 ·exact .inr (List.mem_of_mem_drop h)
theorem SzS.put {B:Nat} {s:aa} (h:SzS B s) {a:aq} (ha:SzA (B + 1) a) : SzS (B + 1) { s with aj:=dn aq.fId s.aj a } :=
 ⟨h.conf,⟨Nat.le_trans h.nodes.1 (Nat.le_succ _),h.nodes.2⟩,Nat.le_trans (Ed _ _ _) (Nat.succ_le_succ h.apps),Nat.le_trans h.conts (Nat.le_succ _),Nat.le_trans h.slots (Nat.le_succ _),Nat.le_trans h.plans (Nat.le_succ _),fun x hx=>by
  rcases pM hx with rfl | hx
  ·exact ha
  ·exact (h.app x hx).mono (Nat.le_succ _)⟩
theorem SzS.fewer {B:Nat} {s:aa} (h:SzS B s) {c:List am} {l:List bz} (hc:c.length≤s.ac.length) (hl:l.length≤s.aQ.length) : SzS B { s with ac:=c,aQ:=l } := ⟨h.conf,h.nodes,h.apps,Nat.le_trans hc h.conts,Nat.le_trans hl h.slots,h.plans,h.app⟩
theorem Ad (a p:ByteArray) (ha:a.size≤1000000) : ∃ r,ni a p=some r:=by
 obtain ⟨u,h1,h2,h3⟩:=F3 a ha
 unfold ni
 rw [h1]
 dsimp only [zb]
 rw [ya u p () (by omega),show iU u p=fun (_:Unit) x=>if (x.toList==p.toList)=true then some (.inr (.inr true)) else some (.inl ()) from rfl,
  kL (fun x:ByteArray=>x.toList==p.toList) (fun _=>(Sum.inr true:Int⊕Bool)) (.inl (u.length:Int)) u]
 simp only [zb]
 cases u.find? fun x=>x.toList==p.toList <;> exact ⟨_,rfl⟩
theorem Cz {B:Nat} {s:aa} (h:SzS B s) (hB:B≤1000000) (p:ByteArray) (k:Int) (all:Bool) (u:Int) : ∃ r,vx s p k all u=some r:=by
 have h1:=h.apps; have h2:=h.conts
 unfold vx
 dsimp only
 rw [Ab s k p all u _ (by omega)]
 obtain ⟨r,e1,_⟩:=aR (g:=gF s k p all u) (fin:=fun b=>(b,(s.ac.length:Int))) (fun _ _=>True) (fun _=>True) s.ac 0 (⟨0,0⟩ : az) (fun j t x hx _=>by
  obtain ⟨b,hb⟩:=Ad (bV s x.bG).bC p (h.get x.bG).queue.1
  unfold gF
  simp only [dH s x.bG (by omega),zb,du,hb,eE]
  cases EK s x.bG <;> cases (x.aY==k) <;> cases b <;> cases all <;> cases ((bV s x.bG).cy==u) <;> exact ⟨_,rfl,fun _ _=>trivial,fun _ _=>trivial⟩) (fun _ _=>trivial) trivial
 rw [e1]
 exact ⟨_,rfl⟩
theorem fu {B:Nat} {s:aa} (h:SzS B s) (hB:B≤1000000) (p:ByteArray) (k:Int) : ∃ r,eO s p k=some r:=by
 obtain ⟨r,e⟩:=Cz h hB p k true 0
 exact ⟨r,by unfold eO; rw [e]; rfl⟩
theorem CZ {B:Nat} {s:aa} (h:SzS B s) (hB:B≤1000000) (p:ByteArray) (k u:Int) : ∃ r,pj s p k u=some r:=by
 obtain ⟨r,e⟩:=Cz h hB p k false u
 exact ⟨r,by unfold pj; rw [e]; rfl⟩
theorem vz {B:Nat} {s:aa} (h:SzS B s) (hB:B≤1000000) (p:ByteArray) (k:Int) : ∃ r,og s p k=some r:=by
 have h1:=h.apps
 unfold og
 dsimp only
 rw [vA s k p _ (by omega)]
 obtain ⟨r,e1,_⟩:=aR (g:=eb s k p) (fin:=fun b=>(b,(s.aj.length:Int))) (fun _ _=>True) (fun _=>True) s.aj 0 (⟨0,0⟩ : az) (fun j t x hx _=>by
  have hm:=h.app x (List.mem_of_getElem? hx)
  have ha:=hm.asks
  obtain ⟨b,hb⟩:=Ad x.bC p hm.queue.1
  unfold eb
  simp only [dF,zb,hb,Hf x.bI k (by omega),eE]
  cases dX x <;> cases b <;> exact ⟨_,rfl,fun _ _=>trivial,fun _ _=>trivial⟩) (fun _ _=>trivial) trivial
 rw [e1]
 exact ⟨_,rfl⟩
theorem CB {B:Nat} {s:aa} (h:SzS B s) (hB:B≤1000000) (p:ByteArray) (hp:p.size≤1000000) (k:Int) (v:az) : ∃ r,vy s p k v=some r:=by
 obtain ⟨u,h1,h2,h3⟩:=F3 p hp
 have k1:=h.nodes.1; have k2:=h.plans
 unfold vy
 rw [h1]
 dsimp only [zb]
 rw [Ae u s k v () (by omega)]
 obtain ⟨r,e1,_⟩:=aR (g:=gG u s k v) (fin:=fun _=>(.inl (u.length:Int))) (fun _ _=>True) (fun _=>True) u 0 () (fun j t x hx _=>by
  obtain ⟨w,hw⟩:=fu h hB x k
  unfold gG
  simp only [hw,zb,eE,FX s x k h.conf (by omega),kF,n8 s k (by omega),P3 s k (by omega),F9]
  generalize YX (Uk w v) (XT s x k)=b1
  generalize YX (Uk w v) (Wp (vb s k) (XX s k))=b2
  generalize (x.toList==(⟨#[114,111,111,116]⟩ : ByteArray).toList)=b3
  cases b1 <;> cases b2 <;> cases b3 <;> exact ⟨_,rfl,fun _ _=>trivial,fun _ _=>trivial⟩) (fun _ _=>trivial) trivial
 rw [e1]
 simp only [zb]
 cases r <;> exact ⟨_,rfl⟩
theorem K9 {B:Nat} {s:aa} (h:SzS B s) (hB:B≤1000000) (a b:ByteArray) (k:Int) : ∃ r,wo s a b k=some r:=by
 obtain ⟨u,hu⟩:=fu h hB a k
 obtain ⟨w,hw⟩:=fu h hB b k
 have k1:=h.nodes.1
 unfold wo
 simp only [hu,hw,n9 s _ k h.conf (Nat.le_trans k1 hB),NA,zb,du,orB]
 exact ⟨_,rfl⟩
theorem nX {α : Type} (out:List α) (hl:out.length≤1000000) {f:Int→Option (Int⊕Int)} (h:∀ (k:Nat) (x : α),out[k]? = some x→∃ b,f (k:Int)=if b=true then some (.inl ((k + 1:Nat) : Int)) else some (.inr (k:Int)))
  (hend:f (out.length:Int)=some (.inr (out.length:Int))) : ∃ K:Nat,ah f ab 0=some (K:Int)∧K≤out.length:=by
 obtain ⟨r,h1,K,h2,h3⟩:=aL (f:=f) (fun st=>∃ k:Nat,st=(k:Int)∧k≤out.length) (fun st=>out.length - st.toNat) (fun r=>∃ k:Nat,r=(k:Int)∧k≤out.length) (fun st ⟨k,e,hk⟩=>by
  subst e
  by_cases hlt:k < out.length
  ·obtain ⟨b,hb⟩:=h k _ (zq hlt)
   rw [hb]
   cases b with
   | true=>exact .inl ⟨_,rfl,⟨k + 1,rfl,hlt⟩,by simp only [zt]; omega⟩
   | false=>exact .inr ⟨_,rfl,k,rfl,hk⟩
  ·have:k=out.length:=by omega
   subst this
   exact .inr ⟨_,hend,_,rfl,Nat.le_refl _⟩) ab 0 ⟨0,rfl,Nat.zero_le _⟩ (by have:=an hl; omega)
 subst h2
 exact ⟨K,h1,h3⟩
theorem mJ {σ α τ : Type} {g : σ→Int→α→Option (σ⊕τ)} {fin : σ→τ} (I:Nat→σ→Prop) (Q : τ→Prop) : ∀ (l:List α) (k:Nat) (a : σ),(∀ (j:Nat) (a : σ) (x : α),l[j]? = some x→I (k + j) a→∃ o,g a ((k + j:Nat) : Int) x=some o∧(∀ a',o = .inl a'→I (k + j + 1) a')∧∀ r,o = .inr r→Q r)→(∀ a,I (k + l.length) a→Q (fin a))→I k a→∃ r,nT g fin a k l=some r∧Q r
 | [],k,a,_,hf,hI=>⟨fin a,rfl,hf a hI⟩
 | x::l,k,a,h,hf,hI=>by
  obtain ⟨o,h1,h2,h3⟩:=h 0 a x rfl hI
  simp only [Nat.add_zero] at h1
  simp only [nT,h1]
  cases o with
  | inr r=>exact ⟨r,rfl,h3 r rfl⟩
  | inl a' =>
   refine mJ I Q l (k + 1) a' (fun j b y hy hb=>?_) (fun b hb=>hf b (by simpa [Nat.add_assoc,Nat.add_comm 1] using hb)) (h2 a' rfl)
   have:=h (j + 1) b y hy (by rwa [Nat.add_right_comm] at hb)
   rwa [Nat.add_right_comm k 1 j,Nat.add_assoc k j 1]
theorem N9 {B:Nat} {s:aa} (h:SzS B s) (hB:B≤1000000) (p:ByteArray) (k:Int) : ∃ l r,ei s.bN p=some l∧zX s p k=some r∧r.length≤l.length∧∀ x∈r,x∈l:=by
 obtain ⟨l,h1,h2,h3⟩:=tK s.bN p h.conf.sz
 have k2:=h.conf.sz.queues
 have hl:l.length≤1000:=by omega
 unfold zX
 simp only [h1]
 dsimp only [zb]
 rw [zW l s k [] (by omega)]
 obtain ⟨r,e1,e2⟩:=mJ (g:=gA l s k) (fin:=fun b=>(b,(l.length:Int))) (fun j b=>b.length≤j∧∀ x∈b,x∈l) (fun r=>r.1.length≤l.length∧∀ x∈r.1,x∈l) l 0 [] (fun j out x hx ⟨ho,hm⟩=>by
  have hj:=(zg.1 hx).1
  obtain ⟨K,hK1,hK2⟩:=nX out (by omega) (f:=jl out s ((0 + j:Nat) : Int) l k) (fun i y hy=>by
   have hi:=(zg.1 hy).1
   obtain ⟨b,hb⟩:=K9 h hB x y k
   refine ⟨!b,?_⟩
   unfold jl
   simp only [bM hy,if_true,aD hy,aD (show l[0 + j]? = some x by rwa [Nat.zero_add]),hb,zb,a6 hi (show out.length≤1000000 by omega)]) (by unfold jl; simp only [bE,zf,if_false,zb])
  unfold gA
  dsimp only
  rw [hK1]
  simp only [zb]
  rw [mS hK2]
  simp only [zb]
  rw [aE (by simp; omega)]
  simp only [zb]
  rw [aE (by simp; omega)]
  simp only [zb]
  rw [jQ hK2]
  simp only [zb]
  rw [aE (by simp; omega)]
  refine ⟨_,rfl,fun a' e=>?_,fun r e=>by cases e⟩
  injection e with e
  subst e
  refine ⟨by simp; omega,fun y hy=>?_⟩
  simp only [List.nil_append,List.mem_append,List.mem_singleton] at hy
  rcases hy with (hy | rfl) | hy
  ·exact hm y (List.mem_of_mem_take hy)
  ·exact List.mem_of_getElem? hx
  ·exact hm y (List.mem_of_mem_drop hy)) (fun b ⟨hb,hm⟩=>⟨by simpa using hb,hm⟩) ⟨by simp,by simp⟩
 rw [e1]
 exact ⟨l,_,rfl,rfl,e2.1,e2.2⟩
theorem Oa {B:Nat} {s:aa} (h:SzS B s) (hB:B≤1000000) (q:ByteArray) : ∃ r,Aa s q=some r∧r.length≤B∧∀ i∈r,∃ x∈s.aj,x.fId=i:=by
 have k1:=h.apps
 unfold Aa
 dsimp only
 rw [zZ s q [] (by omega)]
 obtain ⟨r,e1,e2⟩:=aR (g:=gD s q) (fin:=fun b=>(b,(s.aj.length:Int))) (fun j b=>b.length≤j∧∀ y∈b,y∈s.aj) (fun r=>r.1.length≤s.aj.length∧∀ y∈r.1,y∈s.aj) s.aj 0 [] (fun j out x hx ⟨ho,hm⟩=>by
  have hj:=(zg.1 hx).1
  unfold gD
  simp only [dF,zb,orB]
  split
  ·exact ⟨_,rfl,fun a' e=>by injection e with e; subst e; exact ⟨Nat.le_succ_of_le ho,hm⟩,fun r e=>by cases e⟩
  obtain ⟨K,hK1,hK2⟩:=nX out (by omega) (f:=jm out x) (fun i y hy=>by
   have hi:=(zg.1 hy).1
   refine ⟨decide (y.bq≥x.bq),?_⟩
   unfold jm
   simp only [bM hy,if_true,aD hy,zb,a6 hi (show out.length≤1000000 by omega)]) (by unfold jm; simp only [bE,zf,if_false,zb])
  rw [hK1]
  simp only [zb]
  rw [mS hK2]
  simp only [zb]
  rw [aE (by simp; omega)]
  simp only [zb]
  rw [aE (by simp; omega)]
  simp only [zb]
  rw [jQ hK2]
  simp only [zb]
  rw [aE (by simp; omega)]
  refine ⟨_,rfl,fun a' e=>?_,fun r e=>by cases e⟩
  injection e with e
  subst e
  refine ⟨by show (([] ++ out.take K ++ [x])++out.drop K).length≤0 + j + 1; simp; omega,fun y hy=>?_⟩
  simp only [List.nil_append,List.mem_append,List.mem_singleton] at hy
  rcases hy with (hy | rfl) | hy
  ·exact hm y (List.mem_of_mem_take hy)
  ·exact List.mem_of_getElem? hx
  ·exact hm y (List.mem_of_mem_drop hy)) (fun b ⟨hb,hm⟩=>⟨by simpa using hb,hm⟩) ⟨by simp,by simp⟩
 rw [e1]
 simp only [zb]
 have e:gB r.1=fun acc (x:aq)=>if true=true then (aU acc [x.fId]).map (fun a=>(.inl a:List Int⊕(List Int×Int))) else some (.inl acc):=by
  funext acc x
  unfold gB
  simp only [if_true]
  cases aU acc [x.fId] <;> rfl
 have e3:=e2.1
 rw [zY r.1 [] (by omega),e,cg (fun _=>true) aq.fId _ r.1 [] (by simp; omega)]
 refine ⟨_,rfl,?_,fun i hi=>?_⟩
 ·have hf:=List.length_filter_le (fun _:aq=>true) r.1
  rw [List.nil_append,List.length_map]
  omega
 ·rw [List.nil_append,List.mem_map] at hi
  obtain ⟨y,hy,e4⟩:=hi
  exact ⟨y,e2.2 y (List.mem_filter.1 hy).1,e4⟩
theorem Ck:∀ (n:Nat) (p:ByteArray),dA n p < n→dA (n + 1) p=dA n p
 | 0,_,h=>absurd h (Nat.not_lt_zero _)
 | n + 1,p,h=>by
  unfold dA at h ⊢
  split
  ·rfl
  ·rename_i h0
   rw [if_neg h0] at h
   rw [Ck n _ (by omega)]
theorem IQ {x p:ByteArray} (hx:dE x=some p) (hp : 0 < p.size) (xs:x.size≤1000000) (hd:dA 6 x≤4) : dA 6 p + 1=dA 6 x:=by
 obtain ⟨r,h1,h2⟩:=oa x xs
 rw [hx] at h1
 injection h1 with h1
 subst h1
 have e:dA 6 x=dA 5 p + 1:=by
  show (if x.size=0 then 0 else dA 5 (eh x) + 1) = _
  rw [if_neg (by omega)]
  unfold eh
  rw [hx]
  rfl
 rw [e] at hd ⊢
 rw [Ck 5 p (by omega)]
theorem Co (c:av) (p:ByteArray) (h:SzC c) {l:List ByteArray} (hl:ei c p=some l) : ∀ x∈l,(∃ q∈c.ae,q.aC=x)∧dE x=some p∧0 < p.size:=by
 unfold ei at hl
 have hs:=gf c p [] (by have:=h.queues; omega)
 dsimp only at hl
 rw [hs] at hl
 obtain ⟨r,h1,h2⟩:=aR (g:=co c p) (fin:=fun a=>(a,(c.ae.length:Int))) (fun k a=>a.length≤k∧∀ x∈a,(∃ q∈c.ae,q.aC=x)∧dE x=some p∧0 < p.size) (fun r=>∀ x∈r.1,(∃ q∈c.ae,q.aC=x)∧dE x=some p∧0 < p.size) c.ae 0 [] (fun j a x hx ⟨h1,h2⟩=>by
  have hm:=List.mem_of_getElem? hx
  have hj:=(zg.1 hx).1
  obtain ⟨r,hr,_⟩:=oa x.aC (h.paths x hm)
  have hqs:=h.queues
  unfold co
  simp only [hr,zb,du]
  split
  ·rename_i hc
   rw [Bool.and_eq_true] at hc
   rw [aE (by simp; omega)]
   refine ⟨_,rfl,fun a' e=>?_,fun r e=>by cases e⟩
   injection e with e
   subst e
   refine ⟨by simp; omega,fun y hy=>?_⟩
   simp only [List.mem_append,List.mem_singleton] at hy
   rcases hy with hy | rfl
   ·exact h2 y hy
   ·exact ⟨⟨x,hm,rfl⟩,by rw [hr,sy hc.2],qQ hc.1⟩
  ·refine ⟨_,rfl,fun a' e=>?_,fun r e=>by cases e⟩
   injection e with e
   subst e
   exact ⟨by omega,h2⟩) (fun a ⟨h1,h2⟩=>h2) ⟨by simp,by simp⟩
 rw [h1] at hl
 injection hl with hl
 subst hl
 exact h2
def yK (self:aa→ByteArray→Int→Option (List ByteArray)) (s:aa) (k:Int) (out:List ByteArray) (x:ByteArray) : Option (List ByteArray⊕(List ByteArray×Int)) :=
 (self s x k).bind fun c=>(aU out c).bind fun b=>some (.inl b)
theorem Mm (self:aa→ByteArray→Int→Option (List ByteArray)) (l:List ByteArray) (s:aa) (k:Int) (hl:l.length≤1000000) : ah (jH self l s k) ab ([],0)=bh (yK self s k) (fun a=>(a,(l.length:Int))) [] l :=
 ay l (S:=List ByteArray×Int) (fun a k=>(a,k)) (yK self s k) (fun a=>(a,(l.length:Int))) (an hl) (fun i a x hx=>by
  have hk:=(zg.1 hx).1
  unfold jH yK
  simp only [bM hx,if_true,aD hx,zb,a6 hk hl,Ib,Option.map_some])
  (fun a=>by unfold jH; exact cI) []
theorem wX {B:Nat} {s:aa} (h:SzS B s) (hD:Deep s.bN) (hB:B≤1000000) (k:Int) : ∀ (d n:Nat) (p:ByteArray),4 - dA 6 p≤d→d < n→d≤4→∃ r,jk n s p k=some r∧r.length≤16 ^ d
 | d,0,p,_,hn,_=>absurd hn (Nat.not_lt_zero _)
 | d,n + 1,p,hp,hn,hd=>by
  obtain ⟨l,m,h1,h2,h3,h4⟩:=N9 h hB p k
  obtain ⟨l',e1,e2,_⟩:=tK s.bN p h.conf.sz
  rw [h1] at e1
  injection e1 with e1
  subst e1
  have hq:=hD.few
  unfold jk
  simp only [h2,zb]
  split
  ·exact ⟨_,rfl,by show 1≤16 ^ d; exact Nat.one_le_pow _ _ (by omega)⟩
  ·rename_i hne
   have hm : 0 < m.length:=by
    rcases Nat.eq_zero_or_pos m.length with h0 | h0
    ·rw [h0] at hne; exact absurd rfl hne
    ·exact h0
   have kid:=Co s.bN p h.conf.sz h1
   have kd:∀ x∈m,dA 6 p + 1=dA 6 x∧dA 6 x≤4:=fun x hx=>by
    obtain ⟨⟨q,hq1,hq2⟩,a1,a2⟩:=kid x (h4 x hx)
    subst hq2
    exact ⟨IQ a1 a2 (h.conf.sz.paths q hq1) (hD.deep q hq1),hD.deep q hq1⟩
   have hd0 : 0 < d:=by
    obtain ⟨a1,a2⟩:=kd m[0] (List.getElem_mem hm)
    omega
   obtain ⟨d',rfl⟩ : ∃ d',d=d' + 1:=⟨d - 1,by omega⟩
   have hpow : 16 ^ d'≤16 ^ 3:=Nat.pow_le_pow_right (by omega) (by omega)
   rw [Mm _ m s k (by omega)]
   obtain ⟨r,r1,r2⟩:=aR (g:=yK (jk n) s k) (fin:=fun a=>(a,(m.length:Int))) (fun j a=>a.length≤j * 16 ^ d') (fun r=>r.1.length≤m.length * 16 ^ d') m 0 [] (fun j a x hx ha=>by
    have hj:=(zg.1 hx).1
    obtain ⟨a1,a2⟩:=kd x (List.mem_of_getElem? hx)
    obtain ⟨c,c1,c2⟩:=wX h hD hB k d' n x (by omega) (by omega) (by omega)
    have hj2:(0 + j) * 16 ^ d'≤16 * 16 ^ 3:=Nat.mul_le_mul (by omega) hpow
    unfold yK
    rw [c1]
    simp only [zb]
    rw [aE (by omega)]
    refine ⟨_,rfl,fun a' e=>?_,fun r e=>by cases e⟩
    injection e with e
    subst e
    rw [List.length_append,Nat.succ_mul]
    omega) (fun a ha=>by simpa using ha) (by simp)
   rw [r1]
   refine ⟨_,rfl,Nat.le_trans r2 ?_⟩
   rw [Nat.pow_succ,Nat.mul_comm]
   exact Nat.mul_le_mul_left _ (by omega)
theorem Ho {B:Nat} {s:aa} (h:SzS B s) (hD:Deep s.bN) (hB:B≤1000000) (k:Int) : ∃ r,tS s k=some r∧r.length≤65536:=by
 obtain ⟨r,h1,h2⟩:=wX h hD hB k 4 ab ⟨#[114,111,111,116]⟩ (by omega) (by unfold ab; omega) (by omega)
 unfold tS
 rw [h1]
 exact ⟨_,rfl,h2⟩
def Ok {α : Type} (o:Option α) (P : α→Prop) : Prop:=∃ r,o=some r∧P r
theorem Ok.bind {α β : Type} {o:Option α} {f : α→Option β} {P : α→Prop} {Q : β→Prop} (h1:Ok o P) (h2:∀ r,P r→Ok (f r) Q) : Ok (Option.bind o f) Q:=by
 obtain ⟨r,e,hr⟩:=h1
 rw [e]
 exact h2 r hr
theorem Ok.ite {α : Type} {c:Prop} [Decidable c] {a b:Option α} {Q : α→Prop} (h1:c→Ok a Q) (h2 : ¬c→Ok b Q) : Ok (if c then a else b) Q:=by
 by_cases h:c
 ·rw [if_pos h]; exact h1 h
 ·rw [if_neg h]; exact h2 h
theorem Ok.pure {α : Type} {a : α} {Q : α→Prop} (h:Q a) : Ok (some a) Q:=⟨a,rfl,h⟩
theorem Ok.weak {α : Type} {o:Option α} {P Q : α→Prop} (h:Ok o P) (hq:∀ r,P r→Q r) : Ok o Q:=by
 obtain ⟨r,e,hr⟩:=h
 exact ⟨r,e,hq r hr⟩
theorem D7 {σ α τ : Type} {g : σ→α→Option (σ⊕τ)} {fin : σ→τ} (I:Nat→σ→Prop) (l:List α) (a : σ) (h:∀ (j:Nat) (a : σ) (x : α),l[j]? = some x→I j a→Ok (g a x) (fun o=>∃ a',o = .inl a'∧I (j + 1) a')) (hI:I 0 a) : Ok (bh g fin a l) (fun r=>∃ a',r=fin a'∧I l.length a'):=by
 refine aR I _ l 0 a (fun j a x hx ha=>?_) (fun a ha=>⟨a,rfl,by simpa using ha⟩) hI
 obtain ⟨o,e,a',h1,h2⟩:=h j a x hx (by simpa using ha)
 subst h1
 exact ⟨_,e,fun a'' e=>(by injection e with e; subst e; simpa using h2),fun r e=>(by cases e)⟩
theorem uA {σ α τ : Type} {g : σ→Int→α→Option (σ⊕τ)} {fin : σ→τ} (I:Nat→σ→Prop) (l:List α) (a : σ) (h:∀ (j:Nat) (a : σ) (x : α),l[j]? = some x→I j a→Ok (g a (j:Int) x) (fun o=>∃ a',o = .inl a'∧I (j + 1) a')) (hI:I 0 a) : Ok (nT g fin a 0 l) (fun r=>∃ a',r=fin a'∧I l.length a'):=by
 refine mJ I _ l 0 a (fun j a x hx ha=>?_) (fun a ha=>⟨a,rfl,by simpa using ha⟩) hI
 obtain ⟨o,e,a',h1,h2⟩:=h j a x hx (by simpa using ha)
 subst h1
 exact ⟨_,by simpa using e,fun a'' e=>(by injection e with e; subst e; simpa using h2),fun r e=>(by cases e)⟩
theorem jt {α : Type} {l:List α} {i:Int} (h0 : 0≤i) (h1:i < (l.length:Int)) : Ok (aw l i) (fun x=>x∈l):=by
 obtain ⟨x,h⟩:=J2 h0 h1
 exact ⟨x,h.1,h.2⟩
theorem Dj {a n:Int} (hn : 0 < n) : -n < a.tmod n∧a.tmod n < n:=by
 constructor
 ·have:=Int.lt_tmod_of_pos a hn; omega
 ·exact Int.tmod_lt_of_pos a hn
def eM (v_s:aa) (cu:Int) (st:(List bz)) (x_:bz) : Option (((List bz))⊕(((List bz)×Int))) :=
 let v_l:=st
 if (x_.bJ != cu)=true then
 (aU v_l [x_]).bind fun b4=>let v_l:(List bz):=b4
 some (.inl v_l)
 else
 some (.inl v_l)
theorem wH (v_s:aa) (cu:Int) (a_:(List bz)) (hl:v_s.aQ.length≤1000000) : ah (jG v_s cu) ab (a_,(0))=bh (eM v_s cu) (fun a_=>(a_,((v_s.aQ.length:Int)))) a_ v_s.aQ :=
 ay v_s.aQ (S:=(List bz)×Int) (fun a_ k_=>(a_,(k_))) (eM v_s cu) (fun a_=>(a_,((v_s.aQ.length:Int)))) (an hl) (fun k a x hx=>by
  unfold jG eM; exact bK)
  (fun a=>by unfold jG; exact cI) a_
def jF (v_s:aa) (cu:Int) (st:Unit) (x_:bz) : Option ((Unit)⊕((Int)⊕(bz×Bool))) :=
 if (x_.bJ==cu)=true then
 some (.inr (.inr (x_,true)))
 else
 some (.inl ())
theorem zO (v_s:aa) (cu:Int) (a_:Unit) (hl:v_s.aQ.length≤1000000) : ah (lY v_s cu) ab (0)=bh (jF v_s cu) (fun a_=>(.inl ((v_s.aQ.length:Int)))) a_ v_s.aQ :=
 ay v_s.aQ (S:=Int) (fun a_ k_=>(k_)) (jF v_s cu) (fun a_=>(.inl ((v_s.aQ.length:Int)))) (an hl) (fun k a x hx=>by
  unfold lY jF; exact bK)
  (fun a=>by unfold lY; exact cI) a_
def ft (v_s:aa) (fc:Int) (cK:Int) (st:Unit) (x_:bz) : Option ((Unit)⊕((Int)⊕(Bool))) :=
 (if (x_.bG==fc)=true then some (x_.bq==cK) else some false).bind fun q4=>if q4=true then
 some (.inr (.inr true))
 else
 some (.inl ())
theorem xZ (v_s:aa) (fc:Int) (cK:Int) (a_:Unit) (hl:v_s.aQ.length≤1000000) : ah (kp v_s fc cK) ab (0)=bh (ft v_s fc cK) (fun a_=>(.inl ((v_s.aQ.length:Int)))) a_ v_s.aQ :=
 ay v_s.aQ (S:=Int) (fun a_ k_=>(k_)) (ft v_s fc cK) (fun a_=>(.inl ((v_s.aQ.length:Int)))) (an hl) (fun k a x hx=>by
  unfold kp ft; exact bK)
  (fun a=>by unfold kp; exact cI) a_
theorem uG {α : Type} (key : α→Int) (x : α) (l:List α) (a : α) : dn key (x::l) a=if key x < key a then x::dn key l a else if key x=key a then a::l else a::x::l:=by
 unfold dn
 by_cases h:key x < key a
 ·rw [if_pos h]
  have hd:decide (key x < key a)=true:=by simpa using h
  simp only [List.takeWhile_cons,hd,if_true,List.length_cons,List.take_succ_cons,List.getElem?_cons_succ,List.cons_append]
  generalize (l.takeWhile fun x=>decide (key x < key a)).length=K
  cases l[K]? with
  | none=>rfl
  | some y =>
   dsimp only
   split <;> rfl
 ·rw [if_neg h]
  have hd:decide (key x < key a)=false:=by simpa using h
  simp only [List.takeWhile_cons,hd,zf,if_false,List.length_nil,List.take_zero,List.nil_append,List.getElem?_cons_zero,Nat.zero_add]
  by_cases he:key x=key a
  ·rw [if_pos he]
   have hb:(key x==key a)=true:=by simpa using he
   simp [hb]
  ·rw [if_neg he]
   have hb:(key x==key a)=false:=by simpa using he
   simp [hb]
theorem rl {α : Type} (key : α→Int) (a : α) : ∀ l:List α,kW key l→(∃ x∈l,key x=key a)→(dn key l a).length=l.length
 | [],_,⟨x,hx,_⟩=>by cases hx
 | y::l,hs,⟨x,hx,he⟩=>by
  have hs':=List.pairwise_cons.1 hs
  rw [uG]
  split
  ·rename_i h
   rcases List.mem_cons.1 hx with rfl | hx
   ·omega
   ·rw [List.length_cons,List.length_cons,rl key a l hs'.2 ⟨x,hx,he⟩]
  ·split
   ·rfl
   ·rename_i h1 h2
    rcases List.mem_cons.1 hx with rfl | hx
    ·exact absurd he h2
    ·have:=hs'.1 x hx
     omega
theorem i7 {α : Type} (key : α→Int) (a : α) : ∀ l:List α,kW key l→kW key (dn key l a)
 | [],_=>List.pairwise_singleton _ _
 | y::l,hs=>by
  have hs':=List.pairwise_cons.1 hs
  rw [uG]
  split
  ·rename_i h
   refine List.pairwise_cons.2 ⟨fun x hx=>?_,i7 key a l hs'.2⟩
   rcases pM hx with rfl | hx
   ·exact h
   ·exact hs'.1 x hx
  ·split
   ·rename_i h1 h2
    exact List.pairwise_cons.2 ⟨fun x hx=>by have:=hs'.1 x hx; omega,hs'.2⟩
   ·rename_i h1 h2
    refine List.pairwise_cons.2 ⟨fun x hx=>?_,hs⟩
    rcases List.mem_cons.1 hx with rfl | hx
    ·omega
    ·have:=hs'.1 x hx; omega
theorem Ee {α : Type} (key : α→Int) (a : α) (i:Int) : ∀ l:List α,(∃ x∈l,key x=i)→∃ x∈dn key l a,key x=i
 | [],⟨x,hx,_⟩=>by cases hx
 | y::l,⟨x,hx,he⟩=>by
  rw [uG]
  split
  ·rcases List.mem_cons.1 hx with rfl | hx
   ·exact ⟨x,List.mem_cons_self,he⟩
   ·obtain ⟨z,hz,hz2⟩:=Ee key a i l ⟨x,hx,he⟩
    exact ⟨z,List.mem_cons_of_mem _ hz,hz2⟩
  ·split
   ·rename_i h1 h2
    rcases List.mem_cons.1 hx with rfl | hx
    ·exact ⟨a,List.mem_cons_self,by omega⟩
    ·exact ⟨x,List.mem_cons_of_mem _ hx,he⟩
   ·exact ⟨x,List.mem_cons_of_mem _ hx,he⟩
theorem SzS.putIn {B:Nat} {s:aa} (h:SzS B s) (hs:kW aq.fId s.aj) {a:aq} (hi:∃ x∈s.aj,x.fId=a.fId) (ha:SzA B a) : SzS B { s with aj:=dn aq.fId s.aj a } :=
 ⟨h.conf,h.nodes,by show (dn _ _ _).length≤B; rw [rl _ _ _ hs hi]; exact h.apps,h.conts,h.slots,h.plans,fun x hx=>by
  rcases pM hx with rfl | hx
  ·exact ha
  ·exact h.app x hx⟩
def Wo (a:aM) (n:aX) : Int:=(nh a n).getD 0
theorem zU (a:aM) (n:aX) : nh a n=some (Wo a n):=by
 have:∃ r,nh a n=some r:=by
  unfold nh
  simp only [du,orB,zb]
  repeat' split
  all_goals exact ⟨_,rfl⟩
 obtain ⟨r,e⟩:=this
 unfold Wo
 rw [e]
 rfl
def aaK (a:aM) (n:aX) : Bool:=(tR a n).getD false
theorem Gm (a:aM) (n:aX) : tR a n=some (aaK a n):=by
 have:∃ r,tR a n=some r:=by
  unfold tR
  simp only [zU,zb]
  repeat' split
  all_goals exact ⟨_,rfl⟩
 obtain ⟨r,e⟩:=this
 unfold aaK
 rw [e]
 rfl
theorem Gk {B:Nat} {s:aa} (h:SzS B s) (hB:B≤1000000) (q:ByteArray) (a:aM) : ∃ r,zS s q a=some r:=by
 obtain ⟨u,hu⟩:=fu h hB q a.aY
 have k2:=h.nodes.1
 unfold zS
 simp only [hu,eE,n9 s _ _ h.conf (Nat.le_trans k2 hB),kF,zb]
 exact ⟨_,rfl⟩
theorem Cv {B:Nat} {s:aa} (h:SzS B s) (hB:B≤1000000) (q:ByteArray) (k u:Int) : ∃ r,vu s q k u=some r:=by
 obtain ⟨v,hv⟩:=CZ h hB q k u
 have k2:=h.nodes.1
 unfold vu
 simp only [hv,P1 s _ _ h.conf (Nat.le_trans k2 hB),kF,zb]
 exact ⟨_,rfl⟩
theorem SzS.slot {B:Nat} {s:aa} (h:SzS B s) {l:List bz} (hl:l.length≤B) : SzS B { s with aQ:=l } := ⟨h.conf,h.nodes,h.apps,h.conts,hl,h.plans,h.app⟩
theorem SzS.cont {B:Nat} {s:aa} (h:SzS B s) {l:List am} (hl:l.length≤B) : SzS B { s with ac:=l } := ⟨h.conf,h.nodes,h.apps,hl,h.slots,h.plans,h.app⟩
theorem SzS.seq {B:Nat} {s:aa} (h:SzS B s) (n:Int) : SzS B { s with sq:=n } := ⟨h.conf,h.nodes,h.apps,h.conts,h.slots,h.plans,h.app⟩
theorem wW (s:aa) (n:Int) (hl:s.aQ.length≤1000000) : fI s n=some { s with aQ:=s.aQ.filter fun c=>c.bJ != n } := by
 unfold fI
 dsimp only
 have e:eM s n=fun acc x=>if (x.bJ != n)=true then (aU acc [id' x]).map (fun a=>(.inl a:List bz⊕(List bz×Int))) else some (.inl acc):=by
  funext acc x
  unfold eM
  dsimp only [id']
  split
  ·cases aU acc [x] <;> rfl
  ·rfl
 rw [wH s n [] hl,e,cg (fun c:bz=>c.bJ != n) id' _ s.aQ [] (by simpa using hl)]
 simp only [zb,List.nil_append,yH]
theorem NX (s:aa) (n:Int) (hl:s.aQ.length≤1000000) : ∃ r,zP s n=some r:=by
 unfold zP
 dsimp only
 rw [zO s n () hl,show jF s n=fun (_:Unit) x=>if (x.bJ==n)=true then some (.inr (.inr (x,true))) else some (.inl ()) from rfl,
  kL (fun x:bz=>x.bJ==n) (fun x=>(Sum.inr (x,true) : Int⊕bz×Bool)) (.inl (s.aQ.length:Int)) s.aQ]
 simp only [zb]
 cases s.aQ.find? fun x=>x.bJ==n <;> exact ⟨_,rfl⟩
theorem K6 (s:aa) (a p:Int) (hl:s.aQ.length≤1000000) : ∃ r,wl s a p=some r:=by
 unfold wl
 dsimp only
 rw [xZ s a p () hl]
 obtain ⟨r,e1,_⟩:=aR (g:=ft s a p) (fin:=fun _=>(.inl (s.aQ.length:Int))) (fun _ _=>True) (fun _=>True) s.aQ 0 () (fun j b x hx _=>by
  unfold ft
  simp only [du,zb]
  split <;> exact ⟨_,rfl,fun _ _=>trivial,fun _ _=>trivial⟩) (fun _ _=>trivial) trivial
 rw [e1]
 simp only [zb]
 cases r <;> exact ⟨_,rfl⟩
theorem N3 {B:Nat} {s:aa} (h:SzS B s) (hB:B + 1≤1000000) (x:bz) : ∃ r,sO s x=some r∧SzS (B + 1) r∧r.aj=s.aj:=by
 have k1:=h.slots
 obtain ⟨K,hK1,hK2⟩:=nX s.aQ (by omega) (f:=lZ s x) (fun i y hy=>by
  have hi:=(zg.1 hy).1
  refine ⟨decide (y.bJ < x.bJ),?_⟩
  unfold lZ
  simp only [bM hy,if_true,aD hy,zb,a6 hi (show s.aQ.length≤1000000 by omega)]) (by unfold lZ; simp only [bE,zf,if_false,zb])
 unfold sO
 dsimp only
 rw [hK1]
 simp only [zb]
 rw [mS hK2]
 simp only [zb]
 rw [aE (by simp; omega)]
 simp only [zb]
 rw [aE (by simp; omega)]
 simp only [zb]
 rw [jQ hK2]
 simp only [zb]
 rw [aE (by simp; omega)]
 exact ⟨_,rfl,(h.mono (Nat.le_succ _)).slot (by simp; omega),rfl⟩
theorem zR {B:Nat} {s:aa} (h:SzS B s) (hB:B + 2≤1000000) (n:aX) {a:aq} (ha:SzA B a) (x:aM) : ∃ r,ng s n a x=some r∧SzS (B + 2) r.1∧(kW aq.fId s.aj→kW aq.fId r.1.aj):=by
 have k1:=h.conts; have k2:=h.apps; have k3:=ha.asks; have k4:=ha.grants
 obtain ⟨t,t1,t2⟩:=PP a.bI x.bq (by omega)
 unfold ng
 simp only [t1,zb]
 generalize hc:(⟨_,a.fId,n.fId,x.cF,x.bq,n.aY,(a.da==1),0⟩ : am)=c
 have hs:SzS B { s with sq:=i64.wrap (s.sq + 1) } := h.seq _
 generalize hS:({ s with sq:=i64.wrap (s.sq + 1) } : aa)=S at hs ⊢
 have hcl:S.ac=s.ac:=by rw [← hS]
 have hal:S.aj=s.aj:=by rw [← hS]
 have fin:∀ b:aq,SzA (B + 1) b→∃ r,(Option.bind (ah (iz S c) ab 0) fun r11=>Option.bind (hiO s.ac r11) fun b12=>Option.bind (aU ([] : List am) b12) fun b13=>Option.bind (aU b13 [c]) fun b14=>Option.bind (loO s.ac r11) fun b15=>Option.bind (aU b14 b15) fun b16=>Option.bind (eT { s with ac:=b16,sq:=i64.wrap (s.sq + 1) } b) fun c17=>some (c17,c))=some r∧SzS (B + 2) r.1∧(kW aq.fId s.aj→kW aq.fId r.1.aj):=by
  intro b hb
  obtain ⟨K,hK1,hK2⟩:=nX s.ac (by omega) (f:=iz S c) (fun i y hy=>by
   have hi:=(zg.1 hy).1
   refine ⟨decide (y.fId < c.fId),?_⟩
   unfold iz
   simp only [hcl,bM hy,if_true,aD hy,zb,a6 hi (show s.ac.length≤1000000 by omega)]) (by unfold iz; simp only [hcl,bE,zf,if_false,zb])
  rw [hK1]
  simp only [zb]
  rw [mS hK2]
  simp only [zb]
  rw [aE (by simp; omega)]
  simp only [zb]
  rw [aE (by simp; omega)]
  simp only [zb]
  rw [jQ hK2]
  simp only [zb]
  rw [aE (by simp; omega)]
  simp only [zb]
  rw [gZ _ _ (by show s.aj.length + 1≤_; omega)]
  refine ⟨_,rfl,?_⟩
  have hlen:(([] ++ s.ac.take K ++ [c])++s.ac.drop K).length≤B + 1:=by simp; omega
  have h2:SzS (B + 1) { s with ac:=([] ++ s.ac.take K ++ [c])++s.ac.drop K,sq:=i64.wrap (s.sq + 1) } := by
   have hm:=h.mono (Nat.le_succ B)
   exact ⟨hm.conf,hm.nodes,hm.apps,hlen,hm.slots,hm.plans,hm.app⟩
  exact ⟨h2.put (hb.mono (Nat.le_succ _)),fun hs=>i7 _ _ _ hs⟩
 have ha1:=ha.mono (Nat.le_succ B)
 split
 ·simp only [zb]
  refine fin _ ?_
  exact ⟨⟨ha1.queue.1,h.nodes.2.2.1⟩,Nat.zero_le _,ha1.grants,ha1.kills,ha1.told,ha1.lost⟩
 ·rw [aE (by simp; omega)]
  simp only [zb]
  rw [aE (by simp; omega)]
  simp only [zb]
  refine fin _ ?_
  exact ⟨ha1.queue,by show t.1.length≤_; omega,by simp; omega,ha1.kills,ha1.told,ha1.lost⟩
def Ay (B:Nat) (s t:aa) : Prop:=SzS B t∧kW aq.fId t.aj∧∀ i,(∃ x∈s.aj,x.fId=i)→∃ x∈t.aj,x.fId=i
theorem Q6 {B:Nat} {s:aa} (h:SzS B s) (hs:kW aq.fId s.aj) (hB:B + 2≤1000000) (n:aX) {a:aq} (hi:∃ x∈s.aj,x.fId=a.fId) (ha:SzA B a) (x:aM) (first:Bool) : ∃ r,wm s n a x first=some r∧SzS (B + 2) r.1∧kW aq.fId r.1.aj∧(r.2.1=0→Ay B s r.1):=by
 have k1:=h.apps; have k2:=h.slots; have k3:=ha.asks; have k4:=h.conts; have k5:=h.nodes.1
 have stay:Ay B s s:=⟨h,hs,fun _ e=>e⟩
 have h2:=h.mono (show B≤B + 2 by omega)
 obtain ⟨d,hd⟩:=Gk h (by omega) a.bC x
 obtain ⟨m,hm,hm2⟩:=PQ a.bI x.bq (by omega)
 obtain ⟨o,ho⟩:=CB h (by omega) a.bC ha.queue.1 n.aY x.cF
 obtain ⟨g,hg,hg2,hg3⟩:=zR h hB n ha x
 obtain ⟨p,hp⟩:=K6 s a.fId x.bq (by omega)
 obtain ⟨q,hq,hq2,hq3⟩:=N3 h (by omega) (⟨n.fId,a.fId,x.bq⟩ : bz)
 have hput:∃ t,eT s { a with bI:=m } = some t∧Ay B s t:=by
  refine ⟨_,gZ s _ (by omega),h.putIn hs hi ⟨ha.queue,by show m.length≤B; omega,ha.grants,ha.kills,ha.told,ha.lost⟩,i7 _ _ _ hs,fun i e=>Ee _ _ i _ e⟩
 obtain ⟨t,ht,ht2⟩:=hput
 unfold wm
 simp only [hd,zU,Gm,kF,orB,du,zb,hm,ht,ho,hg,hp,hq,FV s n.fId (show s.aB.length≤1000000 by omega) (show s.ac.length≤1000000 by omega)]
 split
 ·exact ⟨_,rfl,h2,hs,fun _=>stay⟩
 split
 ·split
  ·exact ⟨_,rfl,ht2.1.mono (by omega),ht2.2.1,fun _=>ht2⟩
  ·exact ⟨_,rfl,h2,hs,fun _=>stay⟩
 split
 ·exact ⟨_,rfl,h2,hs,fun _=>stay⟩
 split
 ·exact ⟨_,rfl,hg2,hg3 hs,fun e=>absurd (show (1:Int)=0 from e) (by decide)⟩
 split
 ·exact ⟨_,rfl,hq2.mono (by omega),by show kW _ q.aj; rw [hq3]; exact hs,fun e=>absurd (show (2:Int)=0 from e) (by decide)⟩
 ·exact ⟨_,rfl,h2,hs,fun _=>stay⟩
theorem WH {s:aa} {id:Int} (h:∃ x∈s.aj,x.fId=id) : bV s id∈s.aj∧(bV s id).fId=id:=by
 obtain ⟨x,hx,e⟩:=h
 unfold bV
 cases hf:s.aj.find? fun c=>c.fId==id with
 | none =>
  have:=List.find?_eq_none.1 hf x hx
  simp [e] at this
 | some a =>
  have h2:=List.find?_some hf
  exact ⟨List.mem_of_find?_eq_some hf,by simpa using h2⟩
def AA (B:Nat) (t:aa) : Prop:=SzS (B + 2) t∧kW aq.fId t.aj
theorem Td {B:Nat} {s:aa} (h:SzS B s) (hs:kW aq.fId s.aj) (hB:B + 2≤1000000) (n:aX) (l:List aM) (a:aq) (hl:a.bI=l) (hl2:l.length≤B) (ids:List Int) (hI:∀ i∈ids,∃ x∈s.aj,x.fId=i) (j:Nat) (id:Int) (hj:ids[j]? = some id) (first:Bool) : ∃ r,ah (iu a (j:Int) ids n first) ab (s,0)=some r∧(match r with | .inl m=>Ay B s m.1 | .inr m=>AA B m.1):=by
 refine aL (fun st=>Ay B s st.1∧∃ k:Nat,st.2=(k:Int)∧k≤l.length) (fun st=>l.length - st.2.toNat) _ (fun st ⟨⟨q1,q2,q3⟩,k,h1,h2⟩=>?_) ab (s,0) ⟨⟨h,hs,fun _ e=>e⟩,0,rfl,Nat.zero_le _⟩ (by have:=an (show l.length≤1000000 by omega); omega)
 have k1:=q1.apps
 unfold iu
 simp only [h1,hl]
 by_cases hlt:k < l.length
 ·have g1:l[k]? = some l[k]:=zq hlt
  have g2:=WH (q3 id (hI id (List.mem_of_getElem? hj)))
  obtain ⟨r,r1,r2,r3,r4⟩:=Q6 q1 q2 hB n (a:=bV st.1 id) ⟨_,g2.1,rfl⟩ (q1.get id) l[k] first
  simp only [bM g1,if_true,aD g1,aD hj,dH st.1 id (by omega),r1,zb,a6 hlt (show l.length≤1000000 by omega)]
  split
  ·exact .inr ⟨_,rfl,r2,r3⟩
  ·rename_i hne
   have h0:r.2.1=0:=by simpa using hne
   obtain ⟨t1,t2,t3⟩:=r4 h0
   exact .inl ⟨_,rfl,⟨⟨t1,t2,fun i e=>t3 i (q3 i e)⟩,k + 1,rfl,hlt⟩,by simp only [zt]; omega⟩
 ·have:k=l.length:=by omega
  subst this
  simp only [bE,zf,if_false]
  exact .inr ⟨_,rfl,q1,q2,q3⟩
theorem Te {B:Nat} {s:aa} (h:SzS B s) (hs:kW aq.fId s.aj) (hB:B + 2≤1000000) (n:aX) (ids:List Int) (hI:∀ i∈ids,∃ x∈s.aj,x.fId=i) (hI2:ids.length≤1000000) (lv:List ByteArray) (i:Nat) (q:ByteArray) (hi:lv[i]? = some q) (first:Bool) : ∃ r,ah (iw ids (i:Int) lv n first) ab (s,0)=some r∧(match r with | .inl m=>Ay B s m.1 | .inr m=>AA B m.1):=by
 refine aL (fun st=>Ay B s st.1∧∃ k:Nat,st.2=(k:Int)∧k≤ids.length) (fun st=>ids.length - st.2.toNat) _ (fun st ⟨⟨q1,q2,q3⟩,k,h1,h2⟩=>?_) ab (s,0) ⟨⟨h,hs,fun _ e=>e⟩,0,rfl,Nat.zero_le _⟩ (by have:=an hI2; omega)
 have k1:=q1.apps
 unfold iw
 simp only [h1]
 by_cases hlt:k < ids.length
 ·have g1:ids[k]? = some ids[k]:=zq hlt
  obtain ⟨m,hm⟩:=Cv q1 (by omega) q n.aY (bV st.1 ids[k]).cy
  simp only [bM g1,if_true,aD g1,aD hi,dH st.1 _ (show st.1.aj.length≤1000000 by omega),hm,zb,a6 hlt hI2]
  split
  ·exact .inl ⟨_,rfl,⟨⟨q1,q2,q3⟩,k + 1,rfl,hlt⟩,by simp only [zt]; omega⟩
  ·have ha:=(q1.get ids[k]).asks
   obtain ⟨r,r1,r2⟩:=Td q1 q2 hB n _ (bV st.1 ids[k]) rfl ha ids (fun i hi=>q3 i (hI i hi)) k _ g1 first
   rw [r1]
   simp only [zb]
   cases r with
   | inr m=>exact .inr ⟨_,rfl,r2⟩
   | inl m =>
    obtain ⟨t1,t2,t3⟩:=r2
    exact .inl ⟨_,rfl,⟨⟨t1,t2,fun i e=>t3 i (q3 i e)⟩,k + 1,rfl,hlt⟩,by simp only [zt]; omega⟩
 ·have:k=ids.length:=by omega
  subst this
  simp only [bE,zf,if_false]
  exact .inr ⟨_,rfl,q1,q2,q3⟩
theorem zQ {B:Nat} {s:aa} (h:SzS B s) (hs:kW aq.fId s.aj) (hB:B + 2≤1000000) (n:aX) (first:Bool) : ∃ r,er s n first=some r∧AA B r.1∧(r.2.1=0→SzS B r.1∨AA B r.1):=by
 obtain ⟨lv,h1,h2⟩:=Ho h h.conf.deep (by omega) n.aY
 have hl:lv.length≤1000000:=by omega
 unfold er
 simp only [h1,zb]
 obtain ⟨r,r1,r2⟩:=aL (f:=iy lv n first) (fun st=>Ay B s st.1∧∃ k:Nat,st.2=(k:Int)∧k≤lv.length) (fun st=>lv.length - st.2.toNat) (fun r=>match r with | .inl m=>Ay B s m.1 | .inr m=>AA B m.1) (fun st ⟨⟨q1,q2,q3⟩,k,h1,h2⟩=>by
  have k1:=q1.apps
  unfold iy
  simp only [h1]
  by_cases hlt:k < lv.length
  ·have g1:lv[k]? = some lv[k]:=zq hlt
   obtain ⟨ids,a1,a2,a3⟩:=Oa q1 (by omega) lv[k]
   obtain ⟨r,r1,r2⟩:=Te q1 q2 hB n ids a3 (by omega) lv k _ g1 first
   simp only [bM g1,if_true,aD g1,a1,r1,zb,a6 hlt hl]
   cases r with
   | inr m=>exact .inr ⟨_,rfl,r2⟩
   | inl m =>
    obtain ⟨t1,t2,t3⟩:=r2
    exact .inl ⟨_,rfl,⟨⟨t1,t2,fun i e=>t3 i (q3 i e)⟩,k + 1,rfl,hlt⟩,by simp only [zt]; omega⟩
  ·have:k=lv.length:=by omega
   subst this
   simp only [bE,zf,if_false]
   exact .inr ⟨_,rfl,q1,q2,q3⟩) ab (s,0) ⟨⟨h,hs,fun _ e=>e⟩,0,rfl,Nat.zero_le _⟩ (by have:=an hl; omega)
 rw [r1]
 simp only [zb]
 cases r with
 | inr m=>exact ⟨_,rfl,r2,fun _=>.inr r2⟩
 | inl m=>exact ⟨_,rfl,⟨r2.1.mono (by omega),r2.2.1⟩,fun _=>.inl r2.1⟩
theorem AA.mono {B C:Nat} {t:aa} (h:AA B t) (hc:B≤C) : AA C t:=⟨h.1.mono (by omega),h.2⟩
theorem N0 {B:Nat} {s:aa} (h:SzS B s) (hs:kW aq.fId s.aj) (hB:B + 2≤1000000) (n:aX) (x:bz) : ∃ r,sN s n x=some r∧AA B r.1∧(r.2.2.2=false→SzS B r.1):=by
 have k1:=h.apps; have k2:=h.slots; have k4:=h.conts; have k5:=h.nodes.1
 have ha:=h.get x.bG
 have k3:=ha.asks
 have h2:=h.mono (show B≤B + 2 by omega)
 have hn:SzS B { s with aQ:=s.aQ.filter fun c=>c.bJ != n.fId } := h.slot (Nat.le_trans (List.length_filter_le _ _) k2)
 obtain ⟨d,hd⟩:=Gk h (by omega) (bV s x.bG).bC (WJ (bV s x.bG).bI x.bq)
 obtain ⟨m,hm⟩:=Cv h (by omega) (bV s x.bG).bC n.aY (bV s x.bG).cy
 obtain ⟨o,ho⟩:=CB h (by omega) (bV s x.bG).bC ha.queue.1 n.aY (WJ (bV s x.bG).bI x.bq).cF
 obtain ⟨g,hg,hg2,hg3⟩:=zR hn hB n ha (WJ (bV s x.bG).bI x.bq)
 unfold sN
 simp only [dH s x.bG (show s.aj.length≤1000000 by omega),Uv (bV s x.bG).bI x.bq (show (bV s x.bG).bI.length≤1000000 by omega),dF,hd,hm,ho,Gm,kF,wW s n.fId (show s.aQ.length≤1000000 by omega),FV s n.fId (show s.aB.length≤1000000 by omega) (show s.ac.length≤1000000 by omega),orB,du,zb]
 split
 ·exact ⟨_,rfl,⟨hn.mono (by omega),hs⟩,fun _=>hn⟩
 split
 ·exact ⟨_,rfl,⟨h2,hs⟩,fun _=>h⟩
 ·rw [hg]
  exact ⟨_,rfl,⟨hg2,hg3 hs⟩,fun e=>by cases e⟩
theorem Q7 {B:Nat} {s:aa} (h:SzS B s) (hs:kW aq.fId s.aj) (hB:B + 6≤1000000) (id:Int) : ∃ r,wn s id=some r∧AA (B + 4) r.1:=by
 have k1:=h.nodes.1; have k2:=h.slots
 have two:∀ (t:aa),AA B t→∃ r,(Option.bind (er t (eW s id) true) fun c7=>if (c7.2.1 != 0)=true then some (c7.1,c7.2.1,c7.2.2) else Option.bind (er c7.1 (eW s id) false) fun c8=>some c8)=some r∧AA (B + 4) r.1:=fun t ⟨t1,t2⟩=>by
  obtain ⟨u,u1,⟨u2,u3⟩,_⟩:=zQ t1 t2 (by omega) (eW s id) true
  rw [u1]
  simp only [zb]
  split
  ·exact ⟨_,rfl,u2.mono (by omega),u3⟩
  ·obtain ⟨v,v1,⟨v2,v3⟩,_⟩:=zQ u2 u3 (by omega) (eW s id) false
   rw [v1]
   exact ⟨_,rfl,v2.mono (by omega),v3⟩
 obtain ⟨c,hc⟩:=NX s id (by omega)
 unfold wn
 simp only [na s id (show s.aB.length≤1000000 by omega),orB,hc,zb]
 split
 ·exact ⟨_,rfl,h.mono (by omega),hs⟩
 split
 ·obtain ⟨k,k1,k2,_⟩:=N0 h hs (by omega) (eW s id) c.1
  rw [k1]
  simp only [zb]
  split
  ·exact ⟨_,rfl,k2.mono (by omega)⟩
  ·exact two _ k2
 ·exact two _ ⟨h.mono (by omega),hs⟩
theorem N5 {B:Nat} {s:aa} (h:SzS B s) (hs:kW aq.fId s.aj) (hB:B + 100≤1000000) (id:Int) : ∃ r,qy s id=some r∧AA (B + 24) r.1∧r.2.length≤3:=by
 unfold qy
 dsimp only
 obtain ⟨r,r1,r2⟩:=aL (f:=ji id) (fun st=>∃ k:Nat,st.2.2=(k:Int)∧k≤3∧st.2.1.length=k∧SzS (B + 6 * k) st.1∧kW aq.fId st.1.aj) (fun st=>3 - st.2.2.toNat) (fun r=>AA (B + 24) r.1∧r.2.1.length≤3) (fun st ⟨k,h1,h2,h3,h4,h5⟩=>by
  unfold ji
  simp only [h1]
  by_cases hlt:k < 3
  ·have hd:decide ((k:Int) < 3)=true:=by simp; omega
   obtain ⟨c,c1,c2,c3⟩:=Q7 h4 h5 (by omega) id
   simp only [hd,if_true,c1,zb]
   split
   ·exact .inr ⟨_,rfl,⟨c2.mono (by omega),c3⟩,by show st.2.1.length≤3; omega⟩
   ·rw [aE (by simp; omega)]
    simp only [zb,a6 hlt (show 3≤1000000 by omega)]
    exact .inl ⟨_,rfl,⟨k + 1,rfl,hlt,by simp; omega,c2.mono (by omega),c3⟩,by simp only [zt]; omega⟩
  ·have hd:decide ((k:Int) < 3)=false:=by simp; omega
   simp only [hd,zf,if_false]
   exact .inr ⟨_,rfl,⟨h4.mono (by omega),h5⟩,by show st.2.1.length≤3; omega⟩) ab (s,[],0) ⟨0,rfl,by omega,rfl,h.mono (by omega),hs⟩ (by show 3 - (0:Int).toNat < ab; unfold ab; omega)
 rw [r1]
 exact ⟨_,rfl,r2⟩
theorem mP {σ τ : Type} {f : σ→Option (σ⊕τ)} (I : σ→Prop) (Q : τ→Prop) (step:∀ s r,I s→f s=some r→match r with | .inl s'=>I s' | .inr t=>Q t) : ∀ (n:Nat) (s : σ) (t : τ),I s→ah f n s=some t→Q t
 | 0,s,t,_,h=>by cases h
 | n + 1,s,t,hi,h=>by
  simp only [ah] at h
  cases hf:f s with
  | none=>rw [hf] at h; cases h
  | some r =>
   have:=step s r hi hf
   rw [hf] at h
   cases r with
   | inl s'=>exact mP I Q step n s' t this h
   | inr t'=>injection h with h; subst h; exact this
theorem y5 {α : Type} {l m z:List α} (h:aU l m=some z) : z.length=l.length + m.length∧z=l++m:=by
 unfold aU at h
 split at h
 ·injection h with h; subst h; simp
 ·cases h
theorem w7 {s t:aa} {a:aq} (h:eT s a=some t) : t.ac=s.ac:=by
 unfold eT at h
 dsimp only at h
 obtain ⟨_,_,h⟩:=bv h
 obtain ⟨_,_,h⟩:=bv h
 obtain ⟨_,_,h⟩:=bv h
 obtain ⟨_,_,h⟩:=bv h
 obtain ⟨_,_,h⟩:=bv h
 obtain ⟨_,_,h⟩:=bv h
 obtain ⟨_,_,h⟩:=bv h
 obtain ⟨_,_,h⟩:=bv h
 injection h with h
 subst h
 rfl
theorem sP {s t:aa} {n:Int} (h:fI s n=some t) : t.ac=s.ac:=by
 unfold fI at h
 dsimp only at h
 obtain ⟨_,_,h⟩:=bv h
 injection h with h
 subst h
 rfl
theorem Gj {s t:aa} {x:bz} (h:sO s x=some t) : t.ac=s.ac:=by
 unfold sO at h
 dsimp only at h
 obtain ⟨_,_,h⟩:=bv h
 obtain ⟨_,_,h⟩:=bv h
 obtain ⟨_,_,h⟩:=bv h
 obtain ⟨_,_,h⟩:=bv h
 obtain ⟨_,_,h⟩:=bv h
 obtain ⟨_,_,h⟩:=bv h
 injection h with h
 subst h
 rfl
theorem Mu {α : Type} {l a b:List α} {k:Int} (h1:hiO l k=some a) (h2:loO l k=some b) : a.length + b.length=l.length:=by
 unfold hiO at h1
 unfold loO at h2
 by_cases hc : 0≤k∧k.toNat≤l.length
 ·rw [if_pos hc] at h1 h2
  injection h1 with h1
  injection h2 with h2
  subst h1 h2
  rw [List.length_take,List.length_drop]
  omega
 ·rw [if_neg hc] at h1
  cases h1
theorem ud {s:aa} {n:aX} {a:aq} {x:aM} {r:aa×am} (h:ng s n a x=some r) : r.1.ac.length≤s.ac.length + 1:=by
 unfold ng at h
 dsimp only at h
 obtain ⟨_,_,h⟩:=bv h
 obtain ⟨_,_,h⟩:=bv h
 obtain ⟨_,_,h⟩:=bv h
 obtain ⟨b12,h12,h⟩:=bv h
 obtain ⟨b13,h13,h⟩:=bv h
 obtain ⟨b14,h14,h⟩:=bv h
 obtain ⟨b15,h15,h⟩:=bv h
 obtain ⟨b16,h16,h⟩:=bv h
 obtain ⟨c17,h17,h⟩:=bv h
 injection h with h
 subst h
 have e:=w7 h17
 have k1:=Mu h12 h15
 have k2:=(y5 h13).1
 have k3:=(y5 h14).1
 have k4:=(y5 h16).1
 show c17.ac.length≤_
 rw [e]
 show b16.length≤_
 simp only [List.length_nil,List.length_singleton] at k2 k3
 omega
theorem Hm {s:aa} {n:aX} {a:aq} {x:aM} {f:Bool} {r:aa×Int×am} (h:wm s n a x f=some r) : r.1.ac.length≤s.ac.length + 1∧(r.2.1=0→r.1.ac.length≤s.ac.length):=by
 unfold wm at h
 dsimp only at h
 obtain ⟨_,_,h⟩:=bv h
 obtain ⟨_,_,h⟩:=bv h
 obtain ⟨_,_,h⟩:=bv h
 obtain ⟨_,_,h⟩:=bv h
 split at h
 ·injection h with h; subst h; exact ⟨Nat.le_succ _,fun _=>Nat.le_refl _⟩
 obtain ⟨_,_,h⟩:=bv h
 split at h
 ·obtain ⟨⟨a2,s2⟩,h1,h⟩:=bv h
  injection h with h
  subst h
  have:s2.ac=s.ac:=by
   split at h1
   ·obtain ⟨_,_,h1⟩:=bv h1
    obtain ⟨c,h2,h1⟩:=bv h1
    injection h1 with h1
    injection h1 with _ h1
    subst h1
    exact w7 h2
   ·injection h1 with h1
    injection h1 with _ h1
    subst h1
    rfl
  show s2.ac.length≤_∧(_→s2.ac.length≤_)
  rw [this]
  exact ⟨Nat.le_succ _,fun _=>Nat.le_refl _⟩
 obtain ⟨_,_,h⟩:=bv h
 split at h
 ·injection h with h; subst h; exact ⟨Nat.le_succ _,fun _=>Nat.le_refl _⟩
 obtain ⟨_,_,h⟩:=bv h
 obtain ⟨_,_,h⟩:=bv h
 split at h
 ·obtain ⟨g,h1,h⟩:=bv h
  injection h with h
  subst h
  exact ⟨ud h1,fun e=>absurd (show (1:Int)=0 from e) (by decide)⟩
 obtain ⟨_,_,h⟩:=bv h
 split at h
 ·obtain ⟨g,h1,h⟩:=bv h
  injection h with h
  subst h
  show g.ac.length≤_∧(_→g.ac.length≤_)
  rw [Gj h1]
  exact ⟨Nat.le_succ _,fun _=>Nat.le_refl _⟩
 ·injection h with h; subst h; exact ⟨Nat.le_succ _,fun _=>Nat.le_refl _⟩
def Gr (s:aa) (r:(aa×Int)⊕(aa×Int×am)) : Prop:=match r with | .inl m=>m.1.ac.length≤s.ac.length | .inr m=>m.1.ac.length≤s.ac.length + 1
theorem JI {s0:aa} {a:aq} {j:Int} {ids:List Int} {n:aX} {f:Bool} {k:Nat} {st:aa×Int} {r:(aa×Int)⊕(aa×Int×am)} (hst:st.1.ac.length≤s0.ac.length) (h:ah (iu a j ids n f) k st=some r) : Gr s0 r:=by
 refine mP (fun st=>st.1.ac.length≤s0.ac.length) (Gr s0) (fun st r hi h=>?_) k st r hst h
 unfold iu at h
 dsimp only at h
 split at h
 ·obtain ⟨_,_,h⟩:=bv h
  obtain ⟨_,_,h⟩:=bv h
  obtain ⟨_,_,h⟩:=bv h
  obtain ⟨c,hc,h⟩:=bv h
  have hk:=Hm hc
  split at h
  ·injection h with h
   subst h
   exact Nat.le_trans hk.1 (Nat.succ_le_succ hi)
  ·rename_i hz
   injection h with h
   subst h
   exact Nat.le_trans (hk.2 (by simpa using hz)) hi
 ·injection h with h
  subst h
  exact hi
theorem JJ {s0:aa} {ids:List Int} {i:Int} {lv:List ByteArray} {n:aX} {f:Bool} {k:Nat} {st:aa×Int} {r:(aa×Int)⊕(aa×Int×am)} (hst:st.1.ac.length≤s0.ac.length) (h:ah (iw ids i lv n f) k st=some r) : Gr s0 r:=by
 refine mP (fun st=>st.1.ac.length≤s0.ac.length) (Gr s0) (fun st r hi h=>?_) k st r hst h
 unfold iw at h
 dsimp only at h
 split at h
 ·obtain ⟨_,_,h⟩:=bv h
  obtain ⟨_,_,h⟩:=bv h
  obtain ⟨_,_,h⟩:=bv h
  obtain ⟨_,_,h⟩:=bv h
  split at h
  ·injection h with h
   subst h
   exact hi
  ·obtain ⟨m,hm,h⟩:=bv h
   have hg:=JI (s0:=s0) (st:=(st.1,0)) hi hm
   cases m with
   | inr m=>injection h with h; subst h; exact hg
   | inl m=>injection h with h; subst h; exact hg
 ·injection h with h
  subst h
  exact hi
theorem uc {s:aa} {n:aX} {f:Bool} {r:aa×Int×am} (h:er s n f=some r) : r.1.ac.length≤s.ac.length + 1:=by
 unfold er at h
 dsimp only at h
 obtain ⟨lv,_,h⟩:=bv h
 obtain ⟨m,hm,h⟩:=bv h
 have hg:Gr s m:=by
  refine mP (f:=iy lv n f) (fun st=>st.1.ac.length≤s.ac.length) (Gr s) (fun st r hi h=>?_) _ (s,0) m (Nat.le_refl _) hm
  unfold iy at h
  dsimp only at h
  split at h
  ·obtain ⟨_,_,h⟩:=bv h
   obtain ⟨_,_,h⟩:=bv h
   obtain ⟨m,hm,h⟩:=bv h
   have hg:=JJ (s0:=s) (st:=(st.1,0)) hi hm
   cases m with
   | inr m=>injection h with h; subst h; exact hg
   | inl m=>injection h with h; subst h; exact hg
  ·injection h with h
   subst h
   exact hi
 cases m with
 | inr m=>injection h with h; subst h; exact hg
 | inl m=>injection h with h; subst h; exact Nat.le_succ_of_le hg
theorem Gi {s:aa} {n:aX} {x:bz} {r:aa×Int×am×Bool} (h:sN s n x=some r) : r.1.ac.length≤s.ac.length + 1:=by
 unfold sN at h
 dsimp only at h
 obtain ⟨_,_,h⟩:=bv h
 obtain ⟨_,_,h⟩:=bv h
 obtain ⟨_,_,h⟩:=bv h
 obtain ⟨_,_,h⟩:=bv h
 obtain ⟨_,_,h⟩:=bv h
 obtain ⟨_,_,h⟩:=bv h
 obtain ⟨_,_,h⟩:=bv h
 obtain ⟨_,_,h⟩:=bv h
 split at h
 ·obtain ⟨c,hc,h⟩:=bv h
  injection h with h
  subst h
  show c.ac.length≤_
  rw [sP hc]
  exact Nat.le_succ _
 ·obtain ⟨_,_,h⟩:=bv h
  obtain ⟨_,_,h⟩:=bv h
  obtain ⟨_,_,h⟩:=bv h
  split at h
  ·injection h with h
   subst h
   exact Nat.le_succ _
  ·obtain ⟨c,hc,h⟩:=bv h
   obtain ⟨g,hg,h⟩:=bv h
   injection h with h
   subst h
   have:=ud hg
   rw [sP hc] at this
   exact this
theorem Hn {s:aa} {id:Int} {r:aa×Int×am} (h:wn s id=some r) : r.1.ac.length≤s.ac.length + 3:=by
 unfold wn at h
 dsimp only at h
 obtain ⟨nd,_,h⟩:=bv h
 obtain ⟨_,_,h⟩:=bv h
 obtain ⟨_,_,h⟩:=bv h
 obtain ⟨_,_,h⟩:=bv h
 have two:∀ {t:aa} {n:aX},(Option.bind (er t n true) fun c7=>if (c7.2.1 != 0)=true then some (c7.1,c7.2.1,c7.2.2) else Option.bind (er c7.1 n false) fun c8=>some c8)=some r→r.1.ac.length≤t.ac.length + 2:=by
  intro t n h
  obtain ⟨c,hc,h⟩:=bv h
  have k1:=uc hc
  split at h
  ·injection h with h
   subst h
   exact Nat.le_succ_of_le k1
  ·obtain ⟨d,hd,h⟩:=bv h
   injection h with h
   subst h
   have k2:=uc hd
   omega
 split at h
 ·injection h with h
  subst h
  exact Nat.le_add_right _ _
 obtain ⟨c,hc,h⟩:=bv h
 split at h
 ·obtain ⟨k,hk,h⟩:=bv h
  have k1:=Gi hk
  split at h
  ·injection h with h
   subst h
   exact Nat.le_trans k1 (by omega)
  ·have:=two h
   omega
 ·have:=two h
  omega
theorem Gl {s:aa} {id:Int} {r:aa×List am} (h:qy s id=some r) : r.1.ac.length≤s.ac.length + 9:=by
 unfold qy at h
 dsimp only at h
 obtain ⟨m,hm,h⟩:=bv h
 injection h with h
 subst h
 refine mP (f:=ji id) (fun st=>∃ k:Nat,st.2.2=(k:Int)∧k≤3∧st.1.ac.length≤s.ac.length + 3 * k) (fun q=>q.1.ac.length≤s.ac.length + 9) (fun st r ⟨k,h1,h2,h3⟩ h=>?_) _ (s,[],0) m ⟨0,rfl,by omega,by simp⟩ hm
 unfold ji at h
 dsimp only at h
 split at h
 ·rename_i hlt
  rw [h1] at hlt
  have hlt:k < 3:=by have:=zd hlt; omega
  obtain ⟨c,hc,h⟩:=bv h
  have k1:=Hn hc
  split at h
  ·injection h with h
   subst h
   show c.1.ac.length≤_
   omega
  ·obtain ⟨l,hl,h⟩:=bv h
   injection h with h
   subst h
   refine ⟨k + 1,?_,hlt,?_⟩
   ·show i64.wrap (st.2.2 + 1) = _
    rw [h1,a6 hlt (show 3≤1000000 by omega)]
   ·show c.1.ac.length≤_
    omega
 ·injection h with h
  subst h
  show st.1.ac.length≤_
  omega
def SzM (M:Nat) (s:aa) : Prop:=∃ B,SzS B s∧B + s.ac.length≤M
theorem SzM.mono {M N:Nat} {s:aa} (h:SzM M s) (hn:M≤N) : SzM N s:=by
 obtain ⟨B,h1,h2⟩:=h
 exact ⟨B,h1,by omega⟩
theorem SzM.sz {M:Nat} {s:aa} (h:SzM M s) : SzS M s:=by
 obtain ⟨B,h1,h2⟩:=h
 exact h1.mono (by omega)
theorem aao {s:aa} {id:Int} (h:Ms s id=true) : my s id∈s.ac∧(my s id).fId=id:=by
 unfold Ms at h
 rw [List.any_eq_true] at h
 obtain ⟨x,hx,e⟩:=h
 unfold my
 cases hf:s.ac.find? fun c=>c.fId==id with
 | none=>have:=List.find?_eq_none.1 hf x hx; exact absurd e (by simpa using this)
 | some a=>exact ⟨List.mem_of_find?_eq_some hf,by simpa using List.find?_some hf⟩
theorem Cg {α : Type} {p : α→Bool} {l:List α} {x : α} (hx:x∈l) (hp:p x=false) : (l.filter p).length < l.length :=
 List.length_filter_lt_length_iff_exists.2 ⟨x,hx,by rw [hp]; simp⟩
theorem SzS.putE {B:Nat} {s:aa} (h:SzS B s) {a:aq} (ha:SzA (B + 1) a) {c:List am} {l:List bz} (hc:c.length≤B + 1) (hl:l.length≤B + 1) : SzS (B + 1) { s with aj:=dn aq.fId s.aj a,ac:=c,aQ:=l } := by
 have k:=h.put ha
 exact ⟨k.conf,k.nodes,k.apps,hc,hl,k.plans,k.app⟩
theorem Gx {M:Nat} {s:aa} (h:SzM M s) (hs:kW aq.fId s.aj) (ids:List Int) (hI:ids.length≤1000000) (hM:M + 1≤1000000) : ∃ r,jo s ids=some r∧SzM M r∧kW aq.fId r.aj∧r.ac.length≤s.ac.length:=by
 unfold jo
 dsimp only
 rw [Al ids s hI]
 obtain ⟨r,h1,h2⟩:=aR (g:=gK ids) (fin:=fun b=>(b,(ids.length:Int))) (fun _ b=>SzM M b∧kW aq.fId b.aj∧b.ac.length≤s.ac.length) (fun r=>SzM M r.1∧kW aq.fId r.1.aj∧r.1.ac.length≤s.ac.length) ids 0 s (fun j t x hx ⟨ht,hsr,hle⟩=>by
  obtain ⟨B,ht0,hB⟩:=ht
  have k1:=ht0.apps; have k2:=ht0.conts; have k3:=ht0.slots
  have stay:SzM M t∧kW aq.fId t.aj∧t.ac.length≤s.ac.length:=⟨⟨B,ht0,hB⟩,hsr,hle⟩
  unfold gK
  dsimp only
  rw [kR t x (by omega)]
  simp only [zb]
  split
  ·exact ⟨_,rfl,fun a' e=>by injection e with e; subst e; exact stay,fun r e=>by cases e⟩
  rename_i hnot
  have hct:Ms t x=true:=by simpa using hnot
  obtain ⟨hm,hid⟩:=aao hct
  rw [dH t _ (by omega)]
  simp only [zb]
  have hB1:B + 1≤1000000:=by omega
  have ha:=(ht0.get (my t x).bG).mono (Nat.le_succ _)
  split
  ·rw [tT]
   simp only [zb]
   rw [gZ t _ (by omega)]
   simp only [zb]
   rw [CC _ _ (by show t.ac.length≤_; omega) (by show t.aQ.length≤_; omega)]
   simp only [zb]
   refine ⟨_,rfl,fun a' e=>?_,fun r e=>by cases e⟩
   injection e with e
   subst e
   have hlt:=Cg (p:=fun c:am=>!(c.bG==(my t x).bG)) hm (by simp)
   refine ⟨⟨B + 1,ht0.putE ?_ (Nat.le_trans (List.length_filter_le _ _) (by show t.ac.length≤_; omega)) (Nat.le_trans (List.length_filter_le _ _) (by show t.aQ.length≤_; omega)),?_⟩,i7 _ _ _ hsr,?_⟩
   ·exact ⟨⟨ha.queue.1,ht0.nodes.2.2.1⟩,by simp,Nat.zero_le _,Nat.zero_le _,Nat.zero_le _,Nat.zero_le _⟩
   ·show B + 1 + (List.filter _ t.ac).length≤M
    omega
   ·show (List.filter _ t.ac).length≤_
    omega
  ·rw [CF t _ (by omega)]
   have hg:=ht0.get (my t x).bG
   have h5:=hg.grants; have h6:=hg.kills
   simp only [zb]
   rw [vD _ _ (by omega)]
   simp only [zb]
   have hlt:=Cg (p:=fun c:am=>c.fId != (my t x).fId) hm (by simp)
   have hf:=List.length_filter_le (fun c=>c != (my t x).fId) (bV t (my t x).bG).bP
   have fin:∀ a:aq,SzA (B + 1) a→∃ r,Option.bind (eT { t with ac:=t.ac.filter fun c=>c.fId != (my t x).fId } a) (fun c=>some (Sum.inl c:aa⊕(aa×Int)))=some r∧(∀ a',r = .inl a'→SzM M a'∧kW aq.fId a'.aj∧a'.ac.length≤s.ac.length)∧∀ q,r = .inr q→SzM M q.1∧kW aq.fId q.1.aj∧q.1.ac.length≤s.ac.length:=by
    intro a hsa
    rw [gZ _ _ (by show t.aj.length + 1≤_; omega)]
    refine ⟨_,rfl,fun a' e=>?_,fun r e=>by cases e⟩
    injection e with e
    subst e
    refine ⟨⟨B + 1,ht0.putE (c:=t.ac.filter fun c=>c.fId != (my t x).fId) (l:=t.aQ) hsa (Nat.le_trans (List.length_filter_le _ _) (by omega)) (by omega),?_⟩,i7 _ _ _ hsr,?_⟩
    ·show B + 1 + (List.filter _ t.ac).length≤M
     omega
    ·show (List.filter _ t.ac).length≤_
     omega
   split
   ·rw [aE (by simp; omega)]
    simp only [zb,List.nil_append]
    rw [aE (by simp; omega)]
    simp only [zb]
    refine fin _ ?_
    exact ⟨ha.queue,ha.asks,by show (List.filter _ _).length≤_; omega,by show (_ ++ [_]).length≤_; simp; omega,ha.told,ha.lost⟩
   ·simp only [zb]
    refine fin _ ?_
    exact ⟨ha.queue,ha.asks,by show (List.filter _ _).length≤_; omega,ha.kills,ha.told,ha.lost⟩) (fun b hb=>hb) ⟨h,hs,Nat.le_refl _⟩
 rw [h1]
 exact ⟨_,rfl,h2⟩
def fp (v_s:aa) (au:ByteArray) (af:Int) (bW:Int) (mD:Int) (st:Unit) (x_:aq) : Option ((Unit)⊕((Int)⊕(Int))) :=
 let v_a:aq:=x_
 let v_k:Int:=0
 (ah (kg v_a au v_s af bW mD) ab v_k).bind fun r15=>match r15 with
 | .inr m16=>some (.inr (.inr m16))
 | .inl m16 =>
 let v_k:=m16
 some (.inl ())
theorem xV (v_s:aa) (au:ByteArray) (af:Int) (bW:Int) (mD:Int) (a_:Unit) (hl:v_s.aj.length≤1000000) : ah (ki v_s au af bW mD) ab (0)=bh (fp v_s au af bW mD) (fun a_=>(.inl ((v_s.aj.length:Int)))) a_ v_s.aj :=
 ay v_s.aj (S:=Int) (fun a_ k_=>(k_)) (fp v_s au af bW mD) (fun a_=>(.inl ((v_s.aj.length:Int)))) (an hl) (fun k a x hx=>by
  unfold ki fp; exact bK)
  (fun a=>by unfold ki; exact cI) a_
def lO (v_l:(List Int)) (v_n:Int) (st:Unit) (x_:Int) : Option ((Unit)⊕((Int)⊕(Bool))) :=
 if (x_ == v_n)=true then
 some (.inr (.inr true))
 else
 some (.inl ())
theorem CX (v_l:(List Int)) (v_n:Int) (a_:Unit) (hl:v_l.length≤1000000) : ah (pg v_l v_n) ab (0)=bh (lO v_l v_n) (fun a_=>(.inl ((v_l.length:Int)))) a_ v_l :=
 ay v_l (S:=Int) (fun a_ k_=>(k_)) (lO v_l v_n) (fun a_=>(.inl ((v_l.length:Int)))) (an hl) (fun k a x hx=>by
  unfold pg lO; exact bK)
  (fun a=>by unfold pg; exact cI) a_
def eJ (v_s:aa) (af:Int) (au:ByteArray) (v_l:(List Int)) (st:Int) (x_:am) : Option ((Int)⊕((Int×Int))) :=
 let v_n:=st
 let v_c:am:=x_
 (if (v_c.aY==af)=true then (if (au.toList==(⟨#[]⟩ : ByteArray).toList)=true then some true else (jg v_s v_c).bind fun c8=>some (c8.toList==au.toList)).bind fun q9=>some q9 else some false).bind fun q10=>(if q10=true then (if (v_c.ju != 0)=true then some true else (xX v_l v_c.fId).bind fun c11=>some c11).bind fun q12=>some q12 else some false).bind fun q13=>if q13=true then
 let v_n:Int:=(i64.wrap (v_n + v_c.cF.bD))
 some (.inl v_n)
 else
 some (.inl v_n)
theorem wF (v_s:aa) (af:Int) (au:ByteArray) (v_l:(List Int)) (a_:Int) (hl:v_s.ac.length≤1000000) : ah (jD v_s af au v_l) ab (a_,(0))=bh (eJ v_s af au v_l) (fun a_=>(a_,((v_s.ac.length:Int)))) a_ v_s.ac :=
 ay v_s.ac (S:=Int×Int) (fun a_ k_=>(a_,(k_))) (eJ v_s af au v_l) (fun a_=>(a_,((v_s.ac.length:Int)))) (an hl) (fun k a x hx=>by
  unfold jD eJ; exact bK)
  (fun a=>by unfold jD; exact cI) a_
def eI (v_s:aa) (af:Int) (au:ByteArray) (v_l:(List Int)) (st:am×Bool) (x_:am) : Option ((am×Bool)⊕((am×Bool×Int))) :=
 let cQ:=st.1
 let bS:=st.2
 let v_c:am:=x_
 (if (v_c.aY != af)=true then some true else (jg v_s v_c).bind fun c15=>some (!(c15.toList==au.toList))).bind fun q16=>(if q16=true then some true else some (v_c.ju != 0)).bind fun q17=>(if q17=true then some true else (xX v_l v_c.fId).bind fun c18=>some c18).bind fun q19=>if q19=true then
 some (.inl (cQ,bS))
 else
 (if (!bS)=true then some true else (if cQ.a8=true then some (!v_c.a8) else some false).bind fun q20=>some q20).bind fun q21=>(if q21=true then some true else (if (cQ.a8==v_c.a8)=true then some (decide (v_c.fId > cQ.fId)) else some false).bind fun q22=>some q22).bind fun q23=>if q23=true then
 let t24:am:=v_c
 let t25:Bool:=true
 let cQ:am:=t24
 let bS:Bool:=t25
 some (.inl (cQ,bS))
 else
 some (.inl (cQ,bS))
theorem wE (v_s:aa) (af:Int) (au:ByteArray) (v_l:(List Int)) (a_:am×Bool) (hl:v_s.ac.length≤1000000) : ah (jC v_s af au v_l) ab (a_.1,a_.2,(0))=bh (eI v_s af au v_l) (fun a_=>(a_.1,a_.2,((v_s.ac.length:Int)))) a_ v_s.ac :=
 ay v_s.ac (S:=am×Bool×Int) (fun a_ k_=>(a_.1,a_.2,(k_))) (eI v_s af au v_l) (fun a_=>(a_.1,a_.2,((v_s.ac.length:Int)))) (an hl) (fun k a x hx=>by
  unfold jC eI; exact bK)
  (fun a=>by unfold jC; exact cI) a_
def gv (bR:(List ai)) (v_s:aa) (af:Int) (st:Int) (x_:ai) : Option ((Int)⊕((Int×Int))) :=
 let la:=st
 (sK v_s x_.aC af).bind fun c6=>let la:Int:=(i64.wrap (la + c6))
 some (.inl la)
theorem zG (bR:(List ai)) (v_s:aa) (af:Int) (a_:Int) (hl:bR.length≤1000000) : ah (lR bR v_s af) ab (a_,(0))=bh (gv bR v_s af) (fun a_=>(a_,((bR.length:Int)))) a_ bR :=
 ay bR (S:=Int×Int) (fun a_ k_=>(a_,(k_))) (gv bR v_s af) (fun a_=>(a_,((bR.length:Int)))) (an hl) (fun k a x hx=>by
  unfold lR gv; exact bK)
  (fun a=>by unfold lR; exact cI) a_
def gu (bR:(List ai)) (v_s:aa) (af:Int) (v_l:(List Int)) (st:Int×am) (x_:ai) : Option ((Int×am)⊕((Int×am×Int))) :=
 let cm:=st.1
 let v_x:=st.2
 let v_p:ByteArray:=x_.aC
 (eO v_s v_p af).bind fun c18=>(nf v_s v_p af v_l).bind fun c19=>let DQ:Int:=(i64.wrap ((i64.wrap (c18.bD - x_.bD)) - c19))
 (qq v_s v_p af v_l).bind fun c20=>let v_c:am:=c20.1
 let bS:Bool:=c20.2
 (if bS=true then some (decide (DQ > cm)) else some false).bind fun q21=>if q21=true then
 let t22:Int:=DQ
 let t23:am:=v_c
 let cm:Int:=t22
 let v_x:am:=t23
 some (.inl (cm,v_x))
 else
 some (.inl (cm,v_x))
theorem zF (bR:(List ai)) (v_s:aa) (af:Int) (v_l:(List Int)) (a_:Int×am) (hl:bR.length≤1000000) : ah (lQ bR v_s af v_l) ab (a_.1,a_.2,(0))=bh (gu bR v_s af v_l) (fun a_=>(a_.1,a_.2,((bR.length:Int)))) a_ bR :=
 ay bR (S:=Int×am×Int) (fun a_ k_=>(a_.1,a_.2,(k_))) (gu bR v_s af v_l) (fun a_=>(a_.1,a_.2,((bR.length:Int)))) (an hl) (fun k a x hx=>by
  unfold lQ gu; exact bK)
  (fun a=>by unfold lQ; exact cI) a_
def gw (kZ:aa) (ym:aa) (st:(List Int)) (x_:am) : Option (((List Int))⊕(((List Int)×Int))) :=
 let v_l:=st
 (eS ym x_.fId).bind fun c5=>let bS:Bool:=c5.2
 if (!bS)=true then
 (aU v_l [x_.fId]).bind fun b6=>let v_l:(List Int):=b6
 some (.inl v_l)
 else
 some (.inl v_l)
theorem zI (kZ:aa) (ym:aa) (a_:(List Int)) (hl:kZ.ac.length≤1000000) : ah (lS kZ ym) ab (a_,(0))=bh (gw kZ ym) (fun a_=>(a_,((kZ.ac.length:Int)))) a_ kZ.ac :=
 ay kZ.ac (S:=(List Int)×Int) (fun a_ k_=>(a_,(k_))) (gw kZ ym) (fun a_=>(a_,((kZ.ac.length:Int)))) (an hl) (fun k a x hx=>by
  unfold lS gw; exact bK)
  (fun a=>by unfold lS; exact cI) a_
def gr (v_l:(List am)) (af:Int) (st:aa) (x_:am) : Option ((aa)⊕((aa×Int))) :=
 let v_s:=st
 (eS v_s x_.fId).bind fun c15=>let xf:am:=c15.1
 let bS:Bool:=c15.2
 if (!bS)=true then
 some (.inl v_s)
 else
 (jg v_s xf).bind fun c16=>(eO v_s c16 af).bind fun c17=>(qo v_s xf).bind fun c18=>(jg v_s xf).bind fun c19=>(zJ v_s af c19).bind fun c20=>if (decide ((i64.wrap (c17.bD - c18)) > c20))=true then
 (jo v_s ([xf.fId] : (List Int))).bind fun c21=>let v_s:aa:=c21
 some (.inl v_s)
 else
 (oe v_s xf.fId 0).bind fun c22=>let v_s:aa:=c22
 some (.inl v_s)
theorem zD (v_l:(List am)) (af:Int) (a_:aa) (hl:v_l.length≤1000000) : ah (lN v_l af) ab (a_,(0))=bh (gr v_l af) (fun a_=>(a_,((v_l.length:Int)))) a_ v_l :=
 ay v_l (S:=aa×Int) (fun a_ k_=>(a_,(k_))) (gr v_l af) (fun a_=>(a_,((v_l.length:Int)))) (an hl) (fun k a x hx=>by
  unfold lN gr; exact bK)
  (fun a=>by unfold lN; exact cI) a_
def fq (v_l:(List Int)) (st:aa) (x_:Int) : Option ((aa)⊕((aa×Int))) :=
 let v_s:=st
 (oe v_s x_ (if 1 > v_s.cO then 1 else v_s.cO)).bind fun c5=>let v_s:aa:=c5
 some (.inl v_s)
theorem xY (v_l:(List Int)) (a_:aa) (hl:v_l.length≤1000000) : ah (kj v_l) ab (a_,(0))=bh (fq v_l) (fun a_=>(a_,((v_l.length:Int)))) a_ v_l :=
 ay v_l (S:=aa×Int) (fun a_ k_=>(a_,(k_))) (fq v_l) (fun a_=>(a_,((v_l.length:Int)))) (an hl) (fun k a x hx=>by
  unfold kj fq; exact bK)
  (fun a=>by unfold kj; exact cI) a_
def eL (v_l:(List ai)) (st:(List ai)) (v_i:Int) (x_:ai) : Option (((List ai))⊕(((List ai)×Int))) :=
 let al:=st
 let v_k:Int:=0
 (ah (gx al v_i v_l) ab v_k).bind fun r13 =>
 let v_k:=r13
 (hiO al v_k).bind fun b14=>(aU ([] : (List ai)) b14).bind fun b15=>let v_x:(List ai):=b15
 (aU v_x [x_]).bind fun b16=>let v_x:(List ai):=b16
 (loO al v_k).bind fun b17=>(aU v_x b17).bind fun b18=>let al:(List ai):=b18
 some (.inl al)
theorem wG (v_l:(List ai)) (a_:(List ai)) (hl:v_l.length≤1000000) : ah (jE v_l) ab (a_,(0))=nT (eL v_l) (fun a_=>(a_,((v_l.length:Int)))) a_ 0 v_l :=
 fh v_l (S:=(List ai)×Int) (fun a_ k_=>(a_,(k_))) (eL v_l) (fun a_=>(a_,((v_l.length:Int)))) (an hl) (fun k a x hx=>by
  unfold jE eL; exact bK)
  (fun a=>by unfold jE; exact cI) a_
def ko (v_l:(List ai)) (au:ByteArray) (st:Unit) (x_:ai) : Option ((Unit)⊕((Int)⊕(Int))) :=
 if (x_.aC.toList==au.toList)=true then
 some (.inr (.inr x_.bD))
 else
 some (.inl ())
theorem BD (v_l:(List ai)) (au:ByteArray) (a_:Unit) (hl:v_l.length≤1000000) : ah (nL v_l au) ab (0)=bh (ko v_l au) (fun a_=>(.inl ((v_l.length:Int)))) a_ v_l :=
 ay v_l (S:=Int) (fun a_ k_=>(k_)) (ko v_l au) (fun a_=>(.inl ((v_l.length:Int)))) (an hl) (fun k a x hx=>by
  unfold nL ko; exact bK)
  (fun a=>by unfold nL; exact cI) a_
def WE (n:Int) : Int:=if (decide (n < 0)||decide (n > 1125899906842624))=true then 0 else n
theorem vo (n:Int) : lU n=some (WE n):=by
 unfold lU WE
 simp only [orB,zb]
 split <;> rfl
theorem K3 (t:Int) (a b c:List Int) (hN:a.length≤1000) (hb:b.length=a.length) (hc:c.length=a.length) : ∃ r,wi t a b c=some r∧r.length=a.length:=by
 have hn:(if (c.length:Int) < (if (b.length:Int) < (a.length:Int) then (b.length:Int) else (a.length:Int)) then (c.length:Int) else (if (b.length:Int) < (a.length:Int) then (b.length:Int) else (a.length:Int)))=(a.length:Int):=by
  rw [hb,hc]
  simp
 unfold wi
 simp only [hn,vo,zb]
 obtain ⟨r,e1,e2⟩:=aL (f:=oE (a.length:Int) a b c) (fun st=>∃ k:Nat,st.2.2=(k:Int)∧k≤a.length∧st.1.length=k) (fun st=>a.length - st.2.2.toNat) (fun r=>r.1.length=a.length) (fun st ⟨k,h1,h2,h3⟩=>by
  unfold oE
  simp only [h1]
  by_cases hlt:k < a.length
  ·have g1:a[k]? = some a[k]:=zq hlt
   have g2:b[k]? = some (b[k]'(by omega)):=zq (by omega)
   have g3:c[k]? = some (c[k]'(by omega)):=zq (by omega)
   simp only [bM g1,if_true,aD g1,aD g2,aD g3,vo,zb,a6 hlt (show a.length≤1000000 by omega)]
   rw [aE (by simp; omega)]
   exact .inl ⟨_,rfl,⟨k + 1,rfl,hlt,by simp; omega⟩,by simp only [zt]; omega⟩
  ·have:k=a.length:=by omega
   subst this
   simp only [bE,zf,if_false]
   exact .inr ⟨_,rfl,h3⟩) ab ([],WE t,0) ⟨0,rfl,Nat.zero_le _,rfl⟩ (by have:=an (show a.length≤1000000 by omega); omega)
 rw [e1]
 simp only [zb]
 obtain ⟨q,f1,f2⟩:=aL (f:=oD (a.length:Int) b c) (fun st=>∃ k:Nat,st.2.2=(k:Int)∧k≤a.length∧st.1.length=a.length) (fun st=>a.length - st.2.2.toNat) (fun r=>r.1.length=a.length) (fun st ⟨k,h1,h2,h3⟩=>by
  unfold oD
  simp only [h1]
  by_cases hlt:k < a.length
  ·have g1:a[k]? = some a[k]:=zq hlt
   have g2:b[k]? = some (b[k]'(by omega)):=zq (by omega)
   have g3:c[k]? = some (c[k]'(by omega)):=zq (by omega)
   have g4:st.1[k]? = some (st.1[k]'(by omega)):=zq (by omega)
   simp only [bM g1,if_true,aD g2,aD g3,aD g4,vo,zb,a6 hlt (show a.length≤1000000 by omega),zt]
   exact .inl ⟨_,rfl,⟨k + 1,rfl,hlt,by simp; omega⟩,by simp only [zt]; omega⟩
  ·have:k=a.length:=by omega
   subst this
   simp only [bE,zf,if_false]
   exact .inr ⟨_,rfl,h3⟩) ab (r.1,r.2.1,0) ⟨0,rfl,Nat.zero_le _,e2⟩ (by have:=an (show a.length≤1000000 by omega); omega)
 rw [f1]
 exact ⟨_,rfl,f2⟩
theorem Ct {B:Nat} {s:aa} (h:SzS B s) (hD:Deep s.bN) (hB:B≤1000000) (k:Int) : ∀ (d n:Nat) (p:ByteArray) (v:Int),4 - dA 6 p≤d→d < n→d≤4→∃ r,lV n s p k v=some r∧r.length≤16 ^ d
 | d,0,p,_,_,hn,_=>absurd hn (Nat.not_lt_zero _)
 | d,n + 1,p,v,hp,hn,hd=>by
  obtain ⟨m,h2,h3,h4⟩:=tK s.bN p h.conf.sz
  have hq:=hD.few
  have k2:=h.nodes.1
  unfold lV
  simp only [h2,zb]
  split
  ·exact ⟨_,rfl,by show 1≤16 ^ d; exact Nat.one_le_pow _ _ (by omega)⟩
  ·rename_i hne
   have hm : 0 < m.length:=by
    rcases Nat.eq_zero_or_pos m.length with h0 | h0
    ·rw [h0] at hne; exact absurd rfl hne
    ·exact h0
   have kid:=Co s.bN p h.conf.sz h2
   have kd:∀ x∈m,dA 6 p + 1=dA 6 x∧dA 6 x≤4:=fun x hx=>by
    obtain ⟨⟨q,hq1,hq2⟩,a1,a2⟩:=kid x hx
    subst hq2
    exact ⟨IQ a1 a2 (h.conf.sz.paths q hq1) (hD.deep q hq1),hD.deep q hq1⟩
   have hd0 : 0 < d:=by
    obtain ⟨a1,a2⟩:=kd m[0] (List.getElem_mem hm)
    omega
   obtain ⟨d',rfl⟩ : ∃ d',d=d' + 1:=⟨d - 1,by omega⟩
   have hpow : 16 ^ d'≤16 ^ 3:=Nat.pow_le_pow_right (by omega) (by omega)
   have hm1:m.length≤1000000:=by omega
   obtain ⟨r,e1,e2⟩:=aL (f:=qw (lV n) m s k) (fun st=>∃ i:Nat,st.2.2.2=(i:Int)∧i≤m.length∧st.1.length=i∧st.2.1.length=i∧st.2.2.1.length=i) (fun st=>m.length - st.2.2.2.toNat) (fun r=>r.1.length=m.length∧r.2.1.length=m.length∧r.2.2.1.length=m.length) (fun st ⟨i,i1,i2,i3,i4,i5⟩=>by
    unfold qw
    simp only [i1]
    by_cases hlt:i < m.length
    ·have g1:m[i]? = some m[i]:=zq hlt
     obtain ⟨u,hu⟩:=fu h hB m[i] k
     obtain ⟨w,hw⟩:=vz h hB m[i] k
     simp only [bM g1,if_true,aD g1,n9 s _ k h.conf (Nat.le_trans k2 hB),FX s _ k h.conf (Nat.le_trans k2 hB),hu,hw,zb,a6 hlt hm1]
     rw [aE (by simp; omega)]
     simp only [zb]
     rw [aE (by simp; omega)]
     simp only [zb]
     rw [aE (by simp; omega)]
     exact .inl ⟨_,rfl,⟨i + 1,rfl,hlt,by simp; omega,by simp; omega,by simp; omega⟩,by simp only [zt]; omega⟩
    ·have:i=m.length:=by omega
     subst this
     simp only [bE,zf,if_false]
     exact .inr ⟨_,rfl,i3,i4,i5⟩) ab ([],[],[],0) ⟨0,rfl,Nat.zero_le _,rfl,rfl,rfl⟩ (by have:=an hm1; omega)
   rw [e1]
   simp only [zb]
   obtain ⟨x,x1,x2⟩:=K3 v r.1 r.2.2.1 r.2.1 (by omega) (by omega) (by omega)
   rw [x1]
   simp only [zb]
   obtain ⟨q,f1,f2⟩:=aL (f:=qu (lV n) m s k x) (fun st=>∃ i:Nat,st.2=(i:Int)∧i≤m.length∧st.1.length≤i * 16 ^ d') (fun st=>m.length - st.2.toNat) (fun r=>r.1.length≤m.length * 16 ^ d') (fun st ⟨i,i1,i2,i3⟩=>by
    unfold qu
    simp only [i1]
    by_cases hlt:i < m.length
    ·have g1:m[i]? = some m[i]:=zq hlt
     have g2:x[i]? = some (x[i]'(by omega)):=zq (by omega)
     obtain ⟨a1,a2⟩:=kd m[i] (List.getElem_mem hlt)
     obtain ⟨c,c1,c2⟩:=Ct h hD hB k d' n m[i] (x[i]'(by omega)) (by omega) (by omega) (by omega)
     have hj2:i * 16 ^ d'≤16 * 16 ^ 3:=Nat.mul_le_mul (by omega) hpow
     simp only [bM g1,if_true,aD g1,aD g2,c1,zb,a6 hlt hm1]
     rw [aE (by omega)]
     refine .inl ⟨_,rfl,⟨i + 1,rfl,hlt,?_⟩,by simp only [zt]; omega⟩
     show (st.1++c).length≤_
     rw [List.length_append,Nat.succ_mul]
     omega
    ·have:i=m.length:=by omega
     subst this
     simp only [bE,zf,if_false]
     exact .inr ⟨_,rfl,i3⟩) ab ([],0) ⟨0,rfl,Nat.zero_le _,by simp⟩ (by have:=an hm1; omega)
   rw [f1]
   refine ⟨_,rfl,Nat.le_trans f2 ?_⟩
   rw [Nat.pow_succ,Nat.mul_comm]
   exact Nat.mul_le_mul_left _ (by omega)
theorem wV {B:Nat} {s:aa} (h:SzS B s) (hD:Deep s.bN) (hB:B≤1000000) (k:Int) : ∃ r,qx s k=some r∧r.length≤65536:=by
 obtain ⟨l,h1,h2⟩:=Ct h hD hB k 4 ab ⟨#[114,111,111,116]⟩ (vb s k).bD (by omega) (by unfold ab; omega) (by omega)
 have h2:l.length≤65536:=h2
 have k2:=h.nodes.1
 unfold qx
 simp only [n8 s k (Nat.le_trans k2 hB),h1,zb]
 rw [wG l [] (by omega)]
 obtain ⟨r,e1,e2⟩:=mJ (g:=eL l) (fin:=fun b=>(b,(l.length:Int))) (fun j b=>b.length≤j) (fun r=>r.1.length≤l.length) l 0 [] (fun j out x hx ho=>by
  have hj:=(zg.1 hx).1
  obtain ⟨K,hK1,hK2⟩:=nX out (by omega) (f:=gx out ((0 + j:Nat) : Int) l) (fun i y hy=>by
   have hi:=(zg.1 hy).1
   refine ⟨Op.bytesLess y.aC.toList x.aC.toList,?_⟩
   unfold gx
   simp only [bM hy,if_true,aD hy,aD (show l[0 + j]? = some x by rwa [Nat.zero_add]),zb,a6 hi (show out.length≤1000000 by omega)]) (by unfold gx; simp only [bE,zf,if_false,zb])
  unfold eL
  dsimp only
  rw [hK1]
  simp only [zb]
  rw [mS hK2]
  simp only [zb]
  rw [aE (by simp; omega)]
  simp only [zb]
  rw [aE (by simp; omega)]
  simp only [zb]
  rw [jQ hK2]
  simp only [zb]
  rw [aE (by simp; omega)]
  refine ⟨_,rfl,fun a' e=>?_,fun r e=>by cases e⟩
  injection e with e
  subst e
  simp; omega) (fun b hb=>by simpa using hb) (by simp)
 rw [e1]
 exact ⟨_,rfl,by show r.1.length≤_; omega⟩
theorem QR {B:Nat} {s:aa} (h:SzS B s) (hD:Deep s.bN) (hB:B≤1000000) (k:Int) (p:ByteArray) : ∃ r,zJ s k p=some r:=by
 obtain ⟨l,h1,h2⟩:=wV h hD hB k
 unfold zJ
 rw [h1]
 dsimp only [zb]
 rw [BD l p () (by omega),show ko l p=fun (_:Unit) x=>if (x.aC.toList==p.toList)=true then some (.inr (.inr x.bD)) else some (.inl ()) from rfl,
  kL (fun x:ai=>x.aC.toList==p.toList) (fun x=>(Sum.inr x.bD:Int⊕Int)) (.inl (l.length:Int)) l]
 simp only [zb]
 cases l.find? fun x=>x.aC.toList==p.toList <;> exact ⟨_,rfl⟩
theorem vm (s:aa) (c:am) (hl:s.aj.length≤1000000) : jg s c=some (bV s c.bG).bC:=by
 unfold jg
 simp only [dH s c.bG hl,zb]
def inL (l:List Int) (n:Int) : Bool:=l.any fun x=>x==n
theorem Jj (l:List Int) (n:Int) (hl:l.length≤1000000) : xX l n=some (inL l n):=by
 unfold xX inL
 dsimp only
 rw [CX l n () hl,show lO l n=fun (_:Unit) x=>if (x==n)=true then some (.inr (.inr true)) else some (.inl ()) from rfl,
  kL (fun x:Int=>x==n) (fun _=>(Sum.inr true:Int⊕Bool)) (.inl (l.length:Int)) l]
 simp only [zb]
 cases hf:l.find? fun x=>x==n with
 | none =>
  have:(l.any fun x=>x==n)=false:=by
   rw [List.any_eq_false]; intro x hx; have:=List.find?_eq_none.1 hf x hx; simpa using this
  rw [this]
 | some q =>
  have:(l.any fun x=>x==n)=true:=by rw [List.any_eq_true]; exact ⟨q,List.mem_of_find?_eq_some hf,List.find?_some (p:=fun x:Int=>x==n) hf⟩
  rw [this]
theorem Iy {α : Type} {p q : α→Bool} (hpq:∀ x,q x=true→p x=true) : ∀ l:List α,(∃ x∈l,p x=true∧q x=false)→(l.filter q).length < (l.filter p).length
 | [],⟨x,hx,_⟩=>by cases hx
 | y::l,⟨x,hx,h1,h2⟩=>by
  have le:∀ l:List α,(l.filter q).length≤(l.filter p).length:=fun l=>by
   induction l with
   | nil=>exact Nat.le_refl _
   | cons z l ih =>
    simp only [List.filter_cons]
    cases hq:q z with
    | true=>rw [hpq z hq]; simpa using ih
    | false =>
     cases p z with
     | true=>simp; omega
     | false=>simpa using ih
  simp only [List.filter_cons]
  rcases List.mem_cons.1 hx with rfl | hx
  ·rw [h1,h2]
   have:=le l
   simp; omega
  ·have ih:=Iy hpq l ⟨x,hx,h1,h2⟩
   cases hq:q y with
   | true=>rw [hpq y hq]; simpa using ih
   | false =>
    cases p y with
    | true=>simp; omega
    | false=>simpa using ih
theorem KZ {B:Nat} {s:aa} (h:SzS B s) (hB:B≤1000000) (p:ByteArray) (k:Int) : ∃ r,sK s p k=some r:=by
 obtain ⟨u,hu⟩:=fu h hB p k
 obtain ⟨v,hv⟩:=vz h hB p k
 have k1:=h.apps; have k2:=h.nodes.1
 unfold sK
 simp only [hu,n9 s p k h.conf (Nat.le_trans k2 hB),zb]
 rw [xV s p k (BN s p k).bD u.bD () (by omega)]
 obtain ⟨r,e1,_⟩:=aR (g:=fp s p k (BN s p k).bD u.bD) (fin:=fun _=>(.inl (s.aj.length:Int))) (fun _ _=>True) (fun _=>True) s.aj 0 () (fun j b x hx _=>by
  have hm:=h.app x (List.mem_of_getElem? hx)
  have ha:=hm.asks
  have ha2:x.bI.length≤1000000:=by omega
  obtain ⟨r,r1,_⟩:=aL (f:=kg x p s k (BN s p k).bD u.bD) (fun st=>∃ i:Nat,st=(i:Int)∧i≤x.bI.length) (fun st=>x.bI.length - st.toNat) (fun _=>True) (fun st ⟨i,h1,h2⟩=>by
   subst h1
   unfold kg
   by_cases hlt:i < x.bI.length
   ·have g1:x.bI[i]? = some x.bI[i]:=zq hlt
    simp only [bM g1,if_true,aD g1,dF,hv,du,zb,a6 hlt ha2]
    split
    ·split
     ·exact .inr ⟨_,rfl,trivial⟩
     ·exact .inl ⟨_,rfl,⟨i + 1,rfl,hlt⟩,by simp only [zt]; omega⟩
    ·exact .inr ⟨_,rfl,trivial⟩
   ·have:i=x.bI.length:=by omega
    subst this
    simp only [bE,zf,if_false,zb]
    exact .inr ⟨_,rfl,trivial⟩) ab 0 ⟨0,rfl,Nat.zero_le _⟩ (by have:=an ha2; omega)
  unfold fp
  dsimp only
  rw [r1]
  simp only [zb]
  cases r <;> exact ⟨_,rfl,fun _ _=>trivial,fun _ _=>trivial⟩) (fun _ _=>trivial) trivial
 rw [e1]
 simp only [zb]
 cases r <;> exact ⟨_,rfl⟩
theorem wU {B:Nat} {s:aa} (h:SzS B s) (hB:B≤1000000) (p:ByteArray) (k:Int) (l:List Int) (hl:l.length≤1000000) : ∃ r,nf s p k l=some r:=by
 have k1:=h.apps; have k2:=h.conts
 unfold nf
 dsimp only
 rw [wF s k p l 0 (by omega)]
 obtain ⟨r,e1,_⟩:=aR (g:=eJ s k p l) (fin:=fun b=>(b,(s.ac.length:Int))) (fun _ _=>True) (fun _=>True) s.ac 0 0 (fun j b x hx _=>by
  unfold eJ
  simp only [vm s x (show s.aj.length≤1000000 by omega),Jj l x.fId hl,du,orB,zb]
  split <;> exact ⟨_,rfl,fun _ _=>trivial,fun _ _=>trivial⟩) (fun _ _=>trivial) trivial
 rw [e1]
 exact ⟨_,rfl⟩
theorem Hl {B:Nat} {s:aa} (h:SzS B s) (hB:B≤1000000) (p:ByteArray) (k:Int) (l:List Int) (hl:l.length≤1000000) : ∃ r,qq s p k l=some r∧(r.2=true→r.1∈s.ac∧inL l r.1.fId=false):=by
 have k1:=h.apps; have k2:=h.conts
 unfold qq
 dsimp only
 rw [wE s k p l ((⟨0,0,0,az.zero,0,0,false,0⟩ : am),false) (by omega)]
 obtain ⟨r,e1,e2⟩:=aR (g:=eI s k p l) (fin:=fun b=>(b.1,b.2,(s.ac.length:Int))) (fun _ b=>b.2=true→b.1∈s.ac∧inL l b.1.fId=false) (fun r=>r.2.1=true→r.1∈s.ac∧inL l r.1.fId=false) s.ac 0 ((⟨0,0,0,az.zero,0,0,false,0⟩ : am),false) (fun j b x hx hb=>by
  unfold eI
  simp only [vm s x (show s.aj.length≤1000000 by omega),Jj l x.fId hl,du,orB,zb]
  split
  ·exact ⟨_,rfl,fun a e=>(by injection e with e; subst e; exact hb),fun r e=>(by cases e)⟩
  ·rename_i hn
   split
   ·refine ⟨_,rfl,fun a e=>?_,fun r e=>(by cases e)⟩
    injection e with e
    subst e
    refine fun _=>⟨List.mem_of_getElem? hx,?_⟩
    simp only [Bool.or_eq_true,not_or,Bool.not_eq_true] at hn
    exact hn.2
   ·exact ⟨_,rfl,fun a e=>(by injection e with e; subst e; exact hb),fun r e=>(by cases e)⟩) (fun b hb=>hb) (fun e=>by cases e)
 rw [e1]
 exact ⟨_,rfl,e2⟩
def YC (s:aa) (l:List Int) : Nat:=(s.ac.filter fun c=>!inL l c.fId).length
theorem NQ {B:Nat} {s:aa} (h:SzS B s) (hB:B≤1000000) (k:Int) : ∃ r,zH s k=some r∧r.length≤s.ac.length:=by
 have k1:=h.apps; have k2:=h.conts; have k3:=h.nodes.1
 obtain ⟨sh,h1,h2⟩:=wV h h.conf.deep hB k
 obtain ⟨u,hu⟩:=fu h hB ⟨#[114,111,111,116]⟩ k
 unfold zH
 simp only [h1,n8 s k (Nat.le_trans k3 hB),hu,zb]
 rw [zG sh s k _ (by omega)]
 obtain ⟨r,e1,_⟩:=aR (g:=gv sh s k) (fin:=fun b=>(b,(sh.length:Int))) (fun _ _=>True) (fun _=>True) sh 0 (i64.wrap (0 - (if 0 > (i64.wrap ((vb s k).bD - u.bD)) then 0 else (i64.wrap ((vb s k).bD - u.bD))))) (fun j b x hx _=>by
  obtain ⟨n,hn⟩:=KZ h hB x.aC k
  unfold gv
  simp only [hn,zb]
  exact ⟨_,rfl,fun _ _=>trivial,fun _ _=>trivial⟩) (fun _ _=>trivial) trivial
 rw [e1]
 simp only [zb]
 obtain ⟨q,f1,f2⟩:=aL (f:=qt s k r.1 sh) (fun l=>l.length + YC s l≤s.ac.length) (fun l=>YC s l) (fun r=>match r with | .inl m=>m.length≤s.ac.length | .inr m=>m.length≤s.ac.length) (fun l hl=>by
  have hl2:l.length≤s.ac.length:=by omega
  obtain ⟨m,hm⟩:=wU h hB ⟨#[]⟩ k l (by omega)
  unfold qt
  simp only [hm,zb]
  split
  ·rw [zF sh s k l (0,(⟨0,0,0,az.zero,0,0,false,0⟩ : am)) (by omega)]
   obtain ⟨t,t1,t2⟩:=aR (g:=gu sh s k l) (fin:=fun b=>(b.1,b.2,(sh.length:Int))) (fun _ b=>b.1≠0→b.2∈s.ac∧inL l b.2.fId=false) (fun r=>r.1≠0→r.2.1∈s.ac∧inL l r.2.1.fId=false) sh 0 (0,(⟨0,0,0,az.zero,0,0,false,0⟩ : am)) (fun j b x hx hb=>by
    obtain ⟨u,hu⟩:=fu h hB x.aC k
    obtain ⟨m,hm⟩:=wU h hB x.aC k l (by omega)
    obtain ⟨n,hn,hn2⟩:=Hl h hB x.aC k l (by omega)
    unfold gu
    simp only [hu,hm,hn,du,zb]
    split
    ·rename_i hc
     rw [Bool.and_eq_true] at hc
     exact ⟨_,rfl,fun a e=>(by injection e with e; subst e; exact fun _=>hn2 hc.1),fun r e=>(by cases e)⟩
    ·exact ⟨_,rfl,fun a e=>(by injection e with e; subst e; exact hb),fun r e=>(by cases e)⟩) (fun b hb=>hb) (fun e=>absurd rfl e)
   rw [t1]
   simp only [zb]
   split
   ·exact .inr ⟨_,rfl,hl2⟩
   ·rename_i hne
    obtain ⟨c1,c2⟩:=t2 (by simpa using hne)
    have hlt:YC s (l ++ [t.2.1.fId]) < YC s l:=Iy (fun x hx=>by
     unfold inL at hx ⊢
     simp only [List.any_append,Bool.not_or,Bool.and_eq_true] at hx
     exact hx.1) s.ac ⟨t.2.1,c1,by rw [c2]; rfl,by unfold inL; simp⟩
    rw [aE (by simp; omega)]
    exact .inl ⟨_,rfl,by rw [List.length_append,List.length_singleton]; omega,hlt⟩
  ·exact .inr ⟨_,rfl,hl2⟩) ab [] (by show 0 + (List.filter _ _).length≤_; rw [Nat.zero_add]; exact List.length_filter_le _ _) (by have:=List.length_filter_le (fun c:am=>!inL [] c.fId) s.ac; have h3:=an (show s.ac.length≤1000000 by omega); show (s.ac.filter fun c=>!inL [] c.fId).length < ab; omega)
 rw [f1]
 simp only [zb]
 cases q with
 | inl m=>exact ⟨_,rfl,f2⟩
 | inr m=>exact ⟨_,rfl,f2⟩
theorem Cs (s t:aa) (hl:s.ac.length≤1000000) (ht:t.ac.length≤1000000) : vn s t=some ((s.ac.filter fun c=>!Ms t c.fId).map am.fId):=by
 unfold vn
 dsimp only
 have e:gw s t=fun acc x=>if (!Ms t x.fId)=true then (aU acc [x.fId]).map (fun a=>(.inl a:List Int⊕(List Int×Int))) else some (.inl acc):=by
  funext acc x
  unfold gw
  simp only [kR t x.fId ht,zb]
  split
  ·cases aU acc [x.fId] <;> rfl
  ·rfl
 rw [zI s t [] hl,e,cg (fun c:am=>!Ms t c.fId) am.fId _ s.ac [] (by simpa using hl)]
 simp
theorem NH {B:Nat} {s:aa} (h:SzS B s) (hB:B≤1000000) (id t:Int) : ∃ r,oe s id t=some r∧SzS B r∧r.aj=s.aj∧r.ac.length=s.ac.length:=by
 have k2:=h.conts
 have hl:s.ac.length≤1000000:=by omega
 unfold oe
 rw [aE (by simp; omega)]
 simp only [zb,List.nil_append]
 obtain ⟨r,r1,r2⟩:=aL (f:=qp t id) (fun st=>∃ i:Nat,st.2=(i:Int)∧i≤s.ac.length∧st.1.length=s.ac.length) (fun st=>s.ac.length - st.2.toNat) (fun r=>r.1.length=s.ac.length) (fun st ⟨i,h1,h2,h3⟩=>by
  unfold qp
  simp only [h1]
  by_cases hlt:i < st.1.length
  ·have g1:st.1[i]? = some st.1[i]:=zq hlt
   simp only [bM g1,if_true,aD g1,zt,zb,a6 hlt (show st.1.length≤1000000 by omega)]
   split
   ·exact .inl ⟨_,rfl,⟨i + 1,rfl,by omega,by simp; omega⟩,by simp only [zt]; omega⟩
   ·exact .inl ⟨_,rfl,⟨i + 1,rfl,by omega,h3⟩,by simp only [zt]; omega⟩
  ·have:i=st.1.length:=by omega
   subst this
   simp only [bE,zf,if_false]
   exact .inr ⟨_,rfl,h3⟩) ab (s.ac,0) ⟨0,rfl,Nat.zero_le _,rfl⟩ (by have:=an hl; omega)
 rw [r1]
 exact ⟨_,rfl,h.cont (by omega),rfl,r2⟩
structure OkS (M:Nat) (s:aa) : Prop where
 m:SzM M s
 srt:kW aq.fId s.aj
theorem OkS.mono {M N:Nat} {s:aa} (h:OkS M s) (hn:M≤N) : OkS N s:=⟨h.m.mono hn,h.srt⟩
theorem OkS.sz {M:Nat} {s:aa} (h:OkS M s) : SzS M s:=h.m.sz
theorem Hk (s:aa) (c:am) (hl:s.ac.length≤1000000) : ∃ r,qo s c=some r:=by
 unfold qo
 dsimp only
 obtain ⟨r,r1,_⟩:=aL (f:=nc s c) (fun st=>∃ i:Nat,st.2=(i:Int)∧i≤s.ac.length) (fun st=>s.ac.length - st.2.toNat) (fun _=>True) (fun st ⟨i,h1,h2⟩=>by
  unfold nc
  simp only [h1]
  by_cases hlt:i < s.ac.length
  ·have g1:s.ac[i]? = some s.ac[i]:=zq hlt
   simp only [bM g1,if_true,aD g1,du,zb,a6 hlt hl]
   split
   ·split
    ·exact .inl ⟨_,rfl,⟨i + 1,rfl,hlt⟩,by simp only [zt]; omega⟩
    ·exact .inl ⟨_,rfl,⟨i + 1,rfl,hlt⟩,by simp only [zt]; omega⟩
   ·exact .inr ⟨_,rfl,trivial⟩
  ·have:i=s.ac.length:=by omega
   subst this
   simp only [bE,zf,if_false,zb]
   exact .inr ⟨_,rfl,trivial⟩) ab (0,0) ⟨0,rfl,Nat.zero_le _⟩ (by have:=an hl; show s.ac.length - (0:Int).toNat < ab; omega)
 rw [r1]
 exact ⟨_,rfl⟩
theorem Jq {k:Nat} (hk:k≤1000000) : i64.wrap ((k:Int) - 1)=(k:Int) - 1:=by rw [IntKind.wrap_i64]; omega
theorem OkS.note {M:Nat} {s:aa} (h:OkS M s) (hM:M≤1000000) (id t:Int) : ∃ r,oe s id t=some r∧OkS M r∧r.ac.length=s.ac.length:=by
 obtain ⟨⟨B,h1,h2⟩,h3⟩:=h
 obtain ⟨r,r1,r2,r3,r4⟩:=NH h1 (by omega) id t
 exact ⟨r,r1,⟨⟨B,r2,by rw [r4]; exact h2⟩,by rw [r3]; exact h3⟩,r4⟩
theorem NK {M:Nat} {s:aa} (h:OkS M s) (hM:M + 1≤1000000) (k:Int) : ∃ r,zE s k=some r∧OkS M r∧r.ac.length≤s.ac.length:=by
 have hc:=h.sz.conts
 have hl:s.ac.length≤1000000:=by omega
 unfold zE
 dsimp only
 rw [Jq hl]
 obtain ⟨r,r1,r2⟩:=aL (f:=qr s k) (fun st=>∃ i:Nat,st.2=(i:Int) - 1∧i≤s.ac.length∧st.1.length + i≤s.ac.length) (fun st=>(st.2 + 1).toNat) (fun r=>r.1.length≤s.ac.length) (fun st ⟨i,h1,h2,h3⟩=>by
  unfold qr
  simp only [h1]
  by_cases hlt : 0 < i
  ·obtain ⟨j,rfl⟩ : ∃ j,i=j + 1:=⟨i - 1,by omega⟩
   have hj:((j + 1:Nat) : Int) - 1=(j:Int):=by omega
   have g1:s.ac[j]? = some s.ac[j]:=zq (by omega)
   have hd:decide ((j:Int)≥0)=true:=by simp
   simp only [hj,hd,if_true,aD g1,du,zb,Jq (show j≤1000000 by omega)]
   split
   ·rw [aE (by simp; omega)]
    exact .inl ⟨_,rfl,⟨j,rfl,by omega,by simp; omega⟩,by show ((j:Int) - 1 + 1).toNat < ((j:Int) + 1).toNat; omega⟩
   ·exact .inl ⟨_,rfl,⟨j,rfl,by omega,by show st.1.length + j≤_; omega⟩,by show ((j:Int) - 1 + 1).toNat < ((j:Int) + 1).toNat; omega⟩
  ·have:i=0:=by omega
   subst this
   have hd:decide (((0:Nat) : Int) - 1≥0)=false:=by simp
   simp only [hd,zf,if_false]
   exact .inr ⟨_,rfl,by show st.1.length≤_; omega⟩) ab ([],(s.ac.length:Int) - 1) ⟨s.ac.length,rfl,Nat.le_refl _,by simp⟩ (by have:=an hl; show ((s.ac.length:Int) - 1 + 1).toNat < ab; omega)
 rw [r1]
 simp only [zb]
 rw [zD r.1 k s (by omega)]
 obtain ⟨q,q1,q2⟩:=aR (g:=gr r.1 k) (fin:=fun b=>(b,(r.1.length:Int))) (fun _ b=>OkS M b∧b.ac.length≤s.ac.length) (fun r=>OkS M r.1∧r.1.ac.length≤s.ac.length) r.1 0 s (fun j t x hx ⟨ht,hle⟩=>by
  have hz:=ht.sz
  have k1:=hz.apps; have k2:=hz.conts
  unfold gr
  dsimp only
  rw [kR t _ (by omega)]
  simp only [zb]
  split
  ·exact ⟨_,rfl,fun a' e=>(by injection e with e; subst e; exact ⟨ht,hle⟩),fun r e=>(by cases e)⟩
  obtain ⟨u,hu⟩:=fu hz (by omega) (bV t (my t x.fId).bG).bC k
  obtain ⟨o,ho⟩:=Hk t (my t x.fId) (by omega)
  obtain ⟨mm,hmm⟩:=QR hz hz.conf.deep (by omega) k (bV t (my t x.fId).bG).bC
  obtain ⟨ls,l1,l2,l3,l4⟩:=Gx ht.m ht.srt [(my t x.fId).fId] (by simp) (by omega)
  obtain ⟨nt,n1,n2,n3⟩:=ht.note (by omega) (my t x.fId).fId 0
  simp only [vm t _ (show t.aj.length≤1000000 by omega),hu,ho,hmm,l1,n1,zb]
  split
  ·exact ⟨_,rfl,fun a' e=>(by injection e with e; subst e; exact ⟨⟨l2,l3⟩,by omega⟩),fun r e=>(by cases e)⟩
  ·exact ⟨_,rfl,fun a' e=>(by injection e with e; subst e; exact ⟨n2,by omega⟩),fun r e=>(by cases e)⟩) (fun b hb=>hb) ⟨h,Nat.le_refl _⟩
 rw [q1]
 exact ⟨_,rfl,q2⟩
theorem K2 {M:Nat} {s:aa} (h:OkS M s) (hM:M + 1≤1000000) : ∃ r,wh s=some r∧OkS M r.1∧r.1.ac.length≤s.ac.length:=by
 have hc:=h.sz.conts
 unfold wh
 dsimp only
 obtain ⟨r,r1,r2⟩:=aL (f:=oC) (fun st=>∃ i:Nat,st.2=(i:Int)∧i≤1000∧OkS M st.1∧st.1.ac.length≤s.ac.length) (fun st=>1000 - st.2.toNat) (fun r=>OkS M r.1∧r.1.ac.length≤s.ac.length) (fun st ⟨i,h1,h2,h3,h4⟩=>by
  unfold oC
  simp only [h1]
  split
  ·rename_i hlt
   have hlab:=h3.sz.conf.sz.labels
   have hlt:i < st.1.bN.ak.length:=by have:=zd hlt; omega
   obtain ⟨a,a1,a2,a3⟩:=NK h3 hM (i:Int)
   have hac:=a2.sz.conts
   obtain ⟨p,p1,p2⟩:=NQ a2.sz (by omega) (i:Int)
   have hp:p.length≤1000000:=by omega
   simp only [a1,p1,zb]
   rw [xY p a hp]
   obtain ⟨q,q1,q2⟩:=aR (g:=fq p) (fin:=fun b=>(b,(p.length:Int))) (fun _ b=>OkS M b∧b.ac.length≤s.ac.length) (fun r=>OkS M r.1∧r.1.ac.length≤s.ac.length) p 0 a (fun j t x hx ⟨ht,hle⟩=>by
    obtain ⟨nt,n1,n2,n3⟩:=ht.note (by omega) x (if 1 > t.cO then 1 else t.cO)
    unfold fq
    simp only [n1,zb]
    exact ⟨_,rfl,fun a' e=>(by injection e with e; subst e; exact ⟨n2,by omega⟩),fun r e=>(by cases e)⟩) (fun b hb=>hb) ⟨a2,by omega⟩
   rw [q1]
   simp only [zb,a6 (show i < 1000 by omega) (show 1000≤1000000 by omega)]
   exact .inl ⟨_,rfl,⟨i + 1,rfl,by omega,q2.1,q2.2⟩,by simp only [zt]; omega⟩
  ·exact .inr ⟨_,rfl,h3,h4⟩) ab (s,0) ⟨0,rfl,by omega,h,Nat.le_refl _⟩ (by show 1000 - (0:Int).toNat < ab; unfold ab; omega)
 rw [r1]
 simp only [zb]
 have hrc:=r2.1.sz.conts
 rw [Cs s r.1 (by omega) (by omega)]
 exact ⟨_,rfl,r2⟩
theorem RD {s:ByteArray} {a b:Nat} (h1:a≤b) (h2:b≤s.size) : JF s (a:Int) (b:Int)=some (s.extract a b):=by
 unfold JF
 rw [if_pos ⟨by omega,by omega,by simpa using h1,by simpa using h2⟩]
 simp
theorem RC {s:ByteArray} {a:Nat} (h1:a≤s.size) : S7 s (a:Int)=some (s.extract a s.size):=by
 unfold S7
 rw [if_pos ⟨by omega,by simpa using h1⟩]
 simp
theorem RF {s:ByteArray} {a:Nat} (h1:a≤s.size) : GX s (a:Int)=some (s.extract 0 a):=by
 unfold GX
 rw [if_pos ⟨by omega,by simpa using h1⟩]
 simp
theorem yQ (s:ByteArray) (a b:Nat) : (s.extract a b).size≤s.size:=by simp only [ByteArray.size_extract]; omega
theorem wK {k:Nat} (hk:k≤1000000) : i64.wrap ((k:Int) + 1)=((k + 1:Nat) : Int):=by rw [IntKind.wrap_i64]; omega
theorem ltS {k n:Nat} (h:k < n) : decide ((k:Int) < (n:Int))=true:=by simpa using h
theorem geS {k:Nat} : decide ((k:Int) < (k:Int))=false:=by simp
theorem Je (s:ByteArray) (c:Int) (hs:s.size≤100000) : ∃ r,F5 s c=some r∧r.length≤s.size + 1∧∀ x∈r,x.size≤s.size:=by
 unfold F5
 dsimp only
 obtain ⟨r,r1,r2⟩:=aL (f:=tN s c) (fun st=>∃ i a:Nat,st.2.2=(i:Int)∧st.2.1=(a:Int)∧i≤s.size∧a≤i∧st.1.length≤i∧∀ x∈st.1,x.size≤s.size) (fun st=>s.size - st.2.2.toNat) (fun r=>∃ a:Nat,r.2.1=(a:Int)∧a≤s.size∧r.1.length≤s.size∧∀ x∈r.1,x.size≤s.size) (fun st ⟨i,a,h1,h2,h3,h4,h5,h6⟩=>by
  unfold tN
  simp only [h1,h2]
  by_cases hlt:i < s.size
  ·obtain ⟨b,hb⟩:=pG (s:=s) (k:=(i:Int)) (by omega) (by simpa using hlt)
   simp only [ltS hlt,if_true,hb,zb,wK (show i≤1000000 by omega)]
   split
   ·rw [RD h4 h3]
    simp only [zb]
    rw [aE (by simp; omega)]
    refine .inl ⟨_,rfl,⟨i + 1,i + 1,rfl,rfl,hlt,Nat.le_refl _,by simp; omega,fun x hx=>?_⟩,by simp only [zt]; omega⟩
    simp only [List.mem_append,List.mem_singleton] at hx
    rcases hx with hx | rfl
    ·exact h6 x hx
    ·exact yQ _ _ _
   ·exact .inl ⟨_,rfl,⟨i + 1,a,rfl,rfl,hlt,by omega,by show st.1.length≤i + 1; omega,h6⟩,by simp only [zt]; omega⟩
  ·have:i=s.size:=by omega
   subst this
   simp only [geS,zf,if_false]
   exact .inr ⟨_,rfl,a,rfl,h4,h5,h6⟩) ab ([],0,0) ⟨0,0,rfl,rfl,Nat.zero_le _,Nat.le_refl _,Nat.le_refl _,fun x hx=>by cases hx⟩ (by show s.size - (0:Int).toNat < ab; unfold ab; omega)
 rw [r1]
 obtain ⟨a,k1,k2,k3,k4⟩:=r2
 simp only [zb,k1]
 split
 ·rw [RC k2]
  simp only [zb]
  rw [aE (by simp; omega)]
  refine ⟨_,rfl,by simp; omega,fun x hx=>?_⟩
  simp only [List.mem_append,List.mem_singleton] at hx
  rcases hx with hx | rfl
  ·exact k4 x hx
  ·exact yQ _ _ _
 ·exact ⟨_,rfl,by show r.1.length≤_; omega,k4⟩
theorem Ns (s:ByteArray) (hs:s.size≤100000) : ∃ r,ze s=some r∧r.length≤s.size + 1∧∀ x∈r,x.size≤s.size:=by
 obtain ⟨l,l1,l2,l3⟩:=Je s 32 hs
 have hl:l.length≤1000000:=by omega
 unfold ze
 simp only [l1,zb]
 obtain ⟨r,r1,r2⟩:=aL (f:=p8 l) (fun st=>∃ i:Nat,st.2=(i:Int)∧i≤l.length∧st.1.length≤i∧∀ x∈st.1,x.size≤s.size) (fun st=>l.length - st.2.toNat) (fun r=>r.1.length≤s.size + 1∧∀ x∈r.1,x.size≤s.size) (fun st ⟨i,h1,h2,h3,h4⟩=>by
  unfold p8
  simp only [h1]
  by_cases hlt:i < l.length
  ·have g1:l[i]? = some l[i]:=zq hlt
   simp only [bM g1,if_true,aD g1,zb,a6 hlt hl]
   split
   ·rw [aE (by simp; omega)]
    refine .inl ⟨_,rfl,⟨i + 1,rfl,hlt,by simp; omega,fun x hx=>?_⟩,by simp only [zt]; omega⟩
    simp only [List.mem_append,List.mem_singleton] at hx
    rcases hx with hx | rfl
    ·exact h4 x hx
    ·exact l3 _ (List.getElem_mem _)
   ·exact .inl ⟨_,rfl,⟨i + 1,rfl,hlt,by show st.1.length≤i + 1; omega,h4⟩,by simp only [zt]; omega⟩
  ·have:i=l.length:=by omega
   subst this
   simp only [bE,zf,if_false]
   exact .inr ⟨_,rfl,by show st.1.length≤_; omega,h4⟩) ab ([],0) ⟨0,rfl,Nat.zero_le _,Nat.le_refl _,fun x hx=>by cases hx⟩ (by have:=an hl; show l.length - (0:Int).toNat < ab; omega)
 rw [r1]
 exact ⟨_,rfl,r2⟩
theorem tM (s:ByteArray) (hs:s.size≤100000) : ∃ r,px s=some r:=by
 unfold px
 simp only [orB,zb]
 by_cases h0:s.size < 1∨s.size > 7
 ·have:(decide ((s.size:Int) < 1)||decide ((s.size:Int) > 7))=true:=by
   rcases h0 with h | h
   ·have:decide ((s.size:Int) < 1)=true:=by simp; omega
    rw [this]; rfl
   ·have:decide ((s.size:Int) > 7)=true:=by simp; omega
    rw [this]; simp
  simp only [this,if_true,zb]
  exact ⟨_,rfl⟩
 ·have:(decide ((s.size:Int) < 1)||decide ((s.size:Int) > 7))=false:=by
   have h1:decide ((s.size:Int) < 1)=false:=by simp; omega
   have h2:decide ((s.size:Int) > 7)=false:=by simp; omega
   rw [h1,h2]; rfl
  obtain ⟨b,hb⟩:=pG (s:=s) (k:=0) (by omega) (by simp; omega)
  simp only [this,zf,if_false,hb,du,zb]
  split
  ·exact ⟨_,rfl⟩
  ·obtain ⟨r,r1,_⟩:=aL (f:=oB s) (fun st=>∃ i:Nat,st.2=(i:Int)∧i≤s.size) (fun st=>s.size - st.2.toNat) (fun _=>True) (fun st ⟨i,h1,h2⟩=>by
    unfold oB
    simp only [h1]
    by_cases hlt:i < s.size
    ·obtain ⟨b,hb⟩:=pG (s:=s) (k:=(i:Int)) (by omega) (by simpa using hlt)
     simp only [ltS hlt,if_true,hb,orB,zb,wK (show i≤1000000 by omega)]
     split
     ·exact .inr ⟨_,rfl,trivial⟩
     ·exact .inl ⟨_,rfl,⟨i + 1,rfl,hlt⟩,by simp only [zt]; omega⟩
    ·have:i=s.size:=by omega
     subst this
     simp only [geS,zf,if_false]
     exact .inr ⟨_,rfl,trivial⟩) ab (0,0) ⟨0,rfl,Nat.zero_le _⟩ (by show s.size - (0:Int).toNat < ab; unfold ab; omega)
   rw [r1]
   simp only [zb]
   cases r <;> exact ⟨_,rfl⟩
theorem Nt (s:ByteArray) (hs:s.size≤100000) : ∃ r,zh s=some r:=by
 unfold zh
 dsimp only
 obtain ⟨r,r1,i,r2,r3⟩:=aL (f:=p9 s) (fun st=>∃ i:Nat,st=(i:Int)∧i≤s.size) (fun st=>s.size - st.toNat) (fun st=>∃ i:Nat,st=(i:Int)∧i≤s.size) (fun st ⟨i,h1,h2⟩=>by
  unfold p9
  simp only [h1]
  by_cases hlt:i < s.size
  ·obtain ⟨b,hb⟩:=pG (s:=s) (k:=(i:Int)) (by omega) (by simpa using hlt)
   simp only [ltS hlt,if_true,hb,zb,wK (show i≤1000000 by omega)]
   split
   ·exact .inl ⟨_,rfl,⟨i + 1,rfl,hlt⟩,by simp only [zt]; omega⟩
   ·exact .inr ⟨_,rfl,i,rfl,h2⟩
  ·have:i=s.size:=by omega
   subst this
   simp only [geS,zf,if_false,zb]
   exact .inr ⟨_,rfl,_,rfl,Nat.le_refl _⟩) ab 0 ⟨0,rfl,Nat.zero_le _⟩ (by show s.size - (0:Int).toNat < ab; unfold ab; omega)
 rw [r1]
 subst r2
 simp only [zb]
 split
 ·exact ⟨_,rfl⟩
 ·rename_i hne
  have hlt:i < s.size:=by
   have:i≠s.size:=fun e=>hne (by rw [e]; simp)
   omega
  obtain ⟨a,ha⟩:=tM (s.extract 0 i) (Nat.le_trans (yQ _ _ _) hs)
  obtain ⟨b,hb⟩:=tM (s.extract (i + 1) s.size) (Nat.le_trans (yQ _ _ _) hs)
  rw [RF (Nat.le_of_lt hlt)]
  simp only [zb,ha,wK (show i≤1000000 by omega)]
  rw [RC hlt]
  simp only [zb,hb,du]
  exact ⟨_,rfl⟩
theorem Nu (w:List ByteArray) (n:Nat) (hn:n≤1000) (hw:w.length≤100001) (hs:∀ x∈w,x.size≤100000) : ∃ r,zi w (n:Int)=some r∧r.1.bu.length≤100001∧r.1.aC.size≤100000:=by
 have hwr:i64.wrap (3 + (n:Int))=((3 + n:Nat) : Int):=by rw [IntKind.wrap_i64]; omega
 unfold zi
 simp only [hwr]
 by_cases hl:w.length=3 + n
 ·have hl':((w.length:Int) != ((3 + n:Nat) : Int))=false:=by rw [hl]; simp
  have g0:w[0]? = some w[0]:=zq (by omega)
  have g1:w[1]? = some w[1]:=zq (by omega)
  have g2:w[2]? = some w[2]:=zq (by omega)
  have i0:=aD g0
  have i1:=aD g1
  have i2:=aD g2
  obtain ⟨m,hm⟩:=tM w[2] (hs _ (List.getElem_mem _))
  have i0':aw w 0=some w[0]:=i0
  have i1':aw w 1=some w[1]:=i1
  have i2':aw w 2=some w[2]:=i2
  simp only [hl',zf,if_false,i0',zb]
  split
  ·exact ⟨_,rfl,by simp,Nat.zero_le _⟩
  ·simp only [i2',hm,i1',zb]
   obtain ⟨r,r1,r2⟩:=aL (f:=qa w) (fun st=>∃ i:Nat,st.2.2=(i:Int)∧i≤w.length∧st.2.1.bu.length≤i∧st.2.1.aC.size≤100000) (fun st=>w.length - st.2.2.toNat) (fun r=>r.2.1.bu.length≤100001∧r.2.1.aC.size≤100000) (fun st ⟨i,h1,h2,h3,h4⟩=>by
    unfold qa
    simp only [h1]
    by_cases hlt:i < w.length
    ·have g1:w[i]? = some w[i]:=zq hlt
     obtain ⟨c,hc⟩:=Nt w[i] (hs _ (List.getElem_mem _))
     simp only [bM g1,if_true,aD g1,hc,zb,a6 hlt (show w.length≤1000000 by omega)]
     split
     ·rw [aE (by simp; omega)]
      exact .inl ⟨_,rfl,⟨i + 1,rfl,hlt,by simp; omega,h4⟩,by simp only [zt]; omega⟩
     ·exact .inr ⟨_,rfl,by show st.2.1.bu.length≤_; omega,h4⟩
    ·have:i=w.length:=by omega
     subst this
     simp only [bE,zf,if_false,zb]
     exact .inr ⟨_,rfl,by show st.2.1.bu.length≤_; omega,h4⟩) ab (m.2,(⟨w[1],[],m.1⟩ : ax),3) ⟨3,rfl,by omega,by simp,hs _ (List.getElem_mem _)⟩ (by show w.length - (3:Int).toNat < ab; unfold ab; omega)
   rw [r1]
   exact ⟨_,rfl,r2⟩
 ·have hl':((w.length:Int) != ((3 + n:Nat) : Int))=true:=by simp; omega
  simp only [hl',if_true,zb]
  exact ⟨_,rfl,by simp,Nat.zero_le _⟩
structure np (c:av) : Prop where
 labels:c.ak.length≤3
 label:∀ x∈c.ak,x.size≤100000
 queues:c.ae.length≤2001
 paths:∀ q∈c.ae,q.aC.size≤100000
 caps:∀ q∈c.ae,q.bu.length≤100001
theorem np.nil:np ⟨[],[]⟩:=⟨by simp,fun x hx=>(by cases hx),by simp,fun x hx=>(by cases hx),fun x hx=>(by cases hx)⟩
theorem Nx (s:ByteArray) : ∃ r,zk s=some r∧np r.1:=by
 unfold zk
 by_cases h0:s.size > 2000
 ·have:decide ((s.size:Int) > 2000)=true:=by simp; omega
  simp only [this,if_true]
  exact ⟨_,rfl,.nil⟩
 have hd:decide ((s.size:Int) > 2000)=false:=by simp; omega
 simp only [hd,zf,if_false]
 obtain ⟨l,l1,l2,l3⟩:=Je s 10 (by omega)
 have hl:l.length≤1000000:=by omega
 simp only [l1,zb]
 obtain ⟨r,r1,r2⟩:=aL (f:=qd l) (fun st=>∃ i:Nat,st.2.2=(i:Int)∧i≤l.length∧st.1.ae.length≤i∧np st.1) (fun st=>l.length - st.2.2.toNat) (fun r=>match r with | .inl m=>np m.1 | .inr m=>np m.1) (fun st ⟨i,h1,h2,hq,hp⟩=>by
  unfold qd
  simp only [h1]
  by_cases hlt:i < l.length
  ·have g1:l[i]? = some l[i]:=zq hlt
   have hls:=l3 _ (List.getElem_mem hlt)
   obtain ⟨w,w1,w2,w3⟩:=Ns l[i] (by omega)
   simp only [bM g1,if_true,aD g1,w1,zb,a6 hlt hl]
   split
   ·exact .inl ⟨_,rfl,⟨i + 1,rfl,hlt,by show st.1.ae.length≤i + 1; omega,hp⟩,by simp only [zt]; omega⟩
   rename_i hw0
   have hw : 0 < w.length:=by
    rcases Nat.eq_zero_or_pos w.length with e | e
    ·rw [e] at hw0; simp at hw0
    ·exact e
   have i0':aw w 0=some w[0]:=aD (zq hw)
   split
   ·simp only [i0',zb]
    split
    ·exact .inr ⟨_,rfl,.nil⟩
    split
    ·exact .inr ⟨_,rfl,.nil⟩
    rename_i h3
    have h3:w.length≤3:=by have : ¬ ((w.length:Int) > 3):=fun e=>h3 (by simpa using e); omega
    have hlo:loO w 1=some (w.drop 1):=jQ (l:=w) (k:=1) hw
    simp only [hlo,zb]
    rw [aE (by simp; omega)]
    simp only [zb]
    refine .inl ⟨_,rfl,⟨i + 1,rfl,hlt,by show st.1.ae.length≤i + 1; omega,⟨by simp; omega,fun x hx=>?_,hp.queues,hp.paths,hp.caps⟩⟩,by simp only [zt]; omega⟩
    simp only [List.singleton_append,List.mem_cons] at hx
    rcases hx with rfl | hx
    ·exact Nat.zero_le _
    ·have:=w3 x (List.mem_of_mem_drop hx); omega
   ·simp only [i0',du,zb]
    split
    ·exact .inr ⟨_,rfl,.nil⟩
    obtain ⟨q,q1,q2,q3⟩:=Nu w st.1.ak.length (by have:=hp.labels; omega) (by omega) (fun x hx=>by have:=w3 x hx; omega)
    simp only [q1,zb]
    split
    ·exact .inr ⟨_,rfl,.nil⟩
    obtain ⟨K,k1,k2,k3,k4⟩:=aL (f:=qc st.1 q.1) (fun st2=>∃ j:Nat,st2=(j:Int)∧j≤st.1.ae.length) (fun st2=>st.1.ae.length - st2.toNat) (fun st2=>∃ j:Nat,st2=(j:Int)∧j≤st.1.ae.length) (fun st2 ⟨j,e1,e2⟩=>by
     unfold qc
     simp only [e1]
     by_cases hj:j < st.1.ae.length
     ·have g2:st.1.ae[j]? = some st.1.ae[j]:=zq hj
      simp only [bM g2,if_true,aD g2,zb,a6 hj (show st.1.ae.length≤1000000 by omega)]
      split
      ·exact .inl ⟨_,rfl,⟨j + 1,rfl,hj⟩,by simp only [zt]; omega⟩
      ·exact .inr ⟨_,rfl,j,rfl,e2⟩
     ·have:j=st.1.ae.length:=by omega
      subst this
      simp only [bE,zf,if_false,zb]
      exact .inr ⟨_,rfl,_,rfl,Nat.le_refl _⟩) ab 0 ⟨0,rfl,Nat.zero_le _⟩ (by have:=an (show st.1.ae.length≤1000000 by omega); show st.1.ae.length - (0:Int).toNat < ab; omega)
    subst k3
    have fin:∀ tw:Bool,(∃ s',(Option.bind (hiO st.1.ae ((k2:Nat) : Int)) fun b16=>Option.bind (aU ([] : (List ax)) b16) fun b17=>Option.bind (aU b17 [q.1]) fun b18=>Option.bind (loO st.1.ae ((k2:Nat) : Int)) fun b19=>Option.bind (aU b18 b19) fun b20=>some (Sum.inl ({ st.1 with ae:=b20 },tw,((i + 1:Nat) : Int)) : (av×Bool×Int)⊕((av×Bool×Int)⊕(av×Int))))=some (.inl s')∧(∃ i:Nat,s'.2.2=(i:Int)∧i≤l.length∧s'.1.ae.length≤i∧np s'.1)∧l.length - s'.2.2.toNat < l.length - ((i:Nat) : Int).toNat):=by
     intro tw
     rw [mS k4]
     simp only [zb]
     rw [aE (by simp; omega)]
     simp only [zb]
     rw [aE (by simp; omega)]
     simp only [zb]
     rw [jQ k4]
     simp only [zb]
     rw [aE (by simp; omega)]
     simp only [zb]
     have mem:∀ x∈([] ++ st.1.ae.take k2 ++ [q.1])++st.1.ae.drop k2,x∈st.1.ae∨x=q.1:=by
      intro x hx
      simp only [List.nil_append,List.mem_append,List.mem_singleton] at hx
      rcases hx with (hx | hx) | hx
      ·exact .inl (List.mem_of_mem_take hx)
      ·exact .inr hx
      ·exact .inl (List.mem_of_mem_drop hx)
     refine ⟨_,rfl,⟨i + 1,rfl,hlt,by simp; omega,⟨hp.labels,hp.label,by simp; omega,fun x hx=>?_,fun x hx=>?_⟩⟩,by simp only [zt]; omega⟩
     ·rcases mem x hx with hx | rfl
      ·exact hp.paths x hx
      ·exact q3
     ·rcases mem x hx with hx | rfl
      ·exact hp.caps x hx
      ·exact q2
    simp only [k1,orB,zb]
    by_cases hj:k2 < st.1.ae.length
    ·have g2:st.1.ae[k2]? = some st.1.ae[k2]:=zq hj
     simp only [bM g2,if_true,aD g2,zb]
     by_cases ht:st.2.1=true
     ·simp only [ht,if_true,zb]
      exact .inl (fin _)
     ·simp only [ht,zf,if_false,zb]
      exact .inl (fin _)
    ·have:k2=st.1.ae.length:=by omega
     subst this
     simp only [bE,zf,if_false,zb]
     by_cases ht:st.2.1=true
     ·simp only [ht,if_true,zb]
      exact .inl (fin _)
     ·simp only [ht,zf,if_false,zb]
      exact .inl (fin _)
  ·have:i=l.length:=by omega
   subst this
   simp only [bE,zf,if_false]
   exact .inr ⟨_,rfl,hp⟩) ab ((⟨[],[]⟩ : av),false,0) ⟨0,rfl,Nat.zero_le _,by simp,.nil⟩ (by have:=an hl; show l.length - (0:Int).toNat < ab; omega)
 rw [r1]
 simp only [zb]
 cases r with
 | inr m=>exact ⟨_,rfl,r2⟩
 | inl m =>
  dsimp only
  split
  ·exact ⟨_,rfl,.nil⟩
  split
  ·exact ⟨_,rfl,.nil⟩
  ·exact ⟨_,rfl,r2⟩
def inI (n:Int) : Prop:=-9223372036854775808≤n∧n≤9223372036854775807
theorem ff {s t:ByteArray} (h:s.size + t.size≤9223372036854775807) : mw s t=some (s++t):=by unfold mw; rw [if_pos h]
theorem VV (n:Int) : ∃ r,Yo [n] = some r∧r.size=1:=⟨_,rfl,by simp [ByteArray.size_push]⟩
theorem Pw:∀ (d:Nat) (n:Int),0≤n→n < 10 ^ (d + 1)→d≤30→n≤9223372036854775807→∀ f,d < f→∃ r,dv f n=some r∧r.size≤d + 1
 | d,n,h0,h1,hd,h2,0,hf=>by omega
 | d,n,h0,h1,hd,h2,f + 1,hf=>by
  unfold dv
  have e1:decide (n < 0)=false:=by simp; omega
  simp only [e1,zf,if_false]
  by_cases hn:n≥10
  ·have e2:decide (n≥10)=true:=by simpa using hn
   match d,h1,hd,hf with
   | 0,h1,_,_=>simp at h1; omega
   | d + 1,h1,hd,hf =>
   have hq:n.tdiv 10=n / 10:=Int.tdiv_eq_ediv_of_nonneg h0
   have hm:n.tmod 10=n % 10:=Int.tmod_eq_emod_of_nonneg h0
   have hw:i64.wrap (n / 10)=n / 10:=by rw [IntKind.wrap_i64]; omega
   have hlt:n / 10 < 10 ^ (d + 1):=by
    have e:(10:Int) ^ (d + 1 + 1)=10 ^ (d + 1) * 10:=by rw [Int.pow_succ]
    rw [e] at h1
    generalize (10:Int) ^ (d + 1)=P at h1 ⊢
    omega
   obtain ⟨a,a1,a2⟩:=Pw d (n / 10) (by omega) hlt (by omega) (by omega) f (by omega)
   obtain ⟨b,b1,b2⟩:=Pw 0 (n % 10) (by omega) (by simp; omega) (by omega) (by omega) f (by omega)
   simp only [e2,if_true,hq,hm,hw,a1,b1,zb]
   rw [ff (by omega)]
   exact ⟨_,rfl,by simp only [ByteArray.size_append]; omega⟩
  ·have e2:decide (n≥10)=false:=by simp; omega
   obtain ⟨r,r1,r2⟩:=VV (IntKind.u8.wrap (i64.wrap (48 + n)))
   simp only [e2,zf,if_false,r1,zb]
   exact ⟨_,rfl,by omega⟩
theorem Sx {n:Int} (h0 : 0≤n) (h:n≤9223372036854775807) {f:Nat} (hf : 18 < f) : ∃ r,dv f n=some r∧r.size≤19:=Pw 18 n h0 (Int.lt_of_le_of_lt h (by decide)) (by omega) h f hf
theorem rB {n:Int} (h:inI n) : ∃ r,dv ab n=some r∧r.size≤30:=by
 by_cases h0 : 0≤n
 ·obtain ⟨r,r1,r2⟩:=Sx h0 h.2 (f:=ab) (by unfold ab; omega)
  exact ⟨r,r1,by omega⟩
 ·have hr:ab=999999999 + 1:=rfl
  rw [hr]
  have hneg:∀ f,18 < f→∃ r,dv (f + 1) n=some r∧r.size≤30:=fun f hf=>by
   unfold dv
   have e1:decide (n < 0)=true:=by simp; omega
   simp only [e1,if_true]
   split
   ·exact ⟨_,rfl,by decide⟩
   ·rename_i hne
    have hne:n≠-9223372036854775808:=by simpa using hne
    have hw:i64.wrap (0 - n)=0 - n:=by rw [IntKind.wrap_i64]; have:=h.1; omega
    obtain ⟨a,a1,a2⟩:=Sx (n:=0 - n) (by omega) (by have:=h.1; omega) (f:=f) hf
    simp only [hw,a1,zb]
    have e3:(⟨#[45]⟩ : ByteArray).size=1:=rfl
    rw [ff (by rw [e3]; omega)]
    exact ⟨_,rfl,by simp only [ByteArray.size_append,e3]; omega⟩
  exact hneg 999999999 (by omega)
structure XB (c:av) : Prop where
 labels:c.ak.length≤1000
 label:∀ x∈c.ak,x.size≤100000
 queues:c.ae.length≤1000
 paths:∀ q∈c.ae,q.aC.size≤100000
 caps:∀ q∈c.ae,q.bu.length≤1000
 user:∀ q∈c.ae,inI q.cy
 nums:∀ q∈c.ae,∀ x∈q.bu,inI x.kz∧inI x.sr
theorem F6 {c:av} (h:XB c) : ∃ r,zj c=some r:=by
 have s1:(⟨#[32]⟩ : ByteArray).size=1:=rfl
 have s2:(⟨#[10]⟩ : ByteArray).size=1:=rfl
 have s3:(⟨#[47]⟩ : ByteArray).size=1:=rfl
 have s4:(⟨#[113,117,101,117,101,32]⟩ : ByteArray).size=6:=rfl
 have s5:(⟨#[108,97,98,101,108,115]⟩ : ByteArray).size=6:=rfl
 have hl:=h.labels
 have hq:=h.queues
 unfold zj
 dsimp only
 obtain ⟨r,r1,r2⟩:=aL (f:=rx c) (fun st=>∃ i:Nat,st.2=(i:Int)∧i≤1001∧st.1.size≤10 + i * 200000) (fun st=>c.ak.length - st.2.toNat) (fun r=>r.1.size≤300000000) (fun st ⟨i,h1,h2,h3⟩=>by
  unfold rx
  simp only [h1]
  by_cases hlt:i < c.ak.length
  ·have g1:c.ak[i]? = some c.ak[i]:=zq hlt
   have hs:=h.label _ (List.getElem_mem hlt)
   simp only [bM g1,if_true,aD g1,zb,a6 hlt (show c.ak.length≤1000000 by omega)]
   rw [ff (by rw [s1]; omega)]
   simp only [zb]
   rw [ff (by simp only [ByteArray.size_append,s1]; omega)]
   exact .inl ⟨_,rfl,⟨i + 1,rfl,by omega,by simp only [ByteArray.size_append,s1]; omega⟩,by simp only [zt]; omega⟩
  ·have:decide ((i:Int) < (c.ak.length:Int))=false:=by simp; omega
   simp only [this,zf,if_false]
   exact .inr ⟨_,rfl,by show st.1.size≤_; omega⟩) ab ((⟨#[108,97,98,101,108,115]⟩ : ByteArray),1) ⟨1,rfl,by omega,by rw [s5]; omega⟩ (by show c.ak.length - (1:Int).toNat < ab; unfold ab; omega)
 rw [r1]
 simp only [zb]
 rw [ff (by rw [s2]; omega)]
 simp only [zb]
 obtain ⟨q,q1,_⟩:=aL (f:=rv c) (fun st=>∃ i:Nat,st.2=(i:Int)∧i≤c.ae.length∧st.1.size≤400000000 + i * 1000000) (fun st=>c.ae.length - st.2.toNat) (fun _=>True) (fun st ⟨i,h1,h2,h3⟩=>by
  unfold rv
  simp only [h1]
  by_cases hlt:i < c.ae.length
  ·have g1:c.ae[i]? = some c.ae[i]:=zq hlt
   have hm:=List.getElem_mem hlt
   generalize c.ae[i] = Q at g1 hm
   have hp:=h.paths _ hm
   have hc:=h.caps _ hm
   have hn:=h.nums _ hm
   obtain ⟨u,u1,u2⟩:=rB (h.user _ hm)
   simp only [bM g1,if_true,aD g1,u1,zb,a6 hlt (show c.ae.length≤1000000 by omega)]
   rw [ff (by rw [s4]; omega)]
   simp only [zb]
   rw [ff (by simp only [ByteArray.size_append,s4]; omega)]
   simp only [zb]
   rw [ff (by simp only [ByteArray.size_append,s4,s1]; omega)]
   simp only [zb]
   rw [ff (by simp only [ByteArray.size_append,s4,s1]; omega)]
   simp only [zb]
   generalize hX:st.1++(⟨#[113,117,101,117,101,32]⟩ : ByteArray)++Q.aC++(⟨#[32]⟩ : ByteArray)++u=X
   have hXs:X.size≤400000000 + i * 1000000 + 200000:=by rw [← hX]; simp only [ByteArray.size_append,s4,s1]; omega
   obtain ⟨w,w1,w2⟩:=aL (f:=ru Q) (fun st2=>∃ j:Nat,st2.2=(j:Int)∧j≤Q.bu.length∧st2.1.size≤X.size + j * 100) (fun st2=>Q.bu.length - st2.2.toNat) (fun r=>r.1.size≤X.size + 100000) (fun st2 ⟨j,e1,e2,e3⟩=>by
    unfold ru
    simp only [e1]
    by_cases hj:j < Q.bu.length
    ·have g2:Q.bu[j]? = some Q.bu[j]:=zq hj
     obtain ⟨n1,n2⟩:=hn _ (List.getElem_mem hj)
     obtain ⟨a,a1,a2⟩:=rB n1
     obtain ⟨b,b1,b2⟩:=rB n2
     simp only [bM g2,if_true,aD g2,a1,b1,zb,a6 hj (show Q.bu.length≤1000000 by omega)]
     rw [ff (by rw [s1]; omega)]
     simp only [zb]
     rw [ff (by simp only [ByteArray.size_append,s1]; omega)]
     simp only [zb]
     rw [ff (by simp only [ByteArray.size_append,s1,s3]; omega)]
     simp only [zb]
     rw [ff (by simp only [ByteArray.size_append,s1,s3]; omega)]
     exact .inl ⟨_,rfl,⟨j + 1,rfl,hj,by simp only [ByteArray.size_append,s1,s3]; omega⟩,by simp only [zt]; omega⟩
    ·have:j=Q.bu.length:=by omega
     subst this
     simp only [bE,zf,if_false]
     exact .inr ⟨_,rfl,by show st2.1.size≤_; omega⟩) ab (X,0) ⟨0,rfl,Nat.zero_le _,by simp⟩ (by show Q.bu.length - (0:Int).toNat < ab; unfold ab; omega)
   rw [w1]
   simp only [zb]
   rw [ff (by rw [s2]; omega)]
   exact .inl ⟨_,rfl,⟨i + 1,rfl,hlt,by simp only [ByteArray.size_append,s2]; omega⟩,by simp only [zt]; omega⟩
  ·have:i=c.ae.length:=by omega
   subst this
   simp only [bE,zf,if_false]
   exact .inr ⟨_,rfl,trivial⟩) ab (r.1++(⟨#[10]⟩ : ByteArray),0) ⟨0,rfl,Nat.zero_le _,by simp only [ByteArray.size_append,s2]; omega⟩ (by show c.ae.length - (0:Int).toNat < ab; unfold ab; omega)
 rw [q1]
 exact ⟨_,rfl⟩
def cnt (s:ByteArray) (k:Nat) : Nat:=((s.data.toList.take k).filter (fun c=>c==46)).length
def dots (s:ByteArray) : Nat:=cnt s s.size
theorem HV {s:ByteArray} {i:Nat} {b:Int} (h:jT s (i:Int)=some b) : ∃ c:UInt8,s.data.toList[i]? = some c∧b=(c.toNat:Int):=by
 unfold jT at h
 rw [if_pos (by omega)] at h
 rw [zt,zm] at h
 obtain ⟨c,h1,h2⟩:=h
 exact ⟨c,h1,h2.symm⟩
theorem FC {s:ByteArray} {i:Nat} {c:UInt8} (h:s.data.toList[i]? = some c) : cnt s (i + 1)=cnt s i + (if c=46 then 1 else 0):=by
 unfold cnt
 rw [List.take_add_one,h,List.filter_append,List.length_append]
 by_cases hc:c=46
 ·subst hc; simp
 ·have:(c==46)=false:=by simpa using hc
  simp [hc,this]
theorem Xk (s:ByteArray) {i j:Nat} (h:i≤j) : cnt s i≤cnt s j:=by
 unfold cnt
 exact (List.Sublist.filter _ ((List.take_prefix_take_left h).sublist)).length_le
theorem W8 {c:UInt8} (h:((c.toNat:Int) != 46)=false) : c=46:=by
 have h:(c.toNat:Int)=46:=by simpa using h
 have h:c.toNat=46:=by omega
 exact UInt8.toNat_inj.1 (by rw [h]; rfl)
theorem Wg {c:UInt8} (h:((c.toNat:Int) != 46)=true) : c≠46:=by
 intro e
 subst e
 simp at h
theorem W7 {s:ByteArray} {k:Nat} (hk:k≤s.size) : dots (s.extract 0 k)=cnt s k:=by
 unfold dots cnt
 have e1:(s.extract 0 k).data.toList=s.data.toList.take k:=by
  simp [ByteArray.data_extract]
 have e2:(s.extract 0 k).size=k:=by simp only [ByteArray.size_extract]; omega
 rw [e1,e2,List.take_take,Nat.min_self]
theorem PK {p r:ByteArray} (hp:p.size≤1000000) (h:dE p=some r) : r.size=0∨dots r + 1≤dots p:=by
 unfold dE at h
 dsimp only at h
 obtain ⟨k,hk,h⟩:=bv h
 have hq:k < 0∨jT p k=some 46:=by
  refine mP (f:=eD p) (fun _=>True) (fun k=>k < 0∨jT p k=some 46) (fun st r _ h=>?_) _ _ k trivial hk
  unfold eD at h
  dsimp only at h
  obtain ⟨q,hq,h⟩:=bv h
  split at h
  ·injection h with h; subst h; trivial
  ·rename_i hf
   injection h with h
   subst h
   show st < 0∨jT p st=some 46
   split at hq
   ·obtain ⟨b,hb,hq⟩:=bv hq
    injection hq with hq
    have:b=46:=by rw [← hq] at hf; simpa using hf
    exact .inr (by rw [hb,this])
   ·rename_i hge
    exact .inl (by have : ¬ (st≥0):=fun e=>hge (by simpa using e); omega)
 split at h
 ·injection h with h; subst h; exact .inl rfl
 ·rename_i hge
  have hge : ¬ k < 0:=fun e=>hge (by simpa using e)
  obtain ⟨b,hb,h⟩:=bv h
  injection h with h
  subst h
  rcases hq with hq | hq
  ·exact absurd hq hge
  ·obtain ⟨n,rfl⟩ : ∃ n:Nat,k=(n:Int):=⟨k.toNat,by omega⟩
   obtain ⟨c,hc,e⟩:=HV hq
   have hlt:n < p.size:=by have:=(zg.1 hc).1; simpa using this
   rw [RF (Nat.le_of_lt hlt)] at hb
   injection hb with hb
   subst hb
   refine .inr ?_
   rw [W7 (Nat.le_of_lt hlt)]
   have hc46:c=46:=W8 (by rw [← e]; rfl)
   have h1:=FC hc
   rw [if_pos hc46] at h1
   have h2:=Xk p (i:=n + 1) (j:=p.size) hlt
   unfold dots
   omega
theorem mZ {p:ByteArray} (hp:p.size≤1000000) : dE p=some (eh p)∧((eh p).size < p.size∨(eh p).size=0):=by
 obtain ⟨r,h1,h2⟩:=oa p hp
 unfold eh
 rw [h1]
 exact ⟨rfl,h2⟩
theorem Fv:∀ (n:Nat) (p:ByteArray),p.size≤1000000→dA n p≤dots p + 1
 | 0,p,_=>Nat.zero_le _
 | n + 1,p,hp=>by
  unfold dA
  split
  ·exact Nat.zero_le _
  ·obtain ⟨h1,h2⟩:=mZ hp
   have ih:=Fv n (eh p) (by omega)
   rcases PK hp h1 with h | h
   ·have:dA n (eh p)=0:=by
     cases n with
     | zero=>rfl
     | succ n=>unfold dA; rw [if_pos h]
    omega
   ·omega
theorem F4 (s:ByteArray) : ∃ r,wb s=some r:=by
 unfold wb
 simp only [orB,zb]
 by_cases h0:s.size < 1∨s.size > 12
 ·have:(decide ((s.size:Int) < 1)||decide ((s.size:Int) > 12))=true:=by
   rcases h0 with h | h
   ·have:decide ((s.size:Int) < 1)=true:=by simp; omega
    rw [this]; rfl
   ·have:decide ((s.size:Int) > 12)=true:=by simp; omega
    rw [this]; simp
  simp only [this,if_true]
  exact ⟨_,rfl⟩
 ·have:(decide ((s.size:Int) < 1)||decide ((s.size:Int) > 12))=false:=by
   have h1:decide ((s.size:Int) < 1)=false:=by simp; omega
   have h2:decide ((s.size:Int) > 12)=false:=by simp; omega
   rw [h1,h2]; rfl
  simp only [this,zf,if_false]
  obtain ⟨r,r1,_⟩:=aL (f:=rr s) (fun st=>∃ i:Nat,st=(i:Int)∧i≤s.size) (fun st=>s.size - st.toNat) (fun _=>True) (fun st ⟨i,h1,h2⟩=>by
   unfold rr
   simp only [h1]
   by_cases hlt:i < s.size
   ·obtain ⟨b,hb⟩:=pG (s:=s) (k:=(i:Int)) (by omega) (by simpa using hlt)
    simp only [ltS hlt,if_true,hb,orB,du,zb,wK (show i≤1000000 by omega)]
    split
    ·exact .inr ⟨_,rfl,trivial⟩
    ·exact .inl ⟨_,rfl,⟨i + 1,rfl,hlt⟩,by simp only [zt]; omega⟩
   ·have:i=s.size:=by omega
    subst this
    simp only [geS,zf,if_false]
    exact .inr ⟨_,rfl,trivial⟩) ab 0 ⟨0,rfl,Nat.zero_le _⟩ (by show s.size - (0:Int).toNat < ab; unfold ab; omega)
  rw [r1]
  simp only [zb]
  cases r <;> exact ⟨_,rfl⟩
theorem KN (s:ByteArray) (hs:s.size≤100000) : ∃ r,wa s=some r∧(r=true→dots s≤3):=by
 unfold wa
 dsimp only
 have hcn:∀ k,cnt s k≤100000:=fun k=>by
  unfold cnt
  refine Nat.le_trans (List.length_filter_le _ _) (Nat.le_trans (List.length_take_le' _ _) ?_)
  simpa using hs
 obtain ⟨r,r1,r2⟩:=aL (f:=oA s) (fun st=>∃ i a n:Nat,st.2.2=(i:Int)∧st.1=(a:Int)∧st.2.1=(n:Int)∧a≤i∧((i≤s.size∧n=cnt s i)∨(i=s.size + 1∧n=cnt s s.size + 1))) (fun st=>s.size + 1 - st.2.2.toNat) (fun r=>match r with | .inl m=>m.2.1=((cnt s s.size + 1:Nat) : Int) | .inr b=>b=false) (fun st ⟨i,a,n,h1,h2,h3,h4,h5⟩=>by
  unfold oA
  simp only [h1,h2,h3]
  rcases h5 with ⟨h5,h6⟩ | ⟨h5,h6⟩
  ·have hle:decide ((i:Int)≤(s.size:Int))=true:=by simp; omega
   have hn:n≤100000:=by rw [h6]; exact hcn i
   obtain ⟨nm,hnm⟩:=F4 (s.extract a i)
   simp only [hle,if_true]
   have body:∀ n',(n' = n + 1)→(i=s.size∨cnt s (i + 1)=n + 1)→∃ o,(Option.bind (JF s (a:Int) (i:Int)) fun b5=>Option.bind (wb b5) fun c6=>Option.bind (if (!c6)=true then some true else Option.bind (if ((n:Int)==0)=true then Option.bind (JF s (a:Int) (i:Int)) fun b7=>some (!(b7.toList==(⟨#[114,111,111,116]⟩ : ByteArray).toList)) else some false) fun q8=>some q8) fun q9=>if q9=true then some (Sum.inr (Sum.inr false) : (Int×Int×Int)⊕((Int×Int×Int)⊕Bool)) else some (.inl (i64.wrap ((i:Int) + 1),i64.wrap ((n:Int) + 1),i64.wrap ((i:Int) + 1))))=some o∧(o = .inr (.inr false)∨o = .inl (((i + 1:Nat) : Int),((n + 1:Nat) : Int),((i + 1:Nat) : Int))):=by
    intro n' _ _
    simp only [RD h4 h5,hnm,zb,wK (show i≤1000000 by omega),wK (show n≤1000000 by omega)]
    have:∀ q:Bool,∃ o,(if q=true then some (Sum.inr (Sum.inr false) : (Int×Int×Int)⊕((Int×Int×Int)⊕Bool)) else some (.inl (((i + 1:Nat) : Int),((n + 1:Nat) : Int),((i + 1:Nat) : Int))))=some o∧(o = .inr (.inr false)∨o = .inl (((i + 1:Nat) : Int),((n + 1:Nat) : Int),((i + 1:Nat) : Int))):=fun q=>by
     cases q
     ·exact ⟨_,rfl,.inr rfl⟩
     ·exact ⟨_,rfl,.inl rfl⟩
    cases nm with
    | false=>simp only [Bool.not_false,if_true,zb]; exact ⟨_,rfl,.inl rfl⟩
    | true =>
     simp only [Bool.not_true,zf,if_false]
     split
     ·simp only [zb]; exact this _
     ·simp only [zb]; exact this _
   by_cases hlt:i < s.size
   ·obtain ⟨b,hb⟩:=pG (s:=s) (k:=(i:Int)) (by omega) (by simpa using hlt)
    obtain ⟨c,hc,e⟩:=HV hb
    simp only [ltS hlt,if_true,hb,zb]
    cases hbd:(b != 46) with
    | true =>
     simp only [if_true,wK (show i≤1000000 by omega)]
     have hnd:=Wg (c:=c) (by rw [← e]; exact hbd)
     exact .inl ⟨_,rfl,⟨i + 1,a,n,rfl,rfl,rfl,by omega,.inl ⟨hlt,by rw [FC hc,if_neg hnd]; exact h6⟩⟩,by simp only [zt]; omega⟩
    | false =>
     simp only [zf,if_false]
     have hdt:=W8 (c:=c) (by rw [← e]; exact hbd)
     have hcs:cnt s (i + 1)=n + 1:=by rw [FC hc,if_pos hdt,h6]
     obtain ⟨o,o1,o2⟩:=body (n + 1) rfl (.inr hcs)
     rw [o1]
     rcases o2 with rfl | rfl
     ·exact .inr ⟨_,rfl,rfl⟩
     ·exact .inl ⟨_,rfl,⟨i + 1,i + 1,n + 1,rfl,rfl,rfl,Nat.le_refl _,.inl ⟨hlt,hcs.symm⟩⟩,by simp only [zt]; omega⟩
   ·have hi:i=s.size:=by omega
    subst hi
    simp only [geS,zf,if_false,zb]
    obtain ⟨o,o1,o2⟩:=body (n + 1) rfl (.inl rfl)
    rw [o1]
    rcases o2 with rfl | rfl
    ·exact .inr ⟨_,rfl,rfl⟩
    ·exact .inl ⟨_,rfl,⟨s.size + 1,s.size + 1,n + 1,rfl,rfl,rfl,Nat.le_refl _,.inr ⟨rfl,by rw [h6]⟩⟩,by simp only [zt]; omega⟩
  ·have hle:decide ((i:Int)≤(s.size:Int))=false:=by simp; omega
   simp only [hle,zf,if_false]
   exact .inr ⟨_,rfl,by show (n:Int) = _; rw [h6]⟩) ab (0,0,0) ⟨0,0,0,rfl,rfl,rfl,Nat.le_refl _,.inl ⟨Nat.zero_le _,by simp [cnt]⟩⟩ (by show s.size + 1 - (0:Int).toNat < ab; unfold ab; omega)
 rw [r1]
 simp only [zb]
 cases r with
 | inr m=>exact ⟨_,rfl,fun e=>by rw [show m=false from r2] at e; cases e⟩
 | inl m =>
  refine ⟨_,rfl,fun e=>?_⟩
  have r2:m.2.1=((cnt s s.size + 1:Nat) : Int):=r2
  rw [r2] at e
  have:=zd e
  unfold dots
  omega
theorem KM {c:av} (h:np c) : ∃ r,sF c=some r∧(r=0→1≤c.ak.length∧c.ak.length≤3∧c.ae.length≤16):=by
 have hl:=h.labels
 have hq:=h.queues
 unfold sF
 simp only [orB,zb]
 cases hb:(decide ((c.ak.length:Int) < 1)||decide ((c.ak.length:Int) > 3)||decide ((c.ae.length:Int) > 16)) with
 | true=>simp only [if_true]; exact ⟨_,rfl,fun e=>by cases e⟩
 | false =>
  simp only [Bool.or_eq_false_iff,decide_eq_false_iff_not] at hb
  obtain ⟨⟨b1,b2⟩,b3⟩:=hb
  have good : 1≤c.ak.length∧c.ak.length≤3∧c.ae.length≤16:=⟨by omega,by omega,by omega⟩
  have hpos : 0 < c.ak.length:=by omega
  have i0:aw c.ak 0=some c.ak[0]:=aD (zq hpos)
  simp only [zf,if_false,i0,zb]
  split
  ·exact ⟨_,rfl,fun _=>good⟩
  obtain ⟨r,r1,_⟩:=aL (f:=oz c) (fun st=>∃ i:Nat,st=(i:Int)) (fun st=>c.ak.length - st.toNat) (fun _=>True) (fun st ⟨i,h1⟩=>by
   unfold oz
   simp only [h1]
   by_cases hlt:i < c.ak.length
   ·have g1:c.ak[i]? = some c.ak[i]:=zq hlt
    obtain ⟨n,hn⟩:=F4 c.ak[i]
    simp only [bM g1,if_true,aD g1,hn,zb,a6 hlt (show c.ak.length≤1000000 by omega)]
    split
    ·exact .inr ⟨_,rfl,trivial⟩
    ·exact .inl ⟨_,rfl,⟨i + 1,rfl⟩,by simp only [zt]; omega⟩
   ·have:decide ((i:Int) < (c.ak.length:Int))=false:=by simp; omega
    simp only [this,zf,if_false]
    exact .inr ⟨_,rfl,trivial⟩) ab 1 ⟨1,rfl⟩ (by show c.ak.length - (1:Int).toNat < ab; unfold ab; omega)
  rw [r1]
  simp only [zb]
  cases r with
  | inr m=>exact ⟨_,rfl,fun _=>good⟩
  | inl m =>
   dsimp only
   obtain ⟨q,q1,_⟩:=aL (f:=oy c) (fun st=>∃ i:Nat,st=(i:Int)) (fun st=>c.ak.length - st.toNat) (fun _=>True) (fun st ⟨i,h1⟩=>by
    unfold oy
    simp only [h1]
    by_cases hlt:i < c.ak.length
    ·have g1:c.ak[i]? = some c.ak[i]:=zq hlt
     obtain ⟨w,w1,_⟩:=aL (f:=ow (i:Int) c) (fun st=>∃ j:Nat,st=(j:Int)) (fun st=>i - st.toNat) (fun _=>True) (fun st ⟨j,e1⟩=>by
      unfold ow
      simp only [e1]
      by_cases hj:j < i
      ·have g2:c.ak[j]? = some c.ak[j]:=zq (by omega)
       have hd:decide ((j:Int) < (i:Int))=true:=by simpa using hj
       simp only [hd,if_true,aD g1,aD g2,zb,wK (show j≤1000000 by omega)]
       split
       ·exact .inr ⟨_,rfl,trivial⟩
       ·exact .inl ⟨_,rfl,⟨j + 1,rfl⟩,by simp only [zt]; omega⟩
      ·have hd:decide ((j:Int) < (i:Int))=false:=by simp; omega
       simp only [hd,zf,if_false]
       exact .inr ⟨_,rfl,trivial⟩) ab 1 ⟨1,rfl⟩ (by show i - (1:Int).toNat < ab; unfold ab; omega)
     simp only [bM g1,if_true,w1,zb]
     cases w with
     | inr m=>exact .inr ⟨_,rfl,trivial⟩
     | inl m =>
      simp only [a6 hlt (show c.ak.length≤1000000 by omega)]
      exact .inl ⟨_,rfl,⟨i + 1,rfl⟩,by simp only [zt]; omega⟩
    ·have:decide ((i:Int) < (c.ak.length:Int))=false:=by simp; omega
     simp only [this,zf,if_false]
     exact .inr ⟨_,rfl,trivial⟩) ab 1 ⟨1,rfl⟩ (by show c.ak.length - (1:Int).toNat < ab; unfold ab; omega)
   rw [q1]
   simp only [zb]
   cases q with
   | inr m=>exact ⟨_,rfl,fun _=>good⟩
   | inl m=>exact ⟨_,rfl,fun _=>good⟩
structure vE (c:av) (i:Nat) (q:ax) : Prop where
 dots:dots q.aC≤3
 above : 0 < i→isQ c (eh q.aC)=true
 caps:q.bu.length=c.ak.length
theorem np.sz {c:av} (h:np c) (hc:∀ q∈c.ae,q.bu.length≤1000) (hq:c.ae.length≤16) : SzC c :=
 ⟨Nat.le_trans h.labels (by decide),Nat.le_trans hq (by decide),hc,fun q hq=>Nat.le_trans (h.paths q hq) (by decide)⟩
theorem UP (c:av) (p:ByteArray) (hq:c.ae.length≤1000000) (hc:∀ q∈c.ae,q.bu.length≤1000000) : jy c p=some (ET c p,isQ c p):=by
 unfold jy ET isQ
 dsimp only
 rw [sG c p () hq]
 have hg:dS c p=fun (_:Unit) q=>if (q.aC.toList==p.toList)=true then Option.bind (aU [] q.bu) fun b=>some (.inr (.inr ({ q with bu:=b },true))) else some (.inl ()):=rfl
 obtain ⟨r,h1,h2⟩ : ∃ r,bh (dS c p) (fun _=>(.inl (c.ae.length:Int) : Int⊕(ax×Bool))) () c.ae=some r∧r=(match c.ae.find? fun q=>q.aC.toList==p.toList with | some q=>.inr (q,true) | none=>.inl (c.ae.length:Int)):=by
  rw [hg]
  have:∀ l:List ax,(∀ q∈l,q.bu.length≤1000000)→bh (fun (_:Unit) q=>if (q.aC.toList==p.toList)=true then Option.bind (aU [] q.bu) fun b=>some (.inr (.inr ({ q with bu:=b },true))) else some (.inl ())) (fun _=>(.inl (c.ae.length:Int) : Int⊕(ax×Bool))) () l=some (match l.find? fun q=>q.aC.toList==p.toList with | some q=>.inr (q,true) | none=>.inl (c.ae.length:Int)):=by
   intro l
   induction l with
   | nil=>intro _; rfl
   | cons q l ih =>
    intro hl
    simp only [bh,List.find?_cons]
    cases hb:(q.aC.toList==p.toList) with
    | true =>
     simp only [if_true]
     rw [aE (by have:=hl q List.mem_cons_self; simp; omega)]
     simp
    | false =>
     simp only [zf,if_false]
     exact ih (fun x hx=>hl x (List.mem_cons_of_mem _ hx))
  exact ⟨_,this _ hc,rfl⟩
 rw [h1,h2]
 cases hf:c.ae.find? fun q=>q.aC.toList==p.toList with
 | none =>
  have:(c.ae.any fun q=>q.aC.toList==p.toList)=false:=by
   rw [List.any_eq_false]; intro x hx; have:=List.find?_eq_none.1 hf x hx; simpa using this
  rw [this]; rfl
 | some q =>
  have:(c.ae.any fun q=>q.aC.toList==p.toList)=true:=by rw [List.any_eq_true]; exact ⟨q,List.mem_of_find?_eq_some hf,List.find?_some (p:=fun q:ax=>q.aC.toList==p.toList) hf⟩
  rw [this]; rfl
theorem Nl {c:av} (h:np c) (i:Nat) (hi:i < c.ae.length) : ∃ r,vd c (i:Int)=some r∧(r=0→vE c i c.ae[i]):=by
 have hq:=h.queues
 have g1:c.ae[i]? = some c.ae[i]:=zq hi
 have hm:=List.getElem_mem hi
 have hps:=h.paths _ hm
 have hcs:=h.caps _ hm
 obtain ⟨b,b1,b2⟩:=KN c.ae[i].aC hps
 obtain ⟨a1,a2⟩:=mZ (p:=c.ae[i].aC) (by omega)
 have hfind:=UP c (eh c.ae[i].aC) (by omega) (fun q hq=>Nat.le_trans (h.caps q hq) (by decide))
 unfold vd
 simp only [aD g1,b1,zb]
 cases b with
 | false=>simp only [Bool.not_false,if_true]; exact ⟨_,rfl,fun e=>by cases e⟩
 | true =>
  have hd:=b2 rfl
  simp only [Bool.not_true,zf,if_false]
  have step:∀ q4:Bool,∃ r,(if q4=true then some 7 else Option.bind (dE c.ae[i].aC) fun c5=>Option.bind (jy c c5) fun c6=>Option.bind (if decide ((i:Int) > 0)=true then some (!c6.2) else some false) fun q7=>if q7=true then some 12 else Option.bind (if decide (c.ae[i].cy < 1)=true then some true else some (decide (c.ae[i].cy > 1000000))) fun q8=>Option.bind (if q8=true then some true else some ((c.ae[i].bu.length:Int) != (c.ak.length:Int))) fun q9=>if q9=true then some 1 else Option.bind (ah (lH c.ae[i]) ab 0) fun r15=>match r15 with | .inr m16=>some m16 | .inl m16=>some (0:Int))=some r∧(r=0→vE c i c.ae[i]):=by
   intro q4
   cases q4 with
   | true=>simp only [if_true]; exact ⟨_,rfl,fun e=>by cases e⟩
   | false =>
    simp only [zf,if_false,a1,hfind,zb,orB,du]
    split
    ·exact ⟨_,rfl,fun e=>by cases e⟩
    rename_i h7
    split
    ·exact ⟨_,rfl,fun e=>by cases e⟩
    rename_i h9
    have good:vE c i c.ae[i]:=⟨hd,fun h0=>by
     have hdd:decide ((i:Int) > 0)=true:=by simpa using h0
     rw [hdd] at h7
     simpa using h7,by
     have : ¬ ((c.ae[i].bu.length:Int) != (c.ak.length:Int))=true:=fun e=>h9 (by rw [e]; simp)
     have:(c.ae[i].bu.length:Int)=(c.ak.length:Int):=by simpa using this
     omega⟩
    obtain ⟨w,w1,_⟩:=aL (f:=lH c.ae[i]) (fun st=>∃ j:Nat,st=(j:Int)) (fun st=>c.ae[i].bu.length - st.toNat) (fun _=>True) (fun st ⟨j,e1⟩=>by
     unfold lH
     simp only [e1]
     by_cases hj:j < c.ae[i].bu.length
     ·have g2:c.ae[i].bu[j]? = some c.ae[i].bu[j]:=zq hj
      simp only [bM g2,if_true,aD g2,orB,zb,a6 hj (show c.ae[i].bu.length≤1000000 by omega)]
      split
      ·exact .inr ⟨_,rfl,trivial⟩
      ·exact .inl ⟨_,rfl,⟨j + 1,rfl⟩,by simp only [zt]; omega⟩
     ·have hd:decide ((j:Int) < (c.ae[i].bu.length:Int))=false:=by simp; omega
      simp only [hd,zf,if_false]
      exact .inr ⟨_,rfl,trivial⟩) ab 0 ⟨0,rfl⟩ (by show c.ae[i].bu.length - (0:Int).toNat < ab; unfold ab; omega)
    rw [w1]
    simp only [zb]
    cases w with
    | inr m=>exact ⟨_,rfl,fun _=>good⟩
    | inl m=>exact ⟨_,rfl,fun _=>good⟩
  by_cases h0 : 0 < i
  ·have hdd:decide ((i:Int) > 0)=true:=by simpa using h0
   obtain ⟨k,rfl⟩ : ∃ k,i=k + 1:=⟨i - 1,by omega⟩
   have hk:i64.wrap (((k + 1:Nat) : Int) - 1)=(k:Int):=by rw [Jq (by omega)]; omega
   have g2:c.ae[k]? = some c.ae[k]:=zq (by omega)
   simp only [hdd,if_true,hk,aD g2,zb]
   have:=step (Op.bytesLess c.ae[k + 1].aC.toList c.ae[k].aC.toList||c.ae[k + 1].aC.toList==c.ae[k].aC.toList)
   simp only [hdd,if_true] at this
   exact this
  ·have hdd:decide ((i:Int) > 0)=false:=by simp; omega
   simp only [hdd,zf,if_false,zb]
   have:=step false
   simp only [hdd,zf,if_false] at this
   exact this
theorem ve (c:av) (p:ByteArray) (h:SzC c) : ∃ r,ei c p=some r∧r.length≤c.ae.length∧∀ x∈r,∃ q∈c.ae,q.aC=x∧(!(p.toList==(⟨#[]⟩ : ByteArray).toList))=true∧eh x=p:=by
 unfold ei
 have hs:=gf c p [] (by have:=h.queues; omega)
 dsimp only
 rw [hs]
 obtain ⟨r,h1,h2⟩:=aR (g:=co c p) (fin:=fun a=>(a,(c.ae.length:Int))) (fun k a=>a.length≤k∧∀ x∈a,∃ q∈c.ae,q.aC=x∧(!(p.toList==(⟨#[]⟩ : ByteArray).toList))=true∧eh x=p) (fun r=>r.1.length≤c.ae.length∧∀ x∈r.1,∃ q∈c.ae,q.aC=x∧(!(p.toList==(⟨#[]⟩ : ByteArray).toList))=true∧eh x=p) c.ae 0 [] (fun j a x hx ⟨h1,h2⟩=>by
  have hm:=List.mem_of_getElem? hx
  have hj:=(zg.1 hx).1
  obtain ⟨hr,_⟩:=mZ (h.paths x hm)
  have hqs:=h.queues
  unfold co
  simp only [hr,zb,du]
  split
  ·rename_i hc
   rw [Bool.and_eq_true] at hc
   rw [aE (by simp; omega)]
   refine ⟨_,rfl,fun a' e=>?_,fun r e=>by cases e⟩
   injection e with e
   subst e
   refine ⟨by simp; omega,fun y hy=>?_⟩
   simp only [List.mem_append,List.mem_singleton] at hy
   rcases hy with hy | rfl
   ·exact h2 y hy
   ·exact ⟨x,hm,rfl,hc.1,sy hc.2⟩
  ·refine ⟨_,rfl,fun a' e=>?_,fun r e=>by cases e⟩
   injection e with e
   subst e
   exact ⟨by omega,h2⟩) (fun a ⟨h1,h2⟩=>⟨by simpa using h1,h2⟩) ⟨by simp,by simp⟩
 rw [h1]
 exact ⟨_,rfl,h2⟩
theorem Dv {c:av} {q:ax} (h:q∈c.ae) : isQ c q.aC=true:=by
 unfold isQ
 rw [List.any_eq_true]
 exact ⟨q,h,by simp⟩
theorem Nh:eh ⟨#[114,111,111,116]⟩=⟨#[]⟩:=by kernel_rfl
theorem P4 {c:av} (h:SzC c) (hc:∀ q∈c.ae,q.bu.length=c.ak.length) : ∃ r,DH c=some r:=by
 have hq:=h.queues
 have hl:=h.labels
 unfold DH
 dsimp only
 rw [Bz c () (by omega)]
 obtain ⟨r,r1,_⟩:=aR (g:=ir c) (fin:=fun _=>(.inl (c.ae.length:Int) : Int⊕Bool)) (fun _ _=>True) (fun _=>True) c.ae 0 () (fun j a x hx _=>by
  obtain ⟨ks,k1,k2,k3⟩:=ve c x.aC h
  have hkl:ks.length≤1000000:=by omega
  unfold ir
  simp only [k1,zb]
  obtain ⟨w,w1,_⟩:=aL (f:=nF c ks) (fun st=>∃ i:Nat,st=(i:Int)) (fun st=>c.ak.length - st.toNat) (fun _=>True) (fun st ⟨i,h1⟩=>by
   unfold nF
   simp only [h1,du]
   by_cases hlt:i < c.ak.length
   ·obtain ⟨v,v1,_⟩ : ∃ v,ah (jY ks c (i:Int)) ab (0,0)=some v∧True:=by
     rw [Bw ks c (i:Int) 0 hkl]
     exact aR (g:=iq ks c (i:Int)) (fin:=fun a=>(a,(ks.length:Int))) (fun _ _=>True) (fun _=>True) ks 0 0 (fun j2 a y hy _=>by
      obtain ⟨q,q1,q2,_⟩:=k3 y (List.mem_of_getElem? hy)
      have hqq:isQ c y=true:=by rw [← q2]; exact Dv q1
      have hcl:=hc _ (yO hqq).1
      have g2:(ET c y).bu[i]? = some (ET c y).bu[i]:=zq (by omega)
      unfold iq
      simp only [kE c y h,zb,aD g2]
      exact ⟨_,rfl,fun _ _=>trivial,fun _ _=>trivial⟩) (fun _ _=>trivial) trivial
    simp only [v1,zb,wK (show i≤1000000 by omega)]
    split
    ·split
     ·exact .inr ⟨_,rfl,trivial⟩
     ·exact .inl ⟨_,rfl,⟨i + 1,rfl⟩,by simp only [zt]; omega⟩
    ·exact .inr ⟨_,rfl,trivial⟩
   ·have hd:decide ((i:Int) < (c.ak.length:Int))=false:=by simp; omega
    simp only [hd,Bool.false_and,zf,if_false]
    exact .inr ⟨_,rfl,trivial⟩) ab 0 ⟨0,rfl⟩ (by show c.ak.length - (0:Int).toNat < ab; unfold ab; omega)
  rw [w1]
  simp only [zb]
  cases w <;> exact ⟨_,rfl,fun _ _=>trivial,fun _ _=>trivial⟩) (fun _ _=>trivial) trivial
 rw [r1]
 simp only [zb]
 cases r <;> exact ⟨_,rfl⟩
structure ZM (c:av) : Prop where
 form:Az c
 lab1 : 1≤c.ak.length
 lab3:c.ak.length≤3
 leaf:∃ q∈c.ae,wQ c q.aC=true
theorem E8 {α : Type} (f : α→Nat) : ∀ (l:List α),l≠[]→∃ x∈l,∀ y∈l,f y≤f x
 | [],h=>absurd rfl h
 | [x],_=>⟨x,List.mem_cons_self,fun y hy=>by simp at hy; subst hy; exact Nat.le_refl _⟩
 | x::z::l,_=>by
  obtain ⟨m,hm,hmax⟩:=E8 f (z::l) (by simp)
  by_cases h:f m≤f x
  ·refine ⟨x,List.mem_cons_self,fun y hy=>?_⟩
   rcases List.mem_cons.1 hy with rfl | hy
   ·exact Nat.le_refl _
   ·exact Nat.le_trans (hmax y hy) h
  ·refine ⟨m,List.mem_cons_of_mem _ hm,fun y hy=>?_⟩
   rcases List.mem_cons.1 hy with rfl | hy
   ·omega
   ·exact hmax y hy
theorem R6 {c:av} (h:SzC c) (hne:c.ae≠[]) : ∃ q∈c.ae,wQ c q.aC=true:=by
 obtain ⟨q,hq,hmax⟩:=E8 (fun q:ax=>q.aC.size) c.ae hne
 refine ⟨q,hq,?_⟩
 obtain ⟨ks,k1,k2,k3⟩:=ve c q.aC h
 have hnil:ks = []:=by
  cases ks with
  | nil=>rfl
  | cons x ks =>
   exfalso
   obtain ⟨q2,m1,m2,m3,m4⟩:=k3 x List.mem_cons_self
   have h0:=qQ m3
   subst m2
   rcases (mZ (h.paths q2 m1)).2 with e | e
   ·have:=hmax q2 m1
    rw [m4] at e
    omega
   ·rw [m4] at e; omega
 have:jx c q.aC=some true:=by
  unfold jx
  simp only [kE c _ h,Dv hq,if_true,k1,hnil,zb]
  rfl
 unfold wQ
 rw [this]; rfl
theorem YV {c:av} (h:np c) (hl : 1≤c.ak.length∧c.ak.length≤3∧c.ae.length≤16) (hroot:∃ q,c.ae[0]? = some q∧q.aC=⟨#[114,111,111,116]⟩) (hq:∀ i (hi:i < c.ae.length),vE c i c.ae[i]) : ZM c:=by
 have hmem:∀ q∈c.ae,∃ i,vE c i q∧(i=0→q.aC=⟨#[114,111,111,116]⟩):=fun q hm=>by
  obtain ⟨i,hi,rfl⟩:=List.getElem_of_mem hm
  refine ⟨i,hq i hi,fun e=>?_⟩
  subst e
  obtain ⟨q0,e1,e2⟩:=hroot
  rw [zq hi] at e1
  injection e1 with e1
  rw [e1]; exact e2
 have hcap:∀ q∈c.ae,q.bu.length=c.ak.length:=fun q hm=>by
  obtain ⟨i,hp,_⟩:=hmem q hm
  exact hp.caps
 have hsz:SzC c:=h.sz (fun q hm=>by rw [hcap q hm]; omega) hl.2.2
 have hne:c.ae≠[]:=by
  obtain ⟨q0,e1,_⟩:=hroot
  intro e
  rw [e] at e1
  cases e1
 refine ⟨⟨hsz,hcap,fun q hm r hr=>?_,⟨hl.2.2,fun q hm=>?_⟩,hl.1,R6 hsz hne,fun x hx=>Nat.le_trans (h.label x hx) (by decide)⟩,hl.1,hl.2.1,R6 hsz hne⟩
 ·unfold zc at hr
  dsimp only at hr
  obtain ⟨st,hst,hr⟩:=bv hr
  injection hr with hr
  subst hr
  refine mP (f:=ob) (fun st=>(∀ x∈st.1,isQ c x=true)∧(0 < st.2.size→isQ c st.2=true)) (fun t=>∀ x∈t.1,isQ c x=true) (fun st r ⟨i1,i2⟩ h1=>?_) _ ([],q.aC) st ⟨fun x hx=>(by cases hx),fun _=>Dv hm⟩ hst
  unfold ob at h1
  dsimp only at h1
  split at h1
  ·rename_i hne2
   have h0:=qQ hne2
   have hq2:=i2 h0
   obtain ⟨b,hb,h1⟩:=bv h1
   obtain ⟨a,ha,h1⟩:=bv h1
   injection h1 with h1
   subst h1
   obtain ⟨g1,g2⟩:=yO hq2
   have ge:=sy g2
   obtain ⟨i,hp,hrt⟩:=hmem _ g1
   rw [ge] at hrt
   have hav:a=eh st.2:=by
    unfold eh
    rw [ha]; rfl
   refine ⟨fun x hx=>?_,fun ha0=>?_⟩
   ·have hb2:=(y5 hb).2
    subst hb2
    simp only [List.mem_append,List.mem_singleton] at hx
    rcases hx with hx | rfl
    ·exact i1 x hx
    ·exact hq2
   ·show isQ c a=true
    rcases Nat.eq_zero_or_pos i with e | e
    ·have:=hrt e
     exfalso
     have:a=⟨#[]⟩:=by rw [hav,this]; exact Nh
     rw [show (((b,a) : List ByteArray×ByteArray).2)=a from rfl,this] at ha0
     exact absurd ha0 (by decide)
    ·have:=hp.above e
     rw [ge] at this
     rw [hav]; exact this
  ·injection h1 with h1
   subst h1
   exact i1
 ·obtain ⟨i,hp,_⟩:=hmem q hm
  have:=Fv 6 q.aC (by have:=h.paths q hm; omega)
  have:=hp.dots
  omega
theorem Nr {c:av} (h:np c) : ∃ r,vf c=some r∧(r=0→ZM c):=by
 obtain ⟨e,e1,e2⟩:=KM h
 have hqs:=h.queues
 unfold vf
 simp only [e1,zb]
 by_cases he:e=0
 ·subst he
  have hl:=e2 rfl
  have n0:((0:Int) != 0)=false:=by decide
  simp only [n0,zf,if_false]
  by_cases hq0:c.ae.length=0
  ·have:((c.ae.length:Int)==0)=true:=by simp [hq0]
   simp only [this,if_true,zb]
   exact ⟨_,rfl,fun e=>by cases e⟩
  ·have hb:((c.ae.length:Int)==0)=false:=by simp; intro e; exact hq0 (by rw [e]; rfl)
   have hpos : 0 < c.ae.length:=by omega
   have i0:aw c.ae 0=some c.ae[0]:=aD (zq hpos)
   simp only [hb,zf,if_false,i0,zb]
   cases hr:(!(c.ae[0].aC.toList==(⟨#[114,111,111,116]⟩ : ByteArray).toList)) with
   | true=>simp only [if_true]; exact ⟨_,rfl,fun e=>by cases e⟩
   | false =>
    have hrt:c.ae[0].aC=⟨#[114,111,111,116]⟩:=sy (by simpa using hr)
    simp only [zf,if_false]
    obtain ⟨w,w1,w2⟩:=aL (f:=p7 c) (fun st=>∃ i:Nat,st=(i:Int)∧i≤c.ae.length∧∀ j (hj:j < c.ae.length),j < i→vE c j c.ae[j]) (fun st=>c.ae.length - st.toNat) (fun r=>match r with | .inl _=>∀ j (hj:j < c.ae.length),vE c j c.ae[j] | .inr m=>m≠0) (fun st ⟨i,h1,h2,h3⟩=>by
     unfold p7
     simp only [h1]
     by_cases hlt:i < c.ae.length
     ·have g1:c.ae[i]? = some c.ae[i]:=zq hlt
      obtain ⟨b,b1,b2⟩:=Nl h i hlt
      simp only [bM g1,if_true,b1,zb,a6 hlt (show c.ae.length≤1000000 by omega)]
      split
      ·rename_i hne
       exact .inr ⟨_,rfl,by simpa using hne⟩
      ·rename_i hz
       have hz:b=0:=by simpa using hz
       refine .inl ⟨_,rfl,⟨i + 1,rfl,hlt,fun j hj hji=>?_⟩,by simp only [zt]; omega⟩
       rcases Nat.lt_or_ge j i with h4 | h4
       ·exact h3 j hj h4
       ·have:j=i:=by omega
        subst this
        exact b2 hz
     ·have:i=c.ae.length:=by omega
      subst this
      simp only [bE,zf,if_false]
      exact .inr ⟨_,rfl,fun j hj=>h3 j hj hj⟩) ab 0 ⟨0,rfl,Nat.zero_le _,fun j _ hj=>by omega⟩ (by show c.ae.length - (0:Int).toNat < ab; unfold ab; omega)
    rw [w1]
    simp only [zb]
    cases w with
    | inr m=>exact ⟨_,rfl,fun e=>absurd e w2⟩
    | inl m =>
     dsimp only
     have w2:∀ j (hj:j < c.ae.length),vE c j c.ae[j]:=w2
     have hform:=YV h hl ⟨_,zq hpos,hrt⟩ w2
     have hcap0:=(w2 0 hpos).caps
     obtain ⟨v,v1,v2⟩:=aL (f:=p6 c) (fun st=>∃ i:Nat,st=(i:Int)) (fun st=>c.ak.length - st.toNat) (fun _=>True) (fun st ⟨i,h1⟩=>by
      unfold p6
      simp only [h1]
      by_cases hlt:i < c.ak.length
      ·have g1:c.ak[i]? = some c.ak[i]:=zq hlt
       have g2:c.ae[0].bu[i]? = some c.ae[0].bu[i]:=zq (by omega)
       simp only [bM g1,if_true,i0,aD g2,zb,a6 hlt (show c.ak.length≤1000000 by omega)]
       split
       ·exact .inr ⟨_,rfl,trivial⟩
       ·exact .inl ⟨_,rfl,⟨i + 1,rfl⟩,by simp only [zt]; omega⟩
      ·have hd:decide ((i:Int) < (c.ak.length:Int))=false:=by simp; omega
       simp only [hd,zf,if_false]
       exact .inr ⟨_,rfl,trivial⟩) ab 0 ⟨0,rfl⟩ (by show c.ak.length - (0:Int).toNat < ab; unfold ab; omega)
     rw [v1]
     simp only [zb]
     cases v with
     | inr m=>exact ⟨_,rfl,fun _=>hform⟩
     | inl m =>
      dsimp only
      obtain ⟨s,s1⟩:=P4 hform.form.sz hform.form.each
      rw [s1]
      simp only [zb]
      cases s <;> exact ⟨_,rfl,fun _=>hform⟩
 ·have:(e != 0)=true:=by simpa using he
  simp only [this,if_true]
  exact ⟨_,rfl,fun e0=>absurd e0 he⟩
def dg (oW:Int) (v_n:Int) : Option (Int) :=
 (CL oW v_n).bind fun b1=>let v_k:Int:=b1
 (if (decide (v_k < 0))=true then
 let v_k:Int:=(i64.wrap (v_k + v_n))
 some v_k
 else
 some v_k).bind fun j2=>let v_k:=j2
 some v_k
def ku (fJ:(List Int)) (v_i:Int) : Option (Int) :=
 if ((fJ.length:Int)==0)=true then
 some v_i
 else
 (CL v_i (fJ.length:Int)).bind fun b1=>(aw fJ b1).bind fun b2=>some b2
def eo (v_c:av) (st:ax×Int) : Option ((ax×Int)⊕((ax×Int))) :=
 let v_q:=st.1
 let v_k:=st.2
 if (decide (v_k < (v_c.ak.length:Int)))=true then
 (aU v_q.bu [(⟨10000,10000⟩ : eu)]).bind fun b11=>let v_q:ax:={ v_q with bu:=b11 }
 let v_k:Int:=(i64.wrap (v_k + 1))
 some (.inl (v_q,v_k))
 else
 some (.inr (v_q,v_k))
def dz (v_l:(List ByteArray)) (fJ:(List Int)) (st:av×Int) : Option ((av×Int)⊕((av×Int))) :=
 let v_c:=st.1
 let v_i:=st.2
 if (decide (v_i < (v_l.length:Int)))=true then
 (aw v_l v_i).bind fun b5=>let v_q:ax:=(⟨b5,[],1000000⟩ : ax)
 (if (decide (v_i < (fJ.length:Int)))=true then (aw fJ v_i).bind fun b6=>some ((Int.tmod b6 3)==0) else some false).bind fun q7=>(if q7=true then
 (aw fJ v_i).bind fun b9=>(dg b9 20000).bind fun c10=>let v_q:ax:={ v_q with cy:=(i64.wrap (1 + c10)) }
 some v_q
 else
 some v_q).bind fun j8=>let v_q:=j8
 let v_k:Int:=0
 (ah (eo v_c) ab (v_q,v_k)).bind fun r12 =>
 let v_q:=r12.1
 let v_k:=r12.2
 (aU v_c.ae [v_q]).bind fun b13=>let v_c:av:={ v_c with ae:=b13 }
 let v_i:Int:=(i64.wrap (v_i + 1))
 some (.inl (v_c,v_i))
 else
 some (.inr (v_c,v_i))
def ek (lc:Int) (v_n:Int) (cm:Int) (v_j:Int) (bB:(List ByteArray)) (st:av×Int) : Option ((av×Int)⊕((av×Int))) :=
 let v_c:=st.1
 let v_m:=st.2
 if (decide (v_m < (v_c.ae.length:Int)))=true then
 (aw v_c.ae v_m).bind fun b28=>(aw bB v_j).bind fun b29=>if (b28.aC.toList==b29.toList)=true then
 (aw v_c.ae v_m).bind fun b30=>(aw b30.bu lc).bind fun b31=>(aw v_c.ae v_m).bind fun b32=>let v_c:av:={ v_c with ae:=(List.set v_c.ae (Int.toNat v_m) ({ b32 with bu:=(List.set b30.bu (Int.toNat lc) (⟨v_n,cm⟩ : eu)) })) }
 let v_m:Int:=(i64.wrap (v_m + 1))
 some (.inl (v_c,v_m))
 else
 let v_m:Int:=(i64.wrap (v_m + 1))
 some (.inl (v_c,v_m))
 else
 some (.inr (v_c,v_m))
def db (bB:(List ByteArray)) (fJ:(List Int)) (aI:Int) (lc:Int) (st:Int×av×Int) : Option ((Int×av×Int)⊕((Int×av×Int))) :=
 let cn:=st.1
 let v_c:=st.2.1
 let v_j:=st.2.2
 if (decide (v_j < (bB.length:Int)))=true then
 let v_n:Int:=cn
 (if (decide (v_j < (i64.wrap ((bB.length:Int) - 1))))=true then
 (ku fJ (i64.wrap ((i64.wrap (aI + v_j)) + lc))).bind fun c18=>(dg c18 (i64.wrap (cn + 1))).bind fun c19=>(ku fJ (i64.wrap ((i64.wrap (aI * v_j)) + lc))).bind fun c20=>(dg c20 4).bind fun c21=>(aw ([0,(i64.wrap (Int.tdiv cn 2)),cn,c19] : (List Int)) c21).bind fun b22=>let v_n:Int:=b22
 some v_n
 else
 some v_n).bind fun j17=>let v_n:=j17
 let cn:Int:=(i64.wrap (cn - v_n))
 (ku fJ (i64.wrap (v_j + lc))).bind fun c23=>(dg c23 (i64.wrap ((i64.wrap (10000 - v_n)) + 1))).bind fun c24=>(ku fJ (i64.wrap (aI + (i64.wrap (2 * v_j))))).bind fun c25=>(dg c25 3).bind fun c26=>(aw ([10000,v_n,(i64.wrap (v_n + c24))] : (List Int)) c26).bind fun b27=>let cm:Int:=b27
 let v_m:Int:=0
 (ah (ek lc v_n cm v_j bB) ab (v_c,v_m)).bind fun r33 =>
 let v_c:=r33.1
 let v_m:=r33.2
 let v_j:Int:=(i64.wrap (v_j + 1))
 some (.inl (cn,v_c,v_j))
 else
 some (.inr (cn,v_c,v_j))
def dy (fJ:(List Int)) (aI:Int) (bB:(List ByteArray)) (st:av×Int) : Option ((av×Int)⊕((av×Int))) :=
 let v_c:=st.1
 let lc:=st.2
 if (decide (lc < (v_c.ak.length:Int)))=true then
 let cn:Int:=10000
 let v_j:Int:=0
 (ah (db bB fJ aI lc) ab (cn,v_c,v_j)).bind fun r34 =>
 let cn:=r34.1
 let v_c:=r34.2.1
 let v_j:=r34.2.2
 let lc:Int:=(i64.wrap (lc + 1))
 some (.inl (v_c,lc))
 else
 some (.inr (v_c,lc))
def cS (v_l:(List ByteArray)) (fJ:(List Int)) (st:av×Int) : Option ((av×Int)⊕((av×Int))) :=
 let v_c:=st.1
 let aI:=st.2
 if (decide (aI < (v_l.length:Int)))=true then
 (aw v_l aI).bind fun b15=>(ei v_c b15).bind fun c16=>let bB:(List ByteArray):=c16
 let lc:Int:=0
 (ah (dy fJ aI bB) ab (v_c,lc)).bind fun r35 =>
 let v_c:=r35.1
 let lc:=r35.2
 let aI:Int:=(i64.wrap (aI + 1))
 some (.inl (v_c,aI))
 else
 some (.inr (v_c,aI))
def fQ (Rz:Int) (fJ:(List Int)) : Option (av) :=
 let Yi:(List (List ByteArray)):=([([(⟨#[114,111,111,116]⟩ : ByteArray)] : (List ByteArray)),([(⟨#[114,111,111,116]⟩ : ByteArray),(⟨#[114,111,111,116,46,97]⟩ : ByteArray),(⟨#[114,111,111,116,46,98]⟩ : ByteArray)] : (List ByteArray)),([(⟨#[114,111,111,116]⟩ : ByteArray),(⟨#[114,111,111,116,46,97]⟩ : ByteArray),(⟨#[114,111,111,116,46,97,46,120]⟩ : ByteArray),(⟨#[114,111,111,116,46,97,46,121]⟩ : ByteArray),(⟨#[114,111,111,116,46,98]⟩ : ByteArray)] : (List ByteArray)),([(⟨#[114,111,111,116]⟩ : ByteArray),(⟨#[114,111,111,116,46,97]⟩ : ByteArray),(⟨#[114,111,111,116,46,98]⟩ : ByteArray),(⟨#[114,111,111,116,46,98,46,120]⟩ : ByteArray),(⟨#[114,111,111,116,46,98,46,120,46,112]⟩ : ByteArray),(⟨#[114,111,111,116,46,98,46,120,46,113]⟩ : ByteArray),(⟨#[114,111,111,116,46,99]⟩ : ByteArray)] : (List ByteArray)),([(⟨#[114,111,111,116]⟩ : ByteArray),(⟨#[114,111,111,116,46,97]⟩ : ByteArray)] : (List ByteArray))] : (List (List ByteArray)))
 (dg (i64.wrap (Int.tdiv Rz 5)) 2).bind fun c2=>(hiO ([(⟨#[]⟩ : ByteArray),(⟨#[103,112,117]⟩ : ByteArray)] : (List ByteArray)) (i64.wrap (1 + c2))).bind fun b1=>let v_c:av:=(⟨b1,[]⟩ : av)
 (dg Rz 5).bind fun c3=>(aw Yi c3).bind fun b4=>let v_l:(List ByteArray):=b4
 let v_i:Int:=0
 (ah (dz v_l fJ) ab (v_c,v_i)).bind fun r14 =>
 let v_c:=r14.1
 let v_i:=r14.2
 let aI:Int:=0
 (ah (cS v_l fJ) ab (v_c,aI)).bind fun r36 =>
 let v_c:=r36.1
 let aI:=r36.2
 some v_c
def iC (v_c:av) (st:ax) (x_:ByteArray) : Option ((ax)⊕((ax×Int))) :=
 let v_q:=st
 (aU v_q.bu [(⟨10000,10000⟩ : eu)]).bind fun b12=>let v_q:ax:={ v_q with bu:=b12 }
 some (.inl v_q)
theorem sS (v_c:av) (a_:ax) (hl:v_c.ak.length≤1000000) : ah (eo v_c) ab (a_,(0))=bh (iC v_c) (fun a_=>(a_,((v_c.ak.length:Int)))) a_ v_c.ak :=
 ay v_c.ak (S:=ax×Int) (fun a_ k_=>(a_,(k_))) (iC v_c) (fun a_=>(a_,((v_c.ak.length:Int)))) (an hl) (fun k a x hx=>by
  unfold eo iC; exact bK)
  (fun a=>by unfold eo; exact cI) a_
def iE (v_l:(List ByteArray)) (fJ:(List Int)) (st:av) (v_i:Int) (x_:ByteArray) : Option ((av)⊕((av×Int))) :=
 let v_c:=st
 let v_q:ax:=(⟨x_,[],1000000⟩ : ax)
 (if (decide (v_i < (fJ.length:Int)))=true then (aw fJ v_i).bind fun b14=>some ((Int.tmod b14 3)==0) else some false).bind fun q15=>(if q15=true then
 (aw fJ v_i).bind fun b17=>(dg b17 20000).bind fun c18=>let v_q:ax:={ v_q with cy:=(i64.wrap (1 + c18)) }
 some v_q
 else
 some v_q).bind fun j16=>let v_q:=j16
 let v_k:Int:=0
 (ah (eo v_c) ab (v_q,v_k)).bind fun r19 =>
 let v_q:=r19.1
 let v_k:=r19.2
 (aU v_c.ae [v_q]).bind fun b20=>let v_c:av:={ v_c with ae:=b20 }
 some (.inl v_c)
theorem BQ (v_l:(List ByteArray)) (fJ:(List Int)) (a_:av) (hl:v_l.length≤1000000) : ah (dz v_l fJ) ab (a_,(0))=nT (iE v_l fJ) (fun a_=>(a_,((v_l.length:Int)))) a_ 0 v_l :=
 fh v_l (S:=av×Int) (fun a_ k_=>(a_,(k_))) (iE v_l fJ) (fun a_=>(a_,((v_l.length:Int)))) (an hl) (fun k a x hx=>by
  unfold dz iE; exact bK)
  (fun a=>by unfold dz; exact cI) a_
def iA (bB:(List ByteArray)) (fJ:(List Int)) (aI:Int) (lc:Int) (st:Int×av) (v_j:Int) (x_:ByteArray) : Option ((Int×av)⊕((Int×av×Int))) :=
 let cn:=st.1
 let v_c:=st.2
 let v_n:Int:=cn
 (if (decide (v_j < (i64.wrap ((bB.length:Int) - 1))))=true then
 (ku fJ (i64.wrap ((i64.wrap (aI + v_j)) + lc))).bind fun c35=>(dg c35 (i64.wrap (cn + 1))).bind fun c36=>(ku fJ (i64.wrap ((i64.wrap (aI * v_j)) + lc))).bind fun c37=>(dg c37 4).bind fun c38=>(aw ([0,(i64.wrap (Int.tdiv cn 2)),cn,c36] : (List Int)) c38).bind fun b39=>let v_n:Int:=b39
 some v_n
 else
 some v_n).bind fun j34=>let v_n:=j34
 let cn:Int:=(i64.wrap (cn - v_n))
 (ku fJ (i64.wrap (v_j + lc))).bind fun c40=>(dg c40 (i64.wrap ((i64.wrap (10000 - v_n)) + 1))).bind fun c41=>(ku fJ (i64.wrap (aI + (i64.wrap (2 * v_j))))).bind fun c42=>(dg c42 3).bind fun c43=>(aw ([10000,v_n,(i64.wrap (v_n + c41))] : (List Int)) c43).bind fun b44=>let cm:Int:=b44
 let v_m:Int:=0
 (ah (ek lc v_n cm v_j bB) ab (v_c,v_m)).bind fun r45 =>
 let v_c:=r45.1
 let v_m:=r45.2
 some (.inl (cn,v_c))
theorem BO (bB:(List ByteArray)) (fJ:(List Int)) (aI:Int) (lc:Int) (a_:Int×av) (hl:bB.length≤1000000) : ah (db bB fJ aI lc) ab (a_.1,a_.2,(0))=nT (iA bB fJ aI lc) (fun a_=>(a_.1,a_.2,((bB.length:Int)))) a_ 0 bB :=
 fh bB (S:=Int×av×Int) (fun a_ k_=>(a_.1,a_.2,(k_))) (iA bB fJ aI lc) (fun a_=>(a_.1,a_.2,((bB.length:Int)))) (an hl) (fun k a x hx=>by
  unfold db iA; exact bK)
  (fun a=>by unfold db; exact cI) a_
def iB (v_l:(List ByteArray)) (fJ:(List Int)) (st:av) (aI:Int) (x_:ByteArray) : Option ((av)⊕((av×Int))) :=
 let v_c:=st
 (ei v_c x_).bind fun c36=>let bB:(List ByteArray):=c36
 let lc:Int:=0
 (ah (dy fJ aI bB) ab (v_c,lc)).bind fun r37 =>
 let v_c:=r37.1
 let lc:=r37.2
 some (.inl v_c)
theorem BP (v_l:(List ByteArray)) (fJ:(List Int)) (a_:av) (hl:v_l.length≤1000000) : ah (cS v_l fJ) ab (a_,(0))=nT (iB v_l fJ) (fun a_=>(a_,((v_l.length:Int)))) a_ 0 v_l :=
 fh v_l (S:=av×Int) (fun a_ k_=>(a_,(k_))) (iB v_l fJ) (fun a_=>(a_,((v_l.length:Int)))) (an hl) (fun k a x hx=>by
  unfold cS iB; exact bK)
  (fun a=>by unfold cS; exact cI) a_
theorem hH (a:Int) {n:Int} (h0 : 0 < n) (h1:n≤1000000000) : Ok (dg a n) (fun k=>0≤k∧k < n):=by
 unfold dg CL
 rw [if_neg (by omega)]
 have h:=Dj (a:=a) h0
 simp only [zb]
 refine Ok.bind (P:=fun k=>0≤k∧k < n) (Ok.ite (fun hc=>?_) fun hc=>?_) fun r hr=>Ok.pure hr
 ·have:=zd hc
  refine Ok.pure ?_
  rw [IntKind.wrap_i64]; omega
 ·have:=of_decide_eq_false (by simpa using hc:decide (a.tmod n < 0)=false)
  exact Ok.pure (by omega)
theorem tW (ns:List Int) {i:Int} (h : 0≤i) : Ok (ku ns i) (fun _=>True):=by
 unfold ku
 refine Ok.ite (fun _=>Ok.pure trivial) fun hc=>?_
 have hn:(ns.length:Int)≠0:=fun e=>hc (by rw [e]; rfl)
 unfold CL
 rw [if_neg hn]
 simp only [zb]
 refine Ok.bind (jt (Int.tmod_nonneg _ h) (Dj (by omega)).2) fun r _=>Ok.pure trivial
structure QG (L:Nat) (q:ax) : Prop where
 path:q.aC.size≤100
 caps:q.bu.length=L
 user:inI q.cy
 nums:∀ x∈q.bu,inI x.kz∧inI x.sr
structure CG (L:Nat) (c:av) : Prop where
 labels:c.ak.length=L
 label:∀ x∈c.ak,x.size≤100
 queues:∀ q∈c.ae,QG L q
theorem CG.text {L:Nat} {c:av} (h:CG L c) (hL:L≤10) (hn:c.ae.length≤10) : XB c :=
 ⟨by have:=h.labels; omega,fun x hx=>Nat.le_trans (h.label x hx) (by omega),by omega,fun q hq=>Nat.le_trans (h.queues q hq).path (by omega),fun q hq=>by have:=(h.queues q hq).caps; omega,fun q hq=>(h.queues q hq).user,fun q hq=>(h.queues q hq).nums⟩
theorem CG.sz {L:Nat} {c:av} (h:CG L c) (hL:L≤10) (hn:c.ae.length≤10) : SzC c :=
 ⟨by have:=h.labels; omega,by omega,fun q hq=>by have:=(h.queues q hq).caps; omega,fun q hq=>Nat.le_trans (h.queues q hq).path (by omega)⟩
theorem pv {n:Int} (h : -1000000000≤n∧n≤1000000000) : inI n:=by unfold inI; omega
theorem RY {α : Type} {l:List α} {i:Nat} {a x : α} (h:x∈l.set i a) : x∈l∨x=a:=List.mem_or_eq_of_mem_set h
theorem XY {L:Nat} {k:Nat} (hk:k < L) {n most:Int} (hn:inI n) (hm:inI most) {kids:List ByteArray} {j:Nat} (hj:j < kids.length) {N:Nat} (hN:N≤10) {c:av} (hc:CG L c) (hcn:c.ae.length=N) : Ok (ah (ek (k:Int) n most (j:Int) kids) ab (c,0)) (fun r=>CG L r.1∧r.1.ae.length=N):=by
 refine aL (fun st=>∃ m:Nat,st.2=(m:Int)∧m≤N∧CG L st.1∧st.1.ae.length=N) (fun st=>N - st.2.toNat) _ (fun st ⟨m,h1,h2,h3,h4⟩=>?_) ab (c,0) ⟨0,rfl,Nat.zero_le _,hc,hcn⟩ (by show N - (0:Int).toNat < ab; unfold ab; omega)
 unfold ek
 simp only [h1]
 split
 ·rename_i hlt
  have hlt:m < st.1.ae.length:=by have:=zd hlt; omega
  have e1:=zq hlt
  have e2:=zq hj
  have hq:=h3.queues _ (List.getElem_mem hlt)
  have hkk:k < st.1.ae[m].bu.length:=by rw [hq.caps]; exact hk
  have e3:=zq hkk
  simp only [aD e1,aD e2,aD e3,zb,a6 (show m < 10 by omega) (show 10≤1000000 by omega),zt]
  left
  split
  ·refine ⟨_,rfl,⟨m + 1,rfl,by omega,⟨h3.labels,h3.label,fun q hq'=>?_⟩,by simpa using h4⟩,by simp only [zt]; omega⟩
   rcases RY hq' with h | h
   ·exact h3.queues q h
   ·subst h
    refine ⟨hq.path,by simpa using hq.caps,hq.user,fun x hx=>?_⟩
    rcases RY hx with h | h
    ·exact hq.nums x h
    ·subst h; exact ⟨hn,hm⟩
  ·exact ⟨_,rfl,⟨m + 1,rfl,by omega,h3,h4⟩,by simp only [zt]; omega⟩
 ·exact .inr ⟨_,rfl,h3,h4⟩
theorem w64 {n:Int} (h : -1000000000000≤n∧n≤1000000000000) : i64.wrap n=n:=by rw [IntKind.wrap_i64]; omega
theorem X1 {L:Nat} {k:Nat} (hk:k < L) (hL:L≤10) {kids:List ByteArray} (hkd:kids.length≤10) (ns:List Int) {i:Nat} (hi:i≤10) {N:Nat} (hN:N≤10) {c:av} (hc:CG L c) (hcn:c.ae.length=N) : Ok (ah (db kids ns (i:Int) (k:Int)) ab (10000,c,0)) (fun r=>CG L r.2.1∧r.2.1.ae.length=N):=by
 have:=BO kids ns (i:Int) (k:Int) (10000,c) (by omega)
 dsimp only at this
 rw [this]
 refine Ok.weak (uA (g:=iA kids ns (i:Int) (k:Int)) (fin:=fun a_=>(a_.1,a_.2,((kids.length:Int)))) (fun _ st=>(0≤st.1∧st.1≤10000)∧CG L st.2∧st.2.ae.length=N) kids (10000,c) (fun j st x hx ⟨⟨l0,l1⟩,h2,h3⟩=>?_) ⟨⟨by omega,by omega⟩,hc,hcn⟩) (fun r ⟨a,e,h⟩=>by subst e; exact h.2)
 have hj:=(zg.1 hx).1
 obtain ⟨left,c⟩:=st
 dsimp only at l0 l1 h2 h3
 unfold iA
 dsimp only
 have hij:(i:Int) * (j:Int)≤100:=by
  have:i * j≤10 * 10:=Nat.mul_le_mul hi (by omega)
  exact_mod_cast this
 have hij0 : 0≤(i:Int) * (j:Int):=Int.mul_nonneg (by omega) (by omega)
 refine Ok.bind (P:=fun n=>0≤n∧n≤left) (Ok.ite (fun _=>?_) fun _=>Ok.pure ⟨l0,Int.le_refl _⟩) fun n hn=>?_
 ·have h2d:left.tdiv 2=left / 2:=Int.tdiv_eq_ediv_of_nonneg l0
  rw [h2d,w64 (n:=(i:Int) + j) (by omega),w64 (n:=(i:Int) + j + k) (by omega),w64 (n:=left + 1) (by omega),w64 (n:=(i:Int) * j) (by omega),w64 (n:=(i:Int) * j + k) (by omega),w64 (n:=left / 2) (by omega)]
  refine Ok.bind (tW ns (by omega)) fun p _=>Ok.bind (hH p (by omega) (by omega)) fun v hv=>Ok.bind (tW ns (by omega)) fun p2 _=>Ok.bind (hH p2 (by omega) (by omega)) fun u hu=>Ok.bind (jt hu.1 hu.2) fun b hb=>Ok.pure ?_
  simp only [List.mem_cons,List.not_mem_nil,or_false] at hb
  omega
 ·rw [w64 (n:=left - n) (by omega),w64 (n:=(j:Int) + k) (by omega),w64 (n:=10000 - n) (by omega),w64 (n:=10000 - n + 1) (by omega),w64 (n:=2 * (j:Int)) (by omega),w64 (n:=(i:Int) + 2 * j) (by omega)]
  refine Ok.bind (tW ns (by omega)) fun p _=>Ok.bind (hH p (by omega) (by omega)) fun v hv=>Ok.bind (tW ns (by omega)) fun p2 _=>Ok.bind (hH p2 (by omega) (by omega)) fun u hu=>Ok.bind (jt hu.1 hu.2) fun b hb=>?_
  rw [w64 (n:=n + v) (by omega)] at hb
  simp only [List.mem_cons,List.not_mem_nil,or_false] at hb
  refine Ok.bind (XY hk (pv (n:=n) (by omega)) (pv (n:=b) (by omega)) hj hN h2 h3) fun r hr=>Ok.pure ⟨_,rfl,⟨by show 0≤left - n; omega,by show left - n≤10000; omega⟩,hr.1,hr.2⟩
theorem X3 {L:Nat} (hL:L≤10) {kids:List ByteArray} (hkd:kids.length≤10) (ns:List Int) {i:Nat} (hi:i≤10) {N:Nat} (hN:N≤10) {c:av} (hc:CG L c) (hcn:c.ae.length=N) : Ok (ah (dy ns (i:Int) kids) ab (c,0)) (fun r=>CG L r.1∧r.1.ae.length=N):=by
 refine aL (fun st=>∃ m:Nat,st.2=(m:Int)∧m≤L∧CG L st.1∧st.1.ae.length=N) (fun st=>L - st.2.toNat) _ (fun st ⟨m,h1,h2,h3,h4⟩=>?_) ab (c,0) ⟨0,rfl,Nat.zero_le _,hc,hcn⟩ (by show L - (0:Int).toNat < ab; unfold ab; omega)
 unfold dy
 simp only [h1]
 split
 ·rename_i hlt
  have hlt:m < L:=by have:=zd hlt; have:=h3.labels; omega
  obtain ⟨r,r1,r2,r3⟩:=X1 hlt hL hkd ns hi hN h3 h4
  simp only [r1,zb,a6 (show m < 10 by omega) (show 10≤1000000 by omega)]
  exact .inl ⟨_,rfl,⟨m + 1,rfl,by omega,r2,r3⟩,by simp only [zt]; omega⟩
 ·exact .inr ⟨_,rfl,h3,h4⟩
theorem X5 {L:Nat} {c:av} (hl:c.ak.length=L) (hL:L≤10) {q:ax} (hp:q.aC.size≤100) (hu:inI q.cy) (hc:q.bu = []) : Ok (ah (eo c) ab (q,0)) (fun r=>QG L r.1):=by
 rw [sS c q (by omega)]
 refine Ok.weak (D7 (g:=iC c) (fin:=fun a_=>(a_,((c.ak.length:Int)))) (fun k b=>QG k b) c.ak q (fun j b x hx hb=>?_) ⟨hp,by rw [hc]; rfl,hu,by rw [hc]; intro x hx; cases hx⟩) (fun r ⟨a,e,h⟩=>by subst e; rw [hl] at h; exact h)
 have hj:=(zg.1 hx).1
 have:=hb.caps
 unfold iC
 dsimp only
 rw [aE (by simp; omega)]
 refine Ok.pure ⟨_,rfl,hb.path,by simpa using this,hb.user,fun y hy=>?_⟩
 simp only [List.mem_append,List.mem_singleton] at hy
 rcases hy with h | h
 ·exact hb.nums y h
 ·subst h; exact ⟨pv (by decide),pv (by decide)⟩
theorem X7 {L:Nat} (hL:L≤10) {l:List ByteArray} (hl:l.length≤10) (hs:∀ x∈l,x.size≤100) (ns:List Int) {c:av} (hc:CG L c) (hq:c.ae = []) : Ok (ah (dz l ns) ab (c,0)) (fun r=>CG L r.1∧r.1.ae.length=l.length):=by
 rw [BQ l ns c (by omega)]
 refine Ok.weak (uA (g:=iE l ns) (fin:=fun a_=>(a_,((l.length:Int)))) (fun k b=>CG L b∧b.ae.length=k) l c (fun j b x hx ⟨hb,hn⟩=>?_) ⟨hc,by rw [hq]; rfl⟩) (fun r ⟨a,e,h⟩=>by subst e; exact h)
 have hj:=(zg.1 hx).1
 unfold iE
 dsimp only
 refine Ok.bind (P:=fun t=>t=true→j < ns.length) (Ok.ite (fun hd=>?_) fun _=>Ok.pure (fun e=>by cases e)) fun t ht=>?_
 ·have hd:=zd hd
  exact Ok.bind (jt (by omega) hd) fun b _=>Ok.pure (fun _=>by omega)
 refine Ok.bind (P:=fun q:ax=>q.aC=x∧q.bu = []∧inI q.cy) (Ok.ite (fun hd=>?_) fun _=>Ok.pure ⟨rfl,rfl,(by show inI 1000000; exact pv (by decide))⟩) fun q ⟨q1,q2,q3⟩=>?_
 ·have:=ht hd
  refine Ok.bind (jt (by omega) (by omega)) fun b _=>Ok.bind (hH b (by omega) (by omega)) fun v hv=>Ok.pure ⟨rfl,rfl,?_⟩
  show inI (i64.wrap (1 + v))
  rw [w64 (by omega)]
  exact pv (by omega)
 ·refine Ok.bind (X5 hb.labels hL (by rw [q1]; exact hs x (List.mem_of_getElem? hx)) q3 q2) fun r hr=>?_
  rw [aE (by simp; omega)]
  refine Ok.pure ⟨_,rfl,⟨hb.labels,hb.label,fun y hy=>?_⟩,by simp; omega⟩
  simp only [List.mem_append,List.mem_singleton] at hy
  rcases hy with h | h
  ·exact hb.queues y h
  ·subst h; exact hr
theorem X4 {L:Nat} (hL:L≤10) {l:List ByteArray} (hl:l.length≤10) (ns:List Int) {N:Nat} (hN:N≤10) {c:av} (hc:CG L c) (hq:c.ae.length=N) : Ok (ah (cS l ns) ab (c,0)) (fun r=>CG L r.1∧r.1.ae.length=N):=by
 rw [BP l ns c (by omega)]
 refine Ok.weak (uA (g:=iB l ns) (fin:=fun a_=>(a_,((l.length:Int)))) (fun k b=>CG L b∧b.ae.length=N) l c (fun j b x hx ⟨hb,hn⟩=>?_) ⟨hc,hq⟩) (fun r ⟨a,e,h⟩=>by subst e; exact h)
 have hj:=(zg.1 hx).1
 unfold iB
 dsimp only
 obtain ⟨kd,k1,k2,_⟩:=ve b x (hb.sz hL (by omega))
 refine Ok.bind (P:=fun kd=>kd.length≤10) ⟨kd,k1,by omega⟩ fun kd hkd=>Ok.bind (X3 hL hkd ns (by omega) hN hb hn) fun r hr=>Ok.pure ⟨_,rfl,hr.1,hr.2⟩
theorem GR (shape:Int) (ns:List Int) : Ok (fQ shape ns) XB:=by
 unfold fQ
 dsimp only
 refine Ok.bind (hH _ (by omega) (by omega)) fun w hw=>?_
 rw [w64 (n:=1 + w) (by omega)]
 obtain ⟨W,rfl⟩ : ∃ W:Nat,w=(W:Int):=⟨w.toNat,by omega⟩
 rw [show (1 + (W:Int))=((1 + W:Nat) : Int) by omega,mS (by simp; omega)]
 simp only [zb]
 refine Ok.bind (hH _ (by omega) (by omega)) fun t ht=>Ok.bind (jt ht.1 ht.2) fun l hl=>?_
 have key:l.length≤7∧∀ x∈l,x.size≤100:=by
  simp only [List.mem_cons,List.not_mem_nil,or_false] at hl
  rcases hl with h | h | h | h | h <;> subst h <;> decide
 have hL:(List.take (1 + W) [(⟨#[]⟩ : ByteArray),⟨#[103,112,117]⟩]).length≤10:=Nat.le_trans (List.length_take_le' _ _) (by decide)
 refine Ok.bind (X7 hL (by omega) key.2 ns ⟨rfl,fun x hx=>?_,fun q hq=>by cases hq⟩ rfl) fun r hr=>Ok.bind (X4 hL (by omega) ns (by omega) hr.1 hr.2) fun q hq=>Ok.pure (hq.1.text hL (by have:=hq.2; omega))
 have:=List.mem_of_mem_take hx
 simp only [List.mem_cons,List.not_mem_nil,or_false] at this
 rcases this with h | h <;> subst h <;> decide
end Go.Proofs.YtmjkjaahbgikjaaGreat
