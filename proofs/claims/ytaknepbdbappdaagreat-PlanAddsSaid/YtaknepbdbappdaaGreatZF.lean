/- My texts, in one. -/
import Derived.Test.YtaknepbdbappdaaGreatZE
set_option linter.all false
set_option maxRecDepth 100000
set_option maxHeartbeats 4000000
namespace Go.Proofs.YtaknepbdbappdaaGreat
open Go.RowKit
open IntKind (i64)
open Go.Proofs.Tryz (prog)
section
def bT (l:Tx) : ByteArray:=⟨l.toArray⟩
def gP (c:Int×Int) : eE:=⟨c.1,c.2⟩
def gQ (d:QD) : aE:=⟨bT d.path,d.caps.map gP,d.user⟩
def gC (nl:Nat) (ds:List QD) : ay:=⟨(CX nl).map bT,ds.map gQ⟩
theorem XT {a b:Tx} : ((bT a).toList==(bT b).toList)=decide (a=b):=by
 by_cases h:a=b
 ·subst h; simp
 ·have:bT a≠bT b:=fun e=>h (by
   have:=congrArg (fun x:ByteArray=>x.data.toList) e
   simpa [bT] using this)
  rw [decide_eq_false h]
  cases hb:((bT a).toList==(bT b).toList) with
  | false=>rfl
  | true=>exact absurd (sC hb) this
theorem iq (a:Int) {n:Int} (h0 : 0 < n) (h1:n≤1125899906842625) : db a n=some (a % n):=by
 have l1:a.tmod n < n:=Int.tmod_lt_of_pos a h0
 have l2 : -n < a.tmod n:=by have:=Int.lt_tmod_of_pos a h0; omega
 unfold db CU
 rw [if_neg (by omega)]
 simp only [zb]
 by_cases hneg:a.tmod n < 0
 ·rw [MZ h0 hneg]
  simp only [hneg,decide_true,if_true,zb]
  rw [IntKind.wrap_i64]
  congr 1
  omega
 ·rw [MY h0 hneg]
  simp only [hneg,decide_false,zf,if_false,zb]
def it (xs:List Int) (i:Int) : Int:=if xs.length=0 then i else xs.getD (i % (xs.length:Int)).toNat 0
theorem tQ (xs:List Int) {i:Int} (h : 0≤i) : kF xs i=some (it xs i):=by
 unfold kF it
 by_cases hz:xs.length=0
 ·rw [if_pos (by rw [hz]; rfl),if_pos hz]
 ·have hn:(xs.length:Int)≠0:=by omega
  rw [if_neg (by simpa using hz),if_neg hz]
  unfold CU
  rw [if_neg hn]
  simp only [zb]
  have e:i.tmod (xs.length:Int)=i % (xs.length:Int):=Int.tmod_eq_emod_of_nonneg h
  rw [e]
  have h0:=Int.emod_nonneg i hn
  have h1:=Int.emod_lt_of_pos i (show (0:Int) < xs.length by omega)
  obtain ⟨m,hm⟩ : ∃ m:Nat,i % (xs.length:Int)=(m:Int):=⟨(i % (xs.length:Int)).toNat,by omega⟩
  rw [hm] at h1 ⊢
  have hmx:m < xs.length:=by omega
  rw [aH (zq hmx)]
  simp [List.getD,zq hmx]
def ES (xs:List Int) (k:Nat) : Bool:=decide (k < xs.length)&&((xs.getD k 0).tmod 3==0)
def It (xs:List Int) (k:Nat) : Int:=if ES xs k=true then 1 + xs.getD k 0 % 20000 else 1000000
theorem Yu {nl:Nat} (hnl:nl≤2) (c:ay) (hc:c.aj.length=nl) (p:ByteArray) (u:Int) : ah (eu c) ab (⟨p,[],u⟩,0)=some (⟨p,(List.replicate nl rQ).map gP,u⟩,(nl:Int)):=by
 rw [sU c _ (by omega)]
 obtain ⟨ls,qs⟩:=c
 dsimp only at hc ⊢
 subst hc
 rcases ls with _ | ⟨a,_ | ⟨b,_ | ⟨d,ls⟩⟩⟩
 ·rfl
 ·rfl
 ·rfl
 ·simp only [List.length_cons] at hnl; omega
theorem RV {nl:Nat} (hnl:nl≤2) (ps:List Tx) (xs:List Int) (ds:List QD) {k:Nat} (hk:k < ps.length) (hps:ps.length≤7) (hds:ds.length≤7) : dE (ps.map bT) xs (gC nl ds,(k:Int))=some (.inl (gC nl (ds ++ [⟨ps[k],List.replicate nl rQ,It xs k⟩]),((k + 1:Nat) : Int))):=by
 have e1:(ps.map bT)[k]? = some (bT ps[k]):=by simp [hk]
 have d1:decide ((k:Int) < ((ps.map bT).length:Int))=true:=by simp; omega
 have hl:(gC nl ds).aj.length=nl:=by show ((CX nl).map bT).length=nl; rw [List.length_map,qR hnl]
 unfold dE
 dsimp only
 rw [if_pos d1,aH e1]
 simp only [zb]
 have fin:∀ u:Int,(Option.bind (ah (eu (gC nl ds)) ab ((⟨bT ps[k],[],u⟩ : aE),(0:Int))) fun r12=>Option.bind (aX (gC nl ds).ae [r12.1]) fun b13=>some (Sum.inl ((⟨(gC nl ds).aj,b13⟩ : ay),i64.wrap ((k:Int) + 1)) : (ay×Int)⊕(ay×Int)))=some (.inl (gC nl (ds ++ [⟨ps[k],List.replicate nl rQ,u⟩]),((k + 1:Nat) : Int))):=by
  intro u
  rw [Yu hnl _ hl]
  simp only [zb]
  rw [aJ (by show (ds.map gQ).length + 1≤_; rw [List.length_map]; omega)]
  simp only [zb,bb (show k < 7 by omega) (show 7≤1000000 by omega)]
  unfold gC
  simp only [List.map_append,List.map_cons,List.map_nil,gQ]
 unfold It ES
 by_cases hN:k < xs.length
 ·have e2:xs[k]? = some xs[k]:=zq hN
  have e3:xs.getD k 0=xs[k]:=by simp [List.getD,e2]
  have d2:decide ((k:Int) < (xs.length:Int))=true:=by simp; omega
  simp only [d2,if_true,aH e2,zb,hN,decide_true,Bool.true_and,e3]
  by_cases ht:(xs[k].tmod 3==0)=true
  ·have h0:=Int.emod_nonneg xs[k] (show (20000:Int)≠0 by decide)
   have h1:=Int.emod_lt_of_pos xs[k] (show (0:Int) < 20000 by decide)
   simp only [ht,if_true,iq xs[k] (show (0:Int) < 20000 by decide) (by decide),zb,w64 (n:=1 + xs[k] % 20000) (by omega)]
   exact fin _
  ·simp only [ht,if_false,zb,zf]
   exact fin _
 ·have d2:decide ((k:Int) < (xs.length:Int))=false:=by simp; omega
  simp only [d2,zf,if_false,zb,hN,decide_false,Bool.false_and]
  exact fin _
theorem EC {α β : Type} (f : α→β) (g : α→α) (b : β) : ∀ (l:List α) (m:Nat) (h:m < l.length),b=f (g l[m])→(l.modify m g).map f=(l.map f).set m b
 | x::l,0,h,e=>by subst e; rfl
 | x::l,m + 1,h,e=>by
  simp only [List.modify_succ_cons,List.map_cons,List.set_cons_succ]
  rw [EC f g b l m (by simpa using h) e]
theorem Yp {nl:Nat} {ks:List Tx} {ds:List QD} {k j:Nat} (hj:j < ks.length) (n mo:Int) (hN:ds.length≤7) (hc:∀ q∈ds,q.caps.length=nl) (hk:k < nl) : ah (er (k:Int) n mo (j:Int) (ks.map bT)) ab (gC nl ds,0)=some (gC nl (iZ ks[j] k n mo ds),(ds.length:Int)):=by
 have hp:∃ r,ah (er (k:Int) n mo (j:Int) (ks.map bT)) ab (gC nl ds,0)=some r∧r=(gC nl (iZ ks[j] k n mo ds),(ds.length:Int)):=by
  refine aM (f:=er (k:Int) n mo (j:Int) (ks.map bT)) (fun st=>∃ m:Nat,m≤ds.length∧st=(gC nl (e9 ks[j] k n mo ds m),(m:Int))) (fun st=>ds.length - st.2.toNat) (fun r=>r=(gC nl (iZ ks[j] k n mo ds),(ds.length:Int))) (fun st ⟨m,hm,hst⟩=>?_) ab (gC nl ds,0) ⟨0,Nat.zero_le _,by rw [D5]; rfl⟩ (by show ds.length - (0:Int).toNat < ab; unfold ab; omega)
  subst hst
  unfold er
  dsimp only
  have hlen:(gC nl (e9 ks[j] k n mo ds m)).ae.length=ds.length:=by show ((e9 _ _ _ _ ds m).map gQ).length = _; rw [List.length_map,g7]
  rw [hlen]
  rcases Nat.lt_or_ge m ds.length with hlt | hge
  ·left
   have d1:decide ((m:Int) < (ds.length:Int))=true:=by simpa using hlt
   have hml:m < (e9 ks[j] k n mo ds m).length:=by rw [g7]; exact hlt
   have e1:(gC nl (e9 ks[j] k n mo ds m)).ae[m]? = some (gQ ds[m]):=by
    show ((e9 _ _ _ _ ds m).map gQ)[m]? = _
    rw [List.getElem?_map,zq hml,AK _ _ _ _ _ _ hlt]
    rfl
   have e2:(ks.map bT)[j]? = some (bT ks[j]):=by simp [hj]
   have e3:(gQ ds[m]).bt[k]? = some (gP (ds[m].caps[k]'(by rw [hc _ (List.getElem_mem hlt)]; exact hk))):=by
    show (ds[m].caps.map gP)[k]? = _
    rw [List.getElem?_map,zq (by rw [hc _ (List.getElem_mem hlt)]; exact hk)]
    rfl
   rw [if_pos d1,aH e1,aH e2]
   simp only [zb,aH e3,bb (show m < 7 by omega) (show 7≤1000000 by omega),zt]
   rw [show (gQ ds[m]).aO=bT ds[m].path from rfl,XT]
   by_cases he:ds[m].path=ks[j]
   ·rw [if_pos (by simpa using he)]
    refine ⟨_,rfl,⟨m + 1,hlt,?_⟩,by simp only [zt]; omega⟩
    rw [H4 hlt he]
    congr 1
    unfold gC
    congr 1
    dsimp only
    refine (EC gQ _ _ _ m hml ?_).symm
    rw [AK _ _ _ _ _ _ hlt]
    unfold gQ
    simp [List.map_set,gP]
   ·rw [if_neg (by simpa using he)]
    exact ⟨_,rfl,⟨m + 1,hlt,by rw [LQ hlt he]⟩,by simp only [zt]; omega⟩
  ·right
   have hm2:m=ds.length:=by omega
   subst hm2
   have d1:decide ((ds.length:Int) < (ds.length:Int))=false:=by simp
   rw [if_neg (by rw [d1]; decide)]
   exact ⟨_,rfl,by rw [H5]⟩
 obtain ⟨r,h1,h2⟩:=hp
 rw [h1,h2]
theorem B4 {σ α τ : Type} {g g' : σ→α→Option (σ⊕τ)} (fin : σ→τ) : ∀ (l:List α) (a : σ),(∀ x∈l,∀ a,g a x=g' a x)→br g fin a l=br g' fin a l
 | [],a,_=>rfl
 | x::l,a,h=>by
  simp only [br]
  rw [h x (List.mem_cons_self ..)]
  cases g' a x with
  | none=>rfl
  | some o=>cases o with
   | inl a'=>exact B4 fin l a' (fun y hy=>h y (List.mem_cons_of_mem _ hy))
   | inr r=>rfl
theorem Qb (y:Nat) : ∀ x∈mG y,fg (bT x)=bT (above x):=by
 unfold mG
 split
 all_goals
  intro x hx
  simp only [List.mem_cons,List.not_mem_nil,or_false] at hx
  repeat (first | (subst hx; kernel_rfl) | (rcases hx with h | hx; (subst h; kernel_rfl)))
theorem ZL (nl:Nat) {ds:List QD} {ps:List Tx} {y:Nat} (hy:ps=mG y) (hd:ds.map (·.path)=ps) {p:Tx} (hp:p∈ps) : fw (gC nl ds) (bT p)=some ((Cd p ps).map bT):=by
 have hlen:ds.length≤7:=by
  have h1:=congrArg List.length hd
  have h2:=LH y
  rw [hy,List.length_map] at h1
  omega
 have hsz:∀ q∈(gC nl ds).ae,q.aO.size≤1000000:=fun q hq=>by
  obtain ⟨d,hd2,rfl⟩:=List.mem_map.1 hq
  have h1:d.path∈ps:=by rw [← hd]; exact List.mem_map_of_mem hd2
  rw [hy] at h1
  have h2:=LG y _ h1
  show (bT d.path).size≤_
  have:(bT d.path).size=d.path.length:=by simp [bT,ByteArray.size]
  omega
 unfold fw
 dsimp only
 rw [jI (gC nl ds) (bT p) [] (by show (ds.map gQ).length≤_; rw [List.length_map]; omega)]
 rw [B4 (g':=fun acc x=>if (!((bT p).toList==(⟨#[]⟩ : ByteArray).toList)&&((fg x.aO).toList==(bT p).toList))=true then (aX acc [x.aO]).map (fun a=>(.inl a:List ByteArray⊕(List ByteArray×Int))) else some (.inl acc)) _ _ _ (fun x hx acc=>by
  unfold cA
  simp only [(sI (hsz x hx)).1,zb,cW]
  split
  ·cases aX acc [x.aO] <;> rfl
  ·rfl)]
 rw [cd (fun x:aE=>!((bT p).toList==(⟨#[]⟩ : ByteArray).toList)&&((fg x.aO).toList==(bT p).toList)) aE.aO _ _ [] (by show 0 + (ds.map gQ).length≤_; rw [List.length_map]; omega)]
 simp only [zb,List.nil_append]
 congr 1
 have e1:((gC nl ds).ae.filter fun x:aE=>!((bT p).toList==(⟨#[]⟩ : ByteArray).toList)&&((fg x.aO).toList==(bT p).toList)).map aE.aO=(ps.filter fun x=>!((bT p).toList==(bT []).toList)&&((fg (bT x)).toList==(bT p).toList)).map bT:=by
  rw [← hd]
  show ((ds.map gQ).filter _).map _ = _
  rw [List.filter_map,List.filter_map,List.map_map,List.map_map]
  rfl
 rw [e1]
 congr 1
 unfold Cd
 refine List.filter_congr fun x hx=>?_
 rw [hy] at hx
 rw [Qb y x hx,XT,XT]
 simp
theorem oW {α β : Type} {o:Option α} {f : α→Option β} {r : α} {x:Option β} (h1:o=some r) (h2:f r=x) : Option.bind o f=x:=by subst h1; exact h2
def nV (xs:List Int) (i jj kk nk:Nat) (L:Int) : Int:=if jj + 1 < nk then [0,L / 2,L,it xs ((i:Int) + jj + kk) % (L + 1)].getD (it xs ((i:Int) * jj + kk) % 4).toNat 0 else L
def mV (xs:List Int) (i jj kk:Nat) (n:Int) : Int:=[10000,n,n + it xs ((jj:Int) + kk) % (10000 - n + 1)].getD (it xs ((i:Int) + 2 * jj) % 3).toNat 0
theorem Ir (l:List Int) (a:Int) (hl : 0 < l.length) : aw l (a % (l.length:Int))=some (l.getD (a % (l.length:Int)).toNat 0):=by
 have h0:=Int.emod_nonneg a (show (l.length:Int)≠0 by omega)
 have h1:=Int.emod_lt_of_pos a (show (0:Int) < l.length by omega)
 obtain ⟨m,hm⟩ : ∃ m:Nat,a % (l.length:Int)=(m:Int):=⟨(a % (l.length:Int)).toNat,by omega⟩
 rw [hm] at h1 ⊢
 have hmx:m < l.length:=by omega
 rw [aH (zq hmx)]
 simp [List.getD,zq hmx]
theorem aa3 (xs:List Int) (i jj kk nk:Nat) {L:Int} (h0 : 0≤L) : 0≤nV xs i jj kk nk L∧nV xs i jj kk nk L≤L:=by
 unfold nV
 split
 ·have a0:=Int.emod_nonneg (it xs ((i:Int) * jj + kk)) (show (4:Int)≠0 by decide)
  have a1:=Int.emod_lt_of_pos (it xs ((i:Int) * jj + kk)) (show (0:Int) < 4 by decide)
  have b0:=Int.emod_nonneg (it xs ((i:Int) + jj + kk)) (show (L + 1)≠0 by omega)
  have b1:=Int.emod_lt_of_pos (it xs ((i:Int) + jj + kk)) (show (0:Int) < L + 1 by omega)
  generalize it xs ((i:Int) + jj + kk) % (L + 1)=b at b0 b1
  obtain ⟨m,hm⟩ : ∃ m:Nat,(it xs ((i:Int) * jj + kk) % 4)=(m:Int):=⟨(it xs ((i:Int) * jj + kk) % 4).toNat,by omega⟩
  rw [hm] at a1 ⊢
  rcases m with _ | _ | _ | _ | m
  ·exact ⟨Int.le_refl _,h0⟩
  ·show 0≤L / 2∧L / 2≤L; omega
  ·exact ⟨h0,Int.le_refl _⟩
  ·show 0≤b∧b≤L; omega
  ·omega
 ·exact ⟨h0,Int.le_refl _⟩
theorem RU {nl:Nat} {ks:List Tx} {ds:List QD} {xs:List Int} {i jj kk:Nat} {L:Int} (hj:jj < ks.length) (hks:ks.length≤7) (hi:i≤7) (hnl:nl≤2) (hkk:kk < nl) (h0 : 0≤L) (h1:L≤10000) (hN:ds.length≤7) (hc:∀ q∈ds,q.caps.length=nl) :
  cX (ks.map bT) xs (i:Int) (kk:Int) (L,gC nl ds,(jj:Int))=some (.inl (L - nV xs i jj kk ks.length L,gC nl (iZ ks[jj] kk (nV xs i jj kk ks.length L) (mV xs i jj kk (nV xs i jj kk ks.length L)) ds),((jj + 1:Nat) : Int))):=by
 have hij:(i:Int) * (jj:Int)≤100:=by
  have:i * jj≤7 * 7:=Nat.mul_le_mul hi (by omega)
  have h2:((i * jj:Nat) : Int)≤49:=by omega
  rw [Int.natCast_mul] at h2
  omega
 have hij0 : 0≤(i:Int) * (jj:Int):=Int.mul_nonneg (by omega) (by omega)
 have hn:=aa3 xs i jj kk ks.length h0
 have d1:decide ((jj:Int) < ((ks.map bT).length:Int))=true:=by simp; omega
 unfold cX
 dsimp only
 rw [if_pos d1]
 refine oW (r:=nV xs i jj kk ks.length L) ?_ ?_
 ·unfold nV
  by_cases hl:jj + 1 < ks.length
  ·have d2:decide ((jj:Int) < i64.wrap (((ks.map bT).length:Int) - 1))=true:=by
    rw [List.length_map,w64 (by omega)]
    simp; omega
   have h2d:L.tdiv 2=L / 2:=Int.tdiv_eq_ediv_of_nonneg h0
   rw [if_pos d2,if_pos hl,h2d,w64 (n:=(i:Int) + jj) (by omega),w64 (n:=(i:Int) + jj + kk) (by omega),w64 (n:=L + 1) (by omega),w64 (n:=(i:Int) * jj) (by omega),w64 (n:=(i:Int) * jj + kk) (by omega),w64 (n:=L / 2) (by omega)]
   refine oW (tQ xs (by omega)) (oW (iq _ (by omega) (by omega)) (oW (tQ xs (by omega)) (oW (iq _ (by omega) (by omega)) (oW ?_ rfl))))
   exact Ir [0,L / 2,L,_] _ (by simp)
  ·have d2:decide ((jj:Int) < i64.wrap (((ks.map bT).length:Int) - 1))=false:=by
    rw [List.length_map,w64 (by omega)]
    simp; omega
   rw [if_neg (by rw [d2]; decide),if_neg hl]
 ·generalize nV xs i jj kk ks.length L=n at hn
  rw [w64 (n:=L - n) (by omega),w64 (n:=(jj:Int) + kk) (by omega),w64 (n:=10000 - n) (by omega),w64 (n:=10000 - n + 1) (by omega),w64 (n:=2 * (jj:Int)) (by omega),w64 (n:=(i:Int) + 2 * jj) (by omega)]
  have b0:=Int.emod_nonneg (it xs ((jj:Int) + kk)) (show (10000 - n + 1)≠0 by omega)
  have b1:=Int.emod_lt_of_pos (it xs ((jj:Int) + kk)) (show (0:Int) < 10000 - n + 1 by omega)
  refine oW (tQ xs (by omega)) (oW (iq _ (by omega) (by omega)) (oW (tQ xs (by omega)) (oW (iq _ (by omega) (by omega)) (oW (r:=mV xs i jj kk n) ?_ ?_))))
  ·rw [w64 (n:=n + it xs ((jj:Int) + kk) % (10000 - n + 1)) (by omega)]
   exact Ir [10000,n,_] _ (by simp)
  ·refine oW (Yp hj n (mV xs i jj kk n) hN hc hkk) ?_
   rw [bb (show jj < 7 by omega) (show 7≤1000000 by omega)]
theorem Mp {σ τ : Type} {f : σ→Option (σ⊕τ)} {s s' : σ} {n:Nat} (h:f s=some (.inl s')) : ah f (n + 1) s=ah f n s':=by simp only [ah,h]
theorem vJ {σ τ : Type} {f : σ→Option (σ⊕τ)} {s : σ} {r : τ} {n:Nat} (h:f s=some (.inr r)) : ah f (n + 1) s=some r:=by simp only [ah,h]
def E1 (sh:Int) (xs:List Int) (nl:Nat) (ps:List Tx) (k:Nat) (ds:List QD) : Prop:=∃ n,n + k=ab∧ga sh xs=Option.bind (ah (dE (ps.map bT) xs) n (gC nl ds,(k:Int))) fun r=>Option.bind (ah (cP (ps.map bT) xs) ab (r.1,0)) fun r=>some r.1
def E3 (sh:Int) (xs:List Int) (nl:Nat) (ps:List Tx) (i:Nat) (ds:List QD) : Prop:=∃ n,n + i=ab∧ga sh xs=Option.bind (ah (cP (ps.map bT) xs) n (gC nl ds,(i:Int))) fun r=>some r.1
def E4 (sh:Int) (xs:List Int) (nl:Nat) (ps:List Tx) (i:Nat) (ks:List Tx) (kk:Nat) (ds:List QD) : Prop:=∃ n3,n3 + (i + 1)=ab∧∃ n,n + kk=ab∧ga sh xs=Option.bind (Option.bind (ah (dD xs (i:Int) (ks.map bT)) n (gC nl ds,(kk:Int))) fun r=>ah (cP (ps.map bT) xs) n3 (r.1,((i + 1:Nat) : Int))) fun r=>some r.1
def E5 (sh:Int) (xs:List Int) (nl:Nat) (ps:List Tx) (i:Nat) (ks:List Tx) (kk jj:Nat) (L:Int) (ds:List QD) : Prop:=∃ n3,n3 + (i + 1)=ab∧∃ n4,n4 + (kk + 1)=ab∧∃ n,n + jj=ab∧ga sh xs=Option.bind (Option.bind (Option.bind (ah (cX (ks.map bT) xs (i:Int) (kk:Int)) n (L,gC nl ds,(jj:Int))) fun r=>ah (dD xs (i:Int) (ks.map bT)) n4 (r.2.1,((kk + 1:Nat) : Int))) fun r=>ah (cP (ps.map bT) xs) n3 (r.1,((i + 1:Nat) : Int))) fun r=>some r.1
section
variable {sh:Int} {xs:List Int} {nl:Nat} {ps:List Tx} {ds:List QD}
theorem E1.step {k:Nat} (h:E1 sh xs nl ps k ds) (hnl:nl≤2) (hk:k < ps.length) (hps:ps.length≤7) (hds:ds.length≤7) : E1 sh xs nl ps (k + 1) (ds ++ [⟨ps[k],List.replicate nl rQ,It xs k⟩]):=by
 obtain ⟨n,h1,h2⟩:=h
 obtain ⟨n,rfl⟩ : ∃ m,n=m + 1:=⟨n - 1,by unfold ab at h1; omega⟩
 rw [Mp (RV hnl ps xs ds hk hps hds)] at h2
 exact ⟨n,by omega,h2⟩
theorem E1.end (h:E1 sh xs nl ps ps.length ds) (hps:ps.length≤7) : E3 sh xs nl ps 0 ds:=by
 obtain ⟨n,h1,h2⟩:=h
 obtain ⟨n,rfl⟩ : ∃ m,n=m + 1:=⟨n - 1,by unfold ab at h1; omega⟩
 rw [vJ (r:=(gC nl ds,(ps.length:Int))) (by unfold dE; simp)] at h2
 exact ⟨ab,rfl,h2⟩
theorem E3.open {i:Nat} (h:E3 sh xs nl ps i ds) (hi:i < ps.length) (hps:ps.length≤7) {y:Nat} (hy:ps=mG y) (hd:ds.map (·.path)=ps) : E4 sh xs nl ps i (Cd ps[i] ps) 0 ds:=by
 obtain ⟨n,h1,h2⟩:=h
 obtain ⟨n,rfl⟩ : ∃ m,n=m + 1:=⟨n - 1,by unfold ab at h1; omega⟩
 refine ⟨n,by omega,ab,rfl,h2.trans ?_⟩
 have e1:(ps.map bT)[i]? = some (bT ps[i]):=by simp [hi]
 have d1:decide ((i:Int) < ((ps.map bT).length:Int))=true:=by simp; omega
 congr 1
 rw [ah]
 unfold cP
 dsimp only
 rw [if_pos d1,aH e1]
 simp only [zb,ZL nl hy hd (List.getElem_mem hi),bb (show i < 7 by omega) (show 7≤1000000 by omega)]
 cases ah (dD xs (i:Int) ((Cd ps[i] ps).map bT)) ab (gC nl ds,0) <;> rfl
theorem E4.open {i kk:Nat} {ks:List Tx} (h:E4 sh xs nl ps i ks kk ds) (hk:kk < nl) (hnl:nl≤2) : E5 sh xs nl ps i ks kk 0 10000 ds:=by
 obtain ⟨n3,h3,n,h1,h2⟩:=h
 obtain ⟨n,rfl⟩ : ∃ m,n=m + 1:=⟨n - 1,by unfold ab at h1; omega⟩
 refine ⟨n3,h3,n,by omega,ab,rfl,h2.trans ?_⟩
 have hl:(gC nl ds).aj.length=nl:=by show ((CX nl).map bT).length=nl; rw [List.length_map,qR hnl]
 have d1:decide ((kk:Int) < ((gC nl ds).aj.length:Int))=true:=by rw [hl]; simpa using hk
 congr 1
 congr 1
 rw [ah]
 unfold dD
 dsimp only
 rw [if_pos d1]
 simp only [bb (show kk < 7 by omega) (show 7≤1000000 by omega)]
 cases ah (cX (ks.map bT) xs (i:Int) (kk:Int)) ab (10000,gC nl ds,0) <;> rfl
theorem E5.step {i kk jj:Nat} {ks:List Tx} {L:Int} (h:E5 sh xs nl ps i ks kk jj L ds) (hj:jj < ks.length) (hks:ks.length≤7) (hi:i≤7) (hnl:nl≤2) (hkk:kk < nl) (h0 : 0≤L) (hL:L≤10000) (hN:ds.length≤7) (hc:∀ q∈ds,q.caps.length=nl) :
  E5 sh xs nl ps i ks kk (jj + 1) (L - nV xs i jj kk ks.length L) (iZ ks[jj] kk (nV xs i jj kk ks.length L) (mV xs i jj kk (nV xs i jj kk ks.length L)) ds):=by
 obtain ⟨n3,h3,n4,h4,n,h1,h2⟩:=h
 obtain ⟨n,rfl⟩ : ∃ m,n=m + 1:=⟨n - 1,by unfold ab at h1; omega⟩
 rw [Mp (RU hj hks hi hnl hkk h0 hL hN hc)] at h2
 exact ⟨n3,h3,n4,h4,n,by omega,h2⟩
theorem E5.end {i kk:Nat} {ks:List Tx} {L:Int} (h:E5 sh xs nl ps i ks kk ks.length L ds) (hks:ks.length≤7) : E4 sh xs nl ps i ks (kk + 1) ds:=by
 obtain ⟨n3,h3,n4,h4,n,h1,h2⟩:=h
 obtain ⟨n,rfl⟩ : ∃ m,n=m + 1:=⟨n - 1,by unfold ab at h1; omega⟩
 rw [vJ (r:=(L,gC nl ds,(ks.length:Int))) (by unfold cX; simp)] at h2
 exact ⟨n3,h3,n4,h4,h2⟩
theorem E4.end {i:Nat} {ks:List Tx} (h:E4 sh xs nl ps i ks nl ds) (hnl:nl≤2) : E3 sh xs nl ps (i + 1) ds:=by
 obtain ⟨n3,h3,n,h1,h2⟩:=h
 obtain ⟨n,rfl⟩ : ∃ m,n=m + 1:=⟨n - 1,by unfold ab at h1; omega⟩
 have hl:(gC nl ds).aj.length=nl:=by show ((CX nl).map bT).length=nl; rw [List.length_map,qR hnl]
 rw [vJ (r:=(gC nl ds,(nl:Int))) (by unfold dD; simp [hl])] at h2
 exact ⟨n3,h3,h2⟩
theorem E3.end (h:E3 sh xs nl ps ps.length ds) (hps:ps.length≤7) : ga sh xs=some (gC nl ds):=by
 obtain ⟨n,h1,h2⟩:=h
 obtain ⟨n,rfl⟩ : ∃ m,n=m + 1:=⟨n - 1,by unfold ab at h1; omega⟩
 rw [vJ (r:=(gC nl ds,(ps.length:Int))) (by unfold cP; simp)] at h2
 exact h2
end
theorem E1.start (sh:Int) (xs:List Int) {nl y:Nat} (hnl:(nl:Int)=1 + i64.wrap (sh.tdiv 5) % 2) (hy:(y:Int)=sh % 5) : E1 sh xs nl (mG y) 0 []:=by
 refine ⟨ab,rfl,?_⟩
 have h0:=Int.emod_nonneg (i64.wrap (sh.tdiv 5)) (show (2:Int)≠0 by decide)
 have h1:=Int.emod_lt_of_pos (i64.wrap (sh.tdiv 5)) (show (0:Int) < 2 by decide)
 have y0:=Int.emod_nonneg sh (show (5:Int)≠0 by decide)
 have y1:=Int.emod_lt_of_pos sh (show (0:Int) < 5 by decide)
 unfold ga
 dsimp only
 refine oW (iq _ (by decide) (by decide)) ?_
 rw [w64 (n:=1 + i64.wrap (sh.tdiv 5) % 2) (by omega),← hnl]
 refine oW (lB (by simp; omega)) (oW (iq _ (by decide) (by decide)) ?_)
 rw [← hy]
 have hy5:y < 5:=by omega
 refine oW (r:=(mG y).map bT) ?_ ?_
 ·rcases y with _ | _ | _ | _ | _ | y
  all_goals first | rfl | omega
 ·have e:(⟨List.take nl [(⟨#[]⟩ : ByteArray),⟨#[103,112,117]⟩],[]⟩ : ay)=gC nl []:=by
   unfold gC CX
   rw [List.map_take]
   rfl
  rw [e]
  rfl
end
theorem di {w:World} {b:Nat} {cs:Array Value} {t:TypeId} (h:w.heap[b]? = some (.cells cs t (0,0))) (j:Nat) (v:Value) (hv:cs[j]? = some v) : w.cell? ⟨b,j,none⟩=some v:=by
 rw [cell_of_row w b j cs t (0,0) h,hv]
theorem sF {w:World} {b:Nat} {cs:Array Value} {t:TypeId} (h:w.heap[b]? = some (.cells cs t (0,0))) (j:Nat) : w.frozen? ⟨b,j,none⟩=false:=by
 simp [World.frozen?,h]
noncomputable def sk (w:World) : World:=((((((((w.alloc (Obj.cells #[Value.slice none 0 0,Value.slice none 0 0] 34)).alloc (Obj.cells #[Value.string { data:=#[114,111,111,116] }] 9)).alloc (Obj.cells #[Value.string { data:=#[114,111,111,116] },Value.string { data:=#[114,111,111,116,46,97] },Value.string { data:=#[114,111,111,116,46,98] }] 9)).alloc (Obj.cells #[Value.string { data:=#[114,111,111,116] },Value.string { data:=#[114,111,111,116,46,97] },Value.string { data:=#[114,111,111,116,46,97,46,120] },Value.string { data:=#[114,111,111,116,46,97,46,121] },Value.string { data:=#[114,111,111,116,46,98] }] 9)).alloc (Obj.cells #[Value.string { data:=#[114,111,111,116] },Value.string { data:=#[114,111,111,116,46,97] },Value.string { data:=#[114,111,111,116,46,98] },Value.string { data:=#[114,111,111,116,46,98,46,120] },Value.string { data:=#[114,111,111,116,46,98,46,120,46,112] },Value.string { data:=#[114,111,111,116,46,98,46,120,46,113] },Value.string { data:=#[114,111,111,116,46,99] }] 9)).alloc (Obj.cells #[Value.string { data:=#[114,111,111,116] },Value.string { data:=#[114,111,111,116,46,97] }] 9)).alloc (Obj.cells #[Value.slice (some { block:=w.heap.size + 1,off:=0 }) 1 1,Value.slice (some { block:=w.heap.size + 1 + 1,off:=0 }) 3 3,Value.slice (some { block:=w.heap.size + 1 + 1 + 1,off:=0 }) 5 5,Value.slice (some { block:=w.heap.size + 1 + 1 + 1 + 1,off:=0 }) 7 7,Value.slice (some { block:=w.heap.size + 1 + 1 + 1 + 1 + 1,off:=0 }) 2 2] 31)).alloc (Obj.cells #[Value.string { data:=#[] },Value.string { data:=#[103,112,117] }] 9))
theorem Uc (w:World) : Ext w (sk w):=(((((((aU w _).trans (aU _ _)).trans (aU _ _)).trans (aU _ _)).trans (aU _ _)).trans (aU _ _)).trans (aU _ _)).trans (aU _ _)
theorem PF (w:World) : (sk w).heap.size=w.heap.size + 8:=by simp [sk]
theorem Ub (w:World) : (sk w).heap[w.heap.size]? = some (.cells #[.slice none 0 0,.slice none 0 0] 34 (0,0)):=by
 have h:=heap_alloc_new w (.cells #[.slice none 0 0,.slice none 0 0] 34 (0,0))
 have x:Ext (w.alloc (.cells #[.slice none 0 0,.slice none 0 0] 34 (0,0))) (sk w):=((((((aU _ _).trans (aU _ _)).trans (aU _ _)).trans (aU _ _)).trans (aU _ _)).trans (aU _ _)).trans (aU _ _)
 exact (x.block _ (Array.getElem?_eq_some_iff.1 h).1).trans h
theorem PH (w:World) : (sk w).heap[w.heap.size + 1 + 1 + 1 + 1 + 1 + 1 + 1]? = some (.cells #[.string ⟨#[]⟩,.string ⟨#[103,112,117]⟩] 9 (0,0)):=by
 have e:∀ (W1:World) (o:Obj) (n:Nat),W1.heap.size=n→(W1.alloc o).heap[n]? = some o:=by intro W1 o n h; subst h; exact heap_alloc_new W1 o
 unfold sk
 exact e _ _ _ (by simp)
theorem PE (w:World) (y:Nat) (hy:y < 5) : (sk w).cell? ⟨w.heap.size + 1 + 1 + 1 + 1 + 1 + 1,y,none⟩=some (.slice (some ⟨w.heap.size + 1 + y,0,none⟩) (mG y).length (mG y).length):=by
 unfold sk
 rcases y with _ | _ | _ | _ | _ | y
 all_goals first | omega | (simp [go_sem,mG,Nat.add_assoc])
theorem PG (w:World) (y:Nat) (hy:y < 5) (i:Nat) (hi:i < (mG y).length) : (sk w).cell? ⟨w.heap.size + 1 + y,i,none⟩=some (.string ⟨((mG y)[i]).toArray⟩):=by
 unfold sk
 rcases y with _ | _ | _ | _ | _ | y
 all_goals first | omega | skip
 all_goals (rcases i with _ | _ | _ | _ | _ | _ | _ | i)
 all_goals first | (exfalso; simp [mG] at hi; done) | (exfalso; simp [mG] at hi; omega) | (simp [go_sem,mG,Nat.add_assoc])
theorem yG (v:Value) (xs:List Int) (i:Int) (w:World) (r0:Rd w v (xs.map (Value.int .i64))) (hn:xs.length≤9223372036854775807) (h0 : 0≤i) (h1:i≤1000000) :
  Calls prog 53 #[v,.int .i64 i] w fun e w'=>(∃ a:Int,e = .returned (.int .i64 a)∧a=it xs i)∧w=w':=by
 obtain ⟨A,N,c,rfl,hN,hc1,hc2,hcell⟩:=Ip r0
 have HC:=Lib.hid hcell
 have HN:=Lib.hid hN
 have hN1:N≤9223372036854775807:=by omega
 clear hcell hN r0
 by_cases hz:N=0
 ·subst hz
  have hp:it xs i=i:=by unfold it; rw [if_pos (by have:=HN.out; omega)]
  rw [hp]
  clear hp
  go_enter Tryz.func53,Tryz.ntmps53
  go_wp2
  go_ret
  exact ⟨⟨_,rfl,rfl⟩,rfl⟩
 ·have q0:((N:Int)==0)=false:=by simp; omega
  obtain ⟨m,hm⟩ : ∃ m:Nat,i % (N:Int)=(m:Int):=⟨(i % (N:Int)).toNat,by have:=Int.emod_nonneg i (show (N:Int)≠0 by omega); omega⟩
  have hmN:m < N:=by have:=Int.emod_lt_of_pos i (show (0:Int) < N by omega); omega
  obtain ⟨a,rfl,hb,hcs⟩:=HC.out (by omega)
  have h3:=hcs m (by have:=HN.out; omega)
  have n1:(1:Int)≤(N:Int):=by omega
  have m0:(0:Int)≤(m:Int):=by omega
  have m1:(m:Int) < (N:Int):=by omega
  have hp:it xs i=xs[m]'(by have:=HN.out; omega):=by
   unfold it
   rw [if_neg (by have:=HN.out; omega),show (xs.length:Int)=(N:Int) by have:=HN.out; omega,hm]
   simp [List.getD,zq (show m < xs.length by have:=HN.out; omega)]
  generalize xs[m]'(by have:=HN.out; omega)=x at h3 hp
  rw [hp]
  clear hp
  clear hcs
  go_enter Tryz.func53,Tryz.ntmps53
  go_wp2
  go_ret
  exact ⟨⟨_,rfl,rfl⟩,rfl⟩
section
section
variable {P:Program} {ops:Array Oper} {Q:Exit→Act→World→Prop} {md:Region.Mode} {L:World→World→Prop}
def fZ (P:Program) (ops:Array Oper) (L:World→World→Prop) (W:World) (o:Oper) (v:Value) (a:Act) : Prop :=
 (Region.wanted o (yielded ops a.tmps)=true∧∀ w,L W w→OkX P v w ((execOp a.eval o).run P w)) ∨
 (Region.wanted o (yielded ops a.tmps)=false∧v=undef)
structure Way (L:World→World→Prop) : Prop where
 ext:∀ {a b},Ext a b→L a b
 trans:∀ {a b c},L a b→L b c→L a c
theorem fZ.of_same {W:World} {o:Oper} {v:Value} {a a':Act} (hy:fZ P ops L W o v a) (he:execOp a'.eval o=execOp a.eval o)
  (hw:Region.wanted o (yielded ops a'.tmps)=Region.wanted o (yielded ops a.tmps)) : fZ P ops L W o v a':=by
 unfold fZ at *
 rw [he,hw]
 exact hy
theorem fZ.later (hL:Way L) {W W':World} {o:Oper} {v:Value} {a:Act} (hy:fZ P ops L W o v a) (h:L W W') : fZ P ops L W' o v a :=
 hy.imp (fun ⟨hw,hv⟩=>⟨hw,fun w k=>hv w (hL.trans h k)⟩) id
theorem fZ.wpOp {W w:World} {i:Nat} {o:Oper} {v:Value} {a:Act} (hi:ops[i]? = some o) (hy:fZ P ops L W o v a) (hW:L W w)
  {K:Act→World→Prop} (h:∀ w',Ext w w'→K (a.put o.dst v) w') : wpOp P ops Q i K a w:=by
 unfold Go.wpOp
 simp only [hi]
 rcases hy with ⟨hw,hv⟩ | ⟨hw,rfl⟩
 ·simp only [hw,if_true]
  refine .inl ?_
  unfold Oper.wp
  have:=hv w hW
  generalize (execOp a.eval o).run P w=r at *
  cases r with
  | ok n w' =>
   cases n <;> simp only [OkX] at this <;> simp only [Oper.upon]
   case value u=>rw [this.1]; exact h _ this.2
   case enter f args =>
    refine Calls.mono this.2 fun e w'' he=>?_
    rw [he.1]
    exact h _ (this.1.trans he.2)
  | halt x w'=>simp only [OkX] at this
 ·simp only [hw,zf,if_false]; exact h _ (Ext.refl _)
theorem To {j:Nat} {W:World} {oi oj:Oper} {v:Value} (hj:ops[j]? = some oj) (hap:oi.apart ops oj=true)
  (hsi:∀ cs b,oi.op≠.select cs b) (hsj:∀ cs b,oj.op≠.select cs b)
  (hQ:∀ c a w,Q (.panic c) (a.put oi.dst v) w→Q (.panic c) a w) {K:Act→World→Prop} {a:Act} {w:World}
  (hy:fZ P ops L W oi v a) (h:wpOp P ops Q j K (a.put oi.dst v) w) :
  wpOp P ops Q j (fun a' w'=>fZ P ops L W oi v a'∧K (a'.put oi.dst v) w') a w:=by
 obtain ⟨h1,h2,h3⟩:=Oper.apart_spec hap
 have keep:∀ (a:Act),fZ P ops L W oi v a→∀ u,fZ P ops L W oi v (a.put oj.dst u):=fun a hy u =>
  hy.of_same (execOp_put oi hsi a oj.dst u h3) (wanted_put oi a oj.dst u h3)
 have keepD:∀ d,fZ P ops L W oi v { a with defers:=d::a.defers } := fun d=>hy.of_same rfl rfl
 unfold Go.wpOp at *
 simp only [hj] at *
 rw [wanted_put oj a oi.dst v h1] at h
 split
 ·rename_i hw
  simp only [hw,if_true] at h
  rcases h with h | ⟨hasks,hlets⟩
  case inr=>exact .inr ⟨by unfold Oper.asks at *; rw [execOp_put oj hsj a oi.dst v h1] at hasks; exact hasks,hlets⟩
  refine .inl ?_
  unfold Oper.wp at *
  rw [execOp_put oj hsj a oi.dst v h1] at h
  generalize (execOp a.eval oj).run P w=r at *
  cases r with
  | ok n w' =>
   cases n <;> simp only [Oper.upon] at h ⊢
   case value u=>exact ⟨keep a hy u,by rw [← Act.put_comm a v u h2]; exact h⟩
   case skip=>exact ⟨keep a hy _,by rw [← Act.put_comm a v undef h2]; exact h⟩
   case defer d =>
    refine ⟨keep _ (keepD d) _,?_⟩
    rw [← Act.put_comm _ v undef h2,← Act.put_defers]
    exact h
   case enter f args =>
    refine Calls.mono h fun e w'' he=>?_
    cases e with
    | returned u=>exact ⟨keep a hy u,by rw [← Act.put_comm a v u h2]; exact he⟩
    | panicked c=>exact hQ _ _ _ he
    | outgrown=>exact he
   case row row args=>exact Rows.mono h fun u w'' he=>⟨keep a hy u,by rw [← Act.put_comm a v u h2]; exact he⟩
  | halt x w' =>
   cases x <;> simp only [Oper.upon] at h ⊢
   case panic u=>exact hQ _ _ _ h
 ·rename_i hw
  simp only [hw] at h
  exact ⟨keep a hy _,by rw [← Act.put_comm a v undef h2]; exact h⟩
def wpW (P:Program) (md:Region.Mode) (ops:Array Oper) (Q:Exit→Act→World→Prop) (L:World→World→Prop) : Nat→Array Bool→Act→World→Prop
 | 0,listed,a,w=>Region.ready md ops listed = []∧∀ w1,Ext w w1→Q .normal a w1
 | f + 1, listed, a, w => (Region.ready md ops listed = [] → ∀ w1, Ext w w1 → Q .normal a w1) ∧ ∀ w1, Ext w w1 →
     ∀ i∈Region.ready md ops listed,wpOp P ops Q i (fun a' w'=>L w1 w'∧wpW P md ops Q L f (listed.setIfInBounds i true) a' w') a w1
theorem wpW.later:∀ {f:Nat} {listed:Array Bool} {a:Act} {w w':World},wpW P md ops Q L f listed a w→Ext w w'→wpW P md ops Q L f listed a w'
 | 0,_,_,_,_,h,k=>⟨h.1,fun w1 k1=>h.2 w1 (k.trans k1)⟩
 | _ + 1,_,_,_,_,h,k=>⟨fun h0 w1 k1=>h.1 h0 w1 (k.trans k1),fun w1 k1=>h.2 w1 (k.trans k1)⟩
theorem yn:∀ (f:Nat) (listed:Array Bool) (a:Act) (w:World),wpW P md ops Q L f listed a w→wpAny P md ops Q f listed a w
 | 0,_,_,_,h=>⟨h.1,h.2 _ (Ext.refl _)⟩
 | f + 1,_,_,_,h=>⟨fun h0=>h.1 h0 _ (Ext.refl _),fun i hi=>wpOp_mono (fun a' w' h'=>yn f _ a' w' h'.2) (h.2 _ (Ext.refl _) i hi)⟩
theorem Tn (hL:Way L) {i:Nat} {oi:Oper} {v:Value} (hi:ops[i]? = some oi) (hsel:∀ (j:Nat) (o:Oper) cs b,ops[j]? = some o→o.op≠.select cs b)
  (hQ:∀ c a w,Q (.panic c) (a.put oi.dst v) w→Q (.panic c) a w) :
  ∀ (f:Nat) (listed:Array Bool) (a:Act) (w:World),
   (∀ j oj,ops[j]? = some oj→j≠i→listed.getD j true=false→(∀ e∈oj.after,Region.binds md e=true→e.on≠i)→oi.apart ops oj=true) →
   i∈Region.ready md ops listed→fZ P ops L w oi v a →
   wpW P md ops Q L f (listed.setIfInBounds i true) (a.put oi.dst v) w→wpW P md ops Q L (f + 1) listed a w:=by
 intro f
 induction f with
 | zero =>
  intro listed a w _ hr hy H
  refine ⟨fun h=>(by rw [h] at hr; cases hr),fun w1 k1 j hj=>?_⟩
  by_cases hji:j=i
  ·subst hji; exact hy.wpOp hi (hL.ext k1) fun w' k'=>⟨hL.ext k',wpW.later H (k1.trans k')⟩
  ·have:=ready_mono hj hji
   rw [H.1] at this
   cases this
 | succ f ih =>
  intro listed a w hfree hr hy H
  have hun:=(mem_ready.1 hr).1
  refine ⟨fun h=>(by rw [h] at hr; cases hr),fun w1 k1 j hj=>?_⟩
  by_cases hji:j=i
  ·subst hji; exact hy.wpOp hi (hL.ext k1) fun w' k'=>⟨hL.ext k',wpW.later H (k1.trans k')⟩
  ·have h1:=H.2 w1 k1 j (ready_mono hj hji)
   obtain ⟨hjun,oj,hoj,hall⟩:=mem_ready.1 hj
   have hnot:∀ e∈oj.after,Region.binds md e=true→e.on≠i:=fun e he hb heq=>by
    have h1:=hall e he hb
    rw [heq,getD_both hun] at h1
    cases h1
   have hfree':∀ k ok,ops[k]? = some ok→k≠i→(listed.setIfInBounds j true).getD k true=false →
     (∀ e∈ok.after,Region.binds md e=true→e.on≠i)→oi.apart ops ok=true:=fun k ok hk hki hun hno=>by
    refine hfree k ok hk hki ?_ hno
    by_cases hjk:j=k
    ·subst hjk; exact hjun
    ·rw [getD_set_ne true hjk] at hun; exact hun
   have h2:=To hoj (hfree j oj hoj hji hjun hnot) (fun cs b=>hsel i oi cs b hi) (fun cs b=>hsel j oj cs b hoj) hQ hy h1
   refine wpOp_mono (fun a' w' h3=>⟨h3.2.1,ih (listed.setIfInBounds j true) a' w' hfree' (ready_mono hr (Ne.symm hji)) (h3.1.later hL (hL.trans (hL.ext k1) h3.2.1)) ?_⟩) h2
   rw [Array.setIfInBounds_comm _ _ hji]
   exact h3.2.2
def xp (md:Region.Mode) (ops:Array Oper) : List (Nat×Bool)→Array Bool→Bool
 | [],listed=>(Region.ready md ops listed).isEmpty
 | (i,true)::s,listed=>(Region.ready md ops listed).contains i&&Region.free md ops listed i&&xp md ops s (listed.setIfInBounds i true)
 | (i,false)::s,listed=>(Region.ready md ops listed == [i])&&xp md ops s (listed.setIfInBounds i true)
def wpS (P:Program) (ops:Array Oper) (Q:Exit→Act→World→Prop) (L:World→World→Prop) : List (Nat×Bool)→Act→World→Prop
 | [],a,W=>∀ w1,Ext W w1→Q .normal a w1
 | (i,true)::s,a,W=>∃ o v,ops[i]? = some o∧fZ P ops L W o v a∧wpS P ops Q L s (a.put o.dst v) W
 | (i,false)::s,a,W=>∀ w1,Ext W w1→wpOp P ops Q i (fun a' w'=>L w1 w'∧wpS P ops Q L s a' w') a w1
def SI (ops:Array Oper) (ds:Tmp→Bool) (s:List (Nat×Bool)) : Bool:=s.all fun p=>!p.2||((ops[p.1]?).all fun o=>o.dst.all ds)
theorem xf (hL:Way L) (hsel:Region.noSelect ops=true) (ds:Tmp→Bool) (hQ:∀ c (a:Act) (d:Tmp) v w,ds d=true→Q (.panic c) (a.put (some d) v) w→Q (.panic c) a w) :
  ∀ (s:List (Nat×Bool)) (listed:Array Bool) (a:Act) (W:World),SI ops ds s=true→xp md ops s listed=true→wpS P ops Q L s a W→wpW P md ops Q L s.length listed a W
 | [],listed,a,W,_,hB,h=>⟨by simpa [xp] using hB,h⟩
 | (i,true)::s,listed,a,W,hI,hB,h=>by
  simp only [SI,List.all_cons,Bool.and_eq_true,Bool.not_true,Bool.false_or] at hI
  obtain ⟨hI1,hI2⟩:=hI
  simp only [xp,Bool.and_eq_true] at hB
  obtain ⟨⟨hr,hf⟩,hB'⟩:=hB
  obtain ⟨o,v,h0,hy,hK⟩:=h
  exact Tn hL h0 (Region.noSelect_spec hsel) (fun c a w=>by cases hd:o.dst with | none=>exact fun h=>h | some d=>exact hQ c a d v w (by simpa [h0,hd] using hI1)) s.length listed a W
   (Region.free_spec h0 hf) (by simpa using hr) hy (xf hL hsel ds hQ s _ _ _ hI2 hB' hK)
 | (i,false)::s,listed,a,W,hI,hB,h=>by
  simp only [SI,List.all_cons,Bool.and_eq_true] at hI
  simp only [xp,Bool.and_eq_true,beq_iff_eq] at hB
  obtain ⟨hr,hB'⟩:=hB
  refine ⟨fun h0=>(by rw [hr] at h0; cases h0),fun w1 k1 j hj=>?_⟩
  rw [hr,List.mem_singleton] at hj
  subst hj
  exact wpOp_mono (fun a' w' h'=>⟨h'.1,xf hL hsel ds hQ s _ _ _ hI.2 hB' h'.2⟩) (h w1 k1)
theorem LA:∀ (f:Nat) {g:Nat} {listed:Array Bool} {a:Act} {w:World},f≤g→wpAny P md ops Q f listed a w→wpAny P md ops Q g listed a w
 | 0,0,_,_,_,_,h=>h
 | 0,g + 1,_,_,_,_,h=>⟨fun _=>h.2,by rw [h.1]; simp⟩
 | f + 1,g + 1,_,_,_,hle,h=>⟨h.1,fun i hi=>wpOp_mono (fun a' w' h'=>LA f (by omega) h') (h.2 i hi)⟩
 | f + 1,0,_,_,_,hle,_=>absurd hle (by omega)
theorem oy (L:World→World→Prop) (hL:Way L) {id:Nat} {a:Act} {w:World} {l:List Oper} (s:List (Nat×Bool)) (hm:P.follows .mixedOrders=true)
  (hB:(Region.noSelect l.toArray&&decide (s.length≤l.toArray.size)&&xp .any l.toArray s (Array.replicate l.toArray.size false))=true)
  (hQ:∀ c (a:Act) (d:Tmp) v w,Q (.panic c) (a.put (some d) v) w→Q (.panic c) a w)
  (h:wpS P l.toArray Q L s a w.drew) : (Code.region id l.toArray true).wp P Q a w:=by
 simp only [Bool.and_eq_true,decide_eq_true_eq] at hB
 obtain ⟨⟨hsel,hle⟩,hB⟩:=hB
 exact wp_region_any hm (LA _ hle (yn _ _ _ _ (xf (md:=.any) hL hsel (fun _=>true) (fun c a d v w _=>hQ c a d v w) s _ a w.drew (by simp [SI]) hB h)))
variable {l:List Oper}
theorem rR {o:Oper} {a:Act} (h:o.guard=none) : Region.wanted o (yielded l.toArray a.tmps)=true:=by simp [Region.wanted,h]
theorem s7 {W:World} {i:Nat} {s:List (Nat×Bool)} {a:Act} (o:Oper) (v:Value) (hi:l[i]? = some o) (hw:Region.wanted o (yielded l.toArray a.tmps)=true)
  (h:∀ w1,L W w1→OkX P v w1 ((execOp a.eval o).run P w1)) (hr:wpS P l.toArray Q L s (a.put o.dst v) W) : wpS P l.toArray Q L ((i,true)::s) a W:=⟨o,v,by simpa using hi,.inl ⟨hw,h⟩,hr⟩
theorem O7 {W:World} {i:Nat} {s:List (Nat×Bool)} {a:Act} (o:Oper) (hi:l[i]? = some o) (hw:Region.wanted o (yielded l.toArray a.tmps)=true)
  (h:∀ w1,Ext W w1→o.wp P a w1 (fun a' w'=>L w1 w'∧wpS P l.toArray Q L s a' w') Q) : wpS P l.toArray Q L ((i,false)::s) a W:=by
 intro w1 k1
 have hi':l.toArray[i]? = some o:=by simpa using hi
 unfold Go.wpOp
 simp only [hi',hw,if_true]
 exact .inl (h w1 k1)
theorem xo {W:World} {a:Act} (h:∀ w1,Ext W w1→Q .normal a w1) : wpS P ops Q L [] a W:=h
end
theorem J9:Way Ext:=⟨fun h=>h,Ext.trans⟩
end
theorem Tryz.infoCap:(prog.info? 98).map (fun i=>(i.zero,i.size,i.bytes))=some (some (.agg #[.int .i64 0,.int .i64 0]),2,16):=by kernel_rfl
theorem Ky (w:World) (x y:Value) (t:TypeId) : ∀ j u,[x,y][j]? = some u→(w.alloc (.cells #[x,y] t)).cell? ((⟨w.heap.size,0,none⟩ : Addr).add j)=some u:=by
 intro j u hu
 have hadd:(⟨w.heap.size,0,none⟩ : Addr).add j=⟨w.heap.size,j,none⟩:=by unfold Addr.add; split <;> simp_all
 rw [hadd,cell_of_row _ w.heap.size j _ t (0,0) (heap_alloc_new w _),← Array.getElem?_toList]
 exact hu
theorem abN {a b:Int} : ∀ u∈[Value.int .i64 a,Value.int .i64 b],u.oneCell' = true:=by
 intro u hu
 simp only [List.mem_cons,List.mem_nil_iff,or_false] at hu
 rcases hu with rfl | rfl <;> rfl
theorem KB {w:World} {b:Nat} {cs:Array Value} {t:TypeId} (h:w.heap[b]? = some (.cells cs t (0,0))) (j:Nat) (v:Value) : (w.setCell ⟨b,j,none⟩ v).heap[b]? = some (.cells (cs.setIfInBounds j v) t (0,0)):=by
 rw [heap_setCell_same w b j _ _ _ h]
theorem FQ (cs:List (Int×Int)) : cg (cs ++ [rQ])=cg cs ++ [.int .i64 10000,.int .i64 10000]:=Hh cs 10000 10000
theorem wQ (w:World) (R i:Nat) (u:Value) : w.grownBy (w.setCell ⟨R,i,none⟩ u) (some R) :=
 ⟨rfl,rfl,rfl,by simp [World.setCell],fun k _ hk=>Below.heap_setCell _ _ _ _ (fun e=>hk (by rw [e]))⟩
theorem SF {w:World} (B gl nl:Nat) (h:w.heap[gl]? = some (.cells #[.string ⟨#[]⟩,.string ⟨#[103,112,117]⟩] 9 (0,0))) (hB:B≤gl) (h2:nl≤2) : w.ownsRow B 9 1 (.slice (some ⟨gl,0,none⟩) nl 2) nl ((CX nl).map sv):=by
 refine ⟨by simp [CX]; omega,.inr ⟨gl,2,_,rfl,hB,h,h2,by simp [maxLen],rfl,?_⟩⟩
 rcases nl with _ | _ | _ | nl
 ·rfl
 ·rfl
 ·rfl
 ·omega
theorem Th {w V w5:World} {row:Option Nat} {Q:Nat} {o:Obj} (hV:Ext w V) (hg:V.grownBy w5 row) (hb:w.heap[Q]? = some o) (hne:row≠some Q) : w5.heap[Q]? = some o:=by
 have hlt:=(Array.getElem?_eq_some_iff.1 hb).1
 rw [hg.block Q (Nat.lt_of_lt_of_le hlt hV.size) (fun e=>hne e.symm),hV.block Q hlt]
 exact hb
theorem T1 (i j k:Nat) (hi:i≤7) (hj:j≤7) (hk:k≤2) : ∃ p:Nat,p≤51∧(p:Int)=(i:Int) * (j:Int) + (k:Int)∧wrap64 (wrap64 ((i:Int) * (j:Int)) + (k:Int))=(p:Int):=by
 have h:i * j≤7 * 7:=Nat.mul_le_mul hi hj
 obtain ⟨p,hp⟩ : ∃ p:Nat,p=i * j:=⟨_,rfl⟩
 rw [← hp] at h
 refine ⟨p + k,by omega,by rw [hp]; simp [Int.natCast_add,Int.natCast_mul],?_⟩
 rw [show (i:Int) * (j:Int)=(p:Int) by rw [hp]; exact (Int.natCast_mul i j).symm]
 rw [show wrap64 (p:Int)=(p:Int) from IntWalk.wrap64_in _ ⟨by omega,by omega⟩]
 rw [show wrap64 ((p:Int) + (k:Int))=(p:Int) + (k:Int) from IntWalk.wrap64_in _ ⟨by omega,by omega⟩]
 omega
def VL (sh:Int) (xs:List Int) (y nl:Nat) (w:World) (e:Ending) (w':World) : Prop:=∃ vl vq ds qs B,e = .returned (.agg #[vl,vq])∧w.heap.size≤B∧w'.ownsRow w.heap.size 9 1 vl nl ((CX nl).map sv)∧ji w' B vq ds qs∧GI nl (mG y) (mG y).length ds∧Ext w w'∧ga sh xs=some (gC nl ds)
theorem Tm (a:Int) : wrap64 a=i64.wrap a:=by rw [IntKind.wrap_i64]; unfold wrap64; rfl
theorem aa4 {xs:List Int} {i jj kk nk L:Nat} {z1 z2 a b:Int} {z y:Nat} (hl:jj + 1 < nk) (e3:z1=it xs a) (ha:a=(i:Int) + jj + kk) (e4:z2=it xs b) (hb:b=(i:Int) * jj + kk) (e1:(z:Int)=z1 % ((L + 1:Nat) : Int)) (e2:(y:Int)=z2 % ((4:Nat) : Int)) : [0,(L:Int) / 2,(L:Int),(z:Int)].getD y 0=nV xs i jj kk nk (L:Int):=by
 unfold nV
 rw [if_pos hl,← ha,← hb,← e3,← e4]
 have e5:z1 % ((L:Int) + 1)=(z:Int):=by rw [e1]; rfl
 have e6:z2 % 4=(y:Int):=by rw [e2]; rfl
 rw [e5,e6]
 rfl
theorem aa7 {xs:List Int} {i jj kk n:Nat} {z1 z2 a b:Int} {z y:Nat} (hn:n≤10000) (e3:z1=it xs a) (ha:a=(jj:Int) + kk) (e4:z2=it xs b) (hb:b=(i:Int) + 2 * jj) (e1:(z:Int)=z1 % ((10000 - n + 1:Nat) : Int)) (e2:(y:Int)=z2 % ((3:Nat) : Int)) : [10000,(n:Int),(n:Int) + (z:Int)].getD y 0=mV xs i jj kk (n:Int):=by
 unfold mV
 rw [← ha,← hb,← e3,← e4]
 have e5:z1 % (10000 - (n:Int) + 1)=(z:Int):=by rw [e1]; congr 1; omega
 have e6:z2 % 3=(y:Int):=by rw [e2]; rfl
 rw [e5,e6]
 rfl
set_option maxHeartbeats 12800000 in
theorem VK (sh:Int) (v:Value) (xs:List Int) (w:World) (r0:Rd w v (xs.map (Value.int .i64))) (hx30:xs.length≤9223372036854775807) :
  Calls prog 23 #[.int .i64 sh,v] w fun e w'=>∃ nl,1≤nl∧nl≤2∧VL sh xs (sh % 5).toNat nl w e w':=by
 obtain ⟨c0,hc,hcz0,hcz1,hcz2⟩:=info_parts Tryz.infoCap
 obtain ⟨q0,hq,hqz0,hqz1,hqz2⟩:=info_parts Tryz.infoQ
 obtain ⟨i0,hi,hz0,hz1,hz2⟩:=info_parts Tryz.infoStr
 obtain ⟨W2,hW2⟩ : ∃ W2,W2=sk w:=⟨_,rfl⟩
 have X2:=Lib.hid (show Ext w W2 by rw [hW2]; exact Uc w)
 have HS2:=Lib.hid (show W2.heap.size=w.heap.size + 8 by rw [hW2]; exact PF w)
 have HR0:=Lib.hid (show W2.heap[w.heap.size]? = some (.cells #[.slice none 0 0,.slice none 0 0] 34 (0,0)) by rw [hW2]; exact Ub w)
 have HLB:=Lib.hid (show W2.heap[w.heap.size + 1 + 1 + 1 + 1 + 1 + 1 + 1]? = some (.cells #[.string ⟨#[]⟩,.string ⟨#[103,112,117]⟩] 9 (0,0)) by rw [hW2]; exact PH w)
 have HTR:=Lib.hid (show ∀ y,y < 5→W2.cell? ⟨w.heap.size + 1 + 1 + 1 + 1 + 1 + 1,y,none⟩=some (.slice (some ⟨w.heap.size + 1 + y,0,none⟩) (mG y).length (mG y).length) by rw [hW2]; exact PE w)
 have HPA:=Lib.hid (show ∀ y,y < 5→∀ i (hi:i < (mG y).length),W2.cell? ⟨w.heap.size + 1 + y,i,none⟩=some (.string ⟨((mG y)[i]).toArray⟩) by rw [hW2]; exact PG w)
 obtain ⟨A,N,c,rfl,hN,hc1,hc2,hcell⟩:=Ip r0
 have HC:=Lib.hid hcell
 have HN:=Lib.hid hN
 have HRD:=Lib.hid r0
 have hN30:N≤9223372036854775807:=by omega
 clear hcell hN r0
 have hW2':W2 = _:=hW2
 unfold sk at hW2'
 go_enter Tryz.func23,Tryz.ntmps23
 go_wp2_with fail
 rw [← hW2']
 clear hW2 hW2'
 (with_reducible refine (gX _ 2 2 _ rfl (by omega)).mono ?_)
 rintro e w2 ⟨nl',rfl,hny,hnl,rfl⟩
 have HNY:=Lib.hid hny
 clear hny
 have hnl1:(1 + (nl':Int)).toNat=nl' + 1:=by omega
 have hnl2:(0:Int)≤1 + (nl':Int):=by omega
 have hnl3 : 1 + (nl':Int)≤2:=by omega
 go_wp2_with fail
 (with_reducible refine (gX _ 5 5 _ rfl (by omega)).mono ?_)
 rintro e w3 ⟨y,rfl,hny,hy5,rfl⟩
 have HY:=Lib.hid hny
 clear hny hnl1
 obtain ⟨nl,hnl'⟩ : ∃ nl,nl=nl' + 1:=⟨_,rfl⟩
 rw [← hnl']
 have HNL:=Lib.hid hnl'
 have hnl4:nl≤2:=by omega
 have hnl5 : 1≤nl:=by omega
 clear hnl' hnl2 hnl3 hnl
 obtain ⟨gt,hgt⟩ : ∃ gt,gt=w.heap.size + 1 + y:=⟨_,rfl⟩
 obtain ⟨ps,hps⟩ : ∃ ps,ps=mG y:=⟨_,rfl⟩
 obtain ⟨NP,hNP⟩ : ∃ NP,NP=ps.length:=⟨_,rfl⟩
 have hNP7:NP≤7:=by rw [hNP,hps]; exact LH y
 have HPX:=Lib.hid (show ∀ i (hi:i < ps.length),W2.cell? ⟨gt,i,none⟩=some (.string ⟨(ps[i]).toArray⟩) by rw [hgt]; subst hps; exact HPA.out y hy5)
 have HTX:=HTR.out y hy5
 rw [← hgt,← hps,← hNP] at HTX
 have HTX':∀ o,(W2.alloc o).cell? ⟨w.heap.size + 1 + 1 + 1 + 1 + 1 + 1,y,none⟩=some (.slice (some ⟨gt,0,none⟩) NP NP):=fun o=>(aU W2 o).cell HTX
 have HPS:=Lib.hid hps
 have HNP:=Lib.hid hNP
 have HNO:=Lib.hid (show ps.Nodup by rw [hps]; exact OT y)
 have HE0:=Lib.hid (show E1 sh xs nl ps 0 [] by rw [hps]; exact E1.start sh xs (by have h1:=HNY.out; have h2:=HNL.out; rw [h2]; first | omega | (rw [show (((nl' + 1:Nat)) : Int)=1 + (nl':Int) by omega,h1,Tm]; rfl)) (by have:=HY.out; omega))
 have hy0:(0:Int)≤(y:Int):=by omega
 have hy5':(y:Int) < 5:=by omega
 clear hgt hps hNP HTX
 go_wp2
 obtain ⟨gl,hgl⟩ : ∃ gl,gl=w.heap.size + 1 + 1 + 1 + 1 + 1 + 1 + 1:=⟨_,rfl⟩
 rw [← hgl]
 have HGL:=Lib.hid (show w.heap.size≤gl by omega)
 have HL2:=Lib.hid (show W2.heap[gl]? = some (.cells #[.string ⟨#[]⟩,.string ⟨#[103,112,117]⟩] 9 (0,0)) by rw [hgl]; exact HLB.out)
 clear hgl HLB HTX' HTR HPA
 obtain ⟨R,hR⟩ : ∃ R,R=W2.heap.size:=⟨_,rfl⟩
 have HR3:=Lib.hid (show (W2.alloc (.cells #[.slice (some ⟨gl,0,none⟩) nl 2,.slice none 0 0] 34)).heap[R]? = some (.cells #[.slice (some ⟨gl,0,none⟩) nl 2,.slice none 0 0] 34 (0,0)) by rw [hR]; exact heap_alloc_new W2 _)
 rw [← hR]
 have HRR:=Lib.hid hR
 clear hR
 go_loopw [8] (fun i wr=>∃ (k:Nat) (vq:Value) (ds:List QD) (qs:List QC),i = .int .i64 k∧k≤NP∧wr.heap[R]? = some (.cells #[.slice (some ⟨gl,0,none⟩) nl 2,vq] 34 (0,0))∧ji wr R vq ds qs∧G1 nl ps k ds∧E1 sh xs nl ps k ds∧Ext W2 wr) (fun i _=>NP - (intOf i).toNat)
 case atStart=>exact ⟨0,_,[],[],rfl,by omega,HR3.out,ji.nil _ _,G1.nil nl ps,HE0.out,aU _ _⟩
 case round =>
  obtain ⟨k,vq,ds,qs,rfl,hk,hRb,hOQ,hG,hE,hx⟩:=hrel
  have HE:=Lib.hid hE
  clear hE HE0
  have HRB:=Lib.hid hRb
  have HOQ:=Lib.hid hOQ
  have HG:=Lib.hid hG
  have HX:=Lib.hid hx
  clear hRb hOQ hG hx
  have k0:(0:Int)≤(k:Int):=by omega
  by_cases hlt:k < NP
  ·have k1:(k:Int) < (NP:Int):=by omega
   have hkp:k < ps.length:=by have:=HNP.out; omega
   have p0:=HX.out.cell (HPX.out k hkp)
   obtain ⟨P,hP⟩ : ∃ P:ByteArray,P=⟨(ps[k]).toArray⟩:=⟨_,rfl⟩
   rw [← hP] at p0
   have HP:=Lib.hid (show P.data.toList=ps[k] by rw [hP])
   clear hP
   obtain ⟨WQ,hWQ⟩ : ∃ WQ,WQ=wr.alloc (.cells #[.string P,.slice none 0 0,.int .i64 1000000] 101):=⟨_,rfl⟩
   obtain ⟨Q,hQ⟩ : ∃ Q,Q=wr.heap.size:=⟨_,rfl⟩
   have HQR:=Lib.hid (show R≤Q by rw [hQ,HRR.out]; exact HX.out.size)
   have HQB:=Lib.hid (show WQ.heap[Q]? = some (.cells #[.string P,.slice none 0 0,.int .i64 1000000] 101 (0,0)) by rw [hWQ,hQ]; exact heap_alloc_new wr _)
   have HXQ:=Lib.hid (show Ext wr WQ by rw [hWQ]; exact aU _ _)
   go_upto_region 8 with fail
   rw [← hWQ,← hQ]
   have HQQ:=Lib.hid hQ
   clear hWQ hQ p0
   go_cut [59] from 48 to 59 (fun s59 wx=>(∃ b:Bool,s59 = .bool b∧b=ES xs k)∧wx=WQ)
   case first =>
    by_cases hkN:k < N
    ·have n1:(k:Int) < (N:Int):=by omega
     obtain ⟨a,rfl,hb,hcs⟩:=HC.out (by omega)
     have h3:=(X2.out.trans (HX.out.trans HXQ.out)).cell' (hcs k (by have:=HN.out; omega))
     have hxg:xs.getD k 0=xs[k]'(by have:=HN.out; omega):=by simp [List.getD,zq (show k < xs.length by have:=HN.out; omega)]
     generalize xs[k]'(by have:=HN.out; omega)=x at h3 hxg
     have HGT:=Lib.hid (show (x.tmod 3==0)=ES xs k by unfold ES; rw [decide_eq_true (show k < xs.length by have:=HN.out; omega),hxg]; rfl)
     clear hcs hb hxg
     go_wp2
     go_meet
     case rel=>exact ⟨⟨_,rfl,by first | exact HGT.out | (rw [← HGT.out]; simp)⟩,rfl⟩
    ·have n1 : ¬ (k:Int) < (N:Int):=by omega
     go_wp2
     go_meet
     case rel=>exact ⟨⟨_,rfl,by unfold ES; rw [decide_eq_false (show ¬ k < xs.length by have:=HN.out; omega)]; rfl⟩,rfl⟩
   case rest =>
    obtain ⟨⟨b,rfl,hbN⟩,rfl⟩:=hcut
    have HBN:=Lib.hid hbN
    clear hbN
    go_upto_if 59 with fail
    go_cut [] from 60 to 66 (fun wx=>∃ u:Int,1≤u∧u≤1000000∧u=It xs k∧wx.heap[Q]? = some (.cells #[.string P,.slice none 0 0,.int .i64 u] 101 (0,0))∧Ext wr wx)
    case first =>
     cases b with
     | true =>
      have hkN:k < N:=by
       have h:=HBN.out
       unfold ES at h
       have h2:=(Bool.and_eq_true_iff.1 h.symm).1
       have h3:=zd h2
       have:=HN.out
       omega
      have n1:(k:Int) < (N:Int):=by omega
      obtain ⟨a,rfl,hb,hcs⟩:=HC.out (by omega)
      have h3:=(X2.out.trans (HX.out.trans HXQ.out)).cell' (hcs k (by have:=HN.out; omega))
      have hxg:xs.getD k 0=xs[k]'(by have:=HN.out; omega):=by simp [List.getD,zq (show k < xs.length by have:=HN.out; omega)]
      generalize xs[k]'(by have:=HN.out; omega)=x at h3 hxg
      have HXG:=Lib.hid hxg
      clear hxg
      have u2:=di HQB.out 2 _ rfl
      have f2:=sF HQB.out 2
      clear hcs hb
      go_wp2_with fail
      (with_reducible refine (gX _ 20000 20000 _ rfl (by omega)).mono ?_)
      rintro e w4 ⟨z,rfl,hz,hz2,rfl⟩
      have HZ:=Lib.hid hz
      clear hz
      go_wp2
      go_meet
      case rel =>
       refine ⟨1 + (z:Int),by omega,by omega,by rw [It,if_pos HBN.out.symm,HXG.out,HZ.out]; rfl,?_,?_⟩
       ·rw [KB HQB.out]; rfl
       ·exact yX HXQ.out (by rw [HQQ.out]; exact Nat.le_refl _) _
     | false =>
      go_wp2
      go_meet
      case rel=>exact ⟨1000000,by omega,by omega,by rw [It,if_neg (by rw [← HBN.out]; decide)],HQB.out,HXQ.out⟩
    case rest =>
     obtain ⟨u,hu1,hu2,hu3,hqb,hxq⟩:=hcut
     have HU3:=Lib.hid hu3
     clear hu3
     have HQC:=Lib.hid hqb
     have HXC:=Lib.hid hxq
     clear hqb hxq HBN HQB
     go_wp2
     go_loopw [10] (fun i2 wx=>∃ (kk:Nat) (vc:Value),i2 = .int .i64 kk∧kk≤nl∧wx.heap[Q]? = some (.cells #[.string P,vc,.int .i64 u] 101 (0,0))∧wx.ownsRow (Q + 1) 98 2 vc kk (cg (List.replicate kk rQ))∧Ext wr wx) (fun i2 _=>nl - (intOf i2).toNat)
     case atStart=>exact ⟨0,_,rfl,by omega,HQC.out,World.ownsRow_nil _ _ _ 2,HXC.out⟩
     case round =>
      obtain ⟨kk,vc,rfl,hkk,hqb,ho,hxx⟩:=hrel
      obtain ⟨Av,cv,rfl,hv1,hv2⟩:=cD ho
      have HQX:=Lib.hid hqb
      have HO:=Lib.hid ho
      have HXX:=Lib.hid hxx
      clear hqb ho hxx
      have r0:=HXX.out.cell (di HRB.out 0 _ rfl)
      have kk0:(0:Int)≤(kk:Int):=by omega
      by_cases hlk:kk < nl
      ·have kk1:(kk:Int) < (nl:Int):=by omega
       have q1:=di HQX.out 1 _ rfl
       have f1:=sF HQX.out 1
       go_wp2_with (at_builtin; go_loud (refine wpList_append_own_at _ rfl (.tmp 75) (.tmp 77) 99 rfl (Q + 1) 98 c0 _ 2 16 Tryz.underlying99 hc hcz0 hcz1 hcz2 rfl (by decide) _ kk (cg (List.replicate kk rQ)) rfl (HO.out.alloc _) ⟨_,0,none⟩ 1 1 [.int .i64 10000,.int .i64 10000] rfl rfl (Ky _ _ _ _) abN ?c3 ?c4 ?c5 ?_))
       case c3=>simp [maxLen]; omega
       case c4=>omega
       case c5 =>
        have:=(Array.getElem?_eq_some_iff.1 HQX.out).1
        simp; omega
       intro v' w5 ho5 hg5 _ hat5
       have HQ5:=Lib.hid (Th (aU _ _) hg5 HQX.out (fun e=>by have:=(HO.out.lt Q e).1; omega))
       have HO5:=Lib.hid (show w5.ownsRow (Q + 1) 98 2 v' (kk + 1) (cg (List.replicate (kk + 1) rQ)) by
        rw [List.replicate_succ',FQ ]; exact ho5)
       have HX5:=Lib.hid ((HXX.out.trans (aU _ _)).trans' (cL hg5 (by have:=HXX.out.size; simp; omega) (Pq HO.out (by have:=HQQ.out; omega))))
       have q5:=di HQ5.out 1 _ rfl
       have f5:=sF HQ5.out 1
       obtain ⟨A5,c5,rfl,_,_⟩:=cD ho5
       clear ho5 hg5 hat5 q1 f1 r0
       go_wp2
       go_roundw
       case rel =>
        refine ⟨kk + 1,_,by simp,by omega,by rw [KB HQ5.out]; rfl,?_,?_⟩
        ·exact HO5.out.kept (wQ _ Q 1 _) (.inr fun e=>by have:=(HO5.out.lt Q e).1; omega)
        ·exact yX HX5.out (by rw [HQQ.out]; exact Nat.le_refl _) _
       case measure=>simp [intOf]; omega
      ·obtain rfl:kk=nl:=by omega
       have kk1 : ¬ (kk:Int) < (kk:Int):=by omega
       have HROW:=Lib.hid (lx HOQ.out.row HXX.out)
       obtain ⟨Aq,cq,rfl,hcq1,hcq2⟩:=cD HROW.out
       obtain ⟨DL,hDL⟩ : ∃ DL,DL=ds.length:=⟨_,rfl⟩
       have hDL7:DL≤7:=by
        have h1:=congrArg List.length HG.out.paths
        rw [List.length_map,List.length_take] at h1
        omega
       have HROW2:=Lib.hid (show (_:World).ownsRow R 101 3 (.slice Aq DL cq) DL (gc qs) by have h:=HROW.out; rw [← hDL] at h; exact h)
       have r1:=HXX.out.cell (di HRB.out 1 _ rfl)
       rw [← hDL] at r1
       have q2:=di HQX.out 0 _ rfl
       have q3:=di HQX.out 1 _ rfl
       have q4:=di HQX.out 2 _ rfl
       have HDL:=Lib.hid hDL
       clear hDL HROW
       go_wp2_with (at_builtin; go_loud (refine wpList_append_own_at _ rfl (.tmp 81) (.tmp 83) 32 rfl R 101 q0 _ 3 48 Tryz.underlying32 hq hqz0 hqz1 hqz2 rfl (by decide) _ DL (gc qs) rfl (HROW2.out.alloc _) ⟨_,0,none⟩ 1 1 [.string P,.slice Av kk cv,.int .i64 u] rfl rfl (FP _ _ _ _ _) abM ?e3 ?e4 ?e5 ?_))
       case e3=>simp [maxLen]; omega
       case e4=>omega
       case e5 =>
        have:=(Array.getElem?_eq_some_iff.1 HQX.out).1
        have:=HQR.out
        simp; omega
       intro v' w5 ho5 hg5 _ hat5
       have HRX:=Lib.hid ((HXX.out.block R (Array.getElem?_eq_some_iff.1 HRB.out).1).trans HRB.out)
       have hneR:(Value.slice Aq DL cq).ownBlock≠some R:=pv HROW2.out HRX.out (by decide)
       have HR5:=Lib.hid (Th (aU _ _) hg5 HRX.out hneR)
       have HX5:=Lib.hid (((HX.out.trans HXX.out).trans (aU _ _)).trans' (cL hg5 (by have:=(HX.out.trans HXX.out).size; simp; omega) (Pq HROW2.out (by rw [HRR.out]; exact Nat.le_refl _))))
       rw [HDL.out] at ho5 hg5
       have HOQ5:=Lib.hid (ji.snoc (q:=⟨P,Av,kk,cv,u⟩) (d:=⟨ps[k],List.replicate kk rQ,u⟩) HOQ.out (HXX.out.trans (aU _ _)) ⟨HP.out,rfl,by simp,Eo (HO.out.alloc _) (by have:=HQR.out; omega)⟩
        (fun g hg i qi hqi e=>by
         have h1:=(HO.out.lt g hg).1
         have hil:i < ds.length:=by rw [← HOQ.out.len]; exact (zg.1 hqi).1
         have h2:=((HOQ.out.each i qi hil hqi).2.2.2.lt g e).2
         have:=HQQ.out
         omega) ho5 hg5)
       have q5:=di HR5.out 1 _ rfl
       have f5:=sF HR5.out 1
       obtain ⟨A5,c5,rfl,_,_⟩:=cD ho5
       have HG5:=Lib.hid (G1.snoc HG.out hkp hu1 hu2)
       have HE5:=Lib.hid (show E1 sh xs _ ps (k + 1) (ds ++ [⟨ps[k],List.replicate kk rQ,u⟩]) by rw [HU3.out]; exact E1.step HE.out (by omega) hkp (by have:=HNP.out; omega) (by have:=HDL.out; omega))
       clear ho5 hg5 hat5 q2 q3 q4 r1 r0
       go_wp2
       go_roundw
       case rel =>
        refine ⟨k + 1,_,_,qs ++ [⟨P,Av,kk,cv,u⟩],by simp,by omega,by rw [KB HR5.out]; rfl,?_,HG5.out,HE5.out,?_⟩
        ·exact HOQ5.out.kept (wQ _ R 1 _) HR5.out (by decide) (by decide)
        ·exact yX HX5.out (by rw [HRR.out]; exact Nat.le_refl _) _
       case measure=>simp [intOf]; omega
  ·obtain rfl:k=NP:=by omega
   have k1 : ¬ (k:Int) < (k:Int):=by omega
   have HGI:=Lib.hid (G1.start (HNP.out ▸ HG.out))
   have HE3:=Lib.hid (show E3 sh xs nl ps 0 ds from E1.end (by have h:=HE.out; rw [HNP.out] at h; exact h) (by have:=HNP.out; omega))
   clear HG HE
   go_wp2
   go_loopw [11] (fun i wr=>∃ (k':Nat) (vq:Value) (ds:List QD) (qs:List QC),i = .int .i64 k'∧k'≤k∧wr.heap[R]? = some (.cells #[.slice (some ⟨gl,0,none⟩) nl 2,vq] 34 (0,0))∧ji wr R vq ds qs∧GI nl ps k' ds∧E3 sh xs nl ps k' ds∧Ext W2 wr) (fun i _=>k - (intOf i).toNat)
   case atStart=>exact ⟨0,_,_,_,rfl,by omega,HRB.out,HOQ.out,HGI.out,HE3.out,HX.out⟩
   case round =>
    obtain ⟨i,vq,ds,qs,rfl,hik,hRb,hOQ,hG,hE,hx⟩:=hrel
    clear HRB HOQ HGI HX HE3
    have HE:=Lib.hid hE
    clear hE
    obtain ⟨Aq,cq,rfl,hcq1,hcq2⟩:=cD hOQ.row
    have HRB:=Lib.hid hRb
    have HOQ:=Lib.hid hOQ
    have HG:=Lib.hid hG
    have HX:=Lib.hid hx
    have HDK:=Lib.hid (show ds.length=k by rw [hG.gd.len]; exact HNP.out.symm)
    have r0:=di HRB.out 0 _ rfl
    have r1:=di HRB.out 1 _ rfl
    rw [HDK.out] at r1
    clear hRb hOQ hG hx k1 hcq1
    have i0:(0:Int)≤(i:Int):=by omega
    by_cases hlt:i < k
    ·have i1:(i:Int) < (k:Int):=by omega
     have hip:i < ps.length:=by have:=HNP.out; omega
     have p0:=HX.out.cell (HPX.out i hip)
     obtain ⟨P,hP⟩ : ∃ P:ByteArray,P=⟨(ps[i]).toArray⟩:=⟨_,rfl⟩
     rw [← hP] at p0
     have HP:=Lib.hid (show P.data.toList=ps[i] by rw [hP])
     clear hP
     go_wp2
     refine oy Ext J9 [(0,true),(1,true),(2,true),(3,true),(4,true),(5,false),(6,true)] (by kernel_rfl) (by kernel_rfl) (fun _ _ _ _ _ h=>h) ?_
     repeat first | ((with_reducible refine s7 ?_ ?_ ?_ ?_ (fun wk k1=>?_) ?_); rotate_left 2; (rfl); (first | exact rR rfl | exact want_some rfl rfl rfl rfl); (go_simp; first | exact OkX.val | (have c0':=k1.cell r0; have c1':=k1.cell r1; have c2':=k1.cell p0; go_simp; exact OkX.val)); simp only [Act.put,List.setIfInBounds_toArray,List.set_cons_zero,List.set_cons_succ]) | ((with_reducible refine sched_skip ?_ ?_ ?_ ?_); rotate_left; (rfl); (exact want_not rfl rfl rfl rfl rfl); simp only [Act.put,List.setIfInBounds_toArray,List.set_cons_zero,List.set_cons_succ])
     ((with_reducible refine O7 ?_ ?_ ?_ (fun wk k1=>?_)); rotate_left; (rfl); (first | exact rR rfl | exact want_some rfl rfl rfl rfl))
     have F0:=Lib.hid ((Ext.drew _).trans k1)
     clear k1 r0 r1 p0
     go_simp
     have hq7:ds.length≤1000:=by have:=HDK.out; omega
     have hp7:∀ q∈ds,q.path.length≤1000000000:=fun q hq=>by
      have h1:q.path∈ps:=by rw [← HG.out.gd.paths]; exact List.mem_map_of_mem hq
      rw [HPS.out] at h1
      have:=LG y _ h1
      omega
     have hqq:=(HOQ.out.ext F0.out).rd
     rw [HDK.out] at hqq
     (with_reducible refine (TN ds _ _ P _ hqq hq7 hp7).mono ?_)
     rintro e wk2 ⟨Ak,nk,ck,rfl,hnk,hok,hxk⟩
     refine ⟨hxk,?_⟩
     try simp only [Act.put,List.setIfInBounds_toArray,List.set_cons_zero,List.set_cons_succ]
     have F1:=Lib.hid (F0.out.trans hxk)
     obtain ⟨ks,hks⟩ : ∃ ks,ks=Cd ps[i] ps:=⟨_,rfl⟩
     have hkse:cz P.data.toList ds=ks:=by rw [EL,HP.out,HG.out.gd.paths,hks]
     rw [hkse] at hok hnk
     have HOK:=Lib.hid (Eo hok (show R≤_ by have:=F0.out.size; have:=HX.out.size; have:=HRR.out; omega))
     have hnk7:nk≤7:=by
      rw [hnk,hks]
      unfold Cd
      have:=List.length_filter_le (fun x=>decide (ps[i]≠[])&&decide (above x=ps[i])) ps
      have:=HNP.out
      omega
     have HNK:=Lib.hid hnk
     have HKS:=Lib.hid hks
     have HE4:=Lib.hid (show E4 sh xs nl ps i ks 0 ds by rw [hks]; exact E3.open HE.out hip (by have:=HNP.out; omega) HPS.out HG.out.gd.paths)
     clear hxk hok hnk hks hkse hqq hq7 hp7
     repeat first | ((with_reducible refine s7 ?_ ?_ ?_ ?_ (fun wk k1=>?_) ?_); rotate_left 2; (rfl); (first | exact rR rfl | exact want_some rfl rfl rfl rfl); (go_simp; first | exact OkX.val); simp only [Act.put,List.setIfInBounds_toArray,List.set_cons_zero,List.set_cons_succ]) | ((with_reducible refine sched_skip ?_ ?_ ?_ ?_); rotate_left; (rfl); (exact want_not rfl rfl rfl rfl rfl); simp only [Act.put,List.setIfInBounds_toArray,List.set_cons_zero,List.set_cons_succ])
     refine xo (fun wz k1=>?_)
     have HOKz:=Lib.hid (lx HOK.out k1)
     have F2:=Lib.hid (F1.out.trans k1)
     obtain ⟨Ak',ck',eK,hck1,hck2⟩:=cD HOKz.out
     injection eK with eK1 eK2 eK3
     subst eK1 eK3
     clear k1 eK2
     go_wp2
     go_loopw [13] (fun l wr=>∃ (kk:Nat) (vq:Value) (ds:List QD) (qs:List QC),l = .int .i64 kk∧kk≤nl∧wr.heap[R]? = some (.cells #[.slice (some ⟨gl,0,none⟩) nl 2,vq] 34 (0,0))∧ji wr R vq ds qs∧GK nl ps i kk ds∧E4 sh xs nl ps i ks kk ds∧wr.ownsRow R 9 1 (.slice Ak nk ck) nk (ks.map sv)∧Ext W2 wr) (fun l _=>nl - (intOf l).toNat)
     case atStart=>exact ⟨0,_,_,_,rfl,by omega,(F2.out.block R (Array.getElem?_eq_some_iff.1 HRB.out).1).trans HRB.out,HOQ.out.ext F2.out,HG.out.toK,HE4.out,HOKz.out,HX.out.trans F2.out⟩
     case round =>
      obtain ⟨kk,vq,ds,qs,rfl,hkk,hRb,hOQ,hG,hE,hkr,hx⟩:=hrel
      clear HRB HOQ HG HX HDK HOKz HOK F0 F1 F2 HE HE4
      have HE:=Lib.hid hE
      clear hE
      have HRB:=Lib.hid hRb
      have HOQ:=Lib.hid hOQ
      have HG:=Lib.hid hG
      have HX:=Lib.hid hx
      have HKR:=Lib.hid hkr
      have r0:=di HRB.out 0 _ rfl
      clear hRb hOQ hG hx hkr
      have kk0:(0:Int)≤(kk:Int):=by omega
      by_cases hlk:kk < nl
      ·have kk1:(kk:Int) < (nl:Int):=by omega
       go_wp2
       go_loopw [14,15] (fun lf j wr=>∃ (jj:Nat) (left:Int) (vq:Value) (ds:List QD) (qs:List QC),lf = .int .i64 left∧j = .int .i64 jj∧jj≤nk∧wr.heap[R]? = some (.cells #[.slice (some ⟨gl,0,none⟩) nl 2,vq] 34 (0,0))∧ji wr R vq ds qs∧GJ nl ps i kk jj left ds∧E5 sh xs nl ps i ks kk jj left ds∧wr.ownsRow R 9 1 (.slice Ak nk ck) nk (ks.map sv)∧Ext W2 wr) (fun _ j _=>nk - (intOf j).toNat)
       case atStart=>exact ⟨0,10000,_,_,_,rfl,rfl,by omega,HRB.out,HOQ.out,HG.out.toJ,E4.open HE.out hlk hnl4,HKR.out,HX.out⟩
       case round =>
        obtain ⟨jj,left,vq,ds,qs,rfl,rfl,hjj,hRb,hOQ,hG,hE,hkr,hx⟩:=hrel
        clear HRB HOQ HG HX HKR r0 HE
        have HE:=Lib.hid hE
        clear hE
        obtain ⟨L,rfl⟩ : ∃ L:Nat,left=(L:Int):=⟨left.toNat,by have:=hG.lo; omega⟩
        have HRB:=Lib.hid hRb
        have HOQ:=Lib.hid hOQ
        have HG:=Lib.hid hG
        have HX:=Lib.hid hx
        have HKR:=Lib.hid hkr
        have l0:=hG.lo
        have l1:=hG.hi
        have j0:(0:Int)≤(jj:Int):=by omega
        clear hRb hOQ hG hx hkr
        by_cases hlj:jj < nk
        ·have j1:(jj:Int) < (nk:Int):=by omega
         go_upto_if 116 with fail
         go_cut [16] from 112 to 140 (fun s16 wx=>∃ n:Int,s16 = .int .i64 n∧0≤n∧n≤(L:Int)∧(jj + 1=nk→n=(L:Int))∧n=nV xs i jj kk ks.length (L:Int)∧Ext wr wx)
         case first =>
          by_cases hl2:jj + 1 < nk
          ·have n1:(jj:Int) < (nk:Int) - 1:=by omega
           have hrd:=HRD.out.ext (X2.out.trans HX.out)
           have HRX:=Lib.hid hrd
           clear hrd
           go_wp2_with fail
           (with_reducible refine (yG _ xs _ _ HRX.out (by omega) (by omega) (by omega)).mono ?_)
           rintro e w4 ⟨⟨z1,rfl,hz1⟩,rfl⟩
           have HZ1:=Lib.hid hz1
           clear hz1
           go_wp2_with fail
           (with_reducible refine (gX _ (L + 1) _ _ (by omega) (by omega)).mono ?_)
           rintro e w4 ⟨z,rfl,hz,hzl,rfl⟩
           have HZ:=Lib.hid hz
           clear hz
           have hz0:(0:Int)≤(z:Int):=by omega
           have hzl':(z:Int)≤(L:Int):=by omega
           go_wp2_with fail
           have HRX2:=Lib.hid (HRX.out.ext (aU _ (.cells #[.int .i64 0,.int .i64 ((L:Int) / 2),.int .i64 (L:Int),.int .i64 (z:Int)] 3)))
           obtain ⟨p,hp51,hpe,hw⟩:=T1 i jj kk (by omega) (by omega) (by omega)
           rw [hw]
           have HPE:=Lib.hid hpe
           clear hw hpe
           (with_reducible refine (yG _ xs _ _ HRX2.out (by omega) (by omega) (by omega)).mono ?_)
           rintro e w4 ⟨⟨z2,rfl,hz2⟩,rfl⟩
           have HZ2:=Lib.hid hz2
           clear hz2
           go_wp2_with fail
           (with_reducible refine (gX _ 4 4 _ rfl (by omega)).mono ?_)
           rintro e w4 ⟨y4,rfl,hyy,hy4,rfl⟩
           have HYY:=Lib.hid hyy
           clear hyy
           have hnv:=aa4 (show jj + 1 < ks.length by have:=HNK.out; omega) HZ1.out (by first | rfl | omega) HZ2.out HPE.out HZ.out HYY.out
           obtain ⟨n,hn,hn0,hnl,hnn⟩ : ∃ n:Int,(#[Value.int .i64 0,.int .i64 ((L:Int) / 2),.int .i64 (L:Int),.int .i64 (z:Int)] : Array Value)[y4]? = some (.int .i64 n)∧0≤n∧n≤(L:Int)∧n=nV xs i jj kk ks.length (L:Int):=by
            clear HYY
            rcases y4 with _ | _ | _ | _ | y4
            ·exact ⟨0,rfl,by omega,by omega,hnv⟩
            ·exact ⟨(L:Int) / 2,rfl,by omega,by omega,hnv⟩
            ·exact ⟨(L:Int),rfl,by omega,by omega,hnv⟩
            ·exact ⟨(z:Int),rfl,by omega,by omega,hnv⟩
            ·omega
           have hcc:=fun (W:World)=>di (heap_alloc_new W (.cells #[.int .i64 0,.int .i64 ((L:Int) / 2),.int .i64 (L:Int),.int .i64 (z:Int)] 3 (0,0))) y4 _ hn
           have hy0':(0:Int)≤(y4:Int):=by omega
           have hy4':(y4:Int) < 4:=by omega
           have HN4:=Lib.hid hn
           have HNN:=Lib.hid hnn
           clear hn hnn hnv
           go_wp2
           go_meet
           case rel=>exact ⟨n,rfl,hn0,hnl,fun h=>by omega,HNN.out,aU _ _⟩
          ·have n1 : ¬ (jj:Int) < (nk:Int) - 1:=by omega
           go_wp2
           go_meet
           case rel=>exact ⟨(L:Int),rfl,l0,by omega,fun _=>rfl,by unfold nV; rw [if_neg (by have:=HNK.out; omega)],Ext.refl _⟩
         case rest =>
          obtain ⟨n,rfl,hn0,hnL,hlast,hnv,hxc⟩:=hcut
          obtain ⟨n,rfl⟩ : ∃ n':Nat,n=(n':Int):=⟨n.toNat,by omega⟩
          have HNV:=Lib.hid hnv
          clear hnv
          have HLAST:=Lib.hid hlast
          have HRBc:=Lib.hid ((hxc.block R (Array.getElem?_eq_some_iff.1 HRB.out).1).trans HRB.out)
          have HOQc:=Lib.hid (HOQ.out.ext hxc)
          have HKRc:=Lib.hid (lx HKR.out hxc)
          have HXc:=Lib.hid (HX.out.trans hxc)
          have HRX:=Lib.hid (HRD.out.ext (X2.out.trans HXc.out))
          clear hlast hxc HRB HOQ HKR HX
          go_wp2_with fail
          (with_reducible refine (yG _ xs _ _ HRX.out (by omega) (by omega) (by omega)).mono ?_)
          rintro e w4 ⟨⟨z1,rfl,hz1⟩,rfl⟩
          have HZ1:=Lib.hid hz1
          clear hz1
          go_wp2_with fail
          (with_reducible refine (gX _ (10000 - n + 1) _ _ (by omega) (by omega)).mono ?_)
          rintro e w4 ⟨z,rfl,hz,hzl,rfl⟩
          have HZ:=Lib.hid hz
          clear hz
          have hz0:(0:Int)≤(z:Int):=by omega
          have hzl':(z:Int)≤10000 - (n:Int):=by omega
          go_wp2_with fail
          obtain ⟨WM,hWM⟩ : ∃ WM,WM=wc.alloc (.cells #[.int .i64 10000,.int .i64 (n:Int),.int .i64 ((n:Int) + (z:Int))] 3):=⟨_,rfl⟩
          rw [← hWM]
          have HXM:=Lib.hid (show Ext wc WM by rw [hWM]; exact aU _ _)
          have HHM:=Lib.hid (show WM.heap[wc.heap.size]? = some (.cells #[.int .i64 10000,.int .i64 (n:Int),.int .i64 ((n:Int) + (z:Int))] 3 (0,0)) by rw [hWM]; exact heap_alloc_new wc _)
          clear hWM
          (with_reducible refine (yG _ xs _ _ (HRX.out.ext HXM.out) (by omega) (by omega) (by omega)).mono ?_)
          rintro e w4 ⟨⟨z2,rfl,hz2⟩,rfl⟩
          have HZ2:=Lib.hid hz2
          clear hz2
          go_wp2_with fail
          (with_reducible refine (gX _ 3 3 _ rfl (by omega)).mono ?_)
          rintro e w4 ⟨y3,rfl,hyy,hy3,rfl⟩
          have HYY:=Lib.hid hyy
          clear hyy
          have hmv:=aa7 (show n≤10000 by omega) HZ1.out (by first | rfl | omega) HZ2.out (by first | rfl | omega) HZ.out HYY.out
          obtain ⟨mo,hmo,hmo1,hmo2,hmm⟩ : ∃ mo:Int,(#[Value.int .i64 10000,.int .i64 (n:Int),.int .i64 ((n:Int) + (z:Int))] : Array Value)[y3]? = some (.int .i64 mo)∧(n:Int)≤mo∧mo≤10000∧mo=mV xs i jj kk (n:Int):=by
           clear HYY
           rcases y3 with _ | _ | _ | y3
           ·exact ⟨10000,rfl,by omega,by omega,hmv⟩
           ·exact ⟨(n:Int),rfl,by omega,by omega,hmv⟩
           ·exact ⟨(n:Int) + (z:Int),rfl,by omega,by omega,hmv⟩
           ·omega
          have hcc:=di HHM.out y3 _ hmo
          have hy0':(0:Int)≤(y3:Int):=by omega
          have hy3':(y3:Int) < 3:=by omega
          have HRBm:=Lib.hid ((HXM.out.block R (Array.getElem?_eq_some_iff.1 HRBc.out).1).trans HRBc.out)
          have HOQm:=Lib.hid (HOQc.out.ext HXM.out)
          have HKRm:=Lib.hid (lx HKRc.out HXM.out)
          have HXm:=Lib.hid (HXc.out.trans HXM.out)
          have HMM:=Lib.hid hmm
          clear hmo hmm hmv HRBc HOQc HKRc HRX
          go_wp2
          clear hcc HHM
          have hjks:jj < ks.length:=by have:=HNK.out; omega
          go_loopw [18] (fun mi wr=>∃ (m:Nat) (vq:Value),mi = .int .i64 m∧m≤k∧wr.heap[R]? = some (.cells #[.slice (some ⟨gl,0,none⟩) nl 2,vq] 34 (0,0))∧ji wr R vq (e9 ks[jj] kk n mo ds m) qs∧wr.ownsRow R 9 1 (.slice Ak nk ck) nk (ks.map sv)∧Ext W2 wr) (fun mi _=>k - (intOf mi).toNat)
          case atStart=>exact ⟨0,_,rfl,by omega,HRBm.out,by rw [D5]; exact HOQm.out,HKRm.out,HXm.out⟩
          case round =>
           obtain ⟨m,vq,rfl,hmk,hRb,hOQ,hkr,hx⟩:=hrel
           clear HRBm HOQm HKRm HXm HXc
           have hdk:ds.length=k:=by rw [HG.out.gk.gi.gd.len]; exact HNP.out.symm
           have m0:(0:Int)≤(m:Int):=by omega
           by_cases hmlt:m < k
           ·have m1:(m:Int) < (k:Int):=by omega
            have hmd:m < ds.length:=by omega
            have hml:m < (e9 ks[jj] kk n mo ds m).length:=by rw [g7]; exact hmd
            have hsg:=AK ks[jj] kk n mo ds m hmd hml
            have hcl:(e9 ks[jj] kk n mo ds m)[m].caps.length=nl:=by rw [hsg]; exact (HG.out.gk.gi.gd.each _ (List.getElem_mem hmd)).1
            obtain ⟨gq,cq',g,cc,ev,h1,hBg,hglt,⟨cur,hcur⟩,hfz,e1,e2,hput⟩:=hOQ.put hml (k:=kk) (by rw [hcl]; exact hlk)
            obtain ⟨q,hqm⟩ : ∃ q,qs[m]? = some q:=⟨qs[m]'(by rw [hOQ.len]; exact hml),zq _⟩
            have hqp:=(hOQ.each m q hml hqm).1
            rw [hsg] at hqp
            have hrow:=hOQ.row
            rw [ev] at hrow hRb
            have pc:=hrow.cellAt (m * 3) (by omega)
            rw [(uA qs m q hqm).1] at pc
            rw [g7,hdk] at hRb
            rw [hcl] at h1
            obtain ⟨gk,rfl⟩ : ∃ gk,Ak=some ⟨gk,0,none⟩:=by
             rcases hkr.2 with ⟨_,h0⟩ | ⟨gk,_,_,e,_⟩
             ·omega
             ·injection e with e; exact ⟨gk,e⟩
            have kc:=hkr.cellAt jj (by omega)
            rw [List.getElem?_map,zq hjks] at kc
            obtain ⟨Kb,hKb⟩ : ∃ Kb:ByteArray,Kb=⟨(ks[jj]).toArray⟩:=⟨_,rfl⟩
            have kc:wr.cell? ⟨gk,jj,none⟩=some (.string Kb):=by rw [hKb]; exact kc
            have HKB:=Lib.hid (show Kb.data.toList=ks[jj] by rw [hKb])
            have r1:=di hRb 1 _ rfl
            have HQP:=Lib.hid hqp
            have HOQ:=Lib.hid hOQ
            have HRB:=Lib.hid hRb
            have HKR:=Lib.hid hkr
            have HX:=Lib.hid hx
            have HPUT:=Lib.hid (hput n mo)
            have HCUR:=Lib.hid hcur
            have HEV:=Lib.hid ev
            clear hKb hqp hrow hqm ev hOQ hRb hkr hx hput hcur hsg
            generalize ((e9 ks[jj] kk n mo ds m)[m].caps[kk]'(by rw [hcl]; exact hlk)).1=o1 at e1
            generalize ((e9 ks[jj] kk n mo ds m)[m].caps[kk]'(by rw [hcl]; exact hlk)).2=o2 at e2
            have HCL:=Lib.hid hcl
            clear hcl hdk
            have hkn0:(kk:Int) < (nl:Int):=by omega
            by_cases heq:q.p=Kb
            ·have q1:(q.p.toList==Kb.toList)=true:=by rw [heq]; simp
             have HEQ:=Lib.hid (show ds[m].path=ks[jj] by rw [← HQP.out,heq,HKB.out])
             clear heq
             go_wp2
             refine oy Ext J9 [(0,true),(1,true),(2,true),(3,true),(4,true),(5,true),(6,true),(7,true),(8,true),(9,true),(10,true)] (by kernel_rfl) (by kernel_rfl) (fun _ _ _ _ _ h=>h) ?_
             repeat first | ((with_reducible refine s7 ?_ ?_ ?_ ?_ (fun wk k1=>?_) ?_); rotate_left 2; (rfl); (first | exact rR rfl | exact want_some rfl rfl rfl rfl); (go_simp; first | exact OkX.val | (have c0':=k1.cell r1; have c1':=k1.cell pc; have c2':=k1.cell kc; go_simp; exact OkX.val)); simp only [Act.put,List.setIfInBounds_toArray,List.set_cons_zero,List.set_cons_succ]) | ((with_reducible refine sched_skip ?_ ?_ ?_ ?_); rotate_left; (rfl); (exact want_not rfl rfl rfl rfl rfl); simp only [Act.put,List.setIfInBounds_toArray,List.set_cons_zero,List.set_cons_succ])
             refine xo (fun wz k1=>?_)
             have FZ:=Lib.hid ((Ext.drew _).trans k1)
             clear k1
             have z1:=FZ.out.cell r1
             obtain ⟨gq2,cq2,g',cc',ev2,z2,hBg',hglt',⟨cur',hcur'⟩,hfz',z3,z4,hput'⟩:=(HOQ.out.ext FZ.out).put hml (k:=kk) (by rw [HCL.out]; exact hlk)
             have ee:=HEV.out.symm.trans ev2
             injection ee with ee1 ee2 ee3
             injection ee1 with ee1
             injection ee1 with ee1
             subst ee1
             rw [HCL.out] at z2
             generalize ((e9 ks[jj] kk n mo ds m)[m].caps[kk]'(by rw [HCL.out]; exact hlk)).1=o1' at z3
             generalize ((e9 ks[jj] kk n mo ds m)[m].caps[kk]'(by rw [HCL.out]; exact hlk)).2=o2' at z4
             have HP2:=Lib.hid (hput' n mo)
             have HCUR2:=Lib.hid hcur'
             have f1:=hfz' (kk * 2)
             have f2:=hfz' (kk * 2 + 1)
             have hneR:R≠g':=fun e=>by
              have h9:=(FZ.out.block R (Array.getElem?_eq_some_iff.1 HRB.out).1).trans HRB.out
              rw [e,hcur'] at h9
              injection h9 with h9
              injection h9 with _ h9
              exact absurd h9 (by decide)
             clear ee2 ee3 ev2 hput' hcur' hfz' pc kc r1 h1 e1 e2 hfz
             go_wp2
             go_roundw
             case rel =>
              refine ⟨m + 1,vq,by simp,by omega,?_,?_,?_,?_⟩
              ·rw [HP2.out.2.block R (by have:=FZ.out.size; have:=(Array.getElem?_eq_some_iff.1 HRB.out).1; omega) (fun e=>by injection e with e; exact hneR e),FZ.out.block R (Array.getElem?_eq_some_iff.1 HRB.out).1,HEV.out,g7,HG.out.gk.gi.gd.len,← HNP.out]
               exact HRB.out
              ·rw [H4 hmd HEQ.out]; exact HP2.out.1
              ·exact (lx HKR.out FZ.out).kept HP2.out.2 (.inr (pv (lx HKR.out FZ.out) HCUR2.out (by decide)))
              ·exact (HX.out.trans FZ.out).trans' (cL HP2.out.2 (HX.out.trans FZ.out).size (fun k e=>by injection e with e; rw [← HRR.out,← e]; exact hBg'))
             case measure=>simp [intOf]; omega
            ·have q1:(q.p.toList==Kb.toList)=false:=Z2 heq
             have HNE:=Lib.hid (show ds[m].path≠ks[jj] from fun e=>heq (Z3 (by rw [HQP.out,e,HKB.out])))
             clear heq
             go_wp2
             refine oy Ext J9 [(0,true),(1,true),(2,true),(3,true),(4,true),(5,true),(6,true),(7,true),(8,true),(9,true),(10,true)] (by kernel_rfl) (by kernel_rfl) (fun _ _ _ _ _ h=>h) ?_
             repeat first | ((with_reducible refine s7 ?_ ?_ ?_ ?_ (fun wk k1=>?_) ?_); rotate_left 2; (rfl); (first | exact rR rfl | exact want_some rfl rfl rfl rfl); (go_simp; first | exact OkX.val | (have c0':=k1.cell r1; have c1':=k1.cell pc; have c2':=k1.cell kc; go_simp; exact OkX.val)); simp only [Act.put,List.setIfInBounds_toArray,List.set_cons_zero,List.set_cons_succ]) | ((with_reducible refine sched_skip ?_ ?_ ?_ ?_); rotate_left; (rfl); (exact want_not rfl rfl rfl rfl rfl); simp only [Act.put,List.setIfInBounds_toArray,List.set_cons_zero,List.set_cons_succ])
             refine xo (fun wz k1=>?_)
             have FZ:=Lib.hid ((Ext.drew _).trans k1)
             clear k1
             go_wp2
             go_roundw
             case rel=>exact ⟨m + 1,vq,by simp,by omega,by rw [HEV.out,g7,HG.out.gk.gi.gd.len,← HNP.out]; exact (FZ.out.block R (Array.getElem?_eq_some_iff.1 HRB.out).1).trans HRB.out,by rw [LQ hmd HNE.out]; exact HOQ.out.ext FZ.out,lx HKR.out FZ.out,HX.out.trans FZ.out⟩
             case measure=>simp [intOf]; omega
           ·obtain rfl:m=k:=by omega
            have m1 : ¬ (m:Int) < (m:Int):=by omega
            have hvl:∃ A' c',vq = .slice A' m c':=by
             obtain ⟨A',c',e,_,_⟩:=cD hOQ.row
             rw [g7,hdk] at e
             exact ⟨A',c',e⟩
            obtain ⟨A',c',rfl⟩:=hvl
            have hst:e9 ks[jj] kk n mo ds m=iZ ks[jj] kk n mo ds:=by
             rw [← H5,hdk]
            rw [hst] at hOQ
            have hr1:=di hRb 1 _ rfl
            have HRB:=Lib.hid hRb
            have HOQ:=Lib.hid hOQ
            have HKR:=Lib.hid hkr
            have HX:=Lib.hid hx
            have HGS:=Lib.hid (show GJ nl ps i kk (jj + 1) ((L:Int) - (n:Int)) (iZ ks[jj] kk n mo ds) by
             have hkd:cz ps[i] ds=ks:=by rw [EL,HG.out.gk.gi.gd.paths,HKS.out]
             have h:=GJ.step (n:=(n:Int)) (mo:=mo) HG.out HNO.out hip (by rw [hkd]; exact hjks) hlk hn0 hnL (by rw [hkd,← HNK.out]; exact HLAST.out) hmo1 hmo2
             simp only [hkd] at h
             exact h)
            have HES:=Lib.hid (show E5 sh xs nl ps i ks kk (jj + 1) ((L:Int) - (n:Int)) (iZ ks[jj] kk n mo ds) by
             have h:=E5.step HE.out hjks (by have:=HNK.out; omega) (by omega) hnl4 hlk l0 l1 (by omega) (fun q hq=>(HG.out.gk.gi.gd.each q hq).1)
             rw [← HNV.out,← HMM.out] at h
             exact h)
            clear hst hOQ hRb hkr hx hdk
            go_wp2
            go_roundw
            case rel=>exact ⟨jj + 1,(L:Int) - (n:Int),_,_,_,rfl,by simp,by omega,HRB.out,HOQ.out,HGS.out,HES.out,HKR.out,HX.out⟩
            case measure=>simp [intOf]; omega
        ·obtain rfl:jj=nk:=by omega
         have j1 : ¬ (jj:Int) < (jj:Int):=by omega
         have HGE:=Lib.hid (GJ.end HG.out (fun h=>by rw [EL,HG.out.gk.gi.gd.paths,← HKS.out]; exact HNK.out))
         have HEE:=Lib.hid (show E4 sh xs nl ps i ks (kk + 1) ds from E5.end (by have h:=HE.out; rw [HNK.out] at h; exact h) (by have:=HNK.out; omega))
         go_wp2
         go_roundw
         case rel=>exact ⟨kk + 1,_,_,_,by simp,by omega,HRB.out,HOQ.out,HGE.out,HEE.out,HKR.out,HX.out⟩
         case measure=>simp [intOf]; omega
      ·obtain rfl:kk=nl:=by omega
       have kk1 : ¬ (kk:Int) < (kk:Int):=by omega
       have HGE:=Lib.hid (GK.end HG.out)
       have HEE:=Lib.hid (E4.end HE.out hnl4)
       go_wp2
       go_roundw
       case rel=>exact ⟨i + 1,_,_,_,by simp,by omega,HRB.out,HOQ.out,HGE.out,HEE.out,HX.out⟩
       case measure=>simp [intOf]; omega
    ·obtain rfl:i=k:=by omega
     have i1 : ¬ (i:Int) < (i:Int):=by omega
     have HRES:=Lib.hid ((HX.out.block w.heap.size (Array.getElem?_eq_some_iff.1 HR0.out).1).trans HR0.out)
     have HLBX:=Lib.hid ((HX.out.block gl (Array.getElem?_eq_some_iff.1 HL2.out).1).trans HL2.out)
     have y0:=di HRES.out 0 _ rfl
     have y1:=di HRES.out 1 _ rfl
     have g0:=sF HRES.out 0
     have g1:=sF HRES.out 1
     have hRw:R≠w.heap.size:=by have:=HRR.out; have:=HS2.out; omega
     go_wp2
     refine bodyPost_ret (by simp [results,Tryz.results23,go_sem,y0,y1]; try rfl) rfl ?_
     have hgr:wr.grownBy ((wr.setCell ⟨w.heap.size,0,none⟩ (.slice (some ⟨gl,0,none⟩) nl 2)).setCell ⟨w.heap.size,1,none⟩ (.slice Aq i cq)) (some w.heap.size) :=
      ⟨rfl,rfl,rfl,by simp [World.setCell],fun k _ hk=>(Below.heap_setCell _ _ _ _ (fun e=>hk (by rw [e]))).trans (Below.heap_setCell _ _ _ _ (fun e=>hk (by rw [e])))⟩
     have hdk:=HDK.out
     refine ⟨nl,hnl5,hnl4,_,_,ds,qs,R,rfl,by have:=HRR.out; have:=HS2.out; omega,?_,?_,?_,?_,E3.end (by have h:=HE.out; rw [HNP.out] at h; exact h) (by have:=HNP.out; omega)⟩
     ·exact (SF w.heap.size gl nl HLBX.out HGL.out hnl4).kept hgr (.inr (pv (SF w.heap.size gl nl HLBX.out HGL.out hnl4) HRES.out (by decide)))
     ·have h:=HOQ.out.kept hgr HRES.out (by decide) (by decide)
      rw [hdk] at h
      exact h
     ·have e:(sh % 5).toNat=y:=by have:=HY.out; omega
      rw [e,← HPS.out,← HNP.out]
      exact HG.out
     ·exact yX (yX (X2.out.trans HX.out) (Nat.le_refl _) _) (Nat.le_refl _) _
def bq (oZ:Int) (v_n:Int) : Option (Int) :=
 (CU oZ v_n).bind fun b1=>let v_k:Int:=b1
 (if (decide (v_k < 0))=true then
 let v_k:Int:=(i64.wrap (v_k + v_n))
 some v_k
 else
 some v_k).bind fun j2=>let v_k:=j2
 some v_k
def nS (v_x:aK) : Option (Bool) :=
 (if (decide ((v_x.fNs.length:Int)≤30))=true then some (decide ((v_x.mC.length:Int)≤80)) else some false).bind fun q1=>some q1
def wd (v_n:Int) : Option (au) :=
 (bq v_n 5).bind fun c1=>(aw ([(⟨1,1⟩ : au),(⟨2,1⟩ : au),(⟨4,4⟩ : au),(⟨3,2⟩ : au),(⟨1,3⟩ : au)] : (List au)) c1).bind fun b2=>some b2
def kE (v_c:ay) (st:(List ByteArray)×Int) : Option (((List ByteArray)×Int)⊕(((List ByteArray)×Int))) :=
 let v_l:=st.1
 let v_i:=st.2
 if (decide (v_i < (v_c.ae.length:Int)))=true then
 (aw v_c.ae v_i).bind fun b1=>(kv v_c b1.aO).bind fun c2=>if c2=true then
 (aw v_c.ae v_i).bind fun b3=>(aX v_l [b3.aO]).bind fun b4=>let v_l:(List ByteArray):=b4
 let v_i:Int:=(i64.wrap (v_i + 1))
 some (.inl (v_l,v_i))
 else
 let v_i:Int:=(i64.wrap (v_i + 1))
 some (.inl (v_l,v_i))
 else
 some (.inr (v_l,v_i))
def we (v_c:ay) : Option ((List ByteArray)) :=
 let v_l:(List ByteArray):=[]
 let v_i:Int:=0
 (ah (kE v_c) ab (v_l,v_i)).bind fun r5 =>
 let v_l:=r5.1
 let v_i:=r5.2
 some v_l
def f6 (v_s:aa) (v_p:aC) (v_a:aY) (st:aN×Int) : Option ((aN×Int)⊕((aN×Int))) :=
 let v_x:=st.1
 let v_i:=st.2
 if (decide (v_i < (v_s.ac.length:Int)))=true then
 (aw v_s.ac v_i).bind fun b18=>(if (b18.bC==v_p.fId)=true then (bq (i64.wrap (v_a.fD + v_i)) 11).bind fun c19=>some (c19==10) else some false).bind fun q20=>if q20=true then
 (aw v_s.ac v_i).bind fun b21=>(aX v_x.gm [b21.fId]).bind fun b22=>let v_x:aN:={ v_x with gm:=b22 }
 let v_i:Int:=(i64.wrap (v_i + 1))
 some (.inl (v_x,v_i))
 else
 let v_i:Int:=(i64.wrap (v_i + 1))
 some (.inl (v_x,v_i))
 else
 some (.inr (v_x,v_i))
def nT (v_a:aY) (v_s:aa) : Option (aN) :=
 let v_x:aN:=(⟨5,0,0,0,⟨#[]⟩,aW.zero,aC.zero,[],[],ai.zero⟩ : aN)
 if ((v_s.ar.length:Int)==0)=true then
 some v_x
 else
 (bq v_a.fA (v_s.ar.length:Int)).bind fun c1=>(aw v_s.ar c1).bind fun b2=>let v_p:aC:=b2
 (bq v_a.fB 8).bind fun c3=>let t4:Int:=v_p.fId
 let t5:Int:=(i64.wrap ((i64.wrap (v_p.cn + 1)) - (i64.wrap (Int.tdiv c3 6))))
 let v_x:aN:={ v_x with fId:=t4 }
 let v_x:aN:={ v_x with cn:=t5 }
 (if (decide ((Int.tmod v_a.fC 3) > 0))=true then
 (bq v_a.fB 5).bind fun c7=>(bq v_a.fC (v_s.bG.aj.length:Int)).bind fun c8=>(wd v_a.fD).bind fun c9=>(bq v_a.fD 7).bind fun c10=>let v_k:aV:=(⟨c7,c8,c9,c10,(-1),(-1),0⟩ : aV)
 (if ((Int.tmod v_a.fD 4)==1)=true then
 (bq v_a.fC 3).bind fun c12=>let v_k:aV:={ v_k with fu:=c12 }
 some (v_k,v_x)
 else
 some (v_k,v_x)).bind fun j11=>let v_k:=j11.1
 let v_x:=j11.2
 (if ((Int.tmod v_a.fD 4)==2)=true then
 (bq v_a.fC 3).bind fun c14=>(bq v_a.fB 6).bind fun c15=>let t16:Int:=c14
 let t17:Int:=c15
 let v_k:aV:={ v_k with fu:=t16 }
 let v_k:aV:={ v_k with bM:=t17 }
 some (v_k,v_x)
 else
 some (v_k,v_x)).bind fun j13=>let v_k:=j13.1
 let v_x:=j13.2
 let v_x:aN:={ v_x with bN:=([v_k] : (List aV)) }
 some v_x
 else
 some v_x).bind fun j6=>let v_x:=j6
 let v_i:Int:=0
 (ah (f6 v_s v_p v_a) ab (v_x,v_i)).bind fun r23 =>
 let v_x:=r23.1
 let v_i:=r23.2
 some v_x
def il (v_s:aa) (v_a:aY) (bw:Int) (st:aN×Int) : Option ((aN×Int)⊕((aN×Int))) :=
 let v_x:=st.1
 let v_i:=st.2
 if (decide (v_i < (v_s.aD.length:Int)))=true then
 (aw v_s.aD v_i).bind fun b14=>if (b14.fId==bw)=true then
 (aw v_s.aD v_i).bind fun b15=>(bq v_a.fB 8).bind fun c16=>let v_x:aN:={ v_x with cn:=(i64.wrap ((i64.wrap (b15.cn + 1)) - (i64.wrap (Int.tdiv c16 6)))) }
 let v_i:Int:=(i64.wrap (v_i + 1))
 some (.inl (v_x,v_i))
 else
 let v_i:Int:=(i64.wrap (v_i + 1))
 some (.inl (v_x,v_i))
 else
 some (.inr (v_x,v_i))
def ik (v_s:aa) (bw:Int) (v_a:aY) (st:aN×Int) : Option ((aN×Int)⊕((aN×Int))) :=
 let v_x:=st.1
 let aQ:=st.2
 if (decide (aQ < (v_s.ac.length:Int)))=true then
 (aw v_s.ac aQ).bind fun b18=>(if (b18.bM==bw)=true then (bq (i64.wrap (v_a.fC + aQ)) 9).bind fun c19=>some (c19==8) else some false).bind fun q20=>if q20=true then
 (aw v_s.ac aQ).bind fun b21=>(aX v_x.gm [b21.fId]).bind fun b22=>let v_x:aN:={ v_x with gm:=b22 }
 let aQ:Int:=(i64.wrap (aQ + 1))
 some (.inl (v_x,aQ))
 else
 let aQ:Int:=(i64.wrap (aQ + 1))
 some (.inl (v_x,aQ))
 else
 some (.inr (v_x,aQ))
def im (v_a:aY) (v_s:aa) : Option (aN) :=
 (bq v_a.fA 6).bind fun c1=>let t2:Int:=c1
 let t3:Int:=(v_s.bG.aj.length:Int)
 let bw:Int:=t2
 let rS:Int:=t3
 (we v_s.bG).bind fun c4=>let fj:(List ByteArray):=c4
 (bq v_a.fB 4).bind fun c5=>let v_x:aN:=(⟨0,bw,0,(i64.wrap (1 + c5)),⟨#[]⟩,aW.zero,aC.zero,[],[],ai.zero⟩ : aN)
 (bq v_a.iy 16).bind fun c6=>((if (c6==0)=true then some true else some (c6==1))).bind fun q7=>(if q7=true then
 let v_x:aN:={ v_x with iy:=2 }
 (bq v_a.fB rS).bind fun c9=>(bq v_a.fC 3).bind fun c10=>(bq v_a.fD 12).bind fun c11=>(bq v_a.fD 8).bind fun c12=>let v_x:aN:={ v_x with bM:=(⟨bw,c9,c10,(⟨(i64.wrap (4 + c11)),(i64.wrap (4 + c12))⟩ : au),0,0,false⟩ : aW) }
 some v_x
 else
 ((if (c6==2)=true then some true else if (c6==3)=true then some true else if (c6==4)=true then some true else some (c6==5))).bind fun q13=>if q13=true then
 let v_x:aN:={ v_x with iy:=3 }
 let v_i:Int:=0
 (ah (il v_s v_a bw) ab (v_x,v_i)).bind fun r17 =>
 let v_x:=r17.1
 let v_i:=r17.2
 let aQ:Int:=0
 (ah (ik v_s bw v_a) ab (v_x,aQ)).bind fun r23 =>
 let v_x:=r23.1
 let aQ:=r23.2
 some v_x
 else
 ((if (c6==6)=true then some true else some (c6==7))).bind fun q24=>if q24=true then
 let v_x:aN:={ v_x with iy:=4 }
 (bq v_a.fA 20).bind fun c25=>(bq v_a.fB (fj.length:Int)).bind fun c26=>(aw fj c26).bind fun b27=>(bq v_a.fC 3).bind fun c28=>(bq v_a.fD 3).bind fun c29=>(wd (i64.wrap (Int.tdiv v_a.fD 3))).bind fun c30=>let v_x:aN:={ v_x with bC:=(⟨c25,0,b27,c28,c29,c30,[],0,0,[],[],[],[]⟩ : aC) }
 some v_x
 else
 ((if (c6==8)=true then some true else if (c6==9)=true then some true else some (c6==10))).bind fun q31=>if q31=true then
 (nT v_a v_s).bind fun c32=>let v_x:aN:=c32
 some v_x
 else
 if (c6==11)=true then
 (bq v_a.fB 2).bind fun c33=>(aw ([6,7] : (List Int)) c33).bind fun b34=>let v_x:aN:={ v_x with iy:=b34 }
 (bq v_a.fA 20).bind fun c35=>let v_x:aN:={ v_x with fId:=c35 }
 some v_x
 else
 ((if (c6==12)=true then some true else some (c6==13))).bind fun q36=>if q36=true then
 let v_x:aN:={ v_x with iy:=8 }
 (bq v_a.fA 5).bind fun c37=>let v_x:aN:={ v_x with fN:=(i64.wrap (1 + c37)) }
 some v_x
 else
 if (c6==14)=true then
 (bq v_a.fD 3).bind fun c38=>(aw ([9,9,10] : (List Int)) c38).bind fun b39=>let v_x:aN:={ v_x with iy:=b39 }
 (bq v_a.fB rS).bind fun c40=>(bq v_a.fC 5).bind fun c41=>(wd v_a.fD).bind fun c42=>let v_x:aN:={ v_x with pW:=(⟨bw,c40,(i64.wrap (v_s.cx + c41)),(i64.wrap (v_s.cx + 20)),c42⟩ : ai) }
 (bq v_a.fC 12).bind fun c43=>let v_x:aN:={ v_x with fN:=(i64.wrap (1 + c43)) }
 some v_x
 else
 if (c6==15)=true then
 (bq v_a.fA 3).bind fun c44=>(aw ([11,1,1] : (List Int)) c44).bind fun b45=>let v_x:aN:={ v_x with iy:=b45 }
 (ga v_a.fB ([v_a.fC,v_a.fD] : (List Int))).bind fun c46=>(zp c46).bind fun c47=>let v_x:aN:={ v_x with MQ:=c47 }
 some v_x
 else
 some v_x).bind fun j8=>let v_x:=j8
 some v_x
def dj (v_x:aK) (st:aa×Int) : Option ((aa×Int)⊕((aa×Int))) :=
 let v_s:=st.1
 let v_i:=st.2
 if (decide (v_i < (v_x.mC.length:Int)))=true then
 (aw v_x.mC v_i).bind fun b6=>(im b6 v_s).bind fun c7=>(oh v_s c7).bind fun c8=>let v_s:aa:=c8.1
 let v_i:Int:=(i64.wrap (v_i + 1))
 some (.inl (v_s,v_i))
 else
 some (.inr (v_s,v_i))
def cQ (v_x:aK) : Option (aa) :=
 (KU).bind fun c1=>let v_s:aa:=c1
 (ga v_x.J8 v_x.fNs).bind fun c2=>(zp c2).bind fun c3=>(oh v_s (⟨1,0,0,0,c3,aW.zero,aC.zero,[],[],ai.zero⟩ : aN)).bind fun c4=>let v_t:aa:=c4.1
 let v_o:bz:=c4.2
 (if (v_o.aaE==0)=true then
 let v_s:aa:=v_t
 some v_s
 else
 some v_s).bind fun j5=>let v_s:=j5
 let v_i:Int:=0
 (ah (dj v_x) ab (v_s,v_i)).bind fun r9 =>
 let v_s:=r9.1
 let v_i:=r9.2
 some v_s
def Js:Ent:=⟨[.lf (.int .i64),.lf (.sl (.int .i64))],[.ag 5],fun x=>ga x.1 x.2.1⟩
def CP:Ent:=⟨[.lf (.int .i64),.lf (.int .i64)],[.lf (.int .i64)],fun x=>bq x.1 x.2.1⟩
theorem vD:EOk prog 54 CP:=aL (.s .n (.s .n (.s (.s .n (.j [.leaf 5 (.int .i64)] .n)) .n))) [] [] [] .nil Tryz.mixed Tryz.func54
def CQ:Ent:=⟨[.ag 5],[.lf (.sl (.str))],fun x=>we x.1⟩
theorem OH:EOk prog 55 CQ:=aL (.s .n (.s .n (.s (.s .n (.s (.lp [.row 3 3 9 1 (.str),.leaf 4 (.int .i64)] 0 false .n) .n)) .n))) [(5,[27,28])] [] [] (.cons BG .nil) Tryz.mixed Tryz.func55
def Jr:Ent:=⟨[.lf (.int .i64)],[.ag 0],fun x=>wd x.1⟩
theorem Jq:EOk prog 56 Jr:=aL .n [] [2] [] (.cons vD .nil) Tryz.mixed Tryz.func56
def uf:Ent:=⟨[.ag 15,.ag 12],[.ag 9],fun x=>nT x.1 x.2.1⟩
theorem Di:EOk prog 57 uf:=aL (.s .n (.s .n (.s .n (.s .n (.s .n (.s (.s .n (.j [.box 5 73 9 [(28,1128,3,1,.int .i64)]] (.s (.s .n (.s (.s .n (.j [.box 7 126 1 [],.box 5 73 9 [(28,1128,3,1,.int .i64)]] .n)) (.s (.s .n (.j [.box 7 126 1 [],.box 5 73 9 [(28,1128,3,1,.int .i64)]] .n)) .n))) .n))) (.s (.s .n (.s (.lp [.box 5 73 9 [(28,1128,3,1,.int .i64)],.leaf 8 (.int .i64)] 0 false .n) .n)) .n))))))) [(4,[79,113,114]),(5,[79,113,114]),(7,[79,113,114]),(9,[79,113,114]),(11,[79,113,114]),(16,[79,113,114])] [4] [] (.cons vD (.cons Jq .nil)) Tryz.mixed Tryz.func57
def GV:Ent:=⟨[.ag 15,.ag 12],[.ag 9],fun x=>im x.1 x.2.1⟩
theorem GS (x:cE [.ag 15,.ag 12]) : jm ⟨prog,[(54,CP),(55,CQ),(56,Jr),(57,uf),(23,Js),(22,BH)],230,[.ag 9],[.cell 4 73],[(1,[118,119,157,179,212,225]),(2,[118,119,157,179,212,225]),(3,[118,119,157,179,212,225]),(4,[118,119,157,179,212,225]),(8,[118,119,157,179,212,225]),(18,[118,119,157,179,212,225]),(22,[118,119,157,179,212,225]),(27,[118,119,157,179,212,225]),(31,[118,119,157,179,212,225]),(33,[118,119,179,212,225]),(34,[118,119,157,179,212,225]),(38,[118,119,157,179,212,225]),(40,[118,119,157,212,225]),(41,[118,119,157,179,212,225]),(42,[118,119,157,179,212,225]),(44,[118,119,157,179,225]),(45,[118,119,157,179,212])],[4],[]⟩ ((Tryz.f24).body.getD .skip) (.s (.n) (.s (.n) (.s (.n) (.s (.n) (.s (.s (.n) (.s (.s (.s (.n) (.j [.leaf 30 (.bool)] (.n))) (.j [.box 8 73 9 []] (.s (.n) (.s (.s (.n) (.j [.leaf 53 (.bool)] (.n))) (.s (.s (.n) (.s (.s (.n) (.s (.lp [.box 8 73 9 [(28,1188,3,1,.int .i64)],.leaf 9 (.int .i64)] 1 false (.n)) .n)) (.s (.n) (.s (.lp [.box 8 73 9 [(28,1188,3,1,.int .i64)],.leaf 10 (.int .i64)] 3 false (.n)) .n)))) (.s (.s (.n) (.j [.leaf 121 (.bool)] (.n))) (.s (.n) (.s (.s (.n) (.j [.leaf 148 (.bool)] (.n))) (.s (.n) (.s (.n) (.s (.n) (.s (.s (.n) (.j [.leaf 168 (.bool)] (.n))) (.n))))))))))))) .n)) (.n)))))) [.ag 15,.ag 12] x=im x.1 x.2.1:=by kernel_rfl
theorem GU (hG:bR prog 23 [.lf (.int .i64),.lf (.sl (.int .i64))] [.ag 5] (fun x=>ga x.1 x.2.1)) : bR prog 24 [.ag 15,.ag 12] [.ag 9] (fun x=>im x.1 x.2.1):=cF (n:=230) (.cons (vD) (.cons (OH) (.cons (Jq) (.cons (Di) (.cons hG (.cons (Jg) (.nil))))))) Tryz.mixed Tryz.func24 rfl (by kernel_rfl) rfl rfl rfl (GS)
def ud:Ent:=⟨[.ag 16],[.lf (.bool)],fun x=>nS x.1⟩
theorem Dh:EOk prog 6 ud:=aL .n [] [] [] .nil Tryz.mixed Tryz.func6
theorem Au (x:cE [.ag 16]) : jm ⟨prog,[(20,Jj),(23,Js),(22,BH),(21,Gi),(24,GV)],44,[.ag 12],[.cell 2 41],[],[2],[]⟩ ((Tryz.f7).body.getD .skip) (.s (.n) (.s (.n) (.s (.n) (.s (.s (.n) (.j [.box 3 41 12 []] (.n))) (.s (.s (.n) (.s (.lp [.box 3 41 12 [],.leaf 6 (.int .i64)] 0 false (.n)) .n)) (.n)))))) [.ag 16] x=cQ x.1:=by kernel_rfl
theorem Aw (hG:bR prog 23 [.lf (.int .i64),.lf (.sl (.int .i64))] [.ag 5] (fun x=>ga x.1 x.2.1)) : bR prog 7 [.ag 16] [.ag 12] (fun x=>cQ x.1):=cF (n:=44) (.cons (Vv) (.cons hG (.cons (Jg) (.cons (Q3) (.cons (GU hG) (.nil)))))) Tryz.mixed Tryz.func7 rfl (by kernel_rfl) rfl rfl rfl (Au)
theorem En {w:World} {B e k n:Nat} {v:Value} {us:List Value} {es:List (List D)} {F:Nat→Prop} (h:w.ownsRow B e k v n us) (hn:n=es.length) (hk:∀ x∈es,x.length=k) (hl:us.length=es.flatten.length) (hF:∀ g,B≤g→g < w.heap.size→F g) (hr:∀ (j:Nat) u d,us[j]? = some u→es.flatten[j]? = some d→d7 w F u d) : d7 w F v (.sl es):=by
 have h':=h
 rcases h.2 with ⟨rfl,h0⟩ | ⟨g,cap,cur,rfl,hb,hg,hle,hmx,_⟩
 ·have:es = []:=List.eq_nil_of_length_eq_zero (by omega)
  subst this
  exact .sl none 0 0 0 [] (fun _=>undef) rfl (Nat.le_refl _) (by simp [maxLen]) (by simp) (by omega) (fun _=>rfl) (by simp) (by simp)
 ·have hlt:=(Array.getElem?_eq_some_iff.1 hg).1
  refine .sl (some ⟨g,0,none⟩) n cap k es (fun j=>(us[j]?).getD undef) hn hle hmx hk (fun _=>⟨_,rfl,hF g hb hlt⟩) (fun h=>by cases h) (fun a j d ha hj=>?_) (fun j d hj=>?_)
  ·injection ha with ha
   subst ha
   have hj2:j < us.length:=by have:=(zg.1 hj).1; omega
   have hadd:(⟨g,0,none⟩ : Addr).add j=⟨g,j,none⟩:=by unfold Addr.add; split <;> simp_all
   have hc:=h'.cellAt j (by have:=h'.1; omega)
   rw [hadd,hc,zq hj2]
   rfl
  ·have hj2:j < us.length:=by have:=(zg.1 hj).1; omega
   exact hr j _ d (by rw [zq hj2]; rfl) hj
theorem Il {w:World} {F:Nat→Prop} : ∀ (l:List Tx) (j:Nat) (u:Value) (d:D),(l.map sv)[j]? = some u→(((l.map bT).map sD).flatten)[j]? = some d→d7 w F u d
 | [],j,u,d,h,_=>by simp at h
 | x::l,0,u,d,h1,h2=>by
  simp [sD] at h1 h2
  subst h1
  subst h2
  exact .v _ rfl
 | x::l,j + 1,u,d,h1,h2=>Il l j u d (by simpa using h1) (by simpa [sD] using h2)
theorem I4 {w:World} {F:Nat→Prop} : ∀ (l:List (Int×Int)) (j:Nat) (u:Value) (d:D),(cg l)[j]? = some u→(((l.map gP).map eE.d).flatten)[j]? = some d→d7 w F u d
 | [],j,u,d,h,_=>by simp [cg] at h
 | x::l,0,u,d,h1,h2=>by
  simp [cg,eE.d,gP] at h1 h2
  subst h1
  subst h2
  exact .v _ rfl
 | x::l,1,u,d,h1,h2=>by
  simp [cg,eE.d,gP] at h1 h2
  subst h1
  subst h2
  exact .v _ rfl
 | x::l,j + 2,u,d,h1,h2=>I4 l j u d (by simpa [cg] using h1) (by simpa [eE.d] using h2)
theorem Nj:∀ l:List (Int×Int),(cg l).length=(((l.map gP).map eE.d).flatten).length
 | []=>rfl
 | x::l=>by
  have:=Nj l
  simp [cg,eE.d] at this ⊢
  omega
theorem Si {w:World} {B:Nat} {F:Nat→Prop} (hF:∀ g,B≤g→g < w.heap.size→F g) : ∀ (qs:List QC) (ds:List QD),qs.length=ds.length→(∀ (k:Nat) (q:QC) (h:k < ds.length),qs[k]? = some q→xd w B q ds[k])→∀ (j:Nat) (u:Value) (d:D),(gc qs)[j]? = some u→(((ds.map gQ).map aE.d).flatten)[j]? = some d→d7 w F u d
 | [],_,_,_,j,u,d,h,_=>by simp [gc] at h
 | q::qs,[],hl,_,_,_,_,_,_=>by simp at hl
 | q::qs,x::ds,hl,he,j,u,d,h1,h2=>by
  obtain ⟨p1,p2,p3,p4⟩:=he 0 q (by simp) rfl
  dsimp only [List.getElem_cons_zero] at p1 p2 p3 p4
  match j with
  | 0 =>
   simp [gc,L0,aE.d,gQ] at h1 h2
   subst h1
   subst h2
   have:q.p=bT x.path:=Z3 (by rw [p1]; simp [bT])
   rw [this]
   exact .v _ rfl
  | 1 =>
   simp [gc,L0,aE.d,gQ] at h1 h2
   subst h1
   subst h2
   have:=En (F:=F) p4 (es:=(x.caps.map gP).map eE.d) (by rw [p3]; simp) (fun y hy=>by obtain ⟨z,_,rfl⟩:=List.mem_map.1 hy; rfl) (Nj _) hF (I4 x.caps)
   simpa using this
  | 2 =>
   simp [gc,L0,aE.d,gQ] at h1 h2
   subst h1
   subst h2
   rw [p2]
   exact .v _ rfl
  | j + 3 =>
   refine Si hF qs ds (by simpa using hl) (fun k q' h hq=>?_) j u d (by simpa [gc,L0] using h1) (by simpa [aE.d] using h2)
   have:=he (k + 1) q' (by simpa using h) (by simpa using hq)
   simpa using this
theorem Wn:∀ (qs:List QC) (ds:List QD),qs.length=ds.length→(gc qs).length=(((ds.map gQ).map aE.d).flatten).length
 | [],[],_=>rfl
 | [],_ :: _,h=>by simp at h
 | _ :: _,[],h=>by simp at h
 | q::qs,d::ds,h=>by
  have:=Wn qs ds (by simpa using h)
  simp [gc,L0,aE.d] at this ⊢
  omega
theorem SW:∀ xs:List Int,(xs.map iD).flatten=xs.map (fun n=>D.v (.int .i64 n))
 | []=>rfl
 | x::xs=>by
  show [D.v (.int .i64 x)] ++ (xs.map iD).flatten = _
  rw [SW xs]
  rfl
theorem YT {w:World} {G:Nat→Prop} {v:Value} {xs:List Int} (hG:∀ g,G g→g < w.heap.size) (h:d7 w G v (.sl (xs.map iD))) : Rd w v (xs.map (Value.int .i64))∧xs.length≤9223372036854775807:=by
 have hfl:=SW xs
 cases h with
 | sl A n c k es us hn hc hm hk hA hA0 hcell hrep =>
  have hn2:n=(xs.map (Value.int .i64)).length:=by rw [hn]; simp
  refine ⟨⟨A,c,by rw [hn2],by omega,hm,fun h0=>?_⟩,by have h9:maxLen=9223372036854775807:=(by decide); rw [List.length_map] at hn2; omega⟩
  obtain ⟨a,ha,hGa⟩:=hA (by omega)
  refine ⟨a,ha,hG _ hGa,fun j u hj=>?_⟩
  rw [List.getElem?_map] at hj
  cases hx:xs[j]? with
  | none=>rw [hx] at hj; cases hj
  | some x =>
   rw [hx] at hj
   injection hj with hj
   subst hj
   have hd:(xs.map iD).flatten[j]? = some (.v (.int .i64 x)):=by rw [hfl,List.getElem?_map,hx]; rfl
   have h1:=hcell a j _ ha hd
   have h2:=hrep j _ hd
   rw [h1]
   generalize us j=y at h2
   cases h2 with
   | v y hy=>rfl
theorem Ik:∀ l:List Tx,(l.map sv).length=(((l.map bT).map sD).flatten).length
 | []=>rfl
 | x::l=>by
  simp only [List.map_cons,List.flatten_cons,List.length_append,List.length_cons]
  rw [Ik l]
  show _ = 1 + _
  omega
theorem VJ:bR prog 23 [.lf (.int .i64),.lf (.sl (.int .i64))] [.ag 5] (fun x=>ga x.1 x.2.1):=by
 rintro ⟨sh,xs,⟨⟩⟩ z hF
 change Int at sh
 change List Int at xs
 refine ⟨fun _=>⟨by kernel_rfl,fun w G vs hG hr=>?_⟩,fun h=>(by cases h)⟩
 have hvl:vs.toList.length=2:=hr.len
 obtain ⟨a,v,hv⟩ : ∃ a v,vs = #[a,v]:=by
  match hv:vs.toList,hvl with
  | [a,v],_=>exact ⟨a,v,by apply Array.ext'; simpa using hv⟩
 subst hv
 have ha:a = .int .i64 sh:=(aR.vv (hr.rep 0 a _ rfl rfl)).1
 subst ha
 have hd:d7 w G v (.sl (xs.map iD)):=by
  have h:=hr.rep 1 v _ rfl rfl
  cases h with
  | d _ _ h=>exact h
 obtain ⟨hrd,hlen⟩:=YT hG hd
 refine (VK sh v xs w hrd hlen).mono ?_
 rintro e w' ⟨nl,h1,h2,vl,vq,ds,qs,B,rfl,hB,hl,hq,hgi,hx,he⟩
 have hz:z=gC nl ds:=by
  have:ga sh xs=some z:=hF
  rw [he] at this
  injection this with this
  exact this.symm
 subst hz
 refine ⟨_,fun g=>G g∨(w.heap.size≤g∧g < w'.heap.size),rfl,hx,fun g hg=>.inl hg,fun g hg=>hg.elim (fun h=>Nat.lt_of_lt_of_le (hG g h) hx.size) (fun h=>h.2),fun g hg=>hg.elim .inl (fun h=>.inr h.1),?_⟩
 have dl:d7 w' (fun g=>G g∨(w.heap.size≤g∧g < w'.heap.size)) vl (.sl (((CX nl).map bT).map sD)) :=
  En hl (by simp [qR h2]) (fun x hx=>by obtain ⟨y,_,rfl⟩:=List.mem_map.1 hx; rfl) (Ik _) (fun g h3 h4=>.inr ⟨h3,h4⟩) (Il _)
 have dq:d7 w' (fun g=>G g∨(w.heap.size≤g∧g < w'.heap.size)) vq (.sl ((ds.map gQ).map aE.d)) :=
  En hq.row (by simp) (fun x hx=>by obtain ⟨y,_,rfl⟩:=List.mem_map.1 hx; rfl) (Wn _ _ hq.len) (fun g h3 h4=>.inr ⟨Nat.le_trans hB h3,h4⟩) (Si (fun g h3 h4=>.inr ⟨Nat.le_trans hB h3,h4⟩) qs ds hq.len hq.each)
 show aR ρNone eb w' _ _ (.ag [.d (.sl (((CX nl).map bT).map sD)),.d (.sl ((ds.map gQ).map aE.d))])
 refine .ag #[vl,vq] _ rfl (fun x hx=>?_) (fun j x c h3 h4=>?_)
 ·simp at hx
  rcases hx with rfl | rfl
  ·exact dl.one
  ·exact dq.one
 ·match j with
  | 0 =>
   obtain rfl : _ = x:=by simpa using h3
   cases h4
   exact .d _ _ dl
  | 1 =>
   obtain rfl : _ = x:=by simpa using h3
   cases h4
   exact .d _ _ dq
  | j + 2=>simp at h3
noncomputable def Yl:Ent:=⟨[.ag 16],[.ag 12],fun x=>cQ x.1⟩
theorem Yk:bR prog 7 [.ag 16] [.ag 12] (fun x=>cQ x.1):=Aw VJ
noncomputable def qF (x:cE [.ag 16,.ag 8,.lf (.int .i64),.lf (.int .i64)]) : Option (bl [.lf (.bool)]):=jm ⟨prog,[(5,OK),(6,ud),(7,Yl),(9,Ay),(8,RT),(10,Ls),(11,Jn),(12,Gj),(13,HH),(14,Gp)],122,[.lf (.bool)],[.tmp 8],[],[],[]⟩ ((Tryz.f3).body.getD .skip) (.n) [.ag 16,.ag 8,.lf (.int .i64),.lf (.int .i64)] x
theorem GX:bR prog 3 [.ag 16,.ag 8,.lf (.int .i64),.lf (.int .i64)] [.lf (.bool)] qF:=cF (n:=122) (.cons (OJ) (.cons (Dh) (.cons (Yk) (.cons (Ax) (.cons (RS) (.cons (Lr) (.cons (Jm) (.cons (Q4) (.cons (HF) (.cons (Gn) (.nil))))))))))) Tryz.mixed Tryz.func3 rfl (by kernel_rfl) rfl rfl rfl (fun _=>rfl)
section
open Go.ChangeShapes Go.WideShapes Go.ChangeAt Go.RowKit Go.Deep
section
variable {H:Type} {enc:TypeId×Value→H} {P:Program} {w:World} {base:Nat} {spare:Nat→Bool} {held:Bool} {r:Reach} {b0:Nat}
end
end
section
open Go.ChangeShapes Go.WideShapes Go.ChangeAt Go.RowKit Go.Deep
instance :Inhabited D:=⟨.v (.int .i64 0)⟩
inductive Fm where
 | int | str | bool | u8
 | sl (es:List Fm)
inductive Shp:Fm→D→Prop
 | int (z:Int) (h:(Lit.int .i64 z).wf=true) : Shp .int (.v (.int .i64 z))
 | str (s:ByteArray) (h:s.size≤maxLen) : Shp .str (.v (.string s))
 | bool (b:Bool) : Shp .bool (.v (.bool b))
 | u8 (z:Int) (h:(Lit.int .u8 z).wf=true) : Shp .u8 (.v (.int .u8 z))
 | sl (ts:List Fm) (es:List (List D)) (hl:∀ e∈es,e.length=ts.length) (h:∀ (e:List D),e∈es→∀ (j:Nat) (T:Fm) (d:D),ts[j]? = some T→e[j]? = some d→Shp T d) (hm:es.length≤maxLen) : Shp (.sl ts) (.sl es)
def uc (P:Program) (t:TypeId) (ts:List Fm) : Prop :=
 ∀ (H:Type) (enc:TypeId×Value→H) (w:World) (base:Nat) (spare:Nat→Bool) (held:Bool) (fuel:Nat) (cs:List Value) (x:DataW H×List MemPlace),DataW.trod enc P w base spare held fuel t cs=some x →
  cs.length=ts.length∧∀ (j:Nat) (T:Fm),ts[j]? = some T→∃ c d,cs[j]? = some c∧d7 w (· < w.heap.size) c d∧Shp T d
theorem ew {P:Program} {t:TypeId} (ht:P.underlying t=some (.int .i64)) : uc P t [.int]:=by
 intro H enc w base spare held fuel cs x h
 obtain ⟨z,rfl,_,hz⟩:=DataW.trod_int ht h
 refine ⟨rfl,fun j T hj=>?_⟩
 match j,hj with
 | 0,hj =>
  cases hj
  exact ⟨_,_,rfl,.v _ rfl,.int z hz⟩
theorem o6 {P:Program} {t:TypeId} {fs:Array Field} {ts:List Fm} (ht:P.underlying t=some (.struct fs)) (hk:P.cellsOf t=ts.length)
  (hcov:∀ j T,ts[j]? = some T→∃ (i:Nat) (f:Field) (kf:Nat) (us:List Fm),fs[i]? = some f∧f.offset≤j∧j < f.offset + kf∧P.cellsOf f.type=kf∧uc P f.type us∧us[j - f.offset]? = some T) : uc P t ts:=by
 intro H enc w base spare held fuel cs x h
 obtain ⟨xs,n,_,rfl,hl,hlen,hf⟩:=DataW.trod_struct ht h
 refine ⟨by rw [hl,hk],fun j T hj=>?_⟩
 obtain ⟨i,f,kf,us,hi,h1,h2,h3,h4,h5⟩:=hcov j T hj
 have hfi:=hf i f hi
 have hlt:i < xs.length:=by rw [hlen]; exact (Array.getElem?_eq_some_iff.1 hi).1
 rw [zq hlt,h3] at hfi
 obtain ⟨_,hz⟩:=h4 H enc w base spare held n _ _ hfi
 obtain ⟨c,d,hc,hd,hs⟩:=hz (j - f.offset) T h5
 rw [List.getElem?_take_of_lt (by omega),List.getElem?_drop,show f.offset + (j - f.offset)=j by omega] at hc
 exact ⟨c,d,hc,hd,hs⟩
theorem Zk {α : Type} (k:Nat) (es:List (List α)) (h:∀ e∈es,e.length=k) : es.flatten.length=es.length * k:=by
 induction es with
 | nil=>simp
 | cons e es ih =>
  rw [List.flatten_cons,List.length_append,ih (fun x hx=>h x (List.mem_cons_of_mem _ hx)),h e List.mem_cons_self,List.length_cons,Nat.add_mul]
  omega
theorem B9 {P:Program} {t e:TypeId} {ts:List Fm} (ht:P.underlying t=some (.slice e)) (hc:P.cellsOf e=ts.length) (hk : 0 < ts.length) (he:uc P e ts) : uc P t [.sl ts]:=by
 intro H enc w base spare held fuel cs x hf
 rcases open_slice ht hf with ⟨rfl,_⟩ | ⟨a,len,cap,m,n,Dz,Pl,rfl,hb,hl,hm,hmm,_,hx⟩
 ·refine ⟨rfl,fun j T hj=>?_⟩
  match j,hj with
  | 0,hj =>
   cases hj
   exact ⟨_,.sl [],rfl,.sl none 0 0 0 [] (fun _=>.int .i64 0) rfl (Nat.le_refl _) (by simp [maxLen]) (by simp) (fun h=>absurd h (by omega)) (fun _=>rfl) (by simp) (by simp),.sl ts [] (by simp) (by simp) (by simp)⟩
 ·have hlm:len≤m:=by rw [hmm]; split <;> omega
  have each:∀ i,i < m→∃ q:Nat→D,∀ j T,ts[j]? = some T→∃ c,w.cell? (a.add (i * ts.length + j))=some c∧d7 w (· < w.heap.size) c (q j)∧Shp T (q j):=by
   intro i hi
   obtain ⟨cs',h1,h2⟩:=hx i hi
   rw [hc] at h1
   obtain ⟨_,hlen,hcell⟩:=World.cells?_some h1
   obtain ⟨_,hz⟩:=he _ _ _ _ _ _ _ _ _ h2
   have:∀ j,j < ts.length→∃ d,∀ T,ts[j]? = some T→∃ c,w.cell? (a.add (i * ts.length + j))=some c∧d7 w (· < w.heap.size) c d∧Shp T d:=by
    intro j hj
    obtain ⟨c,d,c1,c2,c3⟩:=hz j ts[j] (zq hj)
    refine ⟨d,fun T hT=>⟨c,?_,c2,?_⟩⟩
    ·have c0:=hcell j hj
     rw [Go.Deep.add_add] at c0
     rw [c0,c1]
    ·rw [zq hj] at hT
     cases hT
     exact c3
   obtain ⟨q,hq⟩:=choose_lt this
   exact ⟨q,fun j T hT=>hq j (by rcases Nat.lt_or_ge j ts.length with h | h; exact h; rw [List.getElem?_eq_none h] at hT; cases hT) T hT⟩
  obtain ⟨q,hq⟩:=choose_lt each
  let row (i:Nat) : List D:=(List.range ts.length).map (q i)
  let es:=(List.range len).map row
  have hrow:∀ x∈es,x.length=ts.length:=by
   intro x hx
   obtain ⟨i,_,rfl⟩:=List.mem_map.1 hx
   simp [row]
  have hcell:∀ j d,es.flatten[j]? = some d→∃ c,w.cell? (a.add j)=some c∧d7 w (· < w.heap.size) c d:=by
   intro j d hj
   have hlt:j < len * ts.length:=by
    have:=(zg.1 hj).1
    rw [Zk ts.length es hrow] at this
    simpa [es] using this
   have hi:j / ts.length < len:=(Nat.div_lt_iff_lt_mul hk).2 hlt
   have hmod:=Nat.mod_lt j hk
   have hdm:j / ts.length * ts.length + j % ts.length=j:=by rw [Nat.mul_comm]; exact Nat.div_add_mod j _
   have hfl:=yV ts.length es hrow (j / ts.length) (row (j / ts.length)) (by simp [es,hi]) (j % ts.length) hmod
   rw [hdm,hj] at hfl
   have hd:d=q (j / ts.length) (j % ts.length):=by simpa [row,hmod] using hfl
   obtain ⟨c,c1,c2,_⟩:=hq (j / ts.length) (by omega) (j % ts.length) _ (zq hmod)
   rw [hdm] at c1
   exact ⟨c,c1,hd ▸ c2⟩
  refine ⟨rfl,fun j T hj=>?_⟩
  match j,hj with
  | 0,hj =>
   cases hj
   refine ⟨_,.sl es,rfl,.sl (some a) len cap ts.length es (fun j=>(w.cell? (a.add j)).getD (.int .i64 0)) (by simp [es]) hl hm hrow (fun hn=>⟨a,rfl,?_⟩) (fun h=>by cases h) (fun a' j d ha hj=>?_) (fun j d hj=>?_),.sl ts es hrow (fun x hx j T d hT hd=>?_) (by simp [es]; omega)⟩
   ·obtain ⟨c,c1,_⟩:=hq 0 (by omega) 0 _ (zq hk)
    have:=World.block_lt_of_cell? w _ c1
    rwa [show (a.add (0 * ts.length + 0)).block=a.block by unfold Addr.add; split <;> rfl] at this
   ·cases ha
    obtain ⟨c,c1,_⟩:=hcell j d hj
    rw [c1]
    rfl
   ·obtain ⟨c,c1,c2⟩:=hcell j d hj
    rw [c1]
    exact c2
   ·obtain ⟨i,hi,rfl⟩:=List.mem_map.1 hx
    have hi:i < len:=List.mem_range.1 hi
    have hjt:j < ts.length:=(zg.1 hT).1
    have hd:d=q i j:=by simpa [row,hjt] using hd.symm
    obtain ⟨c,_,_,c3⟩:=hq i (by omega) j T hT
    exact hd ▸ c3
section
variable {H:Type} {enc:TypeId×Value→H} {P:Program} {w:World} {base:Nat} {spare:Nat→Bool} {held:Bool} {r:Reach} {b0:Nat}
theorem Sq {t:TypeId} {fs:Array Field} {ts:List Fm} {v:Value} {d:DataW H} {ps:List MemPlace} (ht:P.underlying t=some (.struct fs)) (ho:uc P t ts) (hv:Value.okWide P w r b0 t v) (h:DataW.Trod enc P w base spare held t v d ps) :
  ∃ ds:List D,ds.length=ts.length∧(∀ (j:Nat) (T:Fm),ts[j]? = some T→∃ e,ds[j]? = some e∧Shp T e)∧aR ρNone eb w (· < w.heap.size) v (.ag (ds.map .d)):=by
 obtain ⟨cs,rfl,_⟩:=okWide_struct ht hv
 obtain ⟨fuel,hf⟩:=h
 simp only [Value.cells] at hf
 obtain ⟨hl,hz⟩:=ho _ _ _ _ _ _ _ _ _ hf
 have:∀ j,j < ts.length→∃ d,∀ T,ts[j]? = some T→∃ c,cs.toList[j]? = some c∧d7 w (· < w.heap.size) c d∧Shp T d:=by
  intro j hj
  obtain ⟨c,d,c1,c2,c3⟩:=hz j ts[j] (zq hj)
  refine ⟨d,fun T hT=>⟨c,c1,c2,?_⟩⟩
  rw [zq hj] at hT
  cases hT
  exact c3
 obtain ⟨q,hq⟩:=choose_lt this
 refine ⟨(List.range ts.length).map q,by simp,fun j T hT=>?_,.ag cs _ (by simp; simpa using hl) (fun x hx=>?_) (fun j x c hx hc=>?_)⟩
 ·have hj:j < ts.length:=(zg.1 hT).1
  obtain ⟨c,_,_,c3⟩:=hq j hj T hT
  exact ⟨q j,by simp [hj],c3⟩
 ·obtain ⟨j,hj,rfl⟩:=List.getElem_of_mem (Array.mem_toList_iff.2 hx)
  have hj':j < ts.length:=by rw [← hl]; exact hj
  obtain ⟨c,c1,c2,_⟩:=hq j hj' _ (zq hj')
  rw [zq hj] at c1
  cases c1
  exact c2.one
 ·have hj:j < ts.length:=by
   have:=(Array.getElem?_eq_some_iff.1 hx).1
   rw [← hl]
   simpa using this
  obtain ⟨c',c1,c2,_⟩:=hq j hj _ (zq hj)
  rw [Array.getElem?_toList,hx] at c1
  cases c1
  have:c = .d (q j):=by simpa [hj] using hc.symm
  subst this
  exact .d _ _ c2
end
theorem Sd {α : Type} {f : α→List D} {Q : α→Prop} : ∀ (es:List (List D)),(∀ e∈es,∃ x,e=f x∧Q x)→∃ l:List α,es=l.map f∧∀ x∈l,Q x
 | [],_=>⟨[],rfl,by simp⟩
 | e::es,h=>by
  obtain ⟨x,rfl,hq⟩:=h e List.mem_cons_self
  obtain ⟨l,rfl,hl⟩:=Sd es (fun y hy=>h y (List.mem_cons_of_mem _ hy))
  refine ⟨x::l,rfl,?_⟩
  intro y hy
  rcases List.mem_cons.1 hy with rfl | hy
  ·exact hq
  ·exact hl y hy
theorem YY {P:Program} {f:FuncId} {args:List PV} {b:Bool} (h:PC P f args (.d (.v (.bool b)))) (w:World) (vs:Array Value) (hr:cG ρNone eb w (· < w.heap.size) vs.toList args) :
  Calls P f vs w fun e w'=>e = .returned (.bool b)∧Below w.heap.size w w':=by
 refine (h.2 w _ vs (fun _ h=>h) hr).mono ?_
 rintro e w' ⟨v,F',rfl,hx,_,_,_,hp⟩
 refine ⟨?_,hx⟩
 cases hp with
 | d _ _ h=>cases h with
  | v=>rfl
end
section
open Go.ChangeShapes Go.WideShapes Go.ChangeAt Go.RowKit Go.Deep
theorem ko {d:D} (h:Shp .int d) : ∃ z,d = .v (.int .i64 z)∧(Lit.int .i64 z).wf=true:=by
 cases h with
 | int z h=>exact ⟨z,rfl,h⟩
def wfI (z:Int) : Prop:=(Lit.int .i64 z).wf=true
theorem Wj {α : Type} {f : α→List D} {Q : α→Prop} {ts:List Fm} {d:D} (hf:∀ e:List D,e.length=ts.length→(∀ (j:Nat) (T:Fm),ts[j]? = some T→∃ d,e[j]? = some d∧Shp T d)→∃ x,e=f x∧Q x) (h:Shp (.sl ts) d) : ∃ l:List α,d = .sl (l.map f)∧(∀ z∈l,Q z)∧l.length≤maxLen:=by
 cases h with
 | sl _ es hl h hm =>
  obtain ⟨l,rfl,hq⟩:=Sd (f:=f) (Q:=Q) es (fun e he=>hf e (hl e he) fun j T hT=>by
   have hj:j < e.length:=by rw [hl e he]; exact (zg.1 hT).1
   exact ⟨e[j],zq hj,h e he j T _ hT (zq hj)⟩)
  exact ⟨l,rfl,hq,by simpa using hm⟩
theorem aas {e:List D} (hl:e.length=1) (h:∀ (j:Nat) (T:Fm),[Fm.int][j]? = some T→∃ d,e[j]? = some d∧Shp T d) : ∃ x:Int,e = [.v (.int .i64 x)]∧wfI x:=by
 match e,hl with
 | [d],_ =>
  obtain ⟨d',hd,s⟩:=h 0 _ rfl
  cases hd
  cases s with
  | int z hz=>exact ⟨z,rfl,hz⟩
theorem Pt:uc prog 22 [.sl [.int]]:=B9 Tryz.underlying22 (by kernel_rfl) (by decide) (ew Tryz.underlying3)
theorem Wb {d:D} (h:Shp (.sl [.int]) d) : ∃ l:List Int,d = .sl (l.map iD)∧(∀ z∈l,wfI z)∧l.length≤maxLen:=Wj (ts:=[.int]) (f:=iD) (Q:=fun z=>wfI z) (fun _ hl h=>aas hl h) h
def aY.ok (x:aY) : Prop:=wfI x.iy∧wfI x.fA∧wfI x.fB∧wfI x.fC∧wfI x.fD
theorem CV:uc prog 75 [.int,.int,.int,.int,.int]:=o6 Tryz.underlying75 (by kernel_rfl) fun j T hj=>by
 match j,hj with
 | 0,hj=>exact ⟨0,_,1,[.int],rfl,by decide,by decide,by kernel_rfl,(ew Tryz.underlying3),hj⟩
 | 1,hj=>exact ⟨1,_,1,[.int],rfl,by decide,by decide,by kernel_rfl,(ew Tryz.underlying3),hj⟩
 | 2,hj=>exact ⟨2,_,1,[.int],rfl,by decide,by decide,by kernel_rfl,(ew Tryz.underlying3),hj⟩
 | 3,hj=>exact ⟨3,_,1,[.int],rfl,by decide,by decide,by kernel_rfl,(ew Tryz.underlying3),hj⟩
 | 4,hj=>exact ⟨4,_,1,[.int],rfl,by decide,by decide,by kernel_rfl,(ew Tryz.underlying3),hj⟩
theorem JV {e:List D} (hl:e.length=5) (h:∀ (j:Nat) (T:Fm),([.int,.int,.int,.int,.int] : List Fm)[j]? = some T→∃ d,e[j]? = some d∧Shp T d) : ∃ x:aY,e=aY.d x∧x.ok:=by
 match e,hl with
 | [d0,d1,d2,d3,d4],_ =>
  obtain ⟨_,e0,s0⟩:=h 0 _ rfl
  cases e0
  obtain ⟨_,e1,s1⟩:=h 1 _ rfl
  cases e1
  obtain ⟨_,e2,s2⟩:=h 2 _ rfl
  cases e2
  obtain ⟨_,e3,s3⟩:=h 3 _ rfl
  cases e3
  obtain ⟨_,e4,s4⟩:=h 4 _ rfl
  cases e4
  obtain ⟨z0,rfl,k0⟩:=ko s0
  obtain ⟨z1,rfl,k1⟩:=ko s1
  obtain ⟨z2,rfl,k2⟩:=ko s2
  obtain ⟨z3,rfl,k3⟩:=ko s3
  obtain ⟨z4,rfl,k4⟩:=ko s4
  exact ⟨⟨z0,z1,z2,z3,z4⟩,rfl,⟨k0,k1,k2,k3,k4⟩⟩
theorem AZ:uc prog 23 [.sl [.int,.int,.int,.int,.int]]:=B9 Tryz.underlying23 (by kernel_rfl) (by decide) CV
theorem D4 {d:D} (h:Shp (.sl [.int,.int,.int,.int,.int]) d) : ∃ l:List aY,d = .sl (l.map aY.d)∧(∀ z∈l,aY.ok z)∧l.length≤maxLen:=Wj (ts:=[.int,.int,.int,.int,.int]) (f:=aY.d) (Q:=fun z=>aY.ok z) (fun _ hl h=>JV hl h) h
def aK.ok (x:aK) : Prop:=wfI x.J8∧(∀ z∈x.fNs,wfI z)∧x.fNs.length≤maxLen∧(∀ z∈x.mC,aY.ok z)∧x.mC.length≤maxLen
theorem xx:uc prog 25 [.int,.sl [.int],.sl [.int,.int,.int,.int,.int]]:=o6 Tryz.underlying25 (by kernel_rfl) fun j T hj=>by
 match j,hj with
 | 0,hj=>exact ⟨0,_,1,[.int],rfl,by decide,by decide,by kernel_rfl,(ew Tryz.underlying3),hj⟩
 | 1,hj=>exact ⟨1,_,1,[.sl [.int]],rfl,by decide,by decide,by kernel_rfl,Pt,hj⟩
 | 2,hj=>exact ⟨2,_,1,[.sl [.int,.int,.int,.int,.int]],rfl,by decide,by decide,by kernel_rfl,AZ,hj⟩
theorem CW {e:List D} (hl:e.length=3) (h:∀ (j:Nat) (T:Fm),([.int,.sl [.int],.sl [.int,.int,.int,.int,.int]] : List Fm)[j]? = some T→∃ d,e[j]? = some d∧Shp T d) : ∃ x:aK,e=aK.d x∧x.ok:=by
 match e,hl with
 | [d0,d1,d2],_ =>
  obtain ⟨_,e0,s0⟩:=h 0 _ rfl
  cases e0
  obtain ⟨_,e1,s1⟩:=h 1 _ rfl
  cases e1
  obtain ⟨_,e2,s2⟩:=h 2 _ rfl
  cases e2
  obtain ⟨z0,rfl,k0⟩:=ko s0
  obtain ⟨z1,rfl,k1,m1⟩:=Wb s1
  obtain ⟨z2,rfl,k2,m2⟩:=D4 s2
  exact ⟨⟨z0,z1,z2⟩,rfl,⟨k0,k1,m1,k2,m2⟩⟩
def au.ok (x:au) : Prop:=wfI x.bg∧wfI x.aI
theorem Ep:uc prog 27 [.int,.int]:=o6 Tryz.underlying27 (by kernel_rfl) fun j T hj=>by
 match j,hj with
 | 0,hj=>exact ⟨0,_,1,[.int],rfl,by decide,by decide,by kernel_rfl,(ew Tryz.underlying3),hj⟩
 | 1,hj=>exact ⟨1,_,1,[.int],rfl,by decide,by decide,by kernel_rfl,(ew Tryz.underlying3),hj⟩
def ai.ok (x:ai) : Prop:=wfI x.fId∧wfI x.aA∧wfI x.aB∧wfI x.aP∧au.ok x.a8
theorem Ml:uc prog 29 [.int,.int,.int,.int,.int,.int]:=o6 Tryz.underlying29 (by kernel_rfl) fun j T hj=>by
 match j,hj with
 | 0,hj=>exact ⟨0,_,1,[.int],rfl,by decide,by decide,by kernel_rfl,(ew Tryz.underlying3),hj⟩
 | 1,hj=>exact ⟨1,_,1,[.int],rfl,by decide,by decide,by kernel_rfl,(ew Tryz.underlying3),hj⟩
 | 2,hj=>exact ⟨2,_,1,[.int],rfl,by decide,by decide,by kernel_rfl,(ew Tryz.underlying3),hj⟩
 | 3,hj=>exact ⟨3,_,1,[.int],rfl,by decide,by decide,by kernel_rfl,(ew Tryz.underlying3),hj⟩
 | 4,hj=>exact ⟨4,_,2,[.int,.int],rfl,by decide,by decide,by kernel_rfl,Ep,hj⟩
 | 5,hj=>exact ⟨4,_,2,[.int,.int],rfl,by decide,by decide,by kernel_rfl,Ep,hj⟩
theorem WK {e:List D} (hl:e.length=6) (h:∀ (j:Nat) (T:Fm),([.int,.int,.int,.int,.int,.int] : List Fm)[j]? = some T→∃ d,e[j]? = some d∧Shp T d) : ∃ x:ai,e=ai.d x∧x.ok:=by
 match e,hl with
 | [d0,d1,d2,d3,d4,d5],_ =>
  obtain ⟨_,e0,s0⟩:=h 0 _ rfl
  cases e0
  obtain ⟨_,e1,s1⟩:=h 1 _ rfl
  cases e1
  obtain ⟨_,e2,s2⟩:=h 2 _ rfl
  cases e2
  obtain ⟨_,e3,s3⟩:=h 3 _ rfl
  cases e3
  obtain ⟨_,e4,s4⟩:=h 4 _ rfl
  cases e4
  obtain ⟨_,e5,s5⟩:=h 5 _ rfl
  cases e5
  obtain ⟨z0,rfl,k0⟩:=ko s0
  obtain ⟨z1,rfl,k1⟩:=ko s1
  obtain ⟨z2,rfl,k2⟩:=ko s2
  obtain ⟨z3,rfl,k3⟩:=ko s3
  obtain ⟨z4,rfl,k4⟩:=ko s4
  obtain ⟨z5,rfl,k5⟩:=ko s5
  exact ⟨⟨z0,z1,z2,z3,⟨z4,z5⟩⟩,rfl,⟨k0,k1,k2,k3,⟨k4,k5⟩⟩⟩
end
def eR (v_l:(List ai)) (af:Int) (v_t:Int) (st:au) (x_:ai) : Option ((au)⊕((au×Int))) :=
 let v_v:=st
 (if (x_.aA==af)=true then some (decide (x_.aB≤v_t)) else some false).bind fun q8=>(if q8=true then some (decide (v_t < x_.aP)) else some false).bind fun q9=>if q9=true then
 (df v_v x_.a8).bind fun c10=>let v_v:au:=c10
 some (.inl v_v)
 else
 some (.inl v_v)
theorem tV (v_l:(List ai)) (af:Int) (v_t:Int) (a_:au) (hl:v_l.length≤1000000) : ah (pk v_l af v_t) ab (a_,(0))=br (eR v_l af v_t) (fun a_=>(a_,((v_l.length:Int)))) a_ v_l :=
 az v_l (S:=au×Int) (fun a_ k_=>(a_,(k_))) (eR v_l af v_t) (fun a_=>(a_,((v_l.length:Int)))) (ao hl) (fun k a x hx=>by
  unfold pk eR; exact bJ)
  (fun a=>by unfold pk; exact cI) a_
def dx (v_l:(List ai)) (v_t:Int) (gZ:Int) (v_p:ai) (fY:au) (st:Unit) (x_:ai) : Option ((Unit)⊕((Int)⊕(Bool))) :=
 let v_u:Int:=x_.aB
 (if (decide (v_u > v_t))=true then some (decide ((i64.wrap (v_u - v_t)) < gZ)) else some false).bind fun q10=>(if q10=true then (rJ v_l v_p.aA v_u).bind fun c11=>(df c11 v_p.a8).bind fun c12=>(f4 c12 fY).bind fun c13=>some (!c13) else some false).bind fun q14=>if q14=true then
 some (.inr (.inr false))
 else
 some (.inl ())
theorem rc (v_l:(List ai)) (v_t:Int) (gZ:Int) (v_p:ai) (fY:au) (a_:Unit) (hl:v_l.length≤1000000) : ah (lX v_l v_t gZ v_p fY) ab (0)=br (dx v_l v_t gZ v_p fY) (fun a_=>(.inl ((v_l.length:Int)))) a_ v_l :=
 az v_l (S:=Int) (fun a_ k_=>(k_)) (dx v_l v_t gZ v_p fY) (fun a_=>(.inl ((v_l.length:Int)))) (ao hl) (fun k a x hx=>by
  unfold lX dx; exact bJ)
  (fun a=>by unfold lX; exact cI) a_
def iK (v_s:aa) (v_p:ai) (st:Int) (v_i:Int) (x_:ai) : Option ((Int)⊕((Int×Int)⊕(aa×Int×Int))) :=
 let v_k:=st
 if (x_.fId==v_p.fId)=true then
 some (.inr (.inr (v_s,0,7)))
 else
 if (decide (x_.fId < v_p.fId))=true then
 let v_k:Int:=(i64.wrap (v_i + 1))
 some (.inl v_k)
 else
 some (.inl v_k)
theorem BJ (v_s:aa) (v_p:ai) (a_:Int) (hl:v_s.al.length≤1000000) : ah (fV v_s v_p) ab (a_,(0))=nX (iK v_s v_p) (fun a_=>(.inl (a_,((v_s.al.length:Int))))) a_ 0 v_s.al :=
 fq v_s.al (S:=Int×Int) (fun a_ k_=>(a_,(k_))) (iK v_s v_p) (fun a_=>(.inl (a_,((v_s.al.length:Int))))) (ao hl) (fun k a x hx=>by
  unfold fV iK; exact bJ)
  (fun a=>by unfold fV; exact cI) a_
def dy (v_s:aa) (bw:Int) (st:(List ai)) (x_:ai) : Option (((List ai))⊕(((List ai)×Int))) :=
 let v_l:=st
 if (x_.fId != bw)=true then
 (aX v_l [x_]).bind fun b4=>let v_l:(List ai):=b4
 some (.inl v_l)
 else
 some (.inl v_l)
theorem rf (v_s:aa) (bw:Int) (a_:(List ai)) (hl:v_s.al.length≤1000000) : ah (lY v_s bw) ab (a_,(0))=br (dy v_s bw) (fun a_=>(a_,((v_s.al.length:Int)))) a_ v_s.al :=
 az v_s.al (S:=(List ai)×Int) (fun a_ k_=>(a_,(k_))) (dy v_s bw) (fun a_=>(a_,((v_s.al.length:Int)))) (ao hl) (fun k a x hx=>by
  unfold lY dy; exact bJ)
  (fun a=>by unfold lY; exact cI) a_
theorem Vz (l:List ai) (k t:Int) (hl:l.length≤1000000) : ∃ r,rJ l k t=some r:=by
 unfold rJ
 dsimp only
 rw [tV l k t _ hl]
 obtain ⟨r,e1,_⟩:=a7 (g:=eR l k t) (fin:=fun b=>(b,(l.length:Int))) (fun _ _=>True) (fun _=>True) l 0 (⟨0,0⟩ : au) (fun j b x hx _=>by
  unfold eR
  simp only [cS,zb,cW]
  split <;> exact ⟨_,rfl,fun _ _=>trivial,fun _ _=>trivial⟩) (fun _ _=>trivial) trivial
 rw [e1]
 exact ⟨_,rfl⟩
def AtV (l:List ai) (k t:Int) : au:=(rJ l k t).getD ⟨0,0⟩
theorem Jl (l:List ai) (k t:Int) (hl:l.length≤1000000) : rJ l k t=some (AtV l k t):=by
 obtain ⟨r,e⟩:=Vz l k t hl
 unfold AtV
 rw [e]
 rfl
theorem CA (n:Int) : vk n=some (decide (n≥0)&&decide (n≤1073741824)):=by unfold vk; simp only [cW,zb]
def ZZ (l:List ai) (v:au) (p:ai) (t n:Int) : Bool:=(ol l v p t n).getD false
theorem N6 (l:List ai) (v:au) (p:ai) (t n:Int) (hl:l.length≤1000000) : ol l v p t n=some (ZZ l v p t n):=by
 have:∃ r,ol l v p t n=some r:=by
  unfold ol
  simp only [Jl l _ _ hl,cS,ic,zb]
  split
  ·exact ⟨_,rfl⟩
  rw [rc l t n p v () hl]
  obtain ⟨r,e1,_⟩:=a7 (g:=dx l t n p v) (fin:=fun _=>(.inl (l.length:Int))) (fun _ _=>True) (fun _=>True) l 0 () (fun j b x hx _=>by
   unfold dx
   simp only [Jl l _ _ hl,cS,ic,zb,cW]
   split <;> exact ⟨_,rfl,fun _ _=>trivial,fun _ _=>trivial⟩) (fun _ _=>trivial) trivial
  rw [e1]
  cases r <;> exact ⟨_,rfl⟩
 obtain ⟨r,e⟩:=this
 unfold ZZ
 rw [e]
 rfl
theorem K8 (l:List ai) (v:au) (p:ai) (n:Int) (hl:l.length≤1000000) : ∃ r,nj l v p n=some r:=by
 unfold nj
 simp only [CA,zb,orB]
 split
 ·exact ⟨_,rfl⟩
 have hw:∀ k:Int,-1≤k→k≤1000000000→i64.wrap (k + 1)=k + 1:=fun k h1 h2=>nU (by omega) (by omega)
 obtain ⟨r,e1,_⟩:=aM (f:=iJ l p n v) (fun st=>-1≤st.2∧st.2≤(l.length:Int)) (fun st=>((l.length:Int) - st.2).toNat) (fun _=>True) (fun st ⟨h1,h2⟩=>by
  unfold iJ
  by_cases hlt:st.2 < (l.length:Int)
  ·have hn:((l.length:Int) - (st.2 + 1)).toNat < ((l.length:Int) - st.2).toNat:=by omega
   simp only [hlt,decide_true,if_true,N6 l _ _ _ _ hl,cW,orB,zb,hw _ h1 (by omega)]
   by_cases h0:st.2≥0
   ·obtain ⟨x,hx,_⟩:=ER h0 hlt
    simp only [h0,decide_true,if_true,hx,zb]
    split <;> exact .inl ⟨_,rfl,⟨by show -1≤st.2 + 1; omega,by show st.2 + 1≤_; omega⟩,hn⟩
   ·simp only [h0,decide_false,zf,if_false,zb]
    split <;> exact .inl ⟨_,rfl,⟨by show -1≤st.2 + 1; omega,by show st.2 + 1≤_; omega⟩,hn⟩
  ·simp only [hlt,decide_false,zf,if_false]
   exact .inr ⟨_,rfl,trivial⟩) ab (-1,-1) ⟨by simp,by show (-1:Int)≤_; omega⟩ (by show ((l.length:Int) - (-1)).toNat < ab; unfold ab; omega)
 rw [e1]
 simp only [zb]
 split <;> exact ⟨_,rfl⟩
theorem SzS.plan {B:Nat} {s:aa} (h:SzS B s) {l:List ai} (hl:l.length≤B) : SzS B { s with al:=l } := ⟨h.conf,h.nodes,h.apps,h.conts,h.slots,hl,h.app⟩
theorem Ro {B:Nat} {s:aa} (h:SzS B s) (hB:B + 1≤1000000) (p:ai) (n:Int) : ∃ r,nQ s p n=some r∧SzS (B + 1) r.1∧r.1.ac=s.ac∧r.1.ar=s.ar:=by
 have k1:=h.plans; have k2:=h.nodes.1
 have hm:=h.mono (Nat.le_succ B)
 unfold nQ
 simp only [zb,orB]
 split
 ·exact ⟨_,rfl,hm,rfl,rfl⟩
 rw [BJ s p 0 (by omega)]
 obtain ⟨r,e1,e2⟩:=mM (g:=iK s p) (fin:=fun b=>(.inl (b,(s.al.length:Int)))) (fun j b=>∃ K:Nat,b=(K:Int)∧K≤j) (fun r=>match r with | .inl m=>∃ K:Nat,m.1=(K:Int)∧K≤s.al.length | .inr m=>m.1=s) s.al 0 0 (fun j b x hx ⟨K,hK,hj⟩=>by
  have hj2:=(zg.1 hx).1
  unfold iK
  dsimp only
  split
  ·exact ⟨_,rfl,fun a' e=>(by cases e),fun r e=>(by injection e with e; subst e; rfl)⟩
  split
  ·refine ⟨_,rfl,fun a' e=>?_,fun r e=>by cases e⟩
   injection e with e
   subst e
   exact ⟨0 + j + 1,bb (by omega : 0 + j < 1000000) (Nat.le_refl _),Nat.le_refl _⟩
  ·refine ⟨_,rfl,fun a' e=>?_,fun r e=>by cases e⟩
   injection e with e
   subst e
   exact ⟨K,hK,by omega⟩) (fun b ⟨K,hK,hj⟩=>⟨K,hK,by omega⟩) ⟨0,rfl,Nat.le_refl _⟩
 rw [e1]
 simp only [zb]
 cases r with
 | inr m=>exact ⟨_,rfl,by rw [show m.1=s from e2]; exact hm,by rw [show m.1=s from e2],by rw [show m.1=s from e2]⟩
 | inl m =>
  obtain ⟨K,hK,hK2⟩:=e2
  obtain ⟨c,hc⟩:=K8 s.al (u5 s p.aA) p n (by omega)
  simp only [hK,oa s _ (Nat.le_trans k2 (by omega)),hc,zb]
  split
  ·exact ⟨_,rfl,hm,rfl,rfl⟩
  split
  ·exact ⟨_,rfl,hm,rfl,rfl⟩
  split
  ·exact ⟨_,rfl,hm,rfl,rfl⟩
  rw [lB hK2]
  simp only [zb]
  rw [aJ (by simp; omega)]
  simp only [zb]
  rw [aJ (by simp; omega)]
  simp only [zb]
  rw [i6 hK2]
  simp only [zb]
  rw [aJ (by simp; omega)]
  exact ⟨_,rfl,hm.plan (by simp; omega),rfl,rfl⟩
theorem Oa {B:Nat} {s:aa} (h:SzS B s) (hB:B≤1000000) (id:Int) : ∃ r,kl s id=some r∧SzS B r.1∧r.1.ac=s.ac∧r.1.ar=s.ar:=by
 have k1:=h.plans
 unfold kl
 dsimp only
 have e:dy s id=fun acc x=>if (x.fId != id)=true then (aX acc [id' x]).map (fun a=>(.inl a:List ai⊕(List ai×Int))) else some (.inl acc):=by
  funext acc x
  unfold dy
  dsimp only [id']
  split
  ·cases aX acc [x] <;> rfl
  ·rfl
 rw [rf s id [] (by omega),e,cd (fun c:ai=>c.fId != id) id' _ s.al [] (by simp; omega)]
 simp only [zb,List.nil_append,td]
 split
 ·exact ⟨_,rfl,h,rfl,rfl⟩
 ·exact ⟨_,rfl,h.plan (Nat.le_trans (List.length_filter_le _ _) k1),rfl,rfl⟩
noncomputable def Ma (a b:au) : Option au:=rL (a,(b,()))
noncomputable def JL (a b:au) : Option Bool:=rK (a,(b,()))
noncomputable def atP (l:List ai) (k t:Int) : Option au:=vC (l,(k,(t,())))
noncomputable def chP (l:List ai) (p:ai) : Option (List Int):=ny (l,(p,()))
noncomputable def inP (a b:Int) : Option Bool:=oL (a,(b,()))
noncomputable def P5 (p:ai) (n:Int) : Option Bool:=nz (p,(n,()))
noncomputable def Ei (l:List ai) (v:au) (p:ai) (n:Int) : Option (Int×Int):=qD (l,(v,(p,(n,()))))
theorem L9 (a b:au) : Ma a b=some (lI a b):=by kernel_rfl
theorem Wk (a b:au) : JL a b=Option.bind (if decide (a.bg≤b.bg)=true then some (decide (a.aI≤b.aI)) else some false) fun q=>some q:=by kernel_rfl
theorem TK (a b:au) : JL a b=some (G7 a b):=by rw [Wk]; unfold G7; simp only [cW,zb]
theorem abe (a b:Int) : inP a b=Option.bind (if decide (0≤a)=true then some (decide (a≤b)) else some false) fun q=>some q:=by kernel_rfl
def AO (a b:Int) : Bool:=decide (0≤a)&&decide (a≤b)
theorem W8 (a b:Int) : inP a b=some (AO a b):=by rw [abe]; unfold AO; simp only [cW,zb]
theorem XP (p:ai) (n:Int) : P5 p n=Option.bind (if decide (1≤n)=true then some (decide (n≤1000)) else some false) fun q=>Option.bind (if q=true then Option.bind (inP p.aB 1000000) fun r=>some r else some false) fun q=>Option.bind (if q=true then Option.bind (inP p.aP 1000000) fun r=>some r else some false) fun q=>Option.bind (if q=true then Option.bind (inP p.a8.bg 1073741824) fun r=>some r else some false) fun q=>Option.bind (if q=true then Option.bind (inP p.a8.aI 1073741824) fun r=>some r else some false) fun q=>some q:=by kernel_rfl
def ru (p:ai) (n:Int) : Bool:=decide (1≤n)&&decide (n≤1000)&&AO p.aB 1000000&&AO p.aP 1000000&&AO p.a8.bg 1073741824&&AO p.a8.aI 1073741824
theorem UE (p:ai) (n:Int) : P5 p n=some (ru p n):=by rw [XP]; unfold ru; simp only [W8,cW,zb]
def ia (o:ai) (k t:Int) : Bool:=(o.aA==k)&&decide (o.aB≤t)&&decide (t < o.aP)
def atV (l:List ai) (k t:Int) : au:=l.foldl (fun v o=>if ia o k t=true then lI v o.a8 else v) ⟨0,0⟩
theorem abs (l:List ai) (k t:Int) : atP l k t=Option.bind (ah (fun st:Int×au=>if decide (st.1 < (l.length:Int))=true then Option.bind (aw l st.1) fun x=>Option.bind (if (x.aA==k)=true then some (decide (x.aB≤t)) else some false) fun q=>Option.bind (if q=true then some (decide (t < x.aP)) else some false) fun q=>if q=true then Option.bind (Ma st.2 x.a8) fun r=>some (.inl (i64.wrap (st.1 + 1),r)) else some (.inl (i64.wrap (st.1 + 1),st.2)) else some (.inr (st.1,st.2))) ab ((0:Int),(⟨0,0⟩ : au))) fun st:Int×au=>some st.2:=by kernel_rfl
theorem aaO (l:List ai) (k t:Int) (hl:l.length≤1000000) : atP l k t=some (atV l k t):=by
 rw [abs]
 have h:=az l (S:=Int×au) (τ:=Int×au) (f:=fun st:Int×au=>if decide (st.1 < (l.length:Int))=true then Option.bind (aw l st.1) fun x=>Option.bind (if (x.aA==k)=true then some (decide (x.aB≤t)) else some false) fun q=>Option.bind (if q=true then some (decide (t < x.aP)) else some false) fun q=>if q=true then Option.bind (Ma st.2 x.a8) fun r=>some (.inl (i64.wrap (st.1 + 1),r)) else some (.inl (i64.wrap (st.1 + 1),st.2)) else some (.inr (st.1,st.2))) (fun a_ k_=>(k_,a_)) (fun v o=>some (.inl (if ia o k t=true then lI v o.a8 else v))) (fun a_=>((l.length:Int),a_)) (ao hl) (fun j a x hx=>by
  have hk:=(zg.1 hx).1
  simp only [bL hx,if_true,aH hx,zb,bb hk hl,cW,L9]
  change (if ia x k t=true then _ else _) = _
  cases ia x k t <;> rfl) (fun a=>by simp only [bF,zf,if_false]) (⟨0,0⟩ : au)
 rw [show ((0:Int),(⟨0,0⟩ : au))=(fun (a_:au) (k_:Int)=>(k_,a_)) ⟨0,0⟩ 0 from rfl,h,kJ]
 rfl
theorem XV (l:List ai) (k t:Int) (hl:l.length≤1000000) : rJ l k t=some (atV l k t):=by
 unfold rJ
 dsimp only
 rw [tV l k t _ hl,show eR l k t=fun v o=>some (.inl (if ia o k t=true then lI v o.a8 else v)) from by
  funext v o
  unfold eR
  simp only [cS,zb,cW]
  change (if ia o k t=true then _ else _) = _
  cases ia o k t <;> rfl,kJ]
 rfl
theorem UG (l:List ai) (k s u:Int) (h:∀ o∈l,ia o k s=ia o k u) : atV l k s=atV l k u:=by
 unfold atV
 have:∀ (l:List ai) (v:au),(∀ o∈l,ia o k s=ia o k u)→l.foldl (fun v o=>if ia o k s=true then lI v o.a8 else v) v=l.foldl (fun v o=>if ia o k u=true then lI v o.a8 else v) v:=by
  intro l
  induction l with
  | nil=>intro v _; rfl
  | cons o l ih =>
   intro v h
   rw [List.foldl_cons,List.foldl_cons,h o List.mem_cons_self]
   exact ih _ (fun o' ho=>h o' (List.mem_cons_of_mem _ ho))
 exact this l _ h
def Ju (p:ai) (z:Int) : Bool:=decide (p.aB < z)&&decide (z < p.aP)
def chs (p o:ai) : List Int:=[o.aB,o.aP].filter (Ju p)
theorem abp (l:List ai) (p:ai) : chP l p=Option.bind (ah (fun st:List Int×Int=>if decide (st.2 < (l.length:Int))=true then Option.bind (aw l st.2) fun o=>Option.bind (ah (fun st':List Int×Int=>if decide (st'.2 < 2)=true then Option.bind (aw [o.aB,o.aP] st'.2) fun z=>Option.bind (if decide (p.aB < z)=true then some (decide (z < p.aP)) else some false) fun q=>if q=true then Option.bind (aX st'.1 [z]) fun zs=>some (.inl (zs,i64.wrap (st'.2 + 1))) else some (.inl (st'.1,i64.wrap (st'.2 + 1))) else some (.inr (st'.1,st'.2))) ab (st.1,(0:Int))) fun r:List Int×Int=>some (.inl (r.1,i64.wrap (st.2 + 1))) else some (.inr (st.1,st.2))) ab ([p.aB],(0:Int))) fun st:List Int×Int=>Option.bind (Option.bind (O4 st.1) fun z=>some (z,())) fun r:List Int×Unit=>Option.bind (aX r.1 [p.aP]) fun zs=>some zs:=by kernel_rfl
theorem XJ (o p:ai) (acc:List Int) (h:acc.length + 2≤1000000) : ah (fun st':List Int×Int=>if decide (st'.2 < 2)=true then Option.bind (aw [o.aB,o.aP] st'.2) fun z=>Option.bind (if decide (p.aB < z)=true then some (decide (z < p.aP)) else some false) fun q=>if q=true then Option.bind (aX st'.1 [z]) fun zs=>some (.inl (zs,i64.wrap (st'.2 + 1))) else some (.inl (st'.1,i64.wrap (st'.2 + 1))) else some (.inr (st'.1,st'.2))) ab (acc,(0:Int))=some (acc++chs p o,(2:Int)):=by
 have h2:=az [o.aB,o.aP] (S:=List Int×Int) (τ:=List Int×Int) (f:=fun st':List Int×Int=>if decide (st'.2 < 2)=true then Option.bind (aw [o.aB,o.aP] st'.2) fun z=>Option.bind (if decide (p.aB < z)=true then some (decide (z < p.aP)) else some false) fun q=>if q=true then Option.bind (aX st'.1 [z]) fun zs=>some (.inl (zs,i64.wrap (st'.2 + 1))) else some (.inl (st'.1,i64.wrap (st'.2 + 1))) else some (.inr (st'.1,st'.2))) (fun a_ k_=>(a_,k_)) (fun acc z=>if Ju p z=true then (aX acc [id z]).map (fun a=>(.inl a:List Int⊕(List Int×Int))) else some (.inl acc)) (fun a_=>(a_,(2:Int))) (ao (n:=2) (by omega)) (fun j a x hx=>by
  have hk:j < 2:=(zg.1 hx).1
  have d:decide ((j:Int) < 2)=true:=by simp; omega
  have w:i64.wrap ((j:Int) + 1)=((j + 1:Nat) : Int):=bb hk (by omega)
  simp only [d,if_true,aH hx,zb,w,cW,id]
  change (if Ju p x=true then _ else _) = _
  cases Ju p x
  ·rfl
  ·cases h9:aX a [x] <;> simp [h9]) (fun a=>rfl) acc
 rw [show (acc,(0:Int))=(fun (a_:List Int) (k_:Int)=>(a_,k_)) acc 0 from rfl,h2,cd (Ju p) id _ [o.aB,o.aP] acc (by simpa using h),List.map_id]
 rfl
def OX (l:List ai) (p:ai) : List Int:=(p.aB::l.flatMap (chs p)).mergeSort (fun x y=>decide (x≤y)) ++ [p.aP]
theorem Kw (l:List ai) (p:ai) : (l.flatMap (chs p)).length≤2 * l.length:=by
 induction l with
 | nil=>simp
 | cons o l ih =>
  rw [List.flatMap_cons,List.length_append,List.length_cons]
  have:(chs p o).length≤2:=List.length_filter_le _ _
  omega
theorem aaL (l:List ai) (p:ai) (hl:l.length≤100000) : chP l p=some (OX l p):=by
 rw [abp]
 obtain ⟨r,h1,h2⟩:=aM (f:=fun st:List Int×Int=>if decide (st.2 < (l.length:Int))=true then Option.bind (aw l st.2) fun o=>Option.bind (ah (fun st':List Int×Int=>if decide (st'.2 < 2)=true then Option.bind (aw [o.aB,o.aP] st'.2) fun z=>Option.bind (if decide (p.aB < z)=true then some (decide (z < p.aP)) else some false) fun q=>if q=true then Option.bind (aX st'.1 [z]) fun zs=>some (.inl (zs,i64.wrap (st'.2 + 1))) else some (.inl (st'.1,i64.wrap (st'.2 + 1))) else some (.inr (st'.1,st'.2))) ab (st.1,(0:Int))) fun r:List Int×Int=>some (.inl (r.1,i64.wrap (st.2 + 1))) else some (.inr (st.1,st.2)))
  (fun st=>∃ k:Nat,st.2=(k:Int)∧k≤l.length∧st.1=p.aB::(l.take k).flatMap (chs p)) (fun st=>l.length - st.2.toNat) (fun r=>r.1=p.aB::l.flatMap (chs p)) (fun st ⟨k,e1,e2,e3⟩=>by
   simp only [e1]
   rcases Nat.lt_or_ge k l.length with hlt | hge
   ·have d1:decide ((k:Int) < (l.length:Int))=true:=by simpa using hlt
    have hc:=Kw (l.take k) p
    rw [List.length_take] at hc
    rw [if_pos d1,aH (zq hlt)]
    simp only [zb]
    rw [XJ _ p st.1 (by rw [e3,List.length_cons]; omega)]
    simp only [zb]
    rw [bb hlt (Nat.le_trans hl (by decide))]
    refine .inl ⟨_,rfl,⟨k + 1,rfl,hlt,?_⟩,by simp only [zt]; omega⟩
    rw [e3,List.take_succ_eq_append_getElem hlt,List.flatMap_append]
    simp
   ·have d1:decide ((k:Int) < (l.length:Int))=false:=by simp; omega
    rw [if_neg (by rw [d1]; decide)]
    refine .inr ⟨_,rfl,?_⟩
    show st.1 = _
    rw [e3,List.take_of_length_le hge]) ab ([p.aB],0) ⟨0,rfl,Nat.zero_le _,rfl⟩ (by have:=ao (Nat.le_trans hl (by decide)); show l.length - (0:Int).toNat < ab; omega)
 rw [h1]
 have hc:=Kw l p
 have hs:O4 r.1=some ((p.aB::l.flatMap (chs p)).mergeSort fun x y=>decide (x≤y)):=by
  unfold O4
  rw [h2,if_pos ⟨by simp,by rw [List.length_cons]; omega⟩]
 simp only [zb,hs]
 rw [aJ (by rw [List.length_mergeSort,List.length_cons]; simp only [List.length_cons,List.length_nil]; omega)]
 rfl
def wK (fr:Int→Bool) (n:Int) : Int→List Int→Int→Option Int
 | _,[],_=>none
 | c,x::r,s=>if (!fr c)=true then wK fr n x r x else if decide (x - s≥n)=true then some s else wK fr n x r s
def OkT (fr:Int→Bool) (a b n t:Int) : Prop:=a≤t∧t + n≤b∧∀ u,t≤u→u < t + n→fr u=true
def Swp (fr:Int→Bool) (a b n:Int) (o:Option Int) : Prop:=match o with
 | some t=>OkT fr a b n t∧∀ t',OkT fr a b n t'→t≤t'
 | none=>∀ t',¬ OkT fr a b n t'
theorem xj (fr:Int→Bool) (a b n:Int) (hn : 1≤n) : ∀ (r:List Int) (c s:Int),(∀ x∈r,c≤x)→r.Pairwise (· ≤ ·)→(∀ y∈c::r,y≤b)→b∈c::r →
  (∀ c'∈c::r,∀ u,c'≤u→u < b→(∀ y∈c::r,c' < y→u < y)→fr u=fr c')→a≤s→s≤c→(∀ u,s≤u→u < c→fr u=true)→(∀ t,OkT fr a b n t→s≤t)→c - s < n→Swp fr a b n (wK fr n c r s)
 | [],c,s,_,_,_,hm,_,_,_,_,h3,h4=>by
  have hc:b=c:=by simpa using hm
  intro t' ht
  have:=h3 t' ht
  have:=ht.2.1
  omega
 | x::r,c,s,h0,hp,hb,hm,hK,h1,hsc,h2,h3,h4=>by
  have hcx:=h0 x List.mem_cons_self
  have hxb:=hb x (List.mem_cons_of_mem _ List.mem_cons_self)
  have hp':=List.pairwise_cons.1 hp
  have hm':b∈x::r:=by
   rcases List.mem_cons.1 hm with e | e
   ·have:x=b:=by omega
    rw [this]; exact List.mem_cons_self
   ·exact e
  have hK':∀ c'∈x::r,∀ u,c'≤u→u < b→(∀ y∈x::r,c' < y→u < y)→fr u=fr c':=fun c' hc' u q1 q2 q3=>hK c' (List.mem_cons_of_mem _ hc') u q1 q2 fun y hy hlt=>by
   rcases List.mem_cons.1 hy with e | e
   ·have:=h0 c' hc'
    omega
   ·exact q3 y e hlt
  have hb':∀ y∈x::r,y≤b:=fun y hy=>hb y (List.mem_cons_of_mem _ hy)
  have hge:∀ y∈x::r,x≤y:=fun y hy=>by
   rcases List.mem_cons.1 hy with e | e
   ·omega
   ·exact hp'.1 y e
  have hcst:∀ u,c≤u→u < x→fr u=fr c:=fun u q1 q2=>hK c List.mem_cons_self u q1 (by omega) fun y hy hlt=>by
   rcases List.mem_cons.1 hy with e | e
   ·omega
   ·have:=hge y e
    omega
  unfold wK
  cases hf:fr c with
  | false =>
   rw [if_pos (by rfl)]
   refine xj fr a b n hn r x x hp'.1 hp'.2 hb' hm' hK' (by omega) (Int.le_refl _) (fun u q1 q2=>by omega) (fun t ht=>?_) (by omega)
   rcases Int.lt_or_le t x with hlt | hle
   ·exfalso
    have hst:=h3 t ht
    have hfu:=ht.2.2
    rcases Int.lt_or_le t c with q | q
    ·have:=hfu c (by omega) (by omega)
     rw [hf] at this
     cases this
    ·have e1:=hcst t q hlt
     have e2:=hfu t (Int.le_refl _) (by omega)
     rw [e1,hf] at e2
     cases e2
   ·exact hle
  | true =>
   rw [if_neg (by decide)]
   have h2':∀ u,s≤u→u < x→fr u=true:=fun u q1 q2=>by
    rcases Int.lt_or_le u c with q | q
    ·exact h2 u q1 q
    ·rw [hcst u q q2,hf]
   split
   ·rename_i hd
    have hd:x - s≥n:=zd hd
    exact ⟨⟨h1,by omega,fun u q1 q2=>h2' u q1 (by omega)⟩,h3⟩
   ·rename_i hd
    have hd : ¬ x - s≥n:=fun e=>hd (decide_eq_true e)
    exact xj fr a b n hn r x s hp'.1 hp'.2 hb' hm' hK' h1 (by omega) h2' h3 (by omega)
def frV (l:List ai) (v:au) (p:ai) (t:Int) : Bool:=G7 (lI (atV l p.aA t) p.a8) v
theorem OW (l:List ai) (p:ai) : ∃ S,(p.aB::l.flatMap (chs p)).mergeSort (fun x y=>decide (x≤y))=p.aB::S∧(∀ x∈S,p.aB≤x)∧S.Pairwise (· ≤ ·)∧(∀ x,x∈p.aB::S↔x∈p.aB::l.flatMap (chs p)):=by
 have hs:((p.aB::l.flatMap (chs p)).mergeSort (fun x y=>decide (x≤y))).Pairwise (fun x y=>decide (x≤y)=true):=List.pairwise_mergeSort (fun a b c h1 h2=>by simp only [decide_eq_true_eq] at h1 h2 ⊢; omega) (fun a b=>by simp only [Bool.or_eq_true,decide_eq_true_eq]; omega) _
 have hmem:∀ x,x∈(p.aB::l.flatMap (chs p)).mergeSort (fun x y=>decide (x≤y))↔x∈p.aB::l.flatMap (chs p):=fun x=>List.mem_mergeSort
 have hge:∀ x∈p.aB::l.flatMap (chs p),p.aB≤x:=fun x hx=>by
  rcases List.mem_cons.1 hx with e | e
  ·omega
  ·obtain ⟨o,_,h2⟩:=List.mem_flatMap.1 e
   have:=(List.mem_filter.1 h2).2
   unfold Ju at this
   simp only [Bool.and_eq_true,decide_eq_true_eq] at this
   omega
 match hS:(p.aB::l.flatMap (chs p)).mergeSort (fun x y=>decide (x≤y)) with
 | []=>have:=(hmem p.aB).2 List.mem_cons_self; rw [hS] at this; cases this
 | c::S =>
  rw [hS] at hs hmem
  have hs':=List.pairwise_cons.1 hs
  have h1:=hge c ((hmem c).1 List.mem_cons_self)
  have h2:c≤p.aB:=by
   rcases List.mem_cons.1 ((hmem p.aB).2 List.mem_cons_self) with e | e
   ·omega
   ·have:=hs'.1 _ e
    simpa using this
  obtain rfl:c=p.aB:=by omega
  exact ⟨S,rfl,fun x hx=>by simpa using hs'.1 x hx,hs'.2.imp (fun h=>by simpa using h),hmem⟩
theorem Mb (l:List ai) (v:au) (p:ai) (n:Int) (hn : 1≤n) (S:List Int) (h1:∀ x∈S,p.aB≤x) (h2:S.Pairwise (· ≤ ·)) (hm:∀ x,x∈p.aB::S↔x∈p.aB::l.flatMap (chs p)) : Swp (frV l v p) p.aB p.aP n (wK (frV l v p) n p.aB (S ++ [p.aP]) p.aB):=by
 have hC:∀ x∈p.aB::S,x=p.aB∨(p.aB < x∧x < p.aP):=fun x hx=>by
  rcases List.mem_cons.1 ((hm x).1 hx) with e | e
  ·exact .inl e
  ·obtain ⟨o,_,h2⟩:=List.mem_flatMap.1 e
   have:=(List.mem_filter.1 h2).2
   unfold Ju at this
   simp only [Bool.and_eq_true,decide_eq_true_eq] at this
   exact .inr this
 rcases Int.lt_or_le p.aP p.aB with hlt | hle
 ·have hS:∀ x∈S,x=p.aB:=fun x hx=>by
   rcases hC x (List.mem_cons_of_mem _ hx) with e | e
   ·exact e
   ·omega
  have:∀ (S:List Int),(∀ x∈S,x=p.aB)→wK (frV l v p) n p.aB (S ++ [p.aP]) p.aB=none:=by
   intro S
   induction S with
   | nil =>
    intro _
    show (if _ then _ else _)=none
    split
    ·rfl
    ·rw [if_neg (by simp; omega)]; rfl
   | cons x S ih =>
    intro hS
    obtain rfl:=hS x List.mem_cons_self
    show (if _ then _ else _)=none
    split
    ·exact ih (fun y hy=>hS y (List.mem_cons_of_mem _ hy))
    ·rw [if_neg (by simp; omega)]; exact ih (fun y hy=>hS y (List.mem_cons_of_mem _ hy))
  rw [this S hS]
  intro t ht
  have:=ht.1; have:=ht.2.1
  omega
 ·refine xj _ _ _ _ hn _ _ _ (fun x hx=>?_) ?_ (fun y hy=>?_) (by simp) (fun c' hc' u q1 q2 q3=>?_) (Int.le_refl _) (Int.le_refl _) (fun u q1 q2=>by omega) (fun t ht=>ht.1) (by omega)
  ·rcases List.mem_append.1 hx with e | e
   ·exact h1 x e
   ·rw [List.mem_singleton.1 e]; exact hle
  ·refine List.pairwise_append.2 ⟨h2,List.pairwise_singleton _ _,fun x hx y hy=>?_⟩
   rw [List.mem_singleton.1 hy]
   rcases hC x (List.mem_cons_of_mem _ hx) with e | e <;> omega
  ·rcases List.mem_cons.1 hy with e | e
   ·omega
   ·rcases List.mem_append.1 e with e | e
    ·rcases hC y (List.mem_cons_of_mem _ e) with e | e <;> omega
    ·rw [List.mem_singleton.1 e]; exact Int.le_refl _
  ·unfold frV
   rw [UG l p.aA u c' (fun o ho=>?_)]
   have hac:p.aB≤c':=by
    rcases List.mem_cons.1 hc' with e | e
    ·omega
    ·rcases List.mem_append.1 e with e | e
     ·exact h1 _ e
     ·rw [List.mem_singleton.1 e]; exact hle
   have key:∀ z∈[o.aB,o.aP],c' < z→u < z:=fun z hz hcz=>by
    rcases Int.lt_or_le u z with q | q
    ·exact q
    ·refine q3 z ?_ hcz
     have:z∈p.aB::l.flatMap (chs p):=List.mem_cons_of_mem _ (List.mem_flatMap.2 ⟨o,ho,List.mem_filter.2 ⟨hz,by unfold Ju; simp only [Bool.and_eq_true,decide_eq_true_eq]; omega⟩⟩)
     rcases List.mem_cons.1 ((hm z).2 this) with e | e
     ·rw [e]; exact List.mem_cons_self
     ·exact List.mem_cons_of_mem _ (List.mem_append_left _ e)
   have k1:=key o.aB (by simp)
   have k2:=key o.aP (by simp)
   unfold ia
   have e1:decide (o.aB≤u)=decide (o.aB≤c'):=by
    apply decide_eq_decide.2
    constructor
    ·intro h
     rcases Int.lt_or_le c' o.aB with q | q
     ·have:=k1 q; omega
     ·exact q
    ·intro h; omega
   have e2:decide (u < o.aP)=decide (c' < o.aP):=by
    apply decide_eq_decide.2
    constructor
    ·intro h; omega
    ·exact k2
   rw [e1,e2]
theorem Ws (l:List ai) (v:au) (p:ai) (n:Int) : Ei l v p n=Option.bind (P5 p n) fun r=>if (!r)=true then some (0,1) else Option.bind (chP l p) fun r=>Option.bind (loO r 1) fun z=>Option.bind (ah (fun st:Int×Int×Int×Int=>if decide (st.2.2.2 < (z.length:Int))=true then Option.bind (aw z st.2.2.2) fun x1=>Option.bind (aw r st.2.2.2) fun x2=>Option.bind (atP l p.aA x2) fun a=>Option.bind (Ma a p.a8) fun b=>Option.bind (JL b v) fun c=>if (!c)=true then some (.inl (st.1,st.2.1,x1,i64.wrap (st.2.2.2 + 1))) else if decide (i64.wrap (x1 - st.2.2.1)≥n)=true then some (.inr (.inr (st.2.2.1,0))) else some (.inl (st.1,st.2.1,st.2.2.1,i64.wrap (st.2.2.2 + 1))) else some (.inr (.inl (st.1,st.2.1,st.2.2.1,st.2.2.2)))) ab ((0:Int),(0:Int),p.aB,(0:Int))) fun o:(Int×Int×Int×Int)⊕(Int×Int)=>match o with | .inl _=>some (0,16) | .inr v=>some v:=by kernel_rfl
def PlQ (W:Option Int) (r:(Int×Int×Int×Int)⊕(Int×Int)) : Prop:=match W with | some t=>r = .inr (t,0) | none=>∃ q,r = .inl q
def PlS (l:List ai) (v:au) (p:ai) (n:Int) (r:Int×Int) : Prop:=(ru p n=false∧r=(0,1))∨(ru p n=true∧((∃ t,r=(t,0)∧OkT (frV l v p) p.aB p.aP n t∧∀ t',OkT (frV l v p) p.aB p.aP n t'→t≤t')∨(r=(0,16)∧∀ t',¬ OkT (frV l v p) p.aB p.aP n t')))
theorem PlS.unique {l:List ai} {v:au} {p:ai} {n:Int} {r r':Int×Int} (h:PlS l v p n r) (h':PlS l v p n r') : r=r':=by
 rcases h with ⟨b,rfl⟩ | ⟨b,h⟩ <;> rcases h' with ⟨b',rfl⟩ | ⟨b',h'⟩
 ·rfl
 ·rw [b] at b'; cases b'
 ·rw [b] at b'; cases b'
 ·rcases h with ⟨t,rfl,h1,h2⟩ | ⟨rfl,h1⟩ <;> rcases h' with ⟨t',rfl,h1',h2'⟩ | ⟨rfl,h1'⟩
  ·have:=h2 t' h1'; have:=h2' t h1
   rw [show t=t' by omega]
  ·exact absurd h1 (h1' t)
  ·exact absurd h1' (h1 t')
  ·rfl
theorem uZ {p:ai} {n:Int} (h:ru p n=true) : 1≤n∧n≤1000∧0≤p.aB∧p.aB≤1000000∧0≤p.aP∧p.aP≤1000000∧0≤p.a8.bg∧p.a8.bg≤1073741824∧0≤p.a8.aI∧p.a8.aI≤1073741824:=by
 unfold ru AO at h
 simp only [Bool.and_eq_true,decide_eq_true_eq] at h
 omega
theorem AV (l:List ai) (v:au) (p:ai) (n:Int) (hl:l.length≤100000) : ∃ r,Ei l v p n=some r∧PlS l v p n r:=by
 rw [Ws,UE]
 simp only [zb]
 cases hb:ru p n with
 | false=>exact ⟨_,rfl,.inl ⟨hb,rfl⟩⟩
 | true =>
  obtain ⟨n1,n2,f1,f2,u1,u2,_⟩:=uZ hb
  rw [if_neg (by decide),aaL l p hl]
  obtain ⟨S,e1,h1,h2,hm⟩:=OW l p
  have hT:OX l p=p.aB::(S ++ [p.aP]):=by unfold OX; rw [e1]; rfl
  have hW:=Mb l v p n n1 S h1 h2 hm
  obtain ⟨z,hz⟩ : ∃ z,z=S ++ [p.aP]:=⟨_,rfl⟩
  have hbz:∀ x∈z,0≤x∧x≤1000000:=fun x hx=>by
   rw [hz] at hx
   rcases List.mem_append.1 hx with e | e
   ·rcases List.mem_cons.1 ((hm x).1 (List.mem_cons_of_mem _ e)) with e | e
    ·omega
    ·obtain ⟨o,_,h2⟩:=List.mem_flatMap.1 e
     have:=(List.mem_filter.1 h2).2
     unfold Ju at this
     simp only [Bool.and_eq_true,decide_eq_true_eq] at this
     omega
   ·rw [List.mem_singleton.1 e]; omega
  have hzl:z.length≤1000000:=by
   have e2:(p.aB::S).length=(p.aB::l.flatMap (chs p)).length:=by rw [← e1,List.length_mergeSort]
   have:=Kw l p
   rw [hz,List.length_append,List.length_singleton]
   simp only [List.length_cons] at e2
   omega
  rw [hT,← hz]
  rw [← hz] at hW
  simp only [zb]
  have h9:loO (p.aB::z) 1=some z:=i6 (l:=p.aB::z) (k:=1) (by simp)
  rw [h9]
  simp only [zb]
  obtain ⟨W,hW2⟩ : ∃ W,W=wK (frV l v p) n p.aB z p.aB:=⟨_,rfl⟩
  obtain ⟨r,k1,k2⟩:=aM (f:=fun st:Int×Int×Int×Int=>if decide (st.2.2.2 < (z.length:Int))=true then Option.bind (aw z st.2.2.2) fun x1=>Option.bind (aw (p.aB::z) st.2.2.2) fun x2=>Option.bind (atP l p.aA x2) fun a=>Option.bind (Ma a p.a8) fun b=>Option.bind (JL b v) fun c=>if (!c)=true then some (.inl (st.1,st.2.1,x1,i64.wrap (st.2.2.2 + 1))) else if decide (i64.wrap (x1 - st.2.2.1)≥n)=true then some (.inr (.inr (st.2.2.1,0))) else some (.inl (st.1,st.2.1,st.2.2.1,i64.wrap (st.2.2.2 + 1))) else some (.inr (.inl (st.1,st.2.1,st.2.2.1,st.2.2.2))))
   (fun st=>∃ (k:Nat) (c:Int),st.2.2.2=(k:Int)∧k≤z.length∧(p.aB::z)[k]? = some c∧wK (frV l v p) n c (z.drop k) st.2.2.1=W∧0≤st.2.2.1∧st.2.2.1≤1000000) (fun st=>z.length - st.2.2.2.toNat) (PlQ W) (fun st ⟨k,c,g1,g2,g3,g4,g5,g6⟩=>by
    simp only [g1]
    rcases Nat.lt_or_ge k z.length with hlt | hge
    ·have d1:decide ((k:Int) < (z.length:Int))=true:=by simpa using hlt
     have hx:=hbz _ (List.getElem_mem hlt)
     rw [if_pos d1,aH (zq hlt)]
     simp only [zb]
     rw [aH g3]
     simp only [zb,aaO l _ _ (Nat.le_trans hl (by decide)),L9,TK]
     rw [List.drop_eq_getElem_cons hlt] at g4
     unfold wK at g4
     rw [bb hlt hzl,nU (show -9223372036854775808≤z[k] - st.2.2.1 by omega) (show z[k] - st.2.2.1≤9223372036854775807 by omega)]
     have hmu:z.length - (((k + 1:Nat) : Int)).toNat < z.length - ((k:Nat) : Int).toNat:=by simp only [zt]; omega
     change (if (!G7 (lI (atV l p.aA c) p.a8) v)=true then _ else _)=W at g4
     cases hf:G7 (lI (atV l p.aA c) p.a8) v with
     | false =>
      rw [hf,if_pos (by rfl)] at g4
      rw [if_pos (by rfl)]
      exact .inl ⟨_,rfl,⟨k + 1,z[k],rfl,hlt,by rw [List.getElem?_cons_succ]; exact zq hlt,g4,hx.1,hx.2⟩,hmu⟩
     | true =>
      rw [hf,if_neg (by decide)] at g4
      rw [if_neg (by decide)]
      split
      ·rename_i hd
       rw [if_pos hd] at g4
       subst g4
       exact .inr ⟨_,rfl,rfl⟩
      ·rename_i hd
       rw [if_neg hd] at g4
       exact .inl ⟨_,rfl,⟨k + 1,z[k],rfl,hlt,by rw [List.getElem?_cons_succ]; exact zq hlt,g4,g5,g6⟩,hmu⟩
    ·have d1:decide ((k:Int) < (z.length:Int))=false:=by simp; omega
     rw [if_neg (by rw [d1]; decide)]
     rw [List.drop_of_length_le hge] at g4
     unfold wK at g4
     subst g4
     exact .inr ⟨_,rfl,_,rfl⟩) ab (0,0,p.aB,0) ⟨0,p.aB,rfl,Nat.zero_le _,rfl,hW2.symm,f1,f2⟩ (by have:=ao hzl; show z.length - (0:Int).toNat < ab; omega)
  rw [k1]
  rw [← hW2] at hW
  cases W with
  | some t =>
   have k2:r = .inr (t,0):=k2
   subst k2
   exact ⟨_,rfl,.inr ⟨hb,.inl ⟨t,rfl,hW.1,hW.2⟩⟩⟩
  | none =>
   obtain ⟨q,rfl⟩ : ∃ q,r = .inl q:=k2
   exact ⟨_,rfl,.inr ⟨hb,.inr ⟨rfl,hW⟩⟩⟩
def SmP (l:List ai) : Prop:=l.length≤12∧∀ o∈l,(0≤o.a8.bg∧o.a8.bg≤1073741824∧0≤o.a8.aI∧o.a8.aI≤1073741824)∧-1000000000≤o.aB∧o.aB≤1000000000∧-1000000000≤o.aP∧o.aP≤1000000000
theorem Ix (k u s:Int) : ∀ (l:List ai) (v v':au) (B:Int),0≤v.bg→v.bg≤v'.bg→v'.bg≤B→0≤v.aI→v.aI≤v'.aI→v'.aI≤B→B + l.length * 1073741824≤4611686018427387904 →
  (∀ o∈l,(0≤o.a8.bg∧o.a8.bg≤1073741824∧0≤o.a8.aI∧o.a8.aI≤1073741824)∧(ia o k u=true→ia o k s=true)) →
  0≤(l.foldl (fun v o=>if ia o k u=true then lI v o.a8 else v) v).bg∧(l.foldl (fun v o=>if ia o k u=true then lI v o.a8 else v) v).bg≤(l.foldl (fun v o=>if ia o k s=true then lI v o.a8 else v) v').bg∧(l.foldl (fun v o=>if ia o k s=true then lI v o.a8 else v) v').bg≤B + l.length * 1073741824 ∧
  0≤(l.foldl (fun v o=>if ia o k u=true then lI v o.a8 else v) v).aI∧(l.foldl (fun v o=>if ia o k u=true then lI v o.a8 else v) v).aI≤(l.foldl (fun v o=>if ia o k s=true then lI v o.a8 else v) v').aI∧(l.foldl (fun v o=>if ia o k s=true then lI v o.a8 else v) v').aI≤B + l.length * 1073741824
 | [],v,v',B,h1,h2,h3,h4,h5,h6,_,_=>by
  simp only [List.foldl_nil,List.length_nil]
  omega
 | o::l,v,v',B,h1,h2,h3,h4,h5,h6,hB,h=>by
  obtain ⟨⟨n1,n2,n3,n4⟩,hi⟩:=h o List.mem_cons_self
  rw [List.length_cons] at hB
  have hl : 0≤(l.length:Int):=Int.natCast_nonneg _
  have w:∀ (a b:Int),0≤a→a≤B→0≤b→b≤1073741824→i64.wrap (a + b)=a + b:=fun a b q1 q2 q3 q4=>nU (by omega) (by omega)
  simp only [List.foldl_cons]
  have key:∀ (x x':au),0≤x.bg→x.bg≤x'.bg→x'.bg≤B + 1073741824→0≤x.aI→x.aI≤x'.aI→x'.aI≤B + 1073741824→_:=fun x x' g1 g2 g3 g4 g5 g6=>Ix k u s l x x' (B + 1073741824) g1 g2 g3 g4 g5 g6 (by omega) (fun o ho=>h o (List.mem_cons_of_mem _ ho))
  have e:B + ((o::l).length:Int) * 1073741824=B + 1073741824 + (l.length:Int) * 1073741824:=by rw [List.length_cons]; omega
  rw [e]
  cases hu:ia o k u with
  | true =>
   rw [hi hu]
   simp only [if_true]
   exact key _ _ (by show 0≤i64.wrap _; rw [w _ _ h1 (by omega) n1 n2]; omega) (by show i64.wrap _≤i64.wrap _; rw [w _ _ h1 (by omega) n1 n2,w _ _ (by omega) h3 n1 n2]; omega) (by show i64.wrap _≤_; rw [w _ _ (by omega) h3 n1 n2]; omega)
    (by show 0≤i64.wrap _; rw [w _ _ h4 (by omega) n3 n4]; omega) (by show i64.wrap _≤i64.wrap _; rw [w _ _ h4 (by omega) n3 n4,w _ _ (by omega) h6 n3 n4]; omega) (by show i64.wrap _≤_; rw [w _ _ (by omega) h6 n3 n4]; omega)
  | false =>
   simp only [zf,if_false]
   cases hs:ia o k s with
   | true =>
    simp only [if_true]
    exact key _ _ h1 (by show _≤i64.wrap _; rw [w _ _ (by omega) h3 n1 n2]; omega) (by show i64.wrap _≤_; rw [w _ _ (by omega) h3 n1 n2]; omega) h4 (by show _≤i64.wrap _; rw [w _ _ (by omega) h6 n3 n4]; omega) (by show i64.wrap _≤_; rw [w _ _ (by omega) h6 n3 n4]; omega)
   | false =>
    simp only [zf,if_false]
    exact key _ _ h1 h2 (by omega) h4 h5 (by omega)
theorem Xm {l:List ai} (hl:SmP l) (v:au) {p:ai} (hp : 0≤p.a8.bg∧p.a8.bg≤1073741824∧0≤p.a8.aI∧p.a8.aI≤1073741824) {u s:Int} (h:∀ o∈l,ia o p.aA u=true→ia o p.aA s=true) (hs:frV l v p s=true) : frV l v p u=true:=by
 have hlen:=hl.1
 have:=Ix p.aA u s l ⟨0,0⟩ ⟨0,0⟩ 0 (by simp) (by simp) (by simp) (by simp) (by simp) (by simp) (by omega) (fun o ho=>⟨(hl.2 o ho).1,h o ho⟩)
 obtain ⟨a1,a2,a3,a4,a5,a6⟩:=this
 have e:∀ t,atV l p.aA t=l.foldl (fun v o=>if ia o p.aA t=true then lI v o.a8 else v) ⟨0,0⟩:=fun t=>rfl
 rw [← e u] at a1 a2 a4 a5
 rw [← e s] at a2 a3 a5 a6
 unfold frV G7 lI at hs ⊢
 simp only [Bool.and_eq_true,decide_eq_true_eq] at hs ⊢
 rw [nU (by omega) (by omega),nU (by omega) (by omega)] at hs ⊢
 omega
theorem MG {l:List ai} (hl:SmP l) (v:au) {p:ai} (hp : 0≤p.a8.bg∧p.a8.bg≤1073741824∧0≤p.a8.aI∧p.a8.aI≤1073741824) {u s:Int} (hs:frV l v p s=true) (hu:frV l v p u=false) : ∃ o∈l,ia o p.aA u=true∧ia o p.aA s=false:=by
 apply Classical.byContradiction
 intro hn
 have:=Xm hl v hp (u:=u) (s:=s) (fun o ho h=>by
  cases h2:ia o p.aA s with
  | true=>rfl
  | false=>exact absurd ⟨o,ho,h,h2⟩ hn) hs
 rw [hu] at this
 cases this
theorem UK {o:ai} {k t:Int} (h1:ia o k (t + 1)=true) (h2:ia o k t=false) : o.aB=t + 1:=by
 unfold ia at h1 h2
 simp only [Bool.and_eq_true,Bool.and_eq_false_iff,decide_eq_true_eq,decide_eq_false_iff_not] at h1 h2
 rcases h2 with (h2 | h2) | h2
 ·rw [h1.1.1] at h2; cases h2
 ·omega
 ·omega
theorem ZJ {o:ai} {k t:Int} (h1:ia o k (t - 1)=true) (h2:ia o k t=false) : o.aP=t:=by
 unfold ia at h1 h2
 simp only [Bool.and_eq_true,Bool.and_eq_false_iff,decide_eq_true_eq,decide_eq_false_iff_not] at h1 h2
 rcases h2 with (h2 | h2) | h2
 ·rw [h1.1.1] at h2; cases h2
 ·omega
 ·omega
def Xq (l:List ai) (v:au) (p:ai) (t n:Int) : Bool:=frV l v p t && !(l.any fun o=>(decide (o.aB > t)&&decide (i64.wrap (o.aB - t) < n)) && !frV l v p o.aB)
theorem MM (l:List ai) (v:au) (p:ai) (t n:Int) (hl:l.length≤1000000) : ol l v p t n=some (Xq l v p t n):=by
 unfold ol
 simp only [XV l _ _ hl,cS,ic,zb]
 change (if (!frV l v p t)=true then _ else _) = _
 unfold Xq
 cases h0:frV l v p t with
 | false=>rfl
 | true =>
  rw [if_neg (by decide)]
  rw [rc l t n p v () hl,show dx l t n p v=(fun (_:Unit) x=>if ((decide (x.aB > t)&&decide (i64.wrap (x.aB - t) < n)) && !frV l v p x.aB)=true then some (.inr ((fun _=>(.inr false:Int⊕Bool)) x)) else some (.inl ())) from by
   funext _ x
   unfold dx
   simp only [XV l _ _ hl,cS,ic,zb,cW]
   rfl,pJ]
  simp only [zb,Bool.true_and]
  cases hf:l.find? (fun x=>(decide (x.aB > t)&&decide (i64.wrap (x.aB - t) < n)) && !frV l v p x.aB) with
  | none =>
   have:(l.any fun o=>(decide (o.aB > t)&&decide (i64.wrap (o.aB - t) < n)) && !frV l v p o.aB)=false:=by
    rw [List.any_eq_false]
    exact fun x hx=>(List.find?_eq_none.1 hf) x hx
   rw [this]; rfl
  | some x =>
   have h9:=List.find?_some hf
   have:(l.any fun o=>(decide (o.aB > t)&&decide (i64.wrap (o.aB - t) < n)) && !frV l v p o.aB)=true:=List.any_eq_true.2 ⟨x,List.mem_of_find?_eq_some hf,h9⟩
   rw [this]; rfl
theorem MN {l:List ai} (hl:SmP l) (v:au) {p:ai} (hp : 0≤p.a8.bg∧p.a8.bg≤1073741824∧0≤p.a8.aI∧p.a8.aI≤1073741824) {t n:Int} (h0 : 0≤t) (h1:t≤1000000) (hn : 1≤n) : Xq l v p t n=true↔∀ u,t≤u→u < t + n→frV l v p u=true:=by
 unfold Xq
 rw [Bool.and_eq_true]
 constructor
 ·rintro ⟨ht,ha⟩
  have ha:∀ o∈l,o.aB > t→o.aB - t < n→frV l v p o.aB=true:=fun o ho q1 q2=>by
   cases hf:frV l v p o.aB with
   | true=>rfl
   | false =>
    have hb:=hl.2 o ho
    have:(l.any fun o=>(decide (o.aB > t)&&decide (i64.wrap (o.aB - t) < n)) && !frV l v p o.aB)=true:=List.any_eq_true.2 ⟨o,ho,by rw [hf,nU (by omega) (by omega),decide_eq_true q1,decide_eq_true q2]; rfl⟩
    rw [this] at ha
    cases ha
  have key:∀ k:Nat,(k:Int) < n→frV l v p (t + k)=true:=by
   intro k
   induction k with
   | zero=>intro _; simpa using ht
   | succ k ih =>
    intro hk
    have h3:=ih (by omega)
    cases hf:frV l v p (t + ((k + 1:Nat) : Int)) with
    | true=>rfl
    | false =>
     rw [show t + ((k + 1:Nat) : Int)=(t + k) + 1 by omega] at hf
     obtain ⟨o,ho,q1,q2⟩:=MG hl v hp h3 hf
     have e:=UK q1 q2
     have:=ha o ho (by omega) (by omega)
     rw [e,hf] at this
     cases this
  intro u q1 q2
  have:=key (u - t).toNat (by omega)
  rwa [show t + (((u - t).toNat:Nat) : Int)=u by omega] at this
 ·intro h
  refine ⟨h t (Int.le_refl _) (by omega),?_⟩
  rw [Bool.not_eq_true',List.any_eq_false]
  intro o ho hx
  have hb:=hl.2 o ho
  simp only [Bool.and_eq_true,decide_eq_true_eq,Bool.not_eq_true'] at hx
  obtain ⟨⟨q1,q2⟩,q3⟩:=hx
  rw [nU (by omega) (by omega)] at q2
  rw [h o.aB (by omega) (by omega)] at q3
  cases q3
theorem Sr {l:List ai} (hl:SmP l) (v:au) {p:ai} (hp : 0≤p.a8.bg∧p.a8.bg≤1073741824∧0≤p.a8.aI∧p.a8.aI≤1073741824) {n:Int} (hn : 1≤n) : ∀ (m:Nat) (t:Int),(t - p.aB).toNat=m→OkT (frV l v p) p.aB p.aP n t→∃ c∈p.aB::l.map (·.aP),OkT (frV l v p) p.aB p.aP n c∧c≤t
 | 0,t,hm,h=>by
  have:=h.1
  obtain rfl:t=p.aB:=by omega
  exact ⟨_,List.mem_cons_self,h,Int.le_refl _⟩
 | m + 1,t,hm,h=>by
  cases hf:frV l v p (t - 1) with
  | true =>
   obtain ⟨c,h1,h2,h3⟩:=Sr hl v hp hn m (t - 1) (by omega) ⟨by omega,by have:=h.2.1; omega,fun u q1 q2=>by
    rcases Int.lt_or_le u t with q | q
    ·obtain rfl:u=t - 1:=by omega
     exact hf
    ·exact h.2.2 u q (by omega)⟩
   exact ⟨c,h1,h2,by omega⟩
  | false =>
   obtain ⟨o,ho,q1,q2⟩:=MG hl v hp (h.2.2 t (Int.le_refl _) (by omega)) hf
   have e:=ZJ q1 q2
   exact ⟨t,List.mem_cons_of_mem _ (List.mem_map.2 ⟨o,ho,e⟩),h,Int.le_refl _⟩
theorem FT (p:ai) (n:Int) : ((((((decide (n < 1)||decide (n > 1000))||decide (p.aB < 0))||decide (p.aB > 1000000))||decide (p.aP < 0))||decide (p.aP > 1000000)) || !(decide (p.a8.bg≥0)&&decide (p.a8.bg≤1073741824)))=true∨(!(decide (p.a8.aI≥0)&&decide (p.a8.aI≤1073741824)))=true↔ru p n=false:=by
 unfold ru AO
 simp only [Bool.or_eq_true,Bool.not_eq_true',Bool.and_eq_false_iff,decide_eq_true_eq,decide_eq_false_iff_not]
 omega
theorem Ia (l:List ai) (v:au) (p:ai) (n:Int) (hl:SmP l) : ∃ r,nj l v p n=some r∧PlS l v p n r:=by
 have hlen:=hl.1
 unfold nj
 simp only [CA,zb,orB]
 cases hb:ru p n with
 | false =>
  rw [if_pos (by rw [Bool.or_eq_true]; exact (FT p n).2 hb)]
  exact ⟨_,rfl,.inl ⟨hb,rfl⟩⟩
 | true =>
  rw [if_neg (by rw [Bool.or_eq_true]; intro h; rw [(FT p n).1 h] at hb; cases hb)]
  obtain ⟨n1,n2,f1,f2,u1,u2,hp⟩:=uZ hb
  have hw:∀ k:Int,-1≤k→k≤1000000000→i64.wrap (k + 1)=k + 1:=fun k h1 h2=>nU (by omega) (by omega)
  obtain ⟨r,e1,e2⟩:=aM (f:=iJ l p n v) (fun st=>-1≤st.2∧st.2≤(l.length:Int)∧(0≤st.1→OkT (frV l v p) p.aB p.aP n st.1)∧(0≤st.2→OkT (frV l v p) p.aB p.aP n p.aB→0≤st.1∧st.1≤p.aB)∧(∀ (j:Nat) o,(j:Int) < st.2→l[j]? = some o→OkT (frV l v p) p.aB p.aP n o.aP→0≤st.1∧st.1≤o.aP))
   (fun st=>((l.length:Int) - st.2).toNat) (fun r=>(0≤r.1→OkT (frV l v p) p.aB p.aP n r.1)∧(OkT (frV l v p) p.aB p.aP n p.aB→0≤r.1∧r.1≤p.aB)∧(∀ o∈l,OkT (frV l v p) p.aB p.aP n o.aP→0≤r.1∧r.1≤o.aP)) (fun st ⟨h1,h2,h3,h4,h5⟩=>by
   unfold iJ
   by_cases hlt:st.2 < (l.length:Int)
   ·have hmu:((l.length:Int) - (st.2 + 1)).toNat < ((l.length:Int) - st.2).toNat:=by omega
    have step:∀ t:Int,-1000000000≤t→t≤1000000000→(∀ b:Int×Int,b.2=st.2 + 1→(0≤b.1→OkT (frV l v p) p.aB p.aP n b.1)→(OkT (frV l v p) p.aB p.aP n t→0≤b.1∧b.1≤t)→(∀ c,0≤st.1∧st.1≤c→OkT (frV l v p) p.aB p.aP n c→0≤b.1∧b.1≤c)→(-1≤b.2∧b.2≤(l.length:Int)∧(0≤b.1→OkT (frV l v p) p.aB p.aP n b.1)∧(0≤b.2→OkT (frV l v p) p.aB p.aP n p.aB→0≤b.1∧b.1≤p.aB)∧(∀ (j:Nat) o,(j:Int) < b.2→l[j]? = some o→OkT (frV l v p) p.aB p.aP n o.aP→0≤b.1∧b.1≤o.aP))) →
      (∃ s',(if ((((decide (t≥p.aB)&&decide (t≤1000000))&&decide (i64.wrap (t + n)≤p.aP))&&(decide (st.1 < 0)||decide (t < st.1)))&&Xq l v p t n)=true then some (.inl (t,st.2 + 1)) else some (.inl (st.1,st.2 + 1)) : Option ((Int×Int)⊕(Int×Int)))=some (.inl s')∧(-1≤s'.2∧s'.2≤(l.length:Int)∧(0≤s'.1→OkT (frV l v p) p.aB p.aP n s'.1)∧(0≤s'.2→OkT (frV l v p) p.aB p.aP n p.aB→0≤s'.1∧s'.1≤p.aB)∧(∀ (j:Nat) o,(j:Int) < s'.2→l[j]? = some o→OkT (frV l v p) p.aB p.aP n o.aP→0≤s'.1∧s'.1≤o.aP))∧((l.length:Int) - s'.2).toNat < ((l.length:Int) - st.2).toNat):=by
     intro t t1 t2 hnext
     split
     ·rename_i hc
      simp only [Bool.and_eq_true,Bool.or_eq_true,decide_eq_true_eq] at hc
      obtain ⟨⟨⟨⟨c1,c2⟩,c3⟩,c4⟩,c5⟩:=hc
      rw [nU (by omega) (by omega)] at c3
      have hok:OkT (frV l v p) p.aB p.aP n t:=⟨c1,c3,(MN hl v hp (by omega) c2 n1).1 c5⟩
      refine ⟨_,rfl,hnext (t,st.2 + 1) rfl (fun _=>hok) (fun _=>⟨by show 0≤t; omega,Int.le_refl _⟩) (fun c ⟨q1,q2⟩ _=>⟨by show 0≤t; omega,by show t≤c; omega⟩),hmu⟩
     ·rename_i hc
      refine ⟨_,rfl,hnext (st.1,st.2 + 1) rfl h3 (fun hok=>?_) (fun c q _=>q),hmu⟩
      have c1:=hok.1
      have c3:=hok.2.1
      have c5:=(MN hl v hp (by omega) (by omega) n1).2 hok.2.2
      apply Classical.byContradiction
      intro hn
      apply hc
      simp only [Bool.and_eq_true,Bool.or_eq_true,decide_eq_true_eq]
      rw [nU (by omega) (by omega)]
      exact ⟨⟨⟨⟨c1,by omega⟩,c3⟩,by simp only [] at hn; omega⟩,c5⟩
    by_cases h0:st.2≥0
    ·obtain ⟨k,hk⟩:=Int.eq_ofNat_of_zero_le h0
     have hk':k < l.length:=by omega
     have hx:=zq hk'
     have hbd:=hl.2 _ (List.getElem_mem hk')
     have hi:aw l st.2=some l[k]:=by rw [hk]; exact aH hx
     simp only [hlt,h0,decide_true,if_true,hi,MM l _ _ _ _ (Nat.le_trans hlen (by decide)),cW,orB,zb,hw _ h1 (by omega)]
     refine .inl (step l[k].aP (by omega) (by omega) fun b hb2 g1 g2 g3=>⟨by omega,by omega,g1,fun _ hok=>g3 _ (h4 h0 hok) hok,fun j o hj ho hok=>?_⟩)
     by_cases hjk:j=k
     ·subst hjk
      rw [hx] at ho
      injection ho with ho
      subst ho
      exact g2 hok
     ·exact g3 _ (h5 j o (by omega) ho hok) hok
    ·simp only [hlt,h0,decide_true,if_true,decide_false,zf,if_false,MM l _ _ _ _ (Nat.le_trans hlen (by decide)),cW,orB,zb,hw _ h1 (by omega)]
     refine .inl (step p.aB (by omega) (by omega) fun b hb2 g1 g2 g3=>⟨by omega,by omega,g1,fun _ hok=>g2 hok,fun j o hj ho hok=>by omega⟩)
   ·simp only [hlt,decide_false,zf,if_false]
    refine .inr ⟨_,rfl,h3,fun hok=>h4 (by omega) hok,fun o ho hok=>?_⟩
    obtain ⟨j,hj,rfl⟩:=List.getElem_of_mem ho
    exact h5 j _ (by omega) (zq hj) hok) ab (-1,-1) ⟨by simp,by show (-1:Int)≤_; omega,fun h=>by simp at h,fun h=>by simp at h,fun j o hj=>by simp only [] at hj; omega⟩ (by show ((l.length:Int) - (-1)).toNat < ab; unfold ab; omega)
  rw [e1]
  simp only [zb]
  obtain ⟨g1,g2,g3⟩:=e2
  have hleast:∀ t,OkT (frV l v p) p.aB p.aP n t→0≤r.1∧r.1≤t:=fun t ht=>by
   obtain ⟨c,hc,hok,hct⟩:=Sr hl v hp n1 _ t rfl ht
   have : 0≤r.1∧r.1≤c:=by
    rcases List.mem_cons.1 hc with e | e
    ·subst e; exact g2 hok
    ·obtain ⟨o,ho,rfl⟩:=List.mem_map.1 e
     exact g3 o ho hok
   exact ⟨this.1,Int.le_trans this.2 hct⟩
  split
  ·rename_i hd
   have hd:r.1 < 0:=zd hd
   exact ⟨_,rfl,.inr ⟨hb,.inr ⟨rfl,fun t ht=>by have:=(hleast t ht).1; omega⟩⟩⟩
  ·rename_i hd
   have hd : ¬ r.1 < 0:=fun e=>hd (decide_eq_true e)
   exact ⟨_,rfl,.inr ⟨hb,.inl ⟨r.1,rfl,g1 (by omega),fun t ht=>(hleast t ht).2⟩⟩⟩
noncomputable def ir (a n:Int) : Option Int:=tR (a,(n,()))
noncomputable def PI (p:ai) : Option ai:=yk (p,())
noncomputable def J2:Option Bool:=vE ()
theorem ON (a n:Int) : ir a n=Option.bind (CU a n) fun q=>if decide (q < 0)=true then some (i64.wrap (q + n)) else some q:=by kernel_rfl
theorem eo {a n:Int} (h0 : 0 < n) (h1:n≤1000000) : ∃ r:Int,ir a n=some r∧0≤r∧r < n:=by
 have hlt:=Int.tmod_lt_of_pos a h0
 have hgt:=Int.lt_tmod_of_pos a h0
 rw [ON]
 unfold CU
 rw [if_neg (by omega)]
 simp only [zb]
 split
 ·rename_i h
  have h:=zd h
  exact ⟨_,rfl,by rw [IntKind.wrap_i64]; omega,by rw [IntKind.wrap_i64]; omega⟩
 ·rename_i h
  have h : ¬ Int.tmod a n < 0:=fun e=>h (by simpa using e)
  exact ⟨_,rfl,by omega,by omega⟩
theorem Xd (p:ai) : PI p=Option.bind (ir p.fId 20) fun r=>Option.bind (ir p.aA 2) fun r1=>Option.bind (ir p.aB 40) fun r2=>Option.bind (ir p.aP 60) fun r3=>Option.bind (ir p.a8.bg 6) fun r4=>Option.bind (ir p.a8.aI 6) fun r5=>some ⟨r,r1,r2,r3,⟨r4,r5⟩⟩:=by kernel_rfl
def aby (q:ai) : Prop:=0≤q.fId∧q.fId < 20∧0≤q.aA∧q.aA < 2∧0≤q.aB∧q.aB < 40∧0≤q.aP∧q.aP < 60∧0≤q.a8.bg∧q.a8.bg < 6∧0≤q.a8.aI∧q.a8.aI < 6
theorem Ud (p:ai) : ∃ q,PI p=some q∧aby q:=by
 obtain ⟨a,a1,a2,a3⟩:=eo (a:=p.fId) (n:=20) (by omega) (by omega)
 obtain ⟨b,b1,b2,b3⟩:=eo (a:=p.aA) (n:=2) (by omega) (by omega)
 obtain ⟨c,c1,c2,c3⟩:=eo (a:=p.aB) (n:=40) (by omega) (by omega)
 obtain ⟨d,d1,d2,d3⟩:=eo (a:=p.aP) (n:=60) (by omega) (by omega)
 obtain ⟨e,e1,e2,e3⟩:=eo (a:=p.a8.bg) (n:=6) (by omega) (by omega)
 obtain ⟨f,f1,f2,f3⟩:=eo (a:=p.a8.aI) (n:=6) (by omega) (by omega)
 rw [Xd,a1,b1,c1,d1,e1,f1]
 exact ⟨_,rfl,a2,a3,b2,b3,c2,c3,d2,d3,e2,e3,f2,f3⟩
theorem TW {l:List ai} {v:au} {p:ai} {n:Int} {r:Int×Int} (hl:l.length≤100000) (h:PlS l v p n r) : Ei l v p n=some r:=by
 obtain ⟨r',h1,h2⟩:=AV l v p n hl
 rw [h1,PlS.unique h2 h]
theorem T7:J2=Option.bind (Ei [⟨0,0,0,7,⟨4,4⟩⟩] ⟨4,4⟩ ⟨0,0,0,100,⟨4,4⟩⟩ 5) fun r=>Option.bind (if (r.2==0)=true then some (r.1==7) else some false) fun q=>some q:=by kernel_rfl
theorem PB:J2=some true:=by
 have hf:∀ u,frV [⟨0,0,0,7,⟨4,4⟩⟩] ⟨4,4⟩ ⟨0,0,0,100,⟨4,4⟩⟩ u = !(decide (0≤u)&&decide (u < 7)):=fun u=>by
  unfold frV atV ia
  simp only [List.foldl_cons,List.foldl_nil]
  cases decide (0≤u) <;> cases decide (u < 7) <;> rfl
 rw [T7,TW (r:=(7,0)) (by simp) (.inr ⟨by decide,.inl ⟨7,rfl,⟨by decide,by decide,fun u h1 h2=>?_⟩,fun t ht=>?_⟩⟩)]
 ·rfl
 ·rw [hf]
  have:decide (u < 7)=false:=by simp; omega
  rw [this,Bool.and_false]; rfl
 ·have h1 : 0≤t:=ht.1
  have:=ht.2.2 t (Int.le_refl _) (by omega)
  rw [hf] at this
  simp only [Bool.not_eq_true',Bool.and_eq_false_iff,decide_eq_false_iff_not] at this
  omega
theorem gh {α S τ : Type} (l:List α) (mk:Int→S) {f:S→Option (S⊕τ)} {r : τ} (hl:l.length≤1000000)
  (hstep:∀ (k:Nat) (x : α),l[k]? = some x→k < l.length→x∈l→f (mk (k:Int))=some (.inl (mk ((k + 1:Nat) : Int)))) (hend:f (mk (l.length:Int))=some (.inr r)) : ah f ab (mk 0)=some r:=by
 rw [az l (σ:=Unit) (fun _ k=>mk k) (fun _ _=>some (.inl ())) (fun _=>r) (ao hl) (fun k _ x hx=>by rw [hstep k x hx (zg.1 hx).1 (List.mem_of_getElem? hx)]; rfl) (fun _=>hend) ()]
 rw [kJ (fun _ _=>())]
theorem qS (l:List Int) (hl:l.length≤1000000) : qm l l=some true:=by
 unfold qm
 simp only [bne_self_eq_false,zf,if_false]
 rw [gh l (fun k=>k) (r:=.inl (l.length:Int)) hl (fun k x hx hk _=>by
  unfold ql
  simp only [bL hx,if_true,aH hx,zb,bne_self_eq_false,zf,if_false,bb hk hl]) (by unfold ql; simp only [bF,zf,if_false])]
 rfl
structure SzL (a:aC) : Prop where
 queue:a.bQ.size≤1000000
 asks:a.bN.length≤1000000
 grants:a.cf.length≤1000000
 kills:a.fQ.length≤1000000
 told:a.oT.length≤1000000
 lost:a.pX.length≤1000000
theorem SzA.shorts {B:Nat} {a:aC} (h:SzA B a) (hB:B≤1000000) : SzL a:=⟨h.queue.1,Nat.le_trans h.asks hB,Nat.le_trans h.grants hB,Nat.le_trans h.kills hB,Nat.le_trans h.told hB,Nat.le_trans h.lost hB⟩
theorem Qa (a:aC) (h:SzL a) : DJ a a=some true:=by
 unfold DJ
 have h1:a.bN.length≤1000000:=h.asks
 simp only [bne_self_eq_false,BEq.rfl,Bool.and_self,Bool.not_true,zf,if_false,zb]
 rw [gh a.bN (fun k=>k) (r:=.inl (a.bN.length:Int)) h1 (fun k x hx hk _=>by
  unfold rI
  simp only [bL hx,if_true,aH hx,zb,BEq.rfl,Bool.and_self,Bool.not_true,zf,if_false,bb hk h1]) (by unfold rI; simp only [bF,zf,if_false])]
 simp only [zb,qS _ h.grants,qS _ h.kills,qS _ h.told,qS _ h.lost,if_true]
theorem P3 (c:ay) (h:SzC c) : DI c c=some true:=by
 unfold DI
 have h1:c.aj.length≤1000000:=Nat.le_trans h.labels (by decide)
 have h2:c.ae.length≤1000000:=Nat.le_trans h.queues (by decide)
 simp only [bne_self_eq_false,zf,if_false,zb]
 rw [gh c.aj (fun k=>k) (r:=.inl (c.aj.length:Int)) h1 (fun k x hx hk _=>by
  unfold rG
  simp only [bL hx,if_true,aH hx,zb,BEq.rfl,Bool.not_true,zf,if_false,bb hk h1]) (by unfold rG; simp only [bF,zf,if_false])]
 simp only [zb]
 rw [gh c.ae (fun k=>k) (r:=.inl (c.ae.length:Int)) h2 (fun k x hx hk hm=>by
  have h3:x.bt.length≤1000000:=Nat.le_trans (h.caps x hm) (by decide)
  unfold rF
  simp only [bL hx,if_true,aH hx,zb,BEq.rfl,bne_self_eq_false,Bool.not_true,zf,if_false,bb hk h2]
  rw [gh x.bt (fun k=>k) (r:=.inl (x.bt.length:Int)) h3 (fun k y hy hk _=>by
   unfold rD
   simp only [bL hy,if_true,aH hy,zb,BEq.rfl,Bool.and_self,Bool.not_true,zf,if_false,bb hk h3]) (by unfold rD; simp only [bF,zf,if_false])]
  rfl) (by unfold rF; simp only [bF,zf,if_false])]
 rfl
structure j7 (s:aa) : Prop where
 conf:SzC s.bG
 nodes:s.aD.length≤1000000
 apps:s.ar.length≤1000000
 conts:s.ac.length≤1000000
 slots:s.aZ.length≤1000000
 plans:s.al.length≤1000000
 app:∀ a∈s.ar,SzL a
 lab:∀ x∈s.bG.aj,x.size≤1000000
theorem SzS.short {B:Nat} {s:aa} (h:SzS B s) (hB:B≤1000000) : j7 s:=⟨h.conf.sz,Nat.le_trans h.nodes.1 hB,Nat.le_trans h.apps hB,Nat.le_trans h.conts hB,Nat.le_trans h.slots hB,Nat.le_trans h.plans hB,fun a ha=>(h.app a ha).shorts hB,h.conf.lsz⟩
theorem Wd (s:aa) (h:j7 s) : vg s s=some true:=by
 unfold vg
 simp only [P3 _ h.conf,zb,bne_self_eq_false,Bool.not_true,zf,if_false]
 rw [gh s.aD (fun k=>(true,k)) (r:=(true,(s.aD.length:Int))) h.nodes (fun k x hx hk _=>by
  unfold qr
  simp only [bL hx,if_true,aH hx,zb,BEq.rfl,Bool.and_self,bb hk h.nodes]) (by unfold qr; simp only [bF,zf,if_false])]
 simp only [zb]
 rw [gh s.ar (fun k=>(true,k)) (r:=(true,(s.ar.length:Int))) h.apps (fun k x hx hk hm=>by
  unfold qq
  simp only [bL hx,if_true,aH hx,zb,Qa x (h.app x hm),bb hk h.apps]) (by unfold qq; simp only [bF,zf,if_false])]
 simp only [zb]
 rw [gh s.ac (fun k=>(true,k)) (r:=(true,(s.ac.length:Int))) h.conts (fun k x hx hk _=>by
  unfold qp
  simp only [bL hx,if_true,aH hx,zb,BEq.rfl,Bool.and_self,bb hk h.conts]) (by unfold qp; simp only [bF,zf,if_false])]
 simp only [zb]
 rw [gh s.aZ (fun k=>(true,k)) (r:=(true,(s.aZ.length:Int))) h.slots (fun k x hx hk _=>by
  unfold qo
  simp only [bL hx,if_true,aH hx,zb,BEq.rfl,Bool.and_self,bb hk h.slots]) (by unfold qo; simp only [bF,zf,if_false])]
 simp only [zb]
 rw [gh s.al (fun k=>(true,k)) (r:=(true,(s.al.length:Int))) h.plans (fun k x hx hk _=>by
  unfold qn
  simp only [bL hx,if_true,aH hx,zb,BEq.rfl,Bool.and_self,bb hk h.plans]) (by unfold qn; simp only [bF,zf,if_false])]
 rfl
theorem abP {α : Type} (lo hi:List α) (z n : α) (hl:lo.length + hi.length≤900000) :
  (Option.bind (mkO z (i64.wrap (i64.wrap ((lo.length:Int) + 1) + (hi.length:Int)))) fun xs=>Option.bind (oV xs 0 xs.length lo) fun zs=>Option.bind (aw zs (lo.length:Int)) fun _=>Option.bind (vwO (zs.set ((lo.length:Int)).toNat n).length (i64.wrap ((lo.length:Int) + 1)) ((zs.set ((lo.length:Int)).toNat n).length:Int)) fun _=>Option.bind (oV (zs.set ((lo.length:Int)).toNat n) (i64.wrap ((lo.length:Int) + 1)).toNat (((zs.set ((lo.length:Int)).toNat n).length:Int)).toNat hi) fun r=>some r)=some (lo++n::hi):=by
 have e1:i64.wrap ((lo.length:Int) + 1)=((lo.length + 1:Nat) : Int):=by rw [IntKind.wrap_i64]; omega
 have e2:i64.wrap (((lo.length + 1:Nat) : Int) + (hi.length:Int))=((lo.length + 1 + hi.length:Nat) : Int):=by rw [IntKind.wrap_i64]; omega
 rw [e1,e2]
 have e3:mkO z ((lo.length + 1 + hi.length:Nat) : Int)=some (List.replicate (lo.length + 1 + hi.length) z):=by
  unfold mkO
  rw [if_pos ⟨by omega,by omega⟩,zt]
 rw [e3]
 simp only [zb]
 have e4:oV (List.replicate (lo.length + 1 + hi.length) z) 0 (List.replicate (lo.length + 1 + hi.length) z).length lo=some (lo++List.replicate (1 + hi.length) z):=by
  unfold oV
  rw [if_pos ⟨by omega,Nat.le_refl _⟩]
  unfold ka
  simp only [List.length_replicate,Nat.sub_zero]
  rw [List.take_of_length_le (show lo.length≤lo.length + 1 + hi.length by omega)]
  simp only [List.take_zero,List.nil_append,Nat.zero_add,List.drop_replicate]
  rw [show lo.length + 1 + hi.length - lo.length=1 + hi.length by omega]
 rw [e4]
 simp only [zb]
 have e5:(lo++List.replicate (1 + hi.length) z)[lo.length]? = some z:=by
  rw [List.getElem?_append_right (Nat.le_refl _),Nat.sub_self,Nat.add_comm 1]
  rfl
 rw [aH e5]
 simp only [zb,zt]
 have e6:(lo++List.replicate (1 + hi.length) z).set lo.length n=lo++n::List.replicate hi.length z:=by
  rw [List.set_append_right _ _ (Nat.le_refl _),Nat.sub_self,Nat.add_comm 1]
  rfl
 rw [e6]
 have e7:(lo++n::List.replicate hi.length z).length=lo.length + 1 + hi.length:=by simp; omega
 rw [e7]
 have e8:vwO (lo.length + 1 + hi.length) ((lo.length + 1:Nat) : Int) ((lo.length + 1 + hi.length:Nat) : Int)=some ():=by
  unfold vwO
  rw [if_pos ⟨by omega,by omega,by omega,by omega⟩]
 rw [e8]
 simp only [zb]
 unfold oV
 rw [if_pos ⟨by omega,by rw [e7]; exact Nat.le_refl _⟩]
 unfold ka
 have h1:(lo++n::List.replicate hi.length z).take (lo.length + 1)=lo ++ [n]:=by
  rw [List.take_append,List.take_of_length_le (Nat.le_succ _)]
  simp
 have h2:lo.length + 1 + hi.length - (lo.length + 1)=hi.length:=by omega
 rw [h1,h2,List.take_of_length_le (Nat.le_refl _)]
 have h3:(lo++n::List.replicate hi.length z).drop (lo.length + 1 + hi.length) = []:=List.drop_of_length_le (by rw [e7]; exact Nat.le_refl _)
 rw [h3]
 simp
theorem yz {α : Type} (p : α→Bool) : ∀ (l:List α) (i:Nat) (h:i < l.length),(∀ j (hj:j < i),p l[j] = true)→p l[i] = false→(l.takeWhile p).length=i
 | [],i,h,_,_=>absurd h (Nat.not_lt_zero _)
 | x::l,0,h,_,h2=>by
  have h2:p x=false:=h2
  rw [List.takeWhile_cons,h2]
  rfl
 | x::l,i + 1,h,h1,h2=>by
  have h0:p x=true:=h1 0 (Nat.succ_pos _)
  rw [List.takeWhile_cons,h0]
  simp only [if_true,List.length_cons]
  rw [yz p l i (by simpa using h) (fun j hj=>by have:=h1 (j + 1) (Nat.succ_lt_succ hj); simpa using this) (by simpa using h2)]
theorem rn {α : Type} (p : α→Bool) : ∀ (l:List α),(∀ x∈l,p x=true)→(l.takeWhile p).length=l.length
 | [],_=>rfl
 | x::l,h=>by
  rw [List.takeWhile_cons,h x List.mem_cons_self]
  simp only [if_true,List.length_cons]
  rw [rn p l fun y hy=>h y (List.mem_cons_of_mem _ hy)]
theorem Uz {α : Type} (l:List α) (f : α→Option α) (hf:∀ x∈l,f x=some x) (hl:l.length≤1000000) :
  ah (fun st:List α×List α×Int=>if decide (st.2.2 < (l.length:Int))=true then Option.bind (aw st.1 st.2.2) fun x=>Option.bind (f x) fun y=>Option.bind (aw st.1 st.2.2) fun _=>some (.inl (st.1.set st.2.2.toNat y,st.1.set st.2.2.toNat y,i64.wrap (st.2.2 + 1))) else some (.inr (st.1,st.1,st.2.2))) ab (l,l,0)=some (l,l,(l.length:Int)):=by
 rw [gh l (fun k=>(l,l,k)) (r:=(l,l,(l.length:Int))) hl (fun k x hx hk hm=>by
  have e:l.set k x=l:=by
   obtain ⟨h1,h2⟩:=zg.1 hx
   rw [← h2]
   exact List.set_getElem_self h1
  simp only [bL hx,if_true,aH hx,zb,hf x hm,zt,e,bb hk hl]) (by simp only [bF,zf,if_false])]
def V7 (x:ByteArray) : Option ByteArray:=if x.size≤1000000000 then some x else none
theorem JA {x:ByteArray} (h:x.size≤1000000) : V7 x=some x:=by unfold V7; rw [if_pos (by omega)]
def kN {α : Type} (xs:List α) : Option ((Unit×Unit)×List α):=Option.bind (FJ xs) fun z=>some (((),()),z)
theorem ey {α : Type} {xs:List α} (h:xs.length≤1000000) : kN xs=some (((),()),xs):=by unfold kN FJ; rw [if_pos h]; rfl
noncomputable def PO (a:aC) : Option aC:=rO (a,())
theorem Xl (a:aC) : PO a=Option.bind (V7 a.bQ) fun q=>Option.bind (kN a.bN) fun r1=>Option.bind (kN a.cf) fun r2=>Option.bind (kN a.fQ) fun r3=>Option.bind (kN a.oT) fun r4=>Option.bind (kN a.pX) fun r5=>some ⟨a.fId,a.dG,q,a.de,a.bD,a.bI,r1.2,a.cM,a.cn,r2.2,r3.2,r4.2,r5.2⟩:=by kernel_rfl
theorem Ul {a:aC} (h:SzL a) : PO a=some a:=by
 rw [Xl,JA h.queue,ey h.asks,ey h.grants,ey h.kills,ey h.told,ey h.lost]
 rfl
def S4 {α : Type} (f : α→Option α) (l:List α) (st:List α×List α×Int) : Option ((List α×List α×Int)⊕(List α×List α×Int)):=if decide (st.2.2 < (l.length:Int))=true then Option.bind (aw st.1 st.2.2) fun x=>Option.bind (f x) fun y=>Option.bind (aw st.1 st.2.2) fun _=>some (.inl (st.1.set st.2.2.toNat y,st.1.set st.2.2.toNat y,i64.wrap (st.2.2 + 1))) else some (.inr (st.1,st.1,st.2.2))
theorem Fx {α : Type} {f : α→Option α} {l:List α} (hf:∀ x∈l,f x=some x) (hl:l.length≤1000000) : ah (S4 f l) ab (l,l,0)=some (l,l,(l.length:Int)):=Uz l f hf hl
noncomputable def J6 (l:List aC) : Option ((Unit×Unit×Unit)×List aC):=oP (l,(((),()),()))
theorem Uj (l:List aC) : J6 l=Option.bind (kN l) fun r=>Option.bind (ah (S4 PO r.2) ab (r.2,r.2,0)) fun st=>some (((),(),()),st.1):=by kernel_rfl
theorem PM {l:List aC} (hl:l.length≤1000000) (h:∀ a∈l,SzL a) : J6 l=some (((),(),()),l):=by
 rw [Uj,ey hl]
 simp only [zb]
 rw [Fx (fun a ha=>Ul (h a ha)) hl]
 rfl
noncomputable def SP (l:List ByteArray) : Option (List ByteArray):=oN (l,(((),()),()))
theorem Uh (l:List ByteArray) : SP l=Option.bind (kN l) fun r=>Option.bind (ah (S4 V7 r.2) ab (r.2,r.2,0)) fun st=>some st.1:=by kernel_rfl
noncomputable def PK (q:aE) : Option aE:=oM (q,())
theorem Xj (q:aE) : PK q=Option.bind (V7 q.aO) fun p=>Option.bind (kN q.bt) fun r=>some ⟨p,r.2,q.de⟩:=by kernel_rfl
noncomputable def SQ (l:List aE) : Option (List aE):=oO (l,(((),()),()))
theorem Ui (l:List aE) : SQ l=Option.bind (kN l) fun r=>Option.bind (ah (S4 PK r.2) ab (r.2,r.2,0)) fun st=>some st.1:=by kernel_rfl
noncomputable def PN (c:ay) : Option ay:=qE (c,())
theorem Xk (c:ay) : PN c=Option.bind (SP c.aj) fun l=>Option.bind (SQ c.ae) fun q=>some ⟨l,q⟩:=by kernel_rfl
theorem Uk {c:ay} (h:SzC c) (hl:∀ x∈c.aj,x.size≤1000000) : PN c=some c:=by
 have h1:c.aj.length≤1000000:=Nat.le_trans h.labels (by decide)
 have h2:c.ae.length≤1000000:=Nat.le_trans h.queues (by decide)
 have hq:∀ q∈c.ae,PK q=some q:=fun q hq=>by
  rw [Xj,JA (h.paths q hq),ey (Nat.le_trans (h.caps q hq) (by decide))]
  rfl
 rw [Xk,Uh,Ui,ey h1,ey h2]
 simp only [zb]
 rw [Fx (fun x hx=>JA (hl x hx)) h1]
 simp only [zb]
 rw [Fx hq h2]
 rfl
noncomputable def J5 (s:aa) : Option ((Unit×Unit)×aa):=oQ (s,())
theorem Xi (s:aa) : J5 s=Option.bind (PN s.bG) fun c=>Option.bind (kN s.aD) fun r1=>Option.bind (J6 s.ar) fun r2=>Option.bind (kN s.ac) fun r3=>Option.bind (kN s.aZ) fun r4=>Option.bind (kN s.al) fun r5=>some (((),()),⟨c,r1.2,r2.2,r3.2,r4.2,r5.2,s.cx,s.pY,s.sw⟩):=by kernel_rfl
theorem ss {s:aa} (h:j7 s) : J5 s=some (((),()),s):=by
 rw [Xi,Uk h.conf h.lab,ey h.nodes,PM h.apps h.app,ey h.conts,ey h.slots,ey h.plans]
 rfl
def W9 {α : Type} (p : α→Bool) (l:List α) : Option Int:=Option.bind (ah (fun st:Int×Int=>if decide (st.2 < (l.length:Int))=true then Option.bind (aw l st.2) fun x=>if p x=true then some (.inr (.inr st.2)) else some (.inl (st.1,i64.wrap (st.2 + 1))) else some (.inr (.inl (st.1,st.2)))) ab ((0:Int),(0:Int))) fun o:(Int×Int)⊕Int=>match o with | .inl _=>some (-1) | .inr v=>some v
theorem SJ {α : Type} (p : α→Bool) (l:List α) (hl:l.length≤1000000) : (∃ i,∃ h:i < l.length,W9 p l=some (i:Int)∧p l[i] = true∧∀ j (hj:j < i),p l[j] = false)∨(W9 p l=some (-1)∧∀ x∈l,p x=false):=by
 have hp:∃ r,ah (fun st:Int×Int=>if decide (st.2 < (l.length:Int))=true then Option.bind (aw l st.2) fun x=>if p x=true then some (.inr (.inr st.2)) else some (.inl (st.1,i64.wrap (st.2 + 1))) else some (.inr (.inl (st.1,st.2)))) ab ((0:Int),(0:Int))=some r∧((∃ i,∃ h:i < l.length,(r:(Int×Int)⊕Int) = .inr (i:Int)∧p l[i] = true∧∀ j (hj:j < i),p l[j] = false)∨((∃ q,r = .inl q)∧∀ x∈l,p x=false)):=by
  refine aM (fun st=>∃ k:Nat,st.2=(k:Int)∧k≤l.length∧∀ j (hj:j < l.length),j < k→p l[j] = false) (fun st=>l.length - st.2.toNat) _ (fun st ⟨k,h1,h2,h3⟩=>?_) ab _ ⟨0,rfl,Nat.zero_le _,fun j _ h=>by omega⟩ (by have:=ao hl; show l.length - (0:Int).toNat < ab; omega)
  simp only [h1]
  rcases Nat.lt_or_ge k l.length with hlt | hge
  ·have d1:decide ((k:Int) < (l.length:Int))=true:=by simpa using hlt
   rw [if_pos d1,aH (zq hlt)]
   simp only [zb]
   cases hpk:p l[k] with
   | true =>
    rw [if_pos rfl]
    exact .inr ⟨_,rfl,.inl ⟨k,hlt,rfl,hpk,fun j hj=>h3 j (by omega) hj⟩⟩
   | false =>
    rw [if_neg (by decide),bb hlt hl]
    refine .inl ⟨_,rfl,⟨k + 1,rfl,hlt,fun j hj hjk=>?_⟩,by simp only [zt]; omega⟩
    rcases Nat.lt_or_ge j k with h | h
    ·exact h3 j hj h
    ·obtain rfl:j=k:=by omega
     exact hpk
  ·have d1:decide ((k:Int) < (l.length:Int))=false:=by simp; omega
   rw [if_neg (by rw [d1]; decide)]
   refine .inr ⟨_,rfl,.inr ⟨⟨_,rfl⟩,fun x hx=>?_⟩⟩
   obtain ⟨j,hj,rfl⟩:=List.getElem_of_mem hx
   exact h3 j hj (by omega)
 obtain ⟨r,h1,h2⟩:=hp
 unfold W9
 rw [h1]
 rcases h2 with ⟨i,h,rfl,h3,h4⟩ | ⟨⟨q,rfl⟩,h3⟩
 ·exact .inl ⟨i,h,rfl,h3,h4⟩
 ·exact .inr ⟨rfl,h3⟩
theorem abd {α : Type} (l:List α) (z a : α) (k:Nat) (hk:k≤l.length) (hl:l.length≤900000) :
  (Option.bind (mkO z (i64.wrap ((l.length:Int) + 1))) fun xs=>Option.bind (hiO l (k:Int)) fun lo=>Option.bind (oV xs 0 xs.length lo) fun zs=>Option.bind (aw zs (k:Int)) fun _=>Option.bind (vwO (zs.set ((k:Int)).toNat a).length (i64.wrap ((k:Int) + 1)) ((zs.set ((k:Int)).toNat a).length:Int)) fun _=>Option.bind (loO l (k:Int)) fun hi=>Option.bind (oV (zs.set ((k:Int)).toNat a) (i64.wrap ((k:Int) + 1)).toNat (((zs.set ((k:Int)).toNat a).length:Int)).toNat hi) fun r=>some r)=some (l.take k++a::l.drop k):=by
 have h:=abP (l.take k) (l.drop k) z a (by simp; omega)
 have e0:(l.take k).length=k:=by simp; omega
 have e1:(l.drop k).length=l.length - k:=by simp
 rw [e0,e1] at h
 have e2:i64.wrap (i64.wrap ((k:Int) + 1) + ((l.length - k:Nat) : Int))=i64.wrap ((l.length:Int) + 1):=by rw [IntKind.wrap_i64,IntKind.wrap_i64,IntKind.wrap_i64]; omega
 rw [e2] at h
 rw [lB hk,i6 hk]
 exact h
theorem Ed {α : Type} (key : α→Int) (l:List α) (a : α) (h:∀ x∈l,key x≠key a) : l.take (l.takeWhile fun x=>decide (key x < key a)).length++a::l.drop (l.takeWhile fun x=>decide (key x < key a)).length=dp key l a:=by
 unfold dp
 cases hq:l[(l.takeWhile fun x=>decide (key x < key a)).length]? with
 | none=>rfl
 | some x =>
  have d:(key x==key a)=false:=by
   have:=h x (List.mem_of_getElem? hq)
   simpa using this
  simp only [d,zf,if_false]
noncomputable def Mf (l:List ai) (id:Int) : Option Int:=rM (l,(id,()))
noncomputable def aao (l:List ai) (p:ai) : Option (List ai):=tM (l,(p,()))
noncomputable def Em (l:List ai) (i:Int) : Option (List ai):=nx (l,(i,()))
noncomputable def Pn (s:aa) (k:Int) : Option au:=oK (s,(k,()))
noncomputable def Wh (a b:au) : Option au:=qC (a,(b,()))
noncomputable def Po (s:aa) (p:ai) : Option Int:=mq (s,(p,()))
noncomputable def TY (s:aa) (p:ai) (n:Int) : Option (aa×Int×Int):=tN (s,(p,(n,())))
noncomputable def Mg (s:aa) (id:Int) : Option (aa×Int):=rN (s,(id,()))
theorem Wg (a b:au) : Wh a b=some (lI a b):=by kernel_rfl
theorem Y0 (l:List ai) (id:Int) : Mf l id=Option.bind (W9 (fun x:ai=>x.fId==id) l) fun r=>some r:=by kernel_rfl
theorem yH (l:List ai) (id:Int) (hl:l.length≤1000000) : (∃ i,∃ h:i < l.length,Mf l id=some (i:Int)∧l[i].fId=id∧∀ j (hj:j < i),l[j].fId≠id)∨(Mf l id=some (-1)∧∀ x∈l,x.fId≠id):=by
 rw [Y0]
 rcases SJ (fun x:ai=>x.fId==id) l hl with ⟨i,h,h1,h2,h3⟩ | ⟨h1,h2⟩
 ·rw [h1]
  exact .inl ⟨i,h,rfl,by simpa using h2,fun j hj=>by simpa using h3 j hj⟩
 ·rw [h1]
  exact .inr ⟨rfl,fun x hx=>by simpa using h2 x hx⟩
noncomputable def JP (l:List ai) (p:ai) (k:Int) : Option (List ai):=Option.bind (mkO (⟨0,0,0,0,⟨0,0⟩⟩ : ai) (i64.wrap ((l.length:Int) + 1))) fun xs=>Option.bind (hiO l k) fun lo=>Option.bind (oV xs 0 xs.length lo) fun zs=>Option.bind (aw zs k) fun _=>Option.bind (vwO (zs.set k.toNat p).length (i64.wrap (k + 1)) ((zs.set k.toNat p).length:Int)) fun _=>Option.bind (loO l k) fun hi=>Option.bind (oV (zs.set k.toNat p) (i64.wrap (k + 1)).toNat (((zs.set k.toNat p).length:Int)).toNat hi) fun r=>some r
theorem aan (l:List ai) (p:ai) : aao l p=Option.bind (W9 (fun x:ai=>decide (x.fId > p.fId)) l) fun r=>if decide (r < 0)=true then JP l p (l.length:Int) else JP l p r:=by kernel_rfl
def Ec (l:List ai) (p:ai) : List ai:=l.take (l.takeWhile fun x=>!decide (x.fId > p.fId)).length++p::l.drop (l.takeWhile fun x=>!decide (x.fId > p.fId)).length
theorem YZ (l:List ai) (p:ai) (hl:l.length≤900000) : aao l p=some (Ec l p):=by
 rw [aan]
 unfold Ec
 have hr:∀ k:Nat,k≤l.length→JP l p (k:Int)=some (l.take k++p::l.drop k):=fun k hk=>abd l _ p k hk hl
 rcases SJ (fun x:ai=>decide (x.fId > p.fId)) l (by omega) with ⟨i,h,h1,h2,h3⟩ | ⟨h1,h2⟩
 ·rw [h1,yz _ l i h (fun j hj=>by simp only [h3 j hj,Bool.not_false]) (by simp only [h2,Bool.not_true])]
  simp only [zb]
  rw [if_neg (by simp),hr i (by omega)]
 ·rw [h1,rn _ l (fun x hx=>by simp only [h2 x hx,Bool.not_false])]
  simp only [zb]
  rw [if_pos (by decide),hr l.length (Nat.le_refl _)]
theorem Pm (l:List ai) (i:Int) : Em l i=Option.bind (mkO (⟨0,0,0,0,⟨0,0⟩⟩ : ai) (i64.wrap ((l.length:Int) - 1))) fun xs=>Option.bind (hiO l i) fun lo=>Option.bind (oV xs 0 xs.length lo) fun zs=>Option.bind (vwO zs.length i (zs.length:Int)) fun _=>Option.bind (loO l (i64.wrap (i + 1))) fun hi=>Option.bind (oV zs i.toNat ((zs.length:Int)).toNat hi) fun r=>some r:=by kernel_rfl
theorem Me (l:List ai) (i:Nat) (h:i < l.length) (hl:l.length≤900000) : Em l (i:Int)=some (l.take i++l.drop (i + 1)):=by
 rw [Pm]
 have e1:i64.wrap ((l.length:Int) - 1)=((l.length - 1:Nat) : Int):=by rw [IntKind.wrap_i64]; omega
 have e2:i64.wrap ((i:Int) + 1)=((i + 1:Nat) : Int):=by rw [IntKind.wrap_i64]; omega
 have e3:mkO (⟨0,0,0,0,⟨0,0⟩⟩ : ai) ((l.length - 1:Nat) : Int)=some (List.replicate (l.length - 1) ⟨0,0,0,0,⟨0,0⟩⟩):=by
  unfold mkO
  rw [if_pos ⟨by omega,by omega⟩,zt]
 rw [e1,e2,e3,lB (by omega),i6 (by omega)]
 simp only [zb]
 have ti:(l.take i).length=i:=by rw [List.length_take]; omega
 have e4:oV (List.replicate (l.length - 1) (⟨0,0,0,0,⟨0,0⟩⟩ : ai)) 0 (List.replicate (l.length - 1) (⟨0,0,0,0,⟨0,0⟩⟩ : ai)).length (l.take i)=some (l.take i++List.replicate (l.length - 1 - i) ⟨0,0,0,0,⟨0,0⟩⟩):=by
  unfold oV
  rw [if_pos ⟨by omega,Nat.le_refl _⟩]
  unfold ka
  simp only [List.length_replicate,Nat.sub_zero,List.take_zero,List.nil_append,Nat.zero_add,List.drop_replicate]
  rw [List.take_of_length_le (show (l.take i).length≤l.length - 1 by omega),ti]
 rw [e4]
 simp only [zb]
 have e7:(l.take i++List.replicate (l.length - 1 - i) (⟨0,0,0,0,⟨0,0⟩⟩ : ai)).length=l.length - 1:=by rw [List.length_append,ti,List.length_replicate]; omega
 rw [e7]
 have e8:vwO (l.length - 1) (i:Int) ((l.length - 1:Nat) : Int)=some ():=by
  unfold vwO
  rw [if_pos ⟨by omega,by omega,by omega,by omega⟩]
 rw [e8]
 simp only [zb,zt]
 unfold oV
 rw [if_pos ⟨by omega,by rw [e7]; exact Nat.le_refl _⟩]
 unfold ka
 have dl:(l.drop (i + 1)).length=l.length - 1 - i:=by rw [List.length_drop]; omega
 have h3:(l.take i++List.replicate (l.length - 1 - i) (⟨0,0,0,0,⟨0,0⟩⟩ : ai)).drop (i + (l.drop (i + 1)).length) = []:=List.drop_of_length_le (by rw [e7,dl]; omega)
 have h4:(l.take i++List.replicate (l.length - 1 - i) (⟨0,0,0,0,⟨0,0⟩⟩ : ai)).take i=l.take i:=by
  rw [List.take_append,List.take_of_length_le (show (l.take i).length≤i by omega),ti,Nat.sub_self,List.take_zero,List.append_nil]
 rw [List.take_of_length_le (show (l.drop (i + 1)).length≤l.length - 1 - i by omega),h3,h4,List.append_nil]
 rfl
def OU (s:aa) (k:Int) : au:=s.aD.foldl (fun v n=>if (n.fUp&&n.aA==k)=true then lI v n.jq else v) ⟨0,0⟩
theorem Wz (s:aa) (k:Int) : Pn s k=Option.bind (ah (fun st:Int×au=>if decide (st.1 < (s.aD.length:Int))=true then Option.bind (aw s.aD st.1) fun x=>Option.bind (if x.fUp=true then some (x.aA==k) else some false) fun q=>if q=true then Option.bind (Wh st.2 x.jq) fun r=>some (.inl (i64.wrap (st.1 + 1),r)) else some (.inl (i64.wrap (st.1 + 1),st.2)) else some (.inr (st.1,st.2))) ab ((0:Int),(⟨0,0⟩ : au))) fun st:Int×au=>some st.2:=by kernel_rfl
theorem Ic (s:aa) (k:Int) (hl:s.aD.length≤1000000) : Pn s k=some (OU s k):=by
 rw [Wz]
 have h:=az s.aD (S:=Int×au) (τ:=Int×au) (f:=fun st:Int×au=>if decide (st.1 < (s.aD.length:Int))=true then Option.bind (aw s.aD st.1) fun x=>Option.bind (if x.fUp=true then some (x.aA==k) else some false) fun q=>if q=true then Option.bind (Wh st.2 x.jq) fun r=>some (.inl (i64.wrap (st.1 + 1),r)) else some (.inl (i64.wrap (st.1 + 1),st.2)) else some (.inr (st.1,st.2))) (fun a_ k_=>(k_,a_)) (fun v n=>some (.inl (if (n.fUp&&n.aA==k)=true then lI v n.jq else v))) (fun a_=>((s.aD.length:Int),a_)) (ao hl) (fun j a x hx=>by
  have hk:=(zg.1 hx).1
  simp only [bL hx,if_true,aH hx,zb,bb hk hl,cW,Wg]
  cases (x.fUp&&x.aA==k) <;> rfl) (fun a=>by simp only [bF,zf,if_false]) (⟨0,0⟩ : au)
 rw [show ((0:Int),(⟨0,0⟩ : au))=(fun (a_:au) (k_:Int)=>(k_,a_)) ⟨0,0⟩ 0 from rfl,h,kJ]
 rfl
def Hg (s:aa) (p:ai) : Int:=if ((!AO p.fId 999 || !AO p.aA (i64.wrap ((s.bG.aj.length:Int) - 1)))||(p.a8.bg==0&&p.a8.aI==0))=true then 1 else if (s.al.any fun x=>x.fId==p.fId)=true then 7 else if decide ((s.al.length:Int)≥12)=true then 4 else if decide (p.aB < s.cx)=true then 15 else 0
theorem WC (s:aa) (p:ai) : Po s p=Option.bind (inP p.fId 999) fun r=>Option.bind (if (!r)=true then some true else Option.bind (inP p.aA (i64.wrap ((s.bG.aj.length:Int) - 1))) fun r=>some (!r)) fun q=>Option.bind (if q=true then some true else some (p.a8.bg==0&&p.a8.aI==0)) fun q=>if q=true then some 1 else Option.bind (Mf s.al p.fId) fun r=>if decide (r≥0)=true then some 7 else if decide ((s.al.length:Int)≥12)=true then some 4 else if decide (p.aB < s.cx)=true then some 15 else some 0:=by kernel_rfl
theorem AY (s:aa) (p:ai) (hl:s.al.length≤1000000) : Po s p=some (Hg s p):=by
 rw [WC]
 unfold Hg
 simp only [W8,zb,orB]
 split
 ·rfl
 rcases yH s.al p.fId hl with ⟨i,h,h1,h2,_⟩ | ⟨h1,h2⟩
 ·rw [h1]
  simp only [zb]
  rw [if_pos (by simp),if_pos (List.any_eq_true.2 ⟨_,List.getElem_mem h,by rw [h2]; simp⟩)]
 ·rw [h1]
  simp only [zb]
  have h3:(s.al.any fun x=>x.fId==p.fId)=false:=by
   rw [List.any_eq_false]
   intro x hx
   have:=h2 x hx
   simpa using this
  rw [if_neg (show ¬ decide ((-1:Int)≥0)=true by decide),h3]
  simp only [zf,if_false]
  cases decide ((s.al.length:Int)≥12) with
  | true=>rfl
  | false=>cases decide (p.aB < s.cx) <;> rfl
theorem Pp (s:aa) (p:ai) (n:Int) : TY s p n=Option.bind (J5 s) fun r=>Option.bind (Po s p) fun e=>if (e != 0)=true then some (r.2,0,e) else Option.bind (Pn s p.aA) fun v=>Option.bind (Ei s.al v p n) fun r3=>if (r3.2==0)=true then Option.bind (aao s.al ⟨p.fId,p.aA,r3.1,i64.wrap (r3.1 + n),p.a8⟩) fun l=>some ({ r.2 with al:=l },r3.1,r3.2) else some (r.2,r3.1,r3.2):=by kernel_rfl
theorem So (s:aa) (id:Int) : Mg s id=Option.bind (J5 s) fun r=>Option.bind (Mf s.al id) fun i=>if decide (i < 0)=true then some (r.2,2) else Option.bind (Em s.al i) fun l=>some ({ r.2 with al:=l },0):=by kernel_rfl
theorem WE {s:aa} {p:ai} {n:Int} (h:j7 s) (hc:Hg s p≠0) : TY s p n=some (s,0,Hg s p):=by
 rw [Pp,ss h,AY s p h.plans]
 simp only [zb]
 rw [if_pos (by simpa using hc)]
theorem WD {s:aa} {p:ai} {n e:Int} (h:j7 s) (hl:s.al.length≤100000) (hc:Hg s p=0) (hp:PlS s.al (OU s p.aA) p n (0,e)) (he:e≠0) : TY s p n=some (s,0,e):=by
 obtain ⟨r,r1,r2⟩:=AV s.al (OU s p.aA) p n hl
 obtain rfl:=PlS.unique r2 hp
 rw [Pp,ss h,AY s p h.plans,hc,Ic s _ h.nodes]
 simp only [zb,r1]
 have d0:((0:Int) != 0)=false:=rfl
 rw [if_neg (by rw [d0]; decide),if_neg (by simpa using he)]
theorem Y3 {s:aa} {p:ai} {n t:Int} (h:j7 s) (hl:s.al.length≤100000) (hc:Hg s p=0) (hp:PlS s.al (OU s p.aA) p n (t,0)) : TY s p n=some ({ s with al:=Ec s.al ⟨p.fId,p.aA,t,i64.wrap (t + n),p.a8⟩ },t,0):=by
 obtain ⟨r,r1,r2⟩:=AV s.al (OU s p.aA) p n hl
 obtain rfl:=PlS.unique r2 hp
 rw [Pp,ss h,AY s p h.plans,hc,Ic s _ h.nodes]
 simp only [zb,r1]
 have d0:((0:Int) != 0)=false:=rfl
 rw [if_neg (by rw [d0]; decide),if_pos (show ((0:Int)==0)=true from rfl),YZ _ _ (by omega)]
 rfl
theorem WA {s:aa} {id:Int} {i:Nat} (h:j7 s) (hl:s.al.length≤100000) (hi:i < s.al.length) (he:s.al[i].fId=id) (hj:∀ j (hj:j < i),s.al[j].fId≠id) : Mg s id=some ({ s with al:=s.al.take i++s.al.drop (i + 1) },0):=by
 rw [So,ss h]
 simp only [zb]
 rcases yH s.al id h.plans with ⟨k,hk,h1,h2,h3⟩ | ⟨h1,h2⟩
 ·have:k=i:=by
   rcases Nat.lt_trichotomy k i with q | q | q
   ·exact absurd h2 (hj k q)
   ·exact q
   ·exact absurd he (h3 i q)
  subst this
  rw [h1]
  simp only [zb]
  rw [if_neg (by simp),Me _ _ hk (by omega)]
  rfl
 ·exact absurd he (h2 _ (List.getElem_mem hi))
theorem WB {s:aa} {id:Int} (h:j7 s) (hn:∀ x∈s.al,x.fId≠id) : Mg s id=some (s,2):=by
 rw [So,ss h]
 simp only [zb]
 rcases yH s.al id h.plans with ⟨k,hk,h1,h2,h3⟩ | ⟨h1,h2⟩
 ·exact absurd h2 (hn _ (List.getElem_mem hk))
 ·rw [h1]
  rfl
theorem L6 {l:List ai} {p:ai} (h:∀ x∈l,x.fId≠p.fId) : Ec l p=dp ai.fId l p:=by
 have e:∀ (l:List ai),(∀ x∈l,x.fId≠p.fId)→(l.takeWhile fun x=>!decide (x.fId > p.fId))=l.takeWhile fun x=>decide (x.fId < p.fId):=by
  intro l
  induction l with
  | nil=>intro _; rfl
  | cons x l ih =>
   intro h
   have hx:=h x List.mem_cons_self
   have:(!decide (x.fId > p.fId))=decide (x.fId < p.fId):=by
    by_cases q:x.fId < p.fId
    ·rw [decide_eq_true q,decide_eq_false (show ¬ x.fId > p.fId by omega)]; rfl
    ·rw [decide_eq_false q,decide_eq_true (show x.fId > p.fId by omega)]; rfl
   rw [List.takeWhile_cons,List.takeWhile_cons,this,ih (fun y hy=>h y (List.mem_cons_of_mem _ hy))]
 unfold Ec
 rw [e l h,Ed ai.fId l p h]
theorem Wr {l:List ai} {p q:ai} (h:q∈Ec l p) : q∈l∨q=p:=by
 unfold Ec at h
 rcases List.mem_append.1 h with h | h
 ·exact .inl (List.mem_of_mem_take h)
 ·rcases List.mem_cons.1 h with h | h
  ·exact .inr h
  ·exact .inl (List.mem_of_mem_drop h)
theorem L5 (l:List ai) (p:ai) : (Ec l p).length=l.length + 1:=by
 have:=ln (fun x:ai=>!decide (x.fId > p.fId)) l
 unfold Ec
 rw [List.length_append,List.length_cons,List.length_take,List.length_drop]
 omega
def PlI (l:List ai) : Prop:=l.length≤12∧kP ai.fId l∧∀ o∈l,(0≤o.a8.bg∧o.a8.bg≤1073741824∧0≤o.a8.aI∧o.a8.aI≤1073741824)∧0≤o.aB∧o.aB≤1000000∧0≤o.aP∧o.aP≤1000000
theorem PlI.sm {l:List ai} (h:PlI l) : SmP l:=⟨h.1,fun o ho=>by
 have:=h.2.2 o ho
 omega⟩
theorem UJ {s:aa} {p:ai} (h:PlI s.al) : ah (fV s p) ab ((0:Int),(0:Int))=some (if (s.al.any fun x=>x.fId==p.fId)=true then .inr (s,0,7) else .inl (((s.al.takeWhile fun x=>decide (x.fId < p.fId)).length:Int),(s.al.length:Int))):=by
 obtain ⟨hl,hs,_⟩:=h
 obtain ⟨r,e1,e2⟩:=aM (f:=fV s p) (fun st=>∃ i:Nat,st.2=(i:Int)∧i≤s.al.length∧st.1=(((s.al.take i).takeWhile fun x=>decide (x.fId < p.fId)).length:Int)∧∀ x∈s.al.take i,x.fId≠p.fId) (fun st=>s.al.length - st.2.toNat) (fun r=>r=if (s.al.any fun x=>x.fId==p.fId)=true then .inr (s,0,7) else .inl (((s.al.takeWhile fun x=>decide (x.fId < p.fId)).length:Int),(s.al.length:Int))) (fun st ⟨i,g1,g2,g3,g4⟩=>by
  unfold fV
  dsimp only
  rw [g1]
  rcases Nat.lt_or_ge i s.al.length with hlt | hge
  ·have hx:=zq hlt
   have hmem:=List.getElem_mem hlt
   rw [bL hx,if_pos rfl,aH hx]
   simp only [zb]
   have hw:i64.wrap ((i:Int) + 1)=((i + 1:Nat) : Int):=bb hlt (by omega)
   have hmu:s.al.length - (((i + 1:Nat) : Int)).toNat < s.al.length - ((i:Nat) : Int).toNat:=by simp only [zt]; omega
   have htk:s.al.take (i + 1)=s.al.take i ++ [s.al[i]]:=List.take_succ_eq_append_getElem hlt
   have hti:(s.al.take i).length=i:=by rw [List.length_take]; omega
   have hlow:∀ x∈s.al.take i,x.fId < s.al[i].fId:=fun x hx=>by
    obtain ⟨j,hj,rfl⟩:=List.getElem_of_mem hx
    rw [List.getElem_take]
    exact List.pairwise_iff_getElem.1 hs j i (by omega) hlt (by omega)
   by_cases he:s.al[i].fId=p.fId
   ·rw [if_pos (by simpa using he)]
    refine .inr ⟨_,rfl,?_⟩
    rw [if_pos (List.any_eq_true.2 ⟨_,hmem,by simpa using he⟩)]
   ·rw [if_neg (by simpa using he)]
    have hne:∀ x∈s.al.take (i + 1),x.fId≠p.fId:=fun x hx=>by
     rw [htk] at hx
     rcases List.mem_append.1 hx with hx | hx
     ·exact g4 x hx
     ·rw [List.mem_singleton.1 hx]; exact he
    by_cases hlt2:s.al[i].fId < p.fId
    ·rw [if_pos (decide_eq_true hlt2),hw]
     refine .inl ⟨_,rfl,⟨i + 1,rfl,hlt,?_,hne⟩,hmu⟩
     show ((i + 1:Nat) : Int) = _
     rw [rn _ (s.al.take (i + 1)) (fun x hx=>by
      rw [htk] at hx
      rcases List.mem_append.1 hx with hx | hx
      ·have:=hlow x hx
       exact decide_eq_true (by omega)
      ·rw [List.mem_singleton.1 hx]; exact decide_eq_true hlt2),List.length_take]
     omega
    ·rw [if_neg (by simpa using hlt2),hw]
     refine .inl ⟨_,rfl,⟨i + 1,rfl,hlt,?_,hne⟩,hmu⟩
     show st.1 = _
     rw [g3,htk,List.takeWhile_append]
     split
     ·rw [List.takeWhile_cons,if_neg (by simpa using hlt2),List.append_nil]
      rename_i h9
      rw [h9]
     ·rfl
  ·obtain rfl:i=s.al.length:=by omega
   rw [bF,if_neg (by decide)]
   refine .inr ⟨_,rfl,?_⟩
   rw [List.take_length] at g3 g4
   have hany:(s.al.any fun x=>x.fId==p.fId)=false:=by
    rw [List.any_eq_false]
    intro x hx
    have:=g4 x hx
    simpa using this
   rw [hany,if_neg (by decide),g3]) ab (0,0) ⟨0,rfl,Nat.zero_le _,by simp,fun x hx=>by simp at hx⟩ (by have:=ao (n:=s.al.length) (by omega); show s.al.length - (0:Int).toNat < ab; omega)
 rw [e1,e2]
def UF (s:aa) (p:ai) : Bool:=((decide (p.fId < 0)||decide (p.fId > 999))||decide (p.aA < 0))||decide (p.aA≥(s.bG.aj.length:Int))||(p.a8.bg==0&&p.a8.aI==0)
theorem X1 {s:aa} {p:ai} {n:Int} (h:PlI s.al) : nQ s p n=if UF s p=true then some (s,0,1) else if (s.al.any fun x=>x.fId==p.fId)=true then some (s,0,7) else if decide ((s.al.length:Int)≥12)=true then some (s,0,4) else if decide (p.aB < s.cx)=true then some (s,0,15) else Option.bind (fv s p.aA) fun v=>Option.bind (nj s.al v p n) fun c=>if (c.2 != 0)=true then some (s,0,c.2) else some ({ s with al:=Ec s.al ⟨p.fId,p.aA,c.1,i64.wrap (c.1 + n),p.a8⟩ },c.1,0):=by
 unfold nQ
 simp only [zb,orB]
 change (if UF s p=true then _ else _) = _
 cases UF s p with
 | true=>rfl
 | false =>
  simp only [zf,if_false]
  rw [UJ h]
  simp only [zb]
  cases hany:(s.al.any fun x=>x.fId==p.fId) with
  | true=>simp only [if_true]
  | false =>
   simp only [zf,if_false]
   have hne:∀ (x:ai),x∈s.al→∀ (t:Int) (u:Int),x.fId≠ai.fId ⟨p.fId,p.aA,t,u,p.a8⟩:=fun x hx t u=>by
    have:=(List.any_eq_false.1 hany) x hx
    simpa using this
   have hle:=ln (fun x:ai=>decide (x.fId < p.fId)) s.al
   have hl:=h.1
   split
   ·rfl
   ·split
    ·rfl
    ·congr 1
     funext v
     congr 1
     funext c
     split
     ·rfl
     ·rw [lB hle]
      simp only [zb]
      rw [aJ (by simp; omega)]
      simp only [zb,List.nil_append]
      rw [aJ (by simp; omega)]
      simp only [zb]
      rw [i6 hle]
      simp only [zb]
      rw [aJ (by simp; omega)]
      simp only [zb]
      rw [L6 (fun x hx=>hne x hx _ _),← Ed ai.fId s.al _ (fun x hx=>hne x hx c.1 (i64.wrap (c.1 + n)))]
      simp
theorem S5 {s:aa} {id:Int} (h:PlI s.al) : kl s id=if ((((s.al.filter fun c=>c.fId != id).length:Nat) : Int)==(s.al.length:Int))=true then some (s,2) else some ({ s with al:=s.al.filter fun c=>c.fId != id },0):=by
 have hl:=h.1
 unfold kl
 dsimp only
 have e:dy s id=fun acc x=>if (x.fId != id)=true then (aX acc [id' x]).map (fun a=>(.inl a:List ai⊕(List ai×Int))) else some (.inl acc):=by
  funext acc x
  unfold dy
  dsimp only [id']
  split
  ·cases aX acc [x] <;> rfl
  ·rfl
 rw [rf s id [] (by omega),e,cd (fun c:ai=>c.fId != id) id' _ s.al [] (by simp; omega)]
 simp only [zb,List.nil_append,td]
theorem PlI.add {l:List ai} (h:PlI l) {p:ai} {v:au} {n t:Int} (hlt:l.length < 12) (hne:∀ x∈l,x.fId≠p.fId) (hp:PlS l v p n (t,0)) : PlI (Ec l ⟨p.fId,p.aA,t,i64.wrap (t + n),p.a8⟩):=by
 rcases hp with ⟨_,h9⟩ | ⟨hb,⟨t',h9,hok,_⟩ | ⟨h9,_⟩⟩
 ·cases h9
 ·injection h9 with h9 _
  subst h9
  obtain ⟨n1,n2,f1,f2,u1,u2,hn⟩:=uZ hb
  have k1:=hok.1
  have k2:=hok.2.1
  refine ⟨by rw [L5]; omega,?_,fun o ho=>?_⟩
  ·rw [L6 (p:=⟨p.fId,p.aA,t,i64.wrap (t + n),p.a8⟩) (fun x hx=>hne x hx)]
   exact g8 _ _ _ h.2.1
  ·rcases Wr ho with ho | ho
   ·exact h.2.2 o ho
   ·rw [ho,nU (by omega) (by omega)]
    refine ⟨hn,?_⟩
    show 0≤t∧t≤1000000∧0≤t + n∧t + n≤1000000
    omega
 ·injection h9 with _ h9
  cases h9
theorem PlI.filter {l:List ai} (h:PlI l) (q:ai→Bool) : PlI (l.filter q):=⟨Nat.le_trans (List.length_filter_le _ _) h.1,h.2.1.filter _,fun o ho=>h.2.2 o (List.mem_filter.1 ho).1⟩
def eL (v_s:aa) (v_c:ay) (st:Unit) (v_i:Int) (x_:ByteArray) : Option ((Unit)⊕((Int)⊕(aa×bz))) :=
 (aw v_c.aj v_i).bind fun b9=>if (!(b9.toList==x_.toList))=true then
 (dg v_s 14).bind fun c10=>some (.inr (.inr c10))
 else
 some (.inl ())
theorem wy (v_s:aa) (v_c:ay) (a_:Unit) (hl:v_s.bG.aj.length≤1000000) : ah (eD v_s v_c) ab (0)=nX (eL v_s v_c) (fun a_=>(.inl ((v_s.bG.aj.length:Int)))) a_ 0 v_s.bG.aj :=
 fq v_s.bG.aj (S:=Int) (fun a_ k_=>(k_)) (eL v_s v_c) (fun a_=>(.inl ((v_s.bG.aj.length:Int)))) (ao hl) (fun k a x hx=>by
  unfold eD eL; exact bJ)
  (fun a=>by unfold eD; exact cI) a_
def eJ (v_s:aa) (v_c:ay) (st:Unit) (x_:aC) : Option ((Unit)⊕((Int)⊕(aa×bz))) :=
 (dK x_).bind fun c17=>(if c17=true then (kv v_c x_.bQ).bind fun c18=>some (!c18) else some false).bind fun q19=>if q19=true then
 (dg v_s 14).bind fun c20=>some (.inr (.inr c20))
 else
 some (.inl ())
theorem wv (v_s:aa) (v_c:ay) (a_:Unit) (hl:v_s.ar.length≤1000000) : ah (eB v_s v_c) ab (0)=br (eJ v_s v_c) (fun a_=>(.inl ((v_s.ar.length:Int)))) a_ v_s.ar :=
 az v_s.ar (S:=Int) (fun a_ k_=>(k_)) (eJ v_s v_c) (fun a_=>(.inl ((v_s.ar.length:Int)))) (ao hl) (fun k a x hx=>by
  unfold eB eJ; exact bJ)
  (fun a=>by unfold eB; exact cI) a_
def jv (v_s:aa) (bU:Int) (st:(List Int)) (x_:an) : Option (((List Int))⊕(((List Int)×Int))) :=
 let v_l:=st
 if (x_.bM==bU)=true then
 (aX v_l [x_.fId]).bind fun b4=>let v_l:(List Int):=b4
 some (.inl v_l)
 else
 some (.inl v_l)
theorem C4 (v_s:aa) (bU:Int) (a_:(List Int)) (hl:v_s.ac.length≤1000000) : ah (ph v_s bU) ab (a_,(0))=br (jv v_s bU) (fun a_=>(a_,((v_s.ac.length:Int)))) a_ v_s.ac :=
 az v_s.ac (S:=(List Int)×Int) (fun a_ k_=>(a_,(k_))) (jv v_s bU) (fun a_=>(a_,((v_s.ac.length:Int)))) (ao hl) (fun k a x hx=>by
  unfold ph jv; exact bJ)
  (fun a=>by unfold ph; exact cI) a_
def gz (v_x:aN) (v_t:aa) (st:(List Int)) (x_:Int) : Option (((List Int))⊕(((List Int)×Int))) :=
 let bS:=st
 (eZ v_t x_).bind fun c11=>let v_c:an:=c11.1
 let yw:Bool:=c11.2
 (if yw=true then some (v_c.bM==v_x.fId) else some false).bind fun q12=>if q12=true then
 (aX bS [v_c.fId]).bind fun b13=>let bS:(List Int):=b13
 some (.inl bS)
 else
 some (.inl bS)
theorem zF (v_x:aN) (v_t:aa) (a_:(List Int)) (hl:v_x.gm.length≤1000000) : ah (lO v_x v_t) ab (a_,(0))=br (gz v_x v_t) (fun a_=>(a_,((v_x.gm.length:Int)))) a_ v_x.gm :=
 az v_x.gm (S:=(List Int)×Int) (fun a_ k_=>(a_,(k_))) (gz v_x v_t) (fun a_=>(a_,((v_x.gm.length:Int)))) (ao hl) (fun k a x hx=>by
  unfold lO gz; exact bJ)
  (fun a=>by unfold lO; exact cI) a_
def fy (bS:(List Int)) (v_s:aa) (st:(List an)) (x_:Int) : Option (((List an))⊕(((List an)×Int))) :=
 let v_l:=st
 (eZ v_s x_).bind fun c4=>let v_c:an:=c4.1
 let bV:Bool:=c4.2
 if bV=true then
 (aX v_l [v_c]).bind fun b5=>let v_l:(List an):=b5
 some (.inl v_l)
 else
 some (.inl v_l)
theorem xV (bS:(List Int)) (v_s:aa) (a_:(List an)) (hl:bS.length≤1000000) : ah (kx bS v_s) ab (a_,(0))=br (fy bS v_s) (fun a_=>(a_,((bS.length:Int)))) a_ bS :=
 az bS (S:=(List an)×Int) (fun a_ k_=>(a_,(k_))) (fy bS v_s) (fun a_=>(a_,((bS.length:Int)))) (ao hl) (fun k a x hx=>by
  unfold kx fy; exact bJ)
  (fun a=>by unfold kx; exact cI) a_
def ef (v_s:aa) (fm:Int) (st:(List Int)) (x_:an) : Option (((List Int))⊕(((List Int)×Int))) :=
 let v_l:=st
 (if (x_.bC==fm)=true then some (x_.jF != 0) else some false).bind fun q6=>if q6=true then
 (aX v_l [x_.fId]).bind fun b7=>let v_l:(List Int):=b7
 some (.inl v_l)
 else
 some (.inl v_l)
theorem ve (v_s:aa) (fm:Int) (a_:(List Int)) (hl:v_s.ac.length≤1000000) : ah (jd v_s fm) ab (a_,(0))=br (ef v_s fm) (fun a_=>(a_,((v_s.ac.length:Int)))) a_ v_s.ac :=
 az v_s.ac (S:=(List Int)×Int) (fun a_ k_=>(a_,(k_))) (ef v_s fm) (fun a_=>(a_,((v_s.ac.length:Int)))) (ao hl) (fun k a x hx=>by
  unfold jd ef; exact bJ)
  (fun a=>by unfold jd; exact cI) a_
def fx (kG:(List aV)) (v_s:aa) (st:(List aV)) (x_:aV) : Option (((List aV))⊕(((List aV)×Int)⊕((List aV)×Int))) :=
 let v_l:=st
 (p7 x_ (v_s.bG.aj.length:Int)).bind fun c5=>let v_e:Int:=c5
 if (v_e != 0)=true then
 some (.inr (.inr ([],v_e)))
 else
 (FX v_l x_).bind fun c6=>let v_l:(List aV):=c6.1
 let v_e:Int:=c6.2
 if (v_e != 0)=true then
 some (.inr (.inr ([],v_e)))
 else
 some (.inl v_l)
theorem xT (kG:(List aV)) (v_s:aa) (a_:(List aV)) (hl:kG.length≤1000000) : ah (kw kG v_s) ab (a_,(0))=br (fx kG v_s) (fun a_=>(.inl (a_,((kG.length:Int))))) a_ kG :=
 az kG (S:=(List aV)×Int) (fun a_ k_=>(a_,(k_))) (fx kG v_s) (fun a_=>(.inl (a_,((kG.length:Int))))) (ao hl) (fun k a x hx=>by
  unfold kw fx; exact bJ)
  (fun a=>by unfold kw; exact cI) a_
def eI (v_x:aN) (st:aa×aC) (x_:Int) : Option ((aa×aC)⊕((aa×aC×Int))) :=
 let v_s:=st.1
 let v_a:=st.2
 (eZ v_s x_).bind fun c17=>let v_c:an:=c17.1
 let yw:Bool:=c17.2
 (if yw=true then some (v_c.bC==v_a.fId) else some false).bind fun q18=>(if q18=true then some (!v_c.bI) else some false).bind fun q19=>if q19=true then
 (mn v_s v_c.fId).bind fun c20=>let v_s:aa:=c20
 (jB v_a.cf v_c.fId).bind fun c21=>let v_a:aC:={ v_a with cf:=c21.1 }
 some (.inl (v_s,v_a))
 else
 some (.inl (v_s,v_a))
theorem wt (v_x:aN) (a_:aa×aC) (hl:v_x.gm.length≤1000000) : ah (ez v_x) ab (a_.1,a_.2,(0))=br (eI v_x) (fun a_=>(a_.1,a_.2,((v_x.gm.length:Int)))) a_ v_x.gm :=
 az v_x.gm (S:=aa×aC×Int) (fun a_ k_=>(a_.1,a_.2,(k_))) (eI v_x) (fun a_=>(a_.1,a_.2,((v_x.gm.length:Int)))) (ao hl) (fun k a x hx=>by
  unfold ez eI; exact bJ)
  (fun a=>by unfold ez; exact cI) a_
def gy (v_s:aa) (fm:Int) (st:Unit) (x_:an) : Option ((Unit)⊕((Int)⊕(Int))) :=
 (if (x_.bC==fm)=true then some x_.bI else some false).bind fun q5=>if q5=true then
 some (.inr (.inr x_.fId))
 else
 some (.inl ())
theorem zE (v_s:aa) (fm:Int) (a_:Unit) (hl:v_s.ac.length≤1000000) : ah (lN v_s fm) ab (0)=br (gy v_s fm) (fun a_=>(.inl ((v_s.ac.length:Int)))) a_ v_s.ac :=
 az v_s.ac (S:=Int) (fun a_ k_=>(k_)) (gy v_s fm) (fun a_=>(.inl ((v_s.ac.length:Int)))) (ao hl) (fun k a x hx=>by
  unfold lN gy; exact bJ)
  (fun a=>by unfold lN; exact cI) a_
def gw (v_l:(List Int)) (st:aa) (x_:Int) : Option ((aa)⊕((aa×Int))) :=
 let v_s:=st
 (tA v_s x_).bind fun c12=>(d6 c12 x_).bind fun c13=>let v_s:aa:=c13
 (xU v_s x_).bind fun c14=>(gU v_s c14).bind fun c15=>let v_s:aa:=c15
 some (.inl v_s)
theorem zD (v_l:(List Int)) (a_:aa) (hl:v_l.length≤1000000) : ah (gx v_l) ab (a_,(0))=br (gw v_l) (fun a_=>(a_,((v_l.length:Int)))) a_ v_l :=
 az v_l (S:=aa×Int) (fun a_ k_=>(a_,(k_))) (gw v_l) (fun a_=>(a_,((v_l.length:Int)))) (ao hl) (fun k a x hx=>by
  unfold gx gw; exact bJ)
  (fun a=>by unfold gx; exact cI) a_
def gu (v_l:(List Int)) (st:aa) (x_:Int) : Option ((aa)⊕((aa×Int))) :=
 let v_s:=st
 (vf v_s x_).bind fun c17=>(gU v_s ([c17] : (List Int))).bind fun c18=>let v_s:aa:=c18
 some (.inl v_s)
theorem zB (v_l:(List Int)) (a_:aa) (hl:v_l.length≤1000000) : ah (gv v_l) ab (a_,(0))=br (gu v_l) (fun a_=>(a_,((v_l.length:Int)))) a_ v_l :=
 az v_l (S:=aa×Int) (fun a_ k_=>(a_,(k_))) (gu v_l) (fun a_=>(a_,((v_l.length:Int)))) (ao hl) (fun k a x hx=>by
  unfold gv gu; exact bJ)
  (fun a=>by unfold gv; exact cI) a_
def dw (v_s:aa) (st:(List ai)) (x_:ai) : Option (((List ai))⊕(((List ai)×Int))) :=
 let yq:=st
 if (decide (x_.aP > v_s.cx))=true then
 (aX yq [x_]).bind fun b21=>let yq:(List ai):=b21
 some (.inl yq)
 else
 some (.inl yq)
theorem rb (v_s:aa) (a_:(List ai)) (hl:v_s.al.length≤1000000) : ah (ju v_s) ab (a_,(0))=br (dw v_s) (fun a_=>(a_,((v_s.al.length:Int)))) a_ v_s.al :=
 az v_s.al (S:=(List ai)×Int) (fun a_ k_=>(a_,(k_))) (dw v_s) (fun a_=>(a_,((v_s.al.length:Int)))) (ao hl) (fun k a x hx=>by
  unfold ju dw; exact bJ)
  (fun a=>by unfold ju; exact cI) a_
section
def Pc {α : Type} (o:Option α) (Q : α→Prop) : Prop:=∀ r,o=some r→Q r
def K0 (P:aa→Prop) : aa→Prop:=P
def K1 {γ : Type} (P:aa→Prop) : aa×γ→Prop:=fun r=>P r.1
def KT {γ : Type} (_P:aa→Prop) : γ→Prop:=fun _=>True
def KS {α β : Type} (A : α→Prop) (B : β→Prop) : α⊕β→Prop
 | .inl a=>A a
 | .inr b=>B b
def PlP (s:aa) : Prop:=PlI s.al
section
variable {α β γ δ σ τ : Type} {Q : β→Prop}
theorem Pc.pure {a : β} (h:Q a) : Pc (some a) Q:=fun r e=>by injection e with e; subst e; exact h
theorem Pc.bindG {A : α→Prop} {o:Option α} {k : α→Option β} (h1:Pc o A) (h2:∀ x,A x→Pc (k x) Q) : Pc (Option.bind o k) Q:=fun r e=>by
 cases o with
 | none=>cases e
 | some a=>exact h2 a (h1 a rfl) r e
theorem Pc.bind0 {o:Option aa} {k:aa→Option β} (h1:Pc o (K0 PlP)) (h2:∀ x,PlP x→Pc (k x) Q) : Pc (Option.bind o k) Q:=Pc.bindG h1 h2
theorem Pc.bind1 {o:Option (aa×γ)} {k:aa×γ→Option β} (h1:Pc o (K1 PlP)) (h2:∀ x:aa×γ,PlP x.1→Pc (k x) Q) : Pc (Option.bind o k) Q:=Pc.bindG h1 h2
theorem Pc.bind2 {o:Option (γ×aa)} {k : γ×aa→Option β} (h1:Pc o (fun r=>PlP r.2)) (h2:∀ x : γ×aa,PlP x.2→Pc (k x) Q) : Pc (Option.bind o k) Q:=Pc.bindG h1 h2
theorem Pc.bindA {o:Option ((aa×γ)⊕(aa×δ))} {k:(aa×γ)⊕(aa×δ)→Option β} (h1:Pc o (KS (K1 PlP) (K1 PlP))) (h2:∀ x,KS (K1 PlP) (K1 PlP) x→Pc (k x) Q) : Pc (Option.bind o k) Q:=Pc.bindG h1 h2
theorem Pc.bindS {o:Option (γ⊕(aa×δ))} {k : γ⊕(aa×δ)→Option β} (h1:Pc o (KS (KT PlP) (K1 PlP))) (h2:∀ x,KS (KT PlP) (K1 PlP) x→Pc (k x) Q) : Pc (Option.bind o k) Q:=Pc.bindG h1 h2
theorem Pc.bindT {o:Option α} {k : α→Option β} (h2:∀ x,Pc (k x) Q) : Pc (Option.bind o k) Q:=Pc.bindG (A:=fun _=>True) (fun _ _=>trivial) fun x _=>h2 x
theorem Pc.ite {c:Prop} [Decidable c] {a b:Option β} (h1:Pc a Q) (h2:Pc b Q) : Pc (if c then a else b) Q:=by split <;> assumption
theorem Pc.loopG {f : σ→Option (σ⊕β)} {I : σ→Prop} (h:∀ st,I st→Pc (f st) (KS I Q)) : ∀ (n:Nat) (s : σ),I s→Pc (ah f n s) Q
 | 0,s,_=>fun r e=>by cases e
 | n + 1,s,hs=>fun r e=>by
  unfold ah at e
  have hf:=h s hs
  cases hr:f s with
  | none=>rw [hr] at e; cases e
  | some o =>
   have:=hf o hr
   rw [hr] at e
   cases o with
   | inl s'=>exact Pc.loopG h n s' this r e
   | inr t =>
    injection e with e
    subst e
    exact this
theorem Pc.loop {f:aa×γ→Option ((aa×γ)⊕β)} {n:Nat} {s:aa×γ} (h:∀ st:aa×γ,PlP st.1→Pc (f st) (KS (K1 PlP) Q)) (h0:PlP s.1) : Pc (ah f n s) Q:=Pc.loopG (I:=K1 PlP) h n s h0
theorem Pc.loopT {f : σ→Option (σ⊕β)} {n:Nat} {s : σ} (h:∀ st : σ,Pc (f st) (KS (KT PlP) Q)) : Pc (ah f n s) Q:=Pc.loopG (I:=KT PlP) (fun st _=>h st) n s trivial
end
theorem Rn (s:aa) (p:ai) (n:Int) (h:PlP s) : Pc (nQ s p n) (K1 PlP):=by
 rw [X1 h]
 refine Pc.ite (Pc.pure h) ?_
 split
 ·exact Pc.pure h
 rename_i hany
 split
 ·exact Pc.pure h
 rename_i h12
 refine Pc.ite (Pc.pure h) ?_
 refine Pc.bindT fun v=>?_
 obtain ⟨c,c1,c2⟩:=Ia s.al v p n (PlI.sm h)
 rw [c1]
 simp only [zb]
 split
 ·exact Pc.pure h
 ·rename_i hc
  have hc:c.2=0:=by simpa using hc
  refine Pc.pure (PlI.add h (v:=v) ?_ ?_ (by rw [show (c.1,(0:Int))=c by rw [← hc]]; exact c2))
  ·apply Classical.byContradiction
   intro q
   exact h12 (decide_eq_true (by omega))
  ·intro x hx e
   exact hany (List.any_eq_true.2 ⟨x,hx,by simpa using e⟩)
theorem N9 (s:aa) (id:Int) (h:PlP s) : Pc (kl s id) (K1 PlP):=by
 rw [S5 h]
 exact Pc.ite (Pc.pure h) (Pc.pure (PlI.filter h _))
theorem BA (v_s:aa) (v_n:aW) (h0:PlP v_s) : Pc (u6 v_s v_n) (K0 PlP):=by
 unfold u6
 try dsimp only
 repeat' (first | assumption | (exact fun _ _=>trivial) | (refine Pc.bind0 ?_ fun x hx=>?_) | (refine Pc.bind1 ?_ fun x hx=>?_) | (refine Pc.bind2 ?_ fun x hx=>?_) | (refine Pc.bindA ?_ fun x hx=>?_) | (refine Pc.bindS ?_ fun x hx=>?_) | (refine Pc.bindT fun x=>?_) | (refine Pc.ite ?_ ?_) | (refine Pc.loop (fun st hst=>?_) ?_) | (refine Pc.loopT fun st=>?_) | (refine Pc.pure ?_) | (exact trivial) | split)
theorem F3 (v_s:aa) (v_n:aW) (h0:PlP v_s) : Pc (k8 v_s v_n) (K1 PlP):=by
 unfold k8
 try dsimp only
 repeat' (first | assumption | (exact fun _ _=>trivial) | (apply BA <;> assumption) | (refine Pc.bind0 ?_ fun x hx=>?_) | (refine Pc.bind1 ?_ fun x hx=>?_) | (refine Pc.bind2 ?_ fun x hx=>?_) | (refine Pc.bindA ?_ fun x hx=>?_) | (refine Pc.bindS ?_ fun x hx=>?_) | (refine Pc.bindT fun x=>?_) | (refine Pc.ite ?_ ?_) | (refine Pc.loop (fun st hst=>?_) ?_) | (refine Pc.loopT fun st=>?_) | (refine Pc.pure ?_) | (exact trivial) | split)
theorem Qo (v_s:aa) (bw:Int) (AE:Int) (h0:PlP v_s) : Pc (vU v_s bw AE) (K1 PlP):=by
 unfold vU
 try dsimp only
 repeat' (first | assumption | (exact fun _ _=>trivial) | (apply BA <;> assumption) | (refine Pc.bind0 ?_ fun x hx=>?_) | (refine Pc.bind1 ?_ fun x hx=>?_) | (refine Pc.bind2 ?_ fun x hx=>?_) | (refine Pc.bindA ?_ fun x hx=>?_) | (refine Pc.bindS ?_ fun x hx=>?_) | (refine Pc.bindT fun x=>?_) | (refine Pc.ite ?_ ?_) | (refine Pc.loop (fun st hst=>?_) ?_) | (refine Pc.loopT fun st=>?_) | (refine Pc.pure ?_) | (exact trivial) | split)
theorem Qm (v_s:aa) (bw:Int) (h0:PlP v_s) : Pc (tA v_s bw) (K0 PlP):=by
 unfold tA
 try dsimp only
 repeat' (first | assumption | (exact fun _ _=>trivial) | (apply BA <;> assumption) | (refine Pc.bind0 ?_ fun x hx=>?_) | (refine Pc.bind1 ?_ fun x hx=>?_) | (refine Pc.bind2 ?_ fun x hx=>?_) | (refine Pc.bindA ?_ fun x hx=>?_) | (refine Pc.bindS ?_ fun x hx=>?_) | (refine Pc.bindT fun x=>?_) | (refine Pc.ite ?_ ?_) | (refine Pc.loop (fun st hst=>?_) ?_) | (refine Pc.loopT fun st=>?_) | (refine Pc.pure ?_) | (exact trivial) | split)
theorem nu (v_s:aa) (v_a:aC) (h0:PlP v_s) : Pc (dR v_s v_a) (K0 PlP):=by
 unfold dR
 try dsimp only
 repeat' (first | assumption | (exact fun _ _=>trivial) | (refine Pc.bind0 ?_ fun x hx=>?_) | (refine Pc.bind1 ?_ fun x hx=>?_) | (refine Pc.bind2 ?_ fun x hx=>?_) | (refine Pc.bindA ?_ fun x hx=>?_) | (refine Pc.bindS ?_ fun x hx=>?_) | (refine Pc.bindT fun x=>?_) | (refine Pc.ite ?_ ?_) | (refine Pc.loop (fun st hst=>?_) ?_) | (refine Pc.loopT fun st=>?_) | (refine Pc.pure ?_) | (exact trivial) | split)
theorem Hu (v_s:aa) (h0:PlP v_s) : Pc (nq v_s) (K0 PlP):=by
 unfold nq
 try dsimp only
 repeat' (first | assumption | (exact fun _ _=>trivial) | (refine Pc.bind0 ?_ fun x hx=>?_) | (refine Pc.bind1 ?_ fun x hx=>?_) | (refine Pc.bind2 ?_ fun x hx=>?_) | (refine Pc.bindA ?_ fun x hx=>?_) | (refine Pc.bindS ?_ fun x hx=>?_) | (refine Pc.bindT fun x=>?_) | (refine Pc.ite ?_ ?_) | (refine Pc.loop (fun st hst=>?_) ?_) | (refine Pc.loopT fun st=>?_) | (refine Pc.pure ?_) | (exact trivial) | split)
theorem Hw (v_s:aa) (v_a:aC) (h0:PlP v_s) : Pc (nr v_s v_a) (K1 PlP):=by
 unfold nr
 try dsimp only
 repeat' (first | assumption | (exact fun _ _=>trivial) | (apply nu <;> assumption) | (apply Hu <;> assumption) | (refine Pc.bind0 ?_ fun x hx=>?_) | (refine Pc.bind1 ?_ fun x hx=>?_) | (refine Pc.bind2 ?_ fun x hx=>?_) | (refine Pc.bindA ?_ fun x hx=>?_) | (refine Pc.bindS ?_ fun x hx=>?_) | (refine Pc.bindT fun x=>?_) | (refine Pc.ite ?_ ?_) | (refine Pc.loop (fun st hst=>?_) ?_) | (refine Pc.loopT fun st=>?_) | (refine Pc.pure ?_) | (exact trivial) | split)
theorem CI (v_s:aa) (bw:Int) (h0:PlP v_s) : Pc (ou v_s bw) (K1 PlP):=by
 unfold ou
 try dsimp only
 repeat' (first | assumption | (exact fun _ _=>trivial) | (refine Pc.bind0 ?_ fun x hx=>?_) | (refine Pc.bind1 ?_ fun x hx=>?_) | (refine Pc.bind2 ?_ fun x hx=>?_) | (refine Pc.bindA ?_ fun x hx=>?_) | (refine Pc.bindS ?_ fun x hx=>?_) | (refine Pc.bindT fun x=>?_) | (refine Pc.ite ?_ ?_) | (refine Pc.loop (fun st hst=>?_) ?_) | (refine Pc.loopT fun st=>?_) | (refine Pc.pure ?_) | (exact trivial) | split)
theorem RP (v_s:aa) (bw:Int) (sW:Int) (h0:PlP v_s) : Pc (Am v_s bw sW) (K1 PlP):=by
 unfold Am
 try dsimp only
 repeat' (first | assumption | (exact fun _ _=>trivial) | (apply nu <;> assumption) | (apply CI <;> assumption) | (refine Pc.bind0 ?_ fun x hx=>?_) | (refine Pc.bind1 ?_ fun x hx=>?_) | (refine Pc.bind2 ?_ fun x hx=>?_) | (refine Pc.bindA ?_ fun x hx=>?_) | (refine Pc.bindS ?_ fun x hx=>?_) | (refine Pc.bindT fun x=>?_) | (refine Pc.ite ?_ ?_) | (refine Pc.loop (fun st hst=>?_) ?_) | (refine Pc.loopT fun st=>?_) | (refine Pc.pure ?_) | (exact trivial) | split)
theorem CL (v_s:aa) (bw:Int) (h0:PlP v_s) : Pc (mn v_s bw) (K0 PlP):=by
 unfold mn
 try dsimp only
 repeat' (first | assumption | (exact fun _ _=>trivial) | (refine Pc.bind0 ?_ fun x hx=>?_) | (refine Pc.bind1 ?_ fun x hx=>?_) | (refine Pc.bind2 ?_ fun x hx=>?_) | (refine Pc.bindA ?_ fun x hx=>?_) | (refine Pc.bindS ?_ fun x hx=>?_) | (refine Pc.bindT fun x=>?_) | (refine Pc.ite ?_ ?_) | (refine Pc.loop (fun st hst=>?_) ?_) | (refine Pc.loopT fun st=>?_) | (refine Pc.pure ?_) | (exact trivial) | split)
theorem Ai (bS:(List Int)) (st:aa×Int) (h1:PlP st.1) : Pc (gS bS st) (KS (K1 PlP) (K1 PlP)):=by
 unfold gS
 try dsimp only
 repeat' (first | assumption | (exact fun _ _=>trivial) | (apply nu <;> assumption) | (apply CI <;> assumption) | (apply CL <;> assumption) | (refine Pc.bind0 ?_ fun x hx=>?_) | (refine Pc.bind1 ?_ fun x hx=>?_) | (refine Pc.bind2 ?_ fun x hx=>?_) | (refine Pc.bindA ?_ fun x hx=>?_) | (refine Pc.bindS ?_ fun x hx=>?_) | (refine Pc.bindT fun x=>?_) | (refine Pc.ite ?_ ?_) | (refine Pc.loop (fun st hst=>?_) ?_) | (refine Pc.loopT fun st=>?_) | (refine Pc.pure ?_) | (exact trivial) | split)
theorem rj (v_s:aa) (bS:(List Int)) (h0:PlP v_s) : Pc (gU v_s bS) (K0 PlP):=by
 unfold gU
 try dsimp only
 repeat' (first | assumption | (exact fun _ _=>trivial) | (apply Ai <;> assumption) | (refine Pc.bind0 ?_ fun x hx=>?_) | (refine Pc.bind1 ?_ fun x hx=>?_) | (refine Pc.bind2 ?_ fun x hx=>?_) | (refine Pc.bindA ?_ fun x hx=>?_) | (refine Pc.bindS ?_ fun x hx=>?_) | (refine Pc.bindT fun x=>?_) | (refine Pc.ite ?_ ?_) | (refine Pc.loop (fun st hst=>?_) ?_) | (refine Pc.loopT fun st=>?_) | (refine Pc.pure ?_) | (exact trivial) | split)
theorem zR (v_s:aa) (v_n:aW) (v_a:aC) (v_x:aV) (h0:PlP v_s) : Pc (jO v_s v_n v_a v_x) (K1 PlP):=by
 unfold jO
 try dsimp only
 repeat' (first | assumption | (exact fun _ _=>trivial) | (apply nu <;> assumption) | (refine Pc.bind0 ?_ fun x hx=>?_) | (refine Pc.bind1 ?_ fun x hx=>?_) | (refine Pc.bind2 ?_ fun x hx=>?_) | (refine Pc.bindA ?_ fun x hx=>?_) | (refine Pc.bindS ?_ fun x hx=>?_) | (refine Pc.bindT fun x=>?_) | (refine Pc.ite ?_ ?_) | (refine Pc.loop (fun st hst=>?_) ?_) | (refine Pc.loopT fun st=>?_) | (refine Pc.pure ?_) | (exact trivial) | split)
theorem wT (v_s:aa) (bU:Int) (h0:PlP v_s) : Pc (d6 v_s bU) (K0 PlP):=by
 unfold d6
 try dsimp only
 repeat' (first | assumption | (exact fun _ _=>trivial) | (refine Pc.bind0 ?_ fun x hx=>?_) | (refine Pc.bind1 ?_ fun x hx=>?_) | (refine Pc.bind2 ?_ fun x hx=>?_) | (refine Pc.bindA ?_ fun x hx=>?_) | (refine Pc.bindS ?_ fun x hx=>?_) | (refine Pc.bindT fun x=>?_) | (refine Pc.ite ?_ ?_) | (refine Pc.loop (fun st hst=>?_) ?_) | (refine Pc.loopT fun st=>?_) | (refine Pc.pure ?_) | (exact trivial) | split)
theorem Oj (v_s:aa) (v_x:bA) (h0:PlP v_s) : Pc (oq v_s v_x) (K0 PlP):=by
 unfold oq
 try dsimp only
 repeat' (first | assumption | (exact fun _ _=>trivial) | (refine Pc.bind0 ?_ fun x hx=>?_) | (refine Pc.bind1 ?_ fun x hx=>?_) | (refine Pc.bind2 ?_ fun x hx=>?_) | (refine Pc.bindA ?_ fun x hx=>?_) | (refine Pc.bindS ?_ fun x hx=>?_) | (refine Pc.bindT fun x=>?_) | (refine Pc.ite ?_ ?_) | (refine Pc.loop (fun st hst=>?_) ?_) | (refine Pc.loopT fun st=>?_) | (refine Pc.pure ?_) | (exact trivial) | split)
theorem Oe (v_s:aa) (v_n:aW) (v_x:bA) (h0:PlP v_s) : Pc (om v_s v_n v_x) (K1 PlP):=by
 unfold om
 try dsimp only
 repeat' (first | assumption | (exact fun _ _=>trivial) | (apply zR <;> assumption) | (apply wT <;> assumption) | (refine Pc.bind0 ?_ fun x hx=>?_) | (refine Pc.bind1 ?_ fun x hx=>?_) | (refine Pc.bind2 ?_ fun x hx=>?_) | (refine Pc.bindA ?_ fun x hx=>?_) | (refine Pc.bindS ?_ fun x hx=>?_) | (refine Pc.bindT fun x=>?_) | (refine Pc.ite ?_ ?_) | (refine Pc.loop (fun st hst=>?_) ?_) | (refine Pc.loopT fun st=>?_) | (refine Pc.pure ?_) | (exact trivial) | split)
theorem Rx (v_s:aa) (v_n:aW) (v_a:aC) (v_x:aV) (dC:Bool) (h0:PlP v_s) : Pc (rg v_s v_n v_a v_x dC) (K1 PlP):=by
 unfold rg
 try dsimp only
 repeat' (first | assumption | (exact fun _ _=>trivial) | (apply nu <;> assumption) | (apply zR <;> assumption) | (apply Oj <;> assumption) | (refine Pc.bind0 ?_ fun x hx=>?_) | (refine Pc.bind1 ?_ fun x hx=>?_) | (refine Pc.bind2 ?_ fun x hx=>?_) | (refine Pc.bindA ?_ fun x hx=>?_) | (refine Pc.bindS ?_ fun x hx=>?_) | (refine Pc.bindT fun x=>?_) | (refine Pc.ite ?_ ?_) | (refine Pc.loop (fun st hst=>?_) ?_) | (refine Pc.loopT fun st=>?_) | (refine Pc.pure ?_) | (exact trivial) | split)
theorem yc (v_a:aC) (v_j:Int) (bS:(List Int)) (v_n:aW) (dC:Bool) (st:aa×Int) (h5:PlP st.1) : Pc (dX v_a v_j bS v_n dC st) (KS (K1 PlP) (KS (K1 PlP) (K1 PlP))):=by
 unfold dX
 try dsimp only
 repeat' (first | assumption | (exact fun _ _=>trivial) | (apply Rx <;> assumption) | (refine Pc.bind0 ?_ fun x hx=>?_) | (refine Pc.bind1 ?_ fun x hx=>?_) | (refine Pc.bind2 ?_ fun x hx=>?_) | (refine Pc.bindA ?_ fun x hx=>?_) | (refine Pc.bindS ?_ fun x hx=>?_) | (refine Pc.bindT fun x=>?_) | (refine Pc.ite ?_ ?_) | (refine Pc.loop (fun st hst=>?_) ?_) | (refine Pc.loopT fun st=>?_) | (refine Pc.pure ?_) | (exact trivial) | split)
theorem yd (bS:(List Int)) (v_i:Int) (fj:(List ByteArray)) (v_n:aW) (dC:Bool) (st:aa×Int) (h5:PlP st.1) : Pc (dY bS v_i fj v_n dC st) (KS (K1 PlP) (KS (K1 PlP) (K1 PlP))):=by
 unfold dY
 try dsimp only
 repeat' (first | assumption | (exact fun _ _=>trivial) | (apply yc <;> assumption) | (refine Pc.bind0 ?_ fun x hx=>?_) | (refine Pc.bind1 ?_ fun x hx=>?_) | (refine Pc.bind2 ?_ fun x hx=>?_) | (refine Pc.bindA ?_ fun x hx=>?_) | (refine Pc.bindS ?_ fun x hx=>?_) | (refine Pc.bindT fun x=>?_) | (refine Pc.ite ?_ ?_) | (refine Pc.loop (fun st hst=>?_) ?_) | (refine Pc.loopT fun st=>?_) | (refine Pc.pure ?_) | (exact trivial) | split)
theorem ye (fj:(List ByteArray)) (v_n:aW) (dC:Bool) (st:aa×Int) (h3:PlP st.1) : Pc (dZ fj v_n dC st) (KS (K1 PlP) (KS (K1 PlP) (K1 PlP))):=by
 unfold dZ
 try dsimp only
 repeat' (first | assumption | (exact fun _ _=>trivial) | (apply yd <;> assumption) | (refine Pc.bind0 ?_ fun x hx=>?_) | (refine Pc.bind1 ?_ fun x hx=>?_) | (refine Pc.bind2 ?_ fun x hx=>?_) | (refine Pc.bindA ?_ fun x hx=>?_) | (refine Pc.bindS ?_ fun x hx=>?_) | (refine Pc.bindT fun x=>?_) | (refine Pc.ite ?_ ?_) | (refine Pc.loop (fun st hst=>?_) ?_) | (refine Pc.loopT fun st=>?_) | (refine Pc.pure ?_) | (exact trivial) | split)
theorem K9 (v_s:aa) (v_n:aW) (dC:Bool) (h0:PlP v_s) : Pc (dz v_s v_n dC) (K1 PlP):=by
 unfold dz
 try dsimp only
 repeat' (first | assumption | (exact fun _ _=>trivial) | (apply ye <;> assumption) | (refine Pc.bind0 ?_ fun x hx=>?_) | (refine Pc.bind1 ?_ fun x hx=>?_) | (refine Pc.bind2 ?_ fun x hx=>?_) | (refine Pc.bindA ?_ fun x hx=>?_) | (refine Pc.bindS ?_ fun x hx=>?_) | (refine Pc.bindT fun x=>?_) | (refine Pc.ite ?_ ?_) | (refine Pc.loop (fun st hst=>?_) ?_) | (refine Pc.loopT fun st=>?_) | (refine Pc.pure ?_) | (exact trivial) | split)
theorem Rz (v_s:aa) (bU:Int) (h0:PlP v_s) : Pc (rh v_s bU) (K1 PlP):=by
 unfold rh
 try dsimp only
 repeat' (first | assumption | (exact fun _ _=>trivial) | (apply Oe <;> assumption) | (apply K9 <;> assumption) | (refine Pc.bind0 ?_ fun x hx=>?_) | (refine Pc.bind1 ?_ fun x hx=>?_) | (refine Pc.bind2 ?_ fun x hx=>?_) | (refine Pc.bindA ?_ fun x hx=>?_) | (refine Pc.bindS ?_ fun x hx=>?_) | (refine Pc.bindT fun x=>?_) | (refine Pc.ite ?_ ?_) | (refine Pc.loop (fun st hst=>?_) ?_) | (refine Pc.loopT fun st=>?_) | (refine Pc.pure ?_) | (exact trivial) | split)
theorem zV (bU:Int) (st:aa×(List an)×Int) (h1:PlP st.1) : Pc (eT bU st) (KS (K1 PlP) (K1 PlP)):=by
 unfold eT
 try dsimp only
 repeat' (first | assumption | (exact fun _ _=>trivial) | (apply Rz <;> assumption) | (refine Pc.bind0 ?_ fun x hx=>?_) | (refine Pc.bind1 ?_ fun x hx=>?_) | (refine Pc.bind2 ?_ fun x hx=>?_) | (refine Pc.bindA ?_ fun x hx=>?_) | (refine Pc.bindS ?_ fun x hx=>?_) | (refine Pc.bindT fun x=>?_) | (refine Pc.ite ?_ ?_) | (refine Pc.loop (fun st hst=>?_) ?_) | (refine Pc.loopT fun st=>?_) | (refine Pc.pure ?_) | (exact trivial) | split)
theorem On (v_s:aa) (bU:Int) (h0:PlP v_s) : Pc (l6 v_s bU) (K1 PlP):=by
 unfold l6
 try dsimp only
 repeat' (first | assumption | (exact fun _ _=>trivial) | (apply zV <;> assumption) | (refine Pc.bind0 ?_ fun x hx=>?_) | (refine Pc.bind1 ?_ fun x hx=>?_) | (refine Pc.bind2 ?_ fun x hx=>?_) | (refine Pc.bindA ?_ fun x hx=>?_) | (refine Pc.bindS ?_ fun x hx=>?_) | (refine Pc.bindT fun x=>?_) | (refine Pc.ite ?_ ?_) | (refine Pc.loop (fun st hst=>?_) ?_) | (refine Pc.loopT fun st=>?_) | (refine Pc.pure ?_) | (exact trivial) | split)
theorem Cv (v_s:aa) (bw:Int) (v_t:Int) (h0:PlP v_s) : Pc (kj v_s bw v_t) (K0 PlP):=by
 unfold kj
 try dsimp only
 repeat' (first | assumption | (exact fun _ _=>trivial) | (refine Pc.bind0 ?_ fun x hx=>?_) | (refine Pc.bind1 ?_ fun x hx=>?_) | (refine Pc.bind2 ?_ fun x hx=>?_) | (refine Pc.bindA ?_ fun x hx=>?_) | (refine Pc.bindS ?_ fun x hx=>?_) | (refine Pc.bindT fun x=>?_) | (refine Pc.ite ?_ ?_) | (refine Pc.loop (fun st hst=>?_) ?_) | (refine Pc.loopT fun st=>?_) | (refine Pc.pure ?_) | (exact trivial) | split)
theorem zG (v_l:(List an)) (af:Int) (st:aa×Int) (h2:PlP st.1) : Pc (gB v_l af st) (KS (K1 PlP) (K1 PlP)):=by
 unfold gB
 try dsimp only
 repeat' (first | assumption | (exact fun _ _=>trivial) | (apply rj <;> assumption) | (apply Cv <;> assumption) | (refine Pc.bind0 ?_ fun x hx=>?_) | (refine Pc.bind1 ?_ fun x hx=>?_) | (refine Pc.bind2 ?_ fun x hx=>?_) | (refine Pc.bindA ?_ fun x hx=>?_) | (refine Pc.bindS ?_ fun x hx=>?_) | (refine Pc.bindT fun x=>?_) | (refine Pc.ite ?_ ?_) | (refine Pc.loop (fun st hst=>?_) ?_) | (refine Pc.loopT fun st=>?_) | (refine Pc.pure ?_) | (exact trivial) | split)
theorem NZ (v_s:aa) (af:Int) (h0:PlP v_s) : Pc (sR v_s af) (K0 PlP):=by
 unfold sR
 try dsimp only
 repeat' (first | assumption | (exact fun _ _=>trivial) | (apply zG <;> assumption) | (refine Pc.bind0 ?_ fun x hx=>?_) | (refine Pc.bind1 ?_ fun x hx=>?_) | (refine Pc.bind2 ?_ fun x hx=>?_) | (refine Pc.bindA ?_ fun x hx=>?_) | (refine Pc.bindS ?_ fun x hx=>?_) | (refine Pc.bindT fun x=>?_) | (refine Pc.ite ?_ ?_) | (refine Pc.loop (fun st hst=>?_) ?_) | (refine Pc.loopT fun st=>?_) | (refine Pc.pure ?_) | (exact trivial) | split)
theorem xZ (v_l:(List Int)) (st:aa×Int) (h1:PlP st.1) : Pc (fh v_l st) (KS (K1 PlP) (K1 PlP)):=by
 unfold fh
 try dsimp only
 repeat' (first | assumption | (exact fun _ _=>trivial) | (apply Cv <;> assumption) | (refine Pc.bind0 ?_ fun x hx=>?_) | (refine Pc.bind1 ?_ fun x hx=>?_) | (refine Pc.bind2 ?_ fun x hx=>?_) | (refine Pc.bindA ?_ fun x hx=>?_) | (refine Pc.bindS ?_ fun x hx=>?_) | (refine Pc.bindT fun x=>?_) | (refine Pc.ite ?_ ?_) | (refine Pc.loop (fun st hst=>?_) ?_) | (refine Pc.loopT fun st=>?_) | (refine Pc.pure ?_) | (exact trivial) | split)
theorem yb (st:aa×Int) (h0:PlP st.1) : Pc (iI st) (KS (K1 PlP) (K1 PlP)):=by
 unfold iI
 try dsimp only
 repeat' (first | assumption | (exact fun _ _=>trivial) | (apply NZ <;> assumption) | (apply xZ <;> assumption) | (refine Pc.bind0 ?_ fun x hx=>?_) | (refine Pc.bind1 ?_ fun x hx=>?_) | (refine Pc.bind2 ?_ fun x hx=>?_) | (refine Pc.bindA ?_ fun x hx=>?_) | (refine Pc.bindS ?_ fun x hx=>?_) | (refine Pc.bindT fun x=>?_) | (refine Pc.ite ?_ ?_) | (refine Pc.loop (fun st hst=>?_) ?_) | (refine Pc.loopT fun st=>?_) | (refine Pc.pure ?_) | (exact trivial) | split)
theorem K4 (v_s:aa) (h0:PlP v_s) : Pc (pD v_s) (K1 PlP):=by
 unfold pD
 try dsimp only
 repeat' (first | assumption | (exact fun _ _=>trivial) | (apply yb <;> assumption) | (refine Pc.bind0 ?_ fun x hx=>?_) | (refine Pc.bind1 ?_ fun x hx=>?_) | (refine Pc.bind2 ?_ fun x hx=>?_) | (refine Pc.bindA ?_ fun x hx=>?_) | (refine Pc.bindS ?_ fun x hx=>?_) | (refine Pc.bindT fun x=>?_) | (refine Pc.ite ?_ ?_) | (refine Pc.loop (fun st hst=>?_) ?_) | (refine Pc.loopT fun st=>?_) | (refine Pc.pure ?_) | (exact trivial) | split)
theorem jw (v_s:aa) (v_e:Int) (h0:PlP v_s) : Pc (dg v_s v_e) (K1 PlP):=by
 unfold dg
 try dsimp only
 repeat' (first | assumption | (exact fun _ _=>trivial) | (refine Pc.bind0 ?_ fun x hx=>?_) | (refine Pc.bind1 ?_ fun x hx=>?_) | (refine Pc.bind2 ?_ fun x hx=>?_) | (refine Pc.bindA ?_ fun x hx=>?_) | (refine Pc.bindS ?_ fun x hx=>?_) | (refine Pc.bindT fun x=>?_) | (refine Pc.ite ?_ ?_) | (refine Pc.loop (fun st hst=>?_) ?_) | (refine Pc.loopT fun st=>?_) | (refine Pc.pure ?_) | (exact trivial) | split)
theorem ww (v_s:aa) (v_c:ay) (st:Int) (h0:PlP v_s) : Pc (eD v_s v_c st) (KS (KT PlP) (KS (KT PlP) (K1 PlP))):=by
 unfold eD
 try dsimp only
 repeat' (first | assumption | (exact fun _ _=>trivial) | (apply jw <;> assumption) | (refine Pc.bind0 ?_ fun x hx=>?_) | (refine Pc.bind1 ?_ fun x hx=>?_) | (refine Pc.bind2 ?_ fun x hx=>?_) | (refine Pc.bindA ?_ fun x hx=>?_) | (refine Pc.bindS ?_ fun x hx=>?_) | (refine Pc.bindT fun x=>?_) | (refine Pc.ite ?_ ?_) | (refine Pc.loop (fun st hst=>?_) ?_) | (refine Pc.loopT fun st=>?_) | (refine Pc.pure ?_) | (exact trivial) | split)
theorem wu (v_s:aa) (v_c:ay) (st:Int) (h0:PlP v_s) : Pc (eB v_s v_c st) (KS (KT PlP) (KS (KT PlP) (K1 PlP))):=by
 unfold eB
 try dsimp only
 repeat' (first | assumption | (exact fun _ _=>trivial) | (apply jw <;> assumption) | (refine Pc.bind0 ?_ fun x hx=>?_) | (refine Pc.bind1 ?_ fun x hx=>?_) | (refine Pc.bind2 ?_ fun x hx=>?_) | (refine Pc.bindA ?_ fun x hx=>?_) | (refine Pc.bindS ?_ fun x hx=>?_) | (refine Pc.bindT fun x=>?_) | (refine Pc.ite ?_ ?_) | (refine Pc.loop (fun st hst=>?_) ?_) | (refine Pc.loopT fun st=>?_) | (refine Pc.pure ?_) | (exact trivial) | split)
theorem Ho (v_s:aa) (OP:ByteArray) (h0:PlP v_s) : Pc (ng v_s OP) (K1 PlP):=by
 unfold ng
 try dsimp only
 repeat' (first | assumption | (exact fun _ _=>trivial) | (apply jw <;> assumption) | (apply ww <;> assumption) | (apply wu <;> assumption) | (refine Pc.bind0 ?_ fun x hx=>?_) | (refine Pc.bind1 ?_ fun x hx=>?_) | (refine Pc.bind2 ?_ fun x hx=>?_) | (refine Pc.bindA ?_ fun x hx=>?_) | (refine Pc.bindS ?_ fun x hx=>?_) | (refine Pc.bindT fun x=>?_) | (refine Pc.ite ?_ ?_) | (refine Pc.loop (fun st hst=>?_) ?_) | (refine Pc.loopT fun st=>?_) | (refine Pc.pure ?_) | (exact trivial) | split)
theorem NV (v_s:aa) (v_x:aN) (h0:PlP v_s) : Pc (sP v_s v_x) (K1 PlP):=by
 unfold sP
 try dsimp only
 repeat' (first | assumption | (exact fun _ _=>trivial) | (apply Qo <;> assumption) | (apply rj <;> assumption) | (apply On <;> assumption) | (apply jw <;> assumption) | (refine Pc.bind0 ?_ fun x hx=>?_) | (refine Pc.bind1 ?_ fun x hx=>?_) | (refine Pc.bind2 ?_ fun x hx=>?_) | (refine Pc.bindA ?_ fun x hx=>?_) | (refine Pc.bindS ?_ fun x hx=>?_) | (refine Pc.bindT fun x=>?_) | (refine Pc.ite ?_ ?_) | (refine Pc.loop (fun st hst=>?_) ?_) | (refine Pc.loopT fun st=>?_) | (refine Pc.pure ?_) | (exact trivial) | split)
theorem wq (v_x:aN) (st:aa×aC×Int) (h1:PlP st.1) : Pc (ez v_x st) (KS (K1 PlP) (K1 PlP)):=by
 unfold ez
 try dsimp only
 repeat' (first | assumption | (exact fun _ _=>trivial) | (apply CL <;> assumption) | (refine Pc.bind0 ?_ fun x hx=>?_) | (refine Pc.bind1 ?_ fun x hx=>?_) | (refine Pc.bind2 ?_ fun x hx=>?_) | (refine Pc.bindA ?_ fun x hx=>?_) | (refine Pc.bindS ?_ fun x hx=>?_) | (refine Pc.bindT fun x=>?_) | (refine Pc.ite ?_ ?_) | (refine Pc.loop (fun st hst=>?_) ?_) | (refine Pc.loopT fun st=>?_) | (refine Pc.pure ?_) | (exact trivial) | split)
theorem Hn (v_s:aa) (v_x:aN) (h0:PlP v_s) : Pc (nf v_s v_x) (K1 PlP):=by
 unfold nf
 try dsimp only
 repeat' (first | assumption | (exact fun _ _=>trivial) | (apply nu <;> assumption) | (apply jw <;> assumption) | (apply wq <;> assumption) | (refine Pc.bind0 ?_ fun x hx=>?_) | (refine Pc.bind1 ?_ fun x hx=>?_) | (refine Pc.bind2 ?_ fun x hx=>?_) | (refine Pc.bindA ?_ fun x hx=>?_) | (refine Pc.bindS ?_ fun x hx=>?_) | (refine Pc.bindT fun x=>?_) | (refine Pc.ite ?_ ?_) | (refine Pc.loop (fun st hst=>?_) ?_) | (refine Pc.loopT fun st=>?_) | (refine Pc.pure ?_) | (exact trivial) | split)
theorem QY (v_s:aa) (bw:Int) (sW:Int) (h0:PlP v_s) : Pc (tH v_s bw sW) (K1 PlP):=by
 unfold tH
 try dsimp only
 repeat' (first | assumption | (exact fun _ _=>trivial) | (apply RP <;> assumption) | (apply jw <;> assumption) | (refine Pc.bind0 ?_ fun x hx=>?_) | (refine Pc.bind1 ?_ fun x hx=>?_) | (refine Pc.bind2 ?_ fun x hx=>?_) | (refine Pc.bindA ?_ fun x hx=>?_) | (refine Pc.bindS ?_ fun x hx=>?_) | (refine Pc.bindT fun x=>?_) | (refine Pc.ite ?_ ?_) | (refine Pc.loop (fun st hst=>?_) ?_) | (refine Pc.loopT fun st=>?_) | (refine Pc.pure ?_) | (exact trivial) | split)
theorem zC (v_l:(List Int)) (st:aa×Int) (h1:PlP st.1) : Pc (gx v_l st) (KS (K1 PlP) (K1 PlP)):=by
 unfold gx
 try dsimp only
 repeat' (first | assumption | (exact fun _ _=>trivial) | (apply Qm <;> assumption) | (apply rj <;> assumption) | (apply wT <;> assumption) | (refine Pc.bind0 ?_ fun x hx=>?_) | (refine Pc.bind1 ?_ fun x hx=>?_) | (refine Pc.bind2 ?_ fun x hx=>?_) | (refine Pc.bindA ?_ fun x hx=>?_) | (refine Pc.bindS ?_ fun x hx=>?_) | (refine Pc.bindT fun x=>?_) | (refine Pc.ite ?_ ?_) | (refine Pc.loop (fun st hst=>?_) ?_) | (refine Pc.loopT fun st=>?_) | (refine Pc.pure ?_) | (exact trivial) | split)
theorem zA (v_l:(List Int)) (st:aa×Int) (h1:PlP st.1) : Pc (gv v_l st) (KS (K1 PlP) (K1 PlP)):=by
 unfold gv
 try dsimp only
 repeat' (first | assumption | (exact fun _ _=>trivial) | (apply rj <;> assumption) | (refine Pc.bind0 ?_ fun x hx=>?_) | (refine Pc.bind1 ?_ fun x hx=>?_) | (refine Pc.bind2 ?_ fun x hx=>?_) | (refine Pc.bindA ?_ fun x hx=>?_) | (refine Pc.bindS ?_ fun x hx=>?_) | (refine Pc.bindT fun x=>?_) | (refine Pc.ite ?_ ?_) | (refine Pc.loop (fun st hst=>?_) ?_) | (refine Pc.loopT fun st=>?_) | (refine Pc.pure ?_) | (exact trivial) | split)
theorem OY (s:aa) (h:PlP s) : Pc (ah (ju s) ab (([] : List ai),(0:Int))) (fun r=>PlI r.1):=by
 have hl:=h.1
 have e:dw s=fun acc x=>if decide (x.aP > s.cx)=true then (aX acc [id' x]).map (fun a=>(.inl a:List ai⊕(List ai×Int))) else some (.inl acc):=by
  funext acc x
  unfold dw
  dsimp only [id']
  split
  ·cases aX acc [x] <;> rfl
  ·rfl
 rw [rb s [] (by omega),e,cd (fun c:ai=>decide (c.aP > s.cx)) id' _ s.al [] (by simp; omega)]
 refine Pc.pure ?_
 simp only [List.nil_append,td]
 exact PlI.filter h _
theorem NR (v_s:aa) (v_n:Int) (h0:PlP v_s) : Pc (sN v_s v_n) (K1 PlP):=by
 unfold sN
 try dsimp only
 repeat' (first | assumption | (exact fun _ _=>trivial) | (refine Pc.bindG (OY _ (by assumption)) fun x hx=>?_) | (apply K4 <;> assumption) | (apply jw <;> assumption) | (apply zC <;> assumption) | (apply zA <;> assumption) | (refine Pc.bind0 ?_ fun x hx=>?_) | (refine Pc.bind1 ?_ fun x hx=>?_) | (refine Pc.bind2 ?_ fun x hx=>?_) | (refine Pc.bindA ?_ fun x hx=>?_) | (refine Pc.bindS ?_ fun x hx=>?_) | (refine Pc.bindT fun x=>?_) | (refine Pc.ite ?_ ?_) | (refine Pc.loop (fun st hst=>?_) ?_) | (refine Pc.loopT fun st=>?_) | (refine Pc.pure ?_) | (exact trivial) | split)
theorem Cu (v_s:aa) (v_x:aN) (h0:PlP v_s) : Pc (oh v_s v_x) (K1 PlP):=by
 unfold oh
 try dsimp only
 repeat' (first | assumption | (exact fun _ _=>trivial) | (apply Rn <;> assumption) | (apply N9 <;> assumption) | (apply F3 <;> assumption) | (apply Hw <;> assumption) | (apply jw <;> assumption) | (apply Ho <;> assumption) | (apply NV <;> assumption) | (apply Hn <;> assumption) | (apply QY <;> assumption) | (apply NR <;> assumption) | (refine Pc.bind0 ?_ fun x hx=>?_) | (refine Pc.bind1 ?_ fun x hx=>?_) | (refine Pc.bind2 ?_ fun x hx=>?_) | (refine Pc.bindA ?_ fun x hx=>?_) | (refine Pc.bindS ?_ fun x hx=>?_) | (refine Pc.bindT fun x=>?_) | (refine Pc.ite ?_ ?_) | (refine Pc.loop (fun st hst=>?_) ?_) | (refine Pc.loopT fun st=>?_) | (refine Pc.pure ?_) | (exact trivial) | split)
theorem Nt (x:aK) : Pc (cQ x) PlP:=by
 have h0:PlP (⟨⟨[⟨#[]⟩],[⟨⟨#[114,111,111,116]⟩,[⟨10000,10000⟩],10000⟩]⟩,[],[],[],[],[],0,0,0⟩ : aa):=⟨Nat.zero_le _,List.Pairwise.nil,fun o ho=>by cases ho⟩
 unfold cQ
 dsimp only
 refine Pc.bindG (A:=PlP) (fun r e=>by injection e with e; subst e; exact h0) fun s hs=>?_
 refine Pc.bindT fun c=>Pc.bindT fun t=>Pc.bind1 (Cu _ _ hs) fun r hr=>?_
 refine Pc.bind0 (Pc.ite (Pc.pure hr) (Pc.pure hs)) fun s hs=>?_
 refine Pc.bind1 (Pc.loop (fun st hst=>?_) hs) fun r hr=>Pc.pure hr
 unfold dj
 dsimp only
 exact Pc.ite (Pc.bindT fun b=>Pc.bindT fun c=>Pc.bind1 (Cu _ _ hst) fun r hr=>Pc.pure hr) (Pc.pure hst)
end
end Go.Proofs.YtaknepbdbappdaaGreat
