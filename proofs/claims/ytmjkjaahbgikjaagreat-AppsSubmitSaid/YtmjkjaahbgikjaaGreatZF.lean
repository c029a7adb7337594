/- My texts, in one. -/
import Derived.Test.YtmjkjaahbgikjaaGreatZE
set_option linter.all false
set_option maxRecDepth 100000
set_option maxHeartbeats 4000000
namespace Go.Proofs.YtmjkjaahbgikjaaGreat
open Go.RowKit
open IntKind (i64)
open Go.Proofs.Tryz (prog)
section
def bT (l:Tx) : ByteArray:=⟨l.toArray⟩
def gP (c:Int×Int) : eB:=⟨c.1,c.2⟩
def gQ (d:QD) : av:=⟨bT d.path,d.caps.map gP,d.user⟩
def gC (nl:Nat) (ds:List QD) : ax:=⟨(Dw nl).map bT,ds.map gQ⟩
theorem YI {a b:Tx} : ((bT a).toList==(bT b).toList)=decide (a=b):=by
 by_cases h:a=b
 ·subst h; simp
 ·have:bT a≠bT b:=fun e=>h (by
   have:=congrArg (fun x:ByteArray=>x.data.toList) e
   simpa [bT] using this)
  rw [decide_eq_false h]
  cases hb:((bT a).toList==(bT b).toList) with
  | false=>rfl
  | true=>exact absurd (oy hb) this
theorem ib (a:Int) {n:Int} (h0 : 0 < n) (h1:n≤1125899906842625) : dm a n=some (a % n):=by
 have l1:a.tmod n < n:=Int.tmod_lt_of_pos a h0
 have l2 : -n < a.tmod n:=by have:=Int.lt_tmod_of_pos a h0; omega
 unfold dm Du
 rw [if_neg (by omega)]
 simp only [zb]
 by_cases hneg:a.tmod n < 0
 ·rw [N2 h0 hneg]
  simp only [hneg,decide_true,if_true,zb]
  rw [IntKind.wrap_i64]
  congr 1
  omega
 ·rw [N1 h0 hneg]
  simp only [hneg,decide_false,zf,if_false,zb]
def ig (xs:List Int) (i:Int) : Int:=if xs.length=0 then i else xs.getD (i % (xs.length:Int)).toNat 0
theorem uB (xs:List Int) {i:Int} (h : 0≤i) : kG xs i=some (ig xs i):=by
 unfold kG ig
 by_cases hz:xs.length=0
 ·rw [if_pos (by rw [hz]; rfl),if_pos hz]
 ·have hn:(xs.length:Int)≠0:=by omega
  rw [if_neg (by simpa using hz),if_neg hz]
  unfold Du
  rw [if_neg hn]
  simp only [zb]
  have e:i.tmod (xs.length:Int)=i % (xs.length:Int):=Int.tmod_eq_emod_of_nonneg h
  rw [e]
  have h0:=Int.emod_nonneg i hn
  have h1:=Int.emod_lt_of_pos i (show (0:Int) < xs.length by omega)
  obtain ⟨m,hm⟩ : ∃ m:Nat,i % (xs.length:Int)=(m:Int):=⟨(i % (xs.length:Int)).toNat,by omega⟩
  rw [hm] at h1 ⊢
  have hmx:m < xs.length:=by omega
  rw [aD (zq hmx)]
  simp [List.getD,zq hmx]
def FR (xs:List Int) (k:Nat) : Bool:=decide (k < xs.length)&&((xs.getD k 0).tmod 3==0)
def Ju (xs:List Int) (k:Nat) : Int:=if FR xs k=true then 1 + xs.getD k 0 % 20000 else 1000000
theorem Zk {nl:Nat} (hnl:nl≤2) (c:ax) (hc:c.al.length=nl) (p:ByteArray) (u:Int) : ai (eu c) ab (⟨p,[],u⟩,0)=some (⟨p,(List.replicate nl sr).map gP,u⟩,(nl:Int)):=by
 rw [tv c _ (by omega)]
 obtain ⟨ls,qs⟩:=c
 dsimp only at hc ⊢
 subst hc
 rcases ls with _ | ⟨a,_ | ⟨b,_ | ⟨d,ls⟩⟩⟩
 ·rfl
 ·rfl
 ·rfl
 ·simp only [List.length_cons] at hnl; omega
theorem SG {nl:Nat} (hnl:nl≤2) (ps:List Tx) (xs:List Int) (ds:List QD) {k:Nat} (hk:k < ps.length) (hps:ps.length≤7) (hds:ds.length≤7) : dF (ps.map bT) xs (gC nl ds,(k:Int))=some (.inl (gC nl (ds ++ [⟨ps[k],List.replicate nl sr,Ju xs k⟩]),((k + 1:Nat) : Int))):=by
 have e1:(ps.map bT)[k]? = some (bT ps[k]):=by simp [hk]
 have d1:decide ((k:Int) < ((ps.map bT).length:Int))=true:=by simp; omega
 have hl:(gC nl ds).al.length=nl:=by show ((Dw nl).map bT).length=nl; rw [List.length_map,rC hnl]
 unfold dF
 dsimp only
 rw [if_pos d1,aD e1]
 simp only [zb]
 have fin:∀ u:Int,(Option.bind (ai (eu (gC nl ds)) ab ((⟨bT ps[k],[],u⟩ : av),(0:Int))) fun r12=>Option.bind (aP (gC nl ds).ae [r12.1]) fun b13=>some (Sum.inl ((⟨(gC nl ds).al,b13⟩ : ax),i64.wrap ((k:Int) + 1)) : (ax×Int)⊕(ax×Int)))=some (.inl (gC nl (ds ++ [⟨ps[k],List.replicate nl sr,u⟩]),((k + 1:Nat) : Int))):=by
  intro u
  rw [Zk hnl _ hl]
  simp only [zb]
  rw [aF (by show (ds.map gQ).length + 1≤_; rw [List.length_map]; omega)]
  simp only [zb,aR (show k < 7 by omega) (show 7≤1000000 by omega)]
  unfold gC
  simp only [List.map_append,List.map_cons,List.map_nil,gQ]
 unfold Ju FR
 by_cases hN:k < xs.length
 ·have e2:xs[k]? = some xs[k]:=zq hN
  have e3:xs.getD k 0=xs[k]:=by simp [List.getD,e2]
  have d2:decide ((k:Int) < (xs.length:Int))=true:=by simp; omega
  simp only [d2,if_true,aD e2,zb,hN,decide_true,Bool.true_and,e3]
  by_cases ht:(xs[k].tmod 3==0)=true
  ·have h0:=Int.emod_nonneg xs[k] (show (20000:Int)≠0 by decide)
   have h1:=Int.emod_lt_of_pos xs[k] (show (0:Int) < 20000 by decide)
   simp only [ht,if_true,ib xs[k] (show (0:Int) < 20000 by decide) (by decide),zb,w64 (n:=1 + xs[k] % 20000) (by omega)]
   exact fin _
  ·simp only [ht,if_false,zb,zf]
   exact fin _
 ·have d2:decide ((k:Int) < (xs.length:Int))=false:=by simp; omega
  simp only [d2,zf,if_false,zb,hN,decide_false,Bool.false_and]
  exact fin _
theorem Fw {α β : Type} (f : α→β) (g : α→α) (b : β) : ∀ (l:List α) (m:Nat) (h:m < l.length),b=f (g l[m])→(l.modify m g).map f=(l.map f).set m b
 | x::l,0,h,e=>by subst e; rfl
 | x::l,m + 1,h,e=>by
  simp only [List.modify_succ_cons,List.map_cons,List.set_cons_succ]
  rw [Fw f g b l m (by simpa using h) e]
theorem Zf {nl:Nat} {ks:List Tx} {ds:List QD} {k j:Nat} (hj:j < ks.length) (n mo:Int) (hN:ds.length≤7) (hc:∀ q∈ds,q.caps.length=nl) (hk:k < nl) : ai (er (k:Int) n mo (j:Int) (ks.map bT)) ab (gC nl ds,0)=some (gC nl (iT ks[j] k n mo ds),(ds.length:Int)):=by
 have hp:∃ r,ai (er (k:Int) n mo (j:Int) (ks.map bT)) ab (gC nl ds,0)=some r∧r=(gC nl (iT ks[j] k n mo ds),(ds.length:Int)):=by
  refine aL (f:=er (k:Int) n mo (j:Int) (ks.map bT)) (fun st=>∃ m:Nat,m≤ds.length∧st=(gC nl (eX ks[j] k n mo ds m),(m:Int))) (fun st=>ds.length - st.2.toNat) (fun r=>r=(gC nl (iT ks[j] k n mo ds),(ds.length:Int))) (fun st ⟨m,hm,hst⟩=>?_) ab (gC nl ds,0) ⟨0,Nat.zero_le _,by rw [EW]; rfl⟩ (by show ds.length - (0:Int).toNat < ab; unfold ab; omega)
  subst hst
  unfold er
  dsimp only
  have hlen:(gC nl (eX ks[j] k n mo ds m)).ae.length=ds.length:=by show ((eX _ _ _ _ ds m).map gQ).length = _; rw [List.length_map,gZ]
  rw [hlen]
  rcases Nat.lt_or_ge m ds.length with hlt | hge
  ·left
   have d1:decide ((m:Int) < (ds.length:Int))=true:=by simpa using hlt
   have hml:m < (eX ks[j] k n mo ds m).length:=by rw [gZ]; exact hlt
   have e1:(gC nl (eX ks[j] k n mo ds m)).ae[m]? = some (gQ ds[m]):=by
    show ((eX _ _ _ _ ds m).map gQ)[m]? = _
    rw [List.getElem?_map,zq hml,Bs _ _ _ _ _ _ hlt]
    rfl
   have e2:(ks.map bT)[j]? = some (bT ks[j]):=by simp [hj]
   have e3:(gQ ds[m]).bu[k]? = some (gP (ds[m].caps[k]'(by rw [hc _ (List.getElem_mem hlt)]; exact hk))):=by
    show (ds[m].caps.map gP)[k]? = _
    rw [List.getElem?_map,zq (by rw [hc _ (List.getElem_mem hlt)]; exact hk)]
    rfl
   rw [if_pos d1,aD e1,aD e2]
   simp only [zb,aD e3,aR (show m < 7 by omega) (show 7≤1000000 by omega),zt]
   rw [show (gQ ds[m]).aB=bT ds[m].path from rfl,YI]
   by_cases he:ds[m].path=ks[j]
   ·rw [if_pos (by simpa using he)]
    refine ⟨_,rfl,⟨m + 1,hlt,?_⟩,by simp only [zt]; omega⟩
    rw [I6 hlt he]
    congr 1
    unfold gC
    congr 1
    dsimp only
    refine (Fw gQ _ _ _ m hml ?_).symm
    rw [Bs _ _ _ _ _ _ hlt]
    unfold gQ
    simp [List.map_set,gP]
   ·rw [if_neg (by simpa using he)]
    exact ⟨_,rfl,⟨m + 1,hlt,by rw [MX hlt he]⟩,by simp only [zt]; omega⟩
  ·right
   have hm2:m=ds.length:=by omega
   subst hm2
   have d1:decide ((ds.length:Int) < (ds.length:Int))=false:=by simp
   rw [if_neg (by rw [d1]; decide)]
   exact ⟨_,rfl,by rw [I7]⟩
 obtain ⟨r,h1,h2⟩:=hp
 rw [h1,h2]
theorem CL {σ α τ : Type} {g g' : σ→α→Option (σ⊕τ)} (fin : σ→τ) : ∀ (l:List α) (a : σ),(∀ x∈l,∀ a,g a x=g' a x)→bh g fin a l=bh g' fin a l
 | [],a,_=>rfl
 | x::l,a,h=>by
  simp only [bh]
  rw [h x (List.mem_cons_self ..)]
  cases g' a x with
  | none=>rfl
  | some o=>cases o with
   | inl a'=>exact CL fin l a' (fun y hy=>h y (List.mem_cons_of_mem _ hy))
   | inr r=>rfl
theorem Q2 (y:Nat) : ∀ x∈mS y,ej (bT x)=bT (above x):=by
 unfold mS
 split
 all_goals
  intro x hx
  simp only [List.mem_cons,List.not_mem_nil,or_false] at hx
  repeat (first | (subst hx; kernel_rfl) | (rcases hx with h | hx; (subst h; kernel_rfl)))
theorem aaF (nl:Nat) {ds:List QD} {ps:List Tx} {y:Nat} (hy:ps=mS y) (hd:ds.map (·.path)=ps) {p:Tx} (hp:p∈ps) : ek (gC nl ds) (bT p)=some ((CS p ps).map bT):=by
 have hlen:ds.length≤7:=by
  have h1:=congrArg List.length hd
  have h2:=ML y
  rw [hy,List.length_map] at h1
  omega
 have hsz:∀ q∈(gC nl ds).ae,q.aB.size≤1000000:=fun q hq=>by
  obtain ⟨d,hd2,rfl⟩:=List.mem_map.1 hq
  have h1:d.path∈ps:=by rw [← hd]; exact List.mem_map_of_mem hd2
  rw [hy] at h1
  have h2:=MJ y _ h1
  show (bT d.path).size≤_
  have:(bT d.path).size=d.path.length:=by simp [bT,ByteArray.size]
  omega
 unfold ek
 dsimp only
 rw [gp (gC nl ds) (bT p) [] (by show (ds.map gQ).length≤_; rw [List.length_map]; omega)]
 rw [CL (g':=fun acc x=>if (!((bT p).toList==(⟨#[]⟩ : ByteArray).toList)&&((ej x.aB).toList==(bT p).toList))=true then (aP acc [x.aB]).map (fun a=>(.inl a:List ByteArray⊕(List ByteArray×Int))) else some (.inl acc)) _ _ _ (fun x hx acc=>by
  unfold cu
  simp only [(nv (hsz x hx)).1,zb,dy]
  split
  ·cases aP acc [x.aB] <;> rfl
  ·rfl)]
 rw [bV (fun x:av=>!((bT p).toList==(⟨#[]⟩ : ByteArray).toList)&&((ej x.aB).toList==(bT p).toList)) av.aB _ _ [] (by show 0 + (ds.map gQ).length≤_; rw [List.length_map]; omega)]
 simp only [zb,List.nil_append]
 congr 1
 have e1:((gC nl ds).ae.filter fun x:av=>!((bT p).toList==(⟨#[]⟩ : ByteArray).toList)&&((ej x.aB).toList==(bT p).toList)).map av.aB=(ps.filter fun x=>!((bT p).toList==(bT []).toList)&&((ej (bT x)).toList==(bT p).toList)).map bT:=by
  rw [← hd]
  show ((ds.map gQ).filter _).map _ = _
  rw [List.filter_map,List.filter_map,List.map_map,List.map_map]
  rfl
 rw [e1]
 congr 1
 unfold CS
 refine List.filter_congr fun x hx=>?_
 rw [hy] at hx
 rw [Q2 y x hx,YI,YI]
 simp
theorem pj {α β : Type} {o:Option α} {f : α→Option β} {r : α} {x:Option β} (h1:o=some r) (h2:f r=x) : Option.bind o f=x:=by subst h1; exact h2
def nV (xs:List Int) (i jj kk nk:Nat) (L:Int) : Int:=if jj + 1 < nk then [0,L / 2,L,ig xs ((i:Int) + jj + kk) % (L + 1)].getD (ig xs ((i:Int) * jj + kk) % 4).toNat 0 else L
def mV (xs:List Int) (i jj kk:Nat) (n:Int) : Int:=[10000,n,n + ig xs ((jj:Int) + kk) % (10000 - n + 1)].getD (ig xs ((i:Int) + 2 * jj) % 3).toNat 0
theorem Jt (l:List Int) (a:Int) (hl : 0 < l.length) : ar l (a % (l.length:Int))=some (l.getD (a % (l.length:Int)).toNat 0):=by
 have h0:=Int.emod_nonneg a (show (l.length:Int)≠0 by omega)
 have h1:=Int.emod_lt_of_pos a (show (0:Int) < l.length by omega)
 obtain ⟨m,hm⟩ : ∃ m:Nat,a % (l.length:Int)=(m:Int):=⟨(a % (l.length:Int)).toNat,by omega⟩
 rw [hm] at h1 ⊢
 have hmx:m < l.length:=by omega
 rw [aD (zq hmx)]
 simp [List.getD,zq hmx]
theorem abW (xs:List Int) (i jj kk nk:Nat) {L:Int} (h0 : 0≤L) : 0≤nV xs i jj kk nk L∧nV xs i jj kk nk L≤L:=by
 unfold nV
 split
 ·have a0:=Int.emod_nonneg (ig xs ((i:Int) * jj + kk)) (show (4:Int)≠0 by decide)
  have a1:=Int.emod_lt_of_pos (ig xs ((i:Int) * jj + kk)) (show (0:Int) < 4 by decide)
  have b0:=Int.emod_nonneg (ig xs ((i:Int) + jj + kk)) (show (L + 1)≠0 by omega)
  have b1:=Int.emod_lt_of_pos (ig xs ((i:Int) + jj + kk)) (show (0:Int) < L + 1 by omega)
  generalize ig xs ((i:Int) + jj + kk) % (L + 1)=b at b0 b1
  obtain ⟨m,hm⟩ : ∃ m:Nat,(ig xs ((i:Int) * jj + kk) % 4)=(m:Int):=⟨(ig xs ((i:Int) * jj + kk) % 4).toNat,by omega⟩
  rw [hm] at a1 ⊢
  rcases m with _ | _ | _ | _ | m
  ·exact ⟨Int.le_refl _,h0⟩
  ·show 0≤L / 2∧L / 2≤L; omega
  ·exact ⟨h0,Int.le_refl _⟩
  ·show 0≤b∧b≤L; omega
  ·omega
 ·exact ⟨h0,Int.le_refl _⟩
theorem SF {nl:Nat} {ks:List Tx} {ds:List QD} {xs:List Int} {i jj kk:Nat} {L:Int} (hj:jj < ks.length) (hks:ks.length≤7) (hi:i≤7) (hnl:nl≤2) (hkk:kk < nl) (h0 : 0≤L) (h1:L≤10000) (hN:ds.length≤7) (hc:∀ q∈ds,q.caps.length=nl) :
  de (ks.map bT) xs (i:Int) (kk:Int) (L,gC nl ds,(jj:Int))=some (.inl (L - nV xs i jj kk ks.length L,gC nl (iT ks[jj] kk (nV xs i jj kk ks.length L) (mV xs i jj kk (nV xs i jj kk ks.length L)) ds),((jj + 1:Nat) : Int))):=by
 have hij:(i:Int) * (jj:Int)≤100:=by
  have:i * jj≤7 * 7:=Nat.mul_le_mul hi (by omega)
  have h2:((i * jj:Nat) : Int)≤49:=by omega
  rw [Int.natCast_mul] at h2
  omega
 have hij0 : 0≤(i:Int) * (jj:Int):=Int.mul_nonneg (by omega) (by omega)
 have hn:=abW xs i jj kk ks.length h0
 have d1:decide ((jj:Int) < ((ks.map bT).length:Int))=true:=by simp; omega
 unfold de
 dsimp only
 rw [if_pos d1]
 refine pj (r:=nV xs i jj kk ks.length L) ?_ ?_
 ·unfold nV
  by_cases hl:jj + 1 < ks.length
  ·have d2:decide ((jj:Int) < i64.wrap (((ks.map bT).length:Int) - 1))=true:=by
    rw [List.length_map,w64 (by omega)]
    simp; omega
   have h2d:L.tdiv 2=L / 2:=Int.tdiv_eq_ediv_of_nonneg h0
   rw [if_pos d2,if_pos hl,h2d,w64 (n:=(i:Int) + jj) (by omega),w64 (n:=(i:Int) + jj + kk) (by omega),w64 (n:=L + 1) (by omega),w64 (n:=(i:Int) * jj) (by omega),w64 (n:=(i:Int) * jj + kk) (by omega),w64 (n:=L / 2) (by omega)]
   refine pj (uB xs (by omega)) (pj (ib _ (by omega) (by omega)) (pj (uB xs (by omega)) (pj (ib _ (by omega) (by omega)) (pj ?_ rfl))))
   exact Jt [0,L / 2,L,_] _ (by simp)
  ·have d2:decide ((jj:Int) < i64.wrap (((ks.map bT).length:Int) - 1))=false:=by
    rw [List.length_map,w64 (by omega)]
    simp; omega
   rw [if_neg (by rw [d2]; decide),if_neg hl]
 ·generalize nV xs i jj kk ks.length L=n at hn
  rw [w64 (n:=L - n) (by omega),w64 (n:=(jj:Int) + kk) (by omega),w64 (n:=10000 - n) (by omega),w64 (n:=10000 - n + 1) (by omega),w64 (n:=2 * (jj:Int)) (by omega),w64 (n:=(i:Int) + 2 * jj) (by omega)]
  have b0:=Int.emod_nonneg (ig xs ((jj:Int) + kk)) (show (10000 - n + 1)≠0 by omega)
  have b1:=Int.emod_lt_of_pos (ig xs ((jj:Int) + kk)) (show (0:Int) < 10000 - n + 1 by omega)
  refine pj (uB xs (by omega)) (pj (ib _ (by omega) (by omega)) (pj (uB xs (by omega)) (pj (ib _ (by omega) (by omega)) (pj (r:=mV xs i jj kk n) ?_ ?_))))
  ·rw [w64 (n:=n + ig xs ((jj:Int) + kk) % (10000 - n + 1)) (by omega)]
   exact Jt [10000,n,_] _ (by simp)
  ·refine pj (Zf hj n (mV xs i jj kk n) hN hc hkk) ?_
   rw [aR (show jj < 7 by omega) (show 7≤1000000 by omega)]
theorem Np {σ τ : Type} {f : σ→Option (σ⊕τ)} {s s' : σ} {n:Nat} (h:f s=some (.inl s')) : ai f (n + 1) s=ai f n s':=by simp only [ai,h]
theorem wq {σ τ : Type} {f : σ→Option (σ⊕τ)} {s : σ} {r : τ} {n:Nat} (h:f s=some (.inr r)) : ai f (n + 1) s=some r:=by simp only [ai,h]
def E1 (sh:Int) (xs:List Int) (nl:Nat) (ps:List Tx) (k:Nat) (ds:List QD) : Prop:=∃ n,n + k=ab∧fW sh xs=Option.bind (ai (dF (ps.map bT) xs) n (gC nl ds,(k:Int))) fun r=>Option.bind (ai (cU (ps.map bT) xs) ab (r.1,0)) fun r=>some r.1
def E3 (sh:Int) (xs:List Int) (nl:Nat) (ps:List Tx) (i:Nat) (ds:List QD) : Prop:=∃ n,n + i=ab∧fW sh xs=Option.bind (ai (cU (ps.map bT) xs) n (gC nl ds,(i:Int))) fun r=>some r.1
def E4 (sh:Int) (xs:List Int) (nl:Nat) (ps:List Tx) (i:Nat) (ks:List Tx) (kk:Nat) (ds:List QD) : Prop:=∃ n3,n3 + (i + 1)=ab∧∃ n,n + kk=ab∧fW sh xs=Option.bind (Option.bind (ai (dE xs (i:Int) (ks.map bT)) n (gC nl ds,(kk:Int))) fun r=>ai (cU (ps.map bT) xs) n3 (r.1,((i + 1:Nat) : Int))) fun r=>some r.1
def E5 (sh:Int) (xs:List Int) (nl:Nat) (ps:List Tx) (i:Nat) (ks:List Tx) (kk jj:Nat) (L:Int) (ds:List QD) : Prop:=∃ n3,n3 + (i + 1)=ab∧∃ n4,n4 + (kk + 1)=ab∧∃ n,n + jj=ab∧fW sh xs=Option.bind (Option.bind (Option.bind (ai (de (ks.map bT) xs (i:Int) (kk:Int)) n (L,gC nl ds,(jj:Int))) fun r=>ai (dE xs (i:Int) (ks.map bT)) n4 (r.2.1,((kk + 1:Nat) : Int))) fun r=>ai (cU (ps.map bT) xs) n3 (r.1,((i + 1:Nat) : Int))) fun r=>some r.1
section
variable {sh:Int} {xs:List Int} {nl:Nat} {ps:List Tx} {ds:List QD}
theorem E1.step {k:Nat} (h:E1 sh xs nl ps k ds) (hnl:nl≤2) (hk:k < ps.length) (hps:ps.length≤7) (hds:ds.length≤7) : E1 sh xs nl ps (k + 1) (ds ++ [⟨ps[k],List.replicate nl sr,Ju xs k⟩]):=by
 obtain ⟨n,h1,h2⟩:=h
 obtain ⟨n,rfl⟩ : ∃ m,n=m + 1:=⟨n - 1,by unfold ab at h1; omega⟩
 rw [Np (SG hnl ps xs ds hk hps hds)] at h2
 exact ⟨n,by omega,h2⟩
theorem E1.end (h:E1 sh xs nl ps ps.length ds) (hps:ps.length≤7) : E3 sh xs nl ps 0 ds:=by
 obtain ⟨n,h1,h2⟩:=h
 obtain ⟨n,rfl⟩ : ∃ m,n=m + 1:=⟨n - 1,by unfold ab at h1; omega⟩
 rw [wq (r:=(gC nl ds,(ps.length:Int))) (by unfold dF; simp)] at h2
 exact ⟨ab,rfl,h2⟩
theorem E3.open {i:Nat} (h:E3 sh xs nl ps i ds) (hi:i < ps.length) (hps:ps.length≤7) {y:Nat} (hy:ps=mS y) (hd:ds.map (·.path)=ps) : E4 sh xs nl ps i (CS ps[i] ps) 0 ds:=by
 obtain ⟨n,h1,h2⟩:=h
 obtain ⟨n,rfl⟩ : ∃ m,n=m + 1:=⟨n - 1,by unfold ab at h1; omega⟩
 refine ⟨n,by omega,ab,rfl,h2.trans ?_⟩
 have e1:(ps.map bT)[i]? = some (bT ps[i]):=by simp [hi]
 have d1:decide ((i:Int) < ((ps.map bT).length:Int))=true:=by simp; omega
 congr 1
 rw [ai]
 unfold cU
 dsimp only
 rw [if_pos d1,aD e1]
 simp only [zb,aaF nl hy hd (List.getElem_mem hi),aR (show i < 7 by omega) (show 7≤1000000 by omega)]
 cases ai (dE xs (i:Int) ((CS ps[i] ps).map bT)) ab (gC nl ds,0) <;> rfl
theorem E4.open {i kk:Nat} {ks:List Tx} (h:E4 sh xs nl ps i ks kk ds) (hk:kk < nl) (hnl:nl≤2) : E5 sh xs nl ps i ks kk 0 10000 ds:=by
 obtain ⟨n3,h3,n,h1,h2⟩:=h
 obtain ⟨n,rfl⟩ : ∃ m,n=m + 1:=⟨n - 1,by unfold ab at h1; omega⟩
 refine ⟨n3,h3,n,by omega,ab,rfl,h2.trans ?_⟩
 have hl:(gC nl ds).al.length=nl:=by show ((Dw nl).map bT).length=nl; rw [List.length_map,rC hnl]
 have d1:decide ((kk:Int) < ((gC nl ds).al.length:Int))=true:=by rw [hl]; simpa using hk
 congr 1
 congr 1
 rw [ai]
 unfold dE
 dsimp only
 rw [if_pos d1]
 simp only [aR (show kk < 7 by omega) (show 7≤1000000 by omega)]
 cases ai (de (ks.map bT) xs (i:Int) (kk:Int)) ab (10000,gC nl ds,0) <;> rfl
theorem E5.step {i kk jj:Nat} {ks:List Tx} {L:Int} (h:E5 sh xs nl ps i ks kk jj L ds) (hj:jj < ks.length) (hks:ks.length≤7) (hi:i≤7) (hnl:nl≤2) (hkk:kk < nl) (h0 : 0≤L) (hL:L≤10000) (hN:ds.length≤7) (hc:∀ q∈ds,q.caps.length=nl) :
  E5 sh xs nl ps i ks kk (jj + 1) (L - nV xs i jj kk ks.length L) (iT ks[jj] kk (nV xs i jj kk ks.length L) (mV xs i jj kk (nV xs i jj kk ks.length L)) ds):=by
 obtain ⟨n3,h3,n4,h4,n,h1,h2⟩:=h
 obtain ⟨n,rfl⟩ : ∃ m,n=m + 1:=⟨n - 1,by unfold ab at h1; omega⟩
 rw [Np (SF hj hks hi hnl hkk h0 hL hN hc)] at h2
 exact ⟨n3,h3,n4,h4,n,by omega,h2⟩
theorem E5.end {i kk:Nat} {ks:List Tx} {L:Int} (h:E5 sh xs nl ps i ks kk ks.length L ds) (hks:ks.length≤7) : E4 sh xs nl ps i ks (kk + 1) ds:=by
 obtain ⟨n3,h3,n4,h4,n,h1,h2⟩:=h
 obtain ⟨n,rfl⟩ : ∃ m,n=m + 1:=⟨n - 1,by unfold ab at h1; omega⟩
 rw [wq (r:=(L,gC nl ds,(ks.length:Int))) (by unfold de; simp)] at h2
 exact ⟨n3,h3,n4,h4,h2⟩
theorem E4.end {i:Nat} {ks:List Tx} (h:E4 sh xs nl ps i ks nl ds) (hnl:nl≤2) : E3 sh xs nl ps (i + 1) ds:=by
 obtain ⟨n3,h3,n,h1,h2⟩:=h
 obtain ⟨n,rfl⟩ : ∃ m,n=m + 1:=⟨n - 1,by unfold ab at h1; omega⟩
 have hl:(gC nl ds).al.length=nl:=by show ((Dw nl).map bT).length=nl; rw [List.length_map,rC hnl]
 rw [wq (r:=(gC nl ds,(nl:Int))) (by unfold dE; simp [hl])] at h2
 exact ⟨n3,h3,h2⟩
theorem E3.end (h:E3 sh xs nl ps ps.length ds) (hps:ps.length≤7) : fW sh xs=some (gC nl ds):=by
 obtain ⟨n,h1,h2⟩:=h
 obtain ⟨n,rfl⟩ : ∃ m,n=m + 1:=⟨n - 1,by unfold ab at h1; omega⟩
 rw [wq (r:=(gC nl ds,(ps.length:Int))) (by unfold cU; simp)] at h2
 exact h2
end
theorem E1.start (sh:Int) (xs:List Int) {nl y:Nat} (hnl:(nl:Int)=1 + i64.wrap (sh.tdiv 5) % 2) (hy:(y:Int)=sh % 5) : E1 sh xs nl (mS y) 0 []:=by
 refine ⟨ab,rfl,?_⟩
 have h0:=Int.emod_nonneg (i64.wrap (sh.tdiv 5)) (show (2:Int)≠0 by decide)
 have h1:=Int.emod_lt_of_pos (i64.wrap (sh.tdiv 5)) (show (0:Int) < 2 by decide)
 have y0:=Int.emod_nonneg sh (show (5:Int)≠0 by decide)
 have y1:=Int.emod_lt_of_pos sh (show (0:Int) < 5 by decide)
 unfold fW
 dsimp only
 refine pj (ib _ (by decide) (by decide)) ?_
 rw [w64 (n:=1 + i64.wrap (sh.tdiv 5) % 2) (by omega),← hnl]
 refine pj (nn (by simp; omega)) (pj (ib _ (by decide) (by decide)) ?_)
 rw [← hy]
 have hy5:y < 5:=by omega
 refine pj (r:=(mS y).map bT) ?_ ?_
 ·rcases y with _ | _ | _ | _ | _ | y
  all_goals first | rfl | omega
 ·have e:(⟨List.take nl [(⟨#[]⟩ : ByteArray),⟨#[103,112,117]⟩],[]⟩ : ax)=gC nl []:=by
   unfold gC Dw
   rw [List.map_take]
   rfl
  rw [e]
  rfl
end
theorem dx {w:World} {b:Nat} {cs:Array Value} {t:TypeId} (h:w.heap[b]? = some (.cells cs t (0,0))) (j:Nat) (v:Value) (hv:cs[j]? = some v) : w.cell? ⟨b,j,none⟩=some v:=by
 rw [cell_of_row w b j cs t (0,0) h,hv]
theorem tc {w:World} {b:Nat} {cs:Array Value} {t:TypeId} (h:w.heap[b]? = some (.cells cs t (0,0))) (j:Nat) : w.frozen? ⟨b,j,none⟩=false:=by
 simp [World.frozen?,h]
noncomputable def sN (w:World) : World:=((((((((w.alloc (Obj.cells #[Value.slice none 0 0,Value.slice none 0 0] 36)).alloc (Obj.cells #[Value.string { data:=#[114,111,111,116] }] 9)).alloc (Obj.cells #[Value.string { data:=#[114,111,111,116] },Value.string { data:=#[114,111,111,116,46,97] },Value.string { data:=#[114,111,111,116,46,98] }] 9)).alloc (Obj.cells #[Value.string { data:=#[114,111,111,116] },Value.string { data:=#[114,111,111,116,46,97] },Value.string { data:=#[114,111,111,116,46,97,46,120] },Value.string { data:=#[114,111,111,116,46,97,46,121] },Value.string { data:=#[114,111,111,116,46,98] }] 9)).alloc (Obj.cells #[Value.string { data:=#[114,111,111,116] },Value.string { data:=#[114,111,111,116,46,97] },Value.string { data:=#[114,111,111,116,46,98] },Value.string { data:=#[114,111,111,116,46,98,46,120] },Value.string { data:=#[114,111,111,116,46,98,46,120,46,112] },Value.string { data:=#[114,111,111,116,46,98,46,120,46,113] },Value.string { data:=#[114,111,111,116,46,99] }] 9)).alloc (Obj.cells #[Value.string { data:=#[114,111,111,116] },Value.string { data:=#[114,111,111,116,46,97] }] 9)).alloc (Obj.cells #[Value.slice (some { block:=w.heap.size + 1,off:=0 }) 1 1,Value.slice (some { block:=w.heap.size + 1 + 1,off:=0 }) 3 3,Value.slice (some { block:=w.heap.size + 1 + 1 + 1,off:=0 }) 5 5,Value.slice (some { block:=w.heap.size + 1 + 1 + 1 + 1,off:=0 }) 7 7,Value.slice (some { block:=w.heap.size + 1 + 1 + 1 + 1 + 1,off:=0 }) 2 2] 33)).alloc (Obj.cells #[Value.string { data:=#[] },Value.string { data:=#[103,112,117] }] 9))
theorem UX (w:World) : Ext w (sN w):=(((((((aO w _).trans (aO _ _)).trans (aO _ _)).trans (aO _ _)).trans (aO _ _)).trans (aO _ _)).trans (aO _ _)).trans (aO _ _)
theorem Qw (w:World) : (sN w).heap.size=w.heap.size + 8:=by simp [sN]
theorem UW (w:World) : (sN w).heap[w.heap.size]? = some (.cells #[.slice none 0 0,.slice none 0 0] 36 (0,0)):=by
 have h:=heap_alloc_new w (.cells #[.slice none 0 0,.slice none 0 0] 36 (0,0))
 have x:Ext (w.alloc (.cells #[.slice none 0 0,.slice none 0 0] 36 (0,0))) (sN w):=((((((aO _ _).trans (aO _ _)).trans (aO _ _)).trans (aO _ _)).trans (aO _ _)).trans (aO _ _)).trans (aO _ _)
 exact (x.block _ (Array.getElem?_eq_some_iff.1 h).1).trans h
theorem Qy (w:World) : (sN w).heap[w.heap.size + 1 + 1 + 1 + 1 + 1 + 1 + 1]? = some (.cells #[.string ⟨#[]⟩,.string ⟨#[103,112,117]⟩] 9 (0,0)):=by
 have e:∀ (W1:World) (o:Obj) (n:Nat),W1.heap.size=n→(W1.alloc o).heap[n]? = some o:=by intro W1 o n h; subst h; exact heap_alloc_new W1 o
 unfold sN
 exact e _ _ _ (by simp)
theorem Qv (w:World) (y:Nat) (hy:y < 5) : (sN w).cell? ⟨w.heap.size + 1 + 1 + 1 + 1 + 1 + 1,y,none⟩=some (.slice (some ⟨w.heap.size + 1 + y,0,none⟩) (mS y).length (mS y).length):=by
 unfold sN
 rcases y with _ | _ | _ | _ | _ | y
 all_goals first | omega | (simp [go_sem,mS,Nat.add_assoc])
theorem Qx (w:World) (y:Nat) (hy:y < 5) (i:Nat) (hi:i < (mS y).length) : (sN w).cell? ⟨w.heap.size + 1 + y,i,none⟩=some (.string ⟨((mS y)[i]).toArray⟩):=by
 unfold sN
 rcases y with _ | _ | _ | _ | _ | y
 all_goals first | omega | skip
 all_goals (rcases i with _ | _ | _ | _ | _ | _ | _ | i)
 all_goals first | (exfalso; simp [mS] at hi; done) | (exfalso; simp [mS] at hi; omega) | (simp [go_sem,mS,Nat.add_assoc])
theorem zc (v:Value) (xs:List Int) (i:Int) (w:World) (r0:Rd w v (xs.map (Value.int .i64))) (hn:xs.length≤9223372036854775807) (h0 : 0≤i) (h1:i≤1000000) :
  Calls prog 56 #[v,.int .i64 i] w fun e w'=>(∃ a:Int,e = .returned (.int .i64 a)∧a=ig xs i)∧w=w':=by
 obtain ⟨A,N,c,rfl,hN,hc1,hc2,hcell⟩:=Jr r0
 have HC:=Lib.hid hcell
 have HN:=Lib.hid hN
 have hN1:N≤9223372036854775807:=by omega
 clear hcell hN r0
 by_cases hz:N=0
 ·subst hz
  have hp:ig xs i=i:=by unfold ig; rw [if_pos (by have:=HN.out; omega)]
  rw [hp]
  clear hp
  go_enter Tryz.func56,Tryz.ntmps56
  go_wp2
  go_ret
  exact ⟨⟨_,rfl,rfl⟩,rfl⟩
 ·have q0:((N:Int)==0)=false:=by simp; omega
  obtain ⟨m,hm⟩ : ∃ m:Nat,i % (N:Int)=(m:Int):=⟨(i % (N:Int)).toNat,by have:=Int.emod_nonneg i (show (N:Int)≠0 by omega); omega⟩
  have hmN:m < N:=by have:=Int.emod_lt_of_pos i (show (0:Int) < N by omega); omega
  obtain ⟨a,rfl,hb,hcs⟩:=HC.out (by omega)
  have h3:=hcs m (by have:=HN.out; omega)
  have n1:(1:Int)≤(N:Int):=by omega
  have m0:(0:Int)≤(m:Int):=by omega
  have m1:(m:Int) < (N:Int):=by omega
  have hp:ig xs i=xs[m]'(by have:=HN.out; omega):=by
   unfold ig
   rw [if_neg (by have:=HN.out; omega),show (xs.length:Int)=(N:Int) by have:=HN.out; omega,hm]
   simp [List.getD,zq (show m < xs.length by have:=HN.out; omega)]
  generalize xs[m]'(by have:=HN.out; omega)=x at h3 hp
  rw [hp]
  clear hp
  clear hcs
  go_enter Tryz.func56,Tryz.ntmps56
  go_wp2
  go_ret
  exact ⟨⟨_,rfl,rfl⟩,rfl⟩
section
section
variable {P:Program} {ops:Array Oper} {Q:Exit→Act→World→Prop} {md:Region.Mode} {L:World→World→Prop}
def fT (P:Program) (ops:Array Oper) (L:World→World→Prop) (W:World) (o:Oper) (v:Value) (a:Act) : Prop :=
 (Region.wanted o (yielded ops a.tmps)=true∧∀ w,L W w→OkX P v w ((execOp a.eval o).run P w)) ∨
 (Region.wanted o (yielded ops a.tmps)=false∧v=undef)
structure Way (L:World→World→Prop) : Prop where
 ext:∀ {a b},Ext a b→L a b
 trans:∀ {a b c},L a b→L b c→L a c
theorem fT.of_same {W:World} {o:Oper} {v:Value} {a a':Act} (hy:fT P ops L W o v a) (he:execOp a'.eval o=execOp a.eval o)
  (hw:Region.wanted o (yielded ops a'.tmps)=Region.wanted o (yielded ops a.tmps)) : fT P ops L W o v a':=by
 unfold fT at *
 rw [he,hw]
 exact hy
theorem fT.later (hL:Way L) {W W':World} {o:Oper} {v:Value} {a:Act} (hy:fT P ops L W o v a) (h:L W W') : fT P ops L W' o v a :=
 hy.imp (fun ⟨hw,hv⟩=>⟨hw,fun w k=>hv w (hL.trans h k)⟩) id
theorem fT.wpOp {W w:World} {i:Nat} {o:Oper} {v:Value} {a:Act} (hi:ops[i]? = some o) (hy:fT P ops L W o v a) (hW:L W w)
  {K:Act→World→Prop} (h:∀ w',Ext w w'→K (a.put o.dst v) w') : wpOp P ops Q i K a w:=by
 unfold Go.wpOp
 simp only [hi]
 rcases hy with ⟨hw,hv⟩ | ⟨hw,rfl⟩
 ·simp only [hw,if_true]
  refine .inl ?_
  unfold Oper.wp
  have:=hv w hW
  generalize (execOp a.eval o).run P w=r at *
  cases r with
  | ok n w' =>
   cases n <;> simp only [OkX] at this <;> simp only [Oper.upon]
   case value u=>rw [this.1]; exact h _ this.2
   case enter f args =>
    refine Calls.mono this.2 fun e w'' he=>?_
    rw [he.1]
    exact h _ (this.1.trans he.2)
  | halt x w'=>simp only [OkX] at this
 ·simp only [hw,zf,if_false]; exact h _ (Ext.refl _)
theorem T8 {j:Nat} {W:World} {oi oj:Oper} {v:Value} (hj:ops[j]? = some oj) (hap:oi.apart ops oj=true)
  (hsi:∀ cs b,oi.op≠.select cs b) (hsj:∀ cs b,oj.op≠.select cs b)
  (hQ:∀ c a w,Q (.panic c) (a.put oi.dst v) w→Q (.panic c) a w) {K:Act→World→Prop} {a:Act} {w:World}
  (hy:fT P ops L W oi v a) (h:wpOp P ops Q j K (a.put oi.dst v) w) :
  wpOp P ops Q j (fun a' w'=>fT P ops L W oi v a'∧K (a'.put oi.dst v) w') a w:=by
 obtain ⟨h1,h2,h3⟩:=Oper.apart_spec hap
 have keep:∀ (a:Act),fT P ops L W oi v a→∀ u,fT P ops L W oi v (a.put oj.dst u):=fun a hy u =>
  hy.of_same (execOp_put oi hsi a oj.dst u h3) (wanted_put oi a oj.dst u h3)
 have keepD:∀ d,fT P ops L W oi v { a with defers:=d::a.defers } := fun d=>hy.of_same rfl rfl
 unfold Go.wpOp at *
 simp only [hj] at *
 rw [wanted_put oj a oi.dst v h1] at h
 split
 ·rename_i hw
  simp only [hw,if_true] at h
  rcases h with h | ⟨hasks,hlets⟩
  case inr=>exact .inr ⟨by unfold Oper.asks at *; rw [execOp_put oj hsj a oi.dst v h1] at hasks; exact hasks,hlets⟩
  refine .inl ?_
  unfold Oper.wp at *
  rw [execOp_put oj hsj a oi.dst v h1] at h
  generalize (execOp a.eval oj).run P w=r at *
  cases r with
  | ok n w' =>
   cases n <;> simp only [Oper.upon] at h ⊢
   case value u=>exact ⟨keep a hy u,by rw [← Act.put_comm a v u h2]; exact h⟩
   case skip=>exact ⟨keep a hy _,by rw [← Act.put_comm a v undef h2]; exact h⟩
   case defer d =>
    refine ⟨keep _ (keepD d) _,?_⟩
    rw [← Act.put_comm _ v undef h2,← Act.put_defers]
    exact h
   case enter f args =>
    refine Calls.mono h fun e w'' he=>?_
    cases e with
    | returned u=>exact ⟨keep a hy u,by rw [← Act.put_comm a v u h2]; exact he⟩
    | panicked c=>exact hQ _ _ _ he
    | outgrown=>exact he
   case row row args=>exact Rows.mono h fun u w'' he=>⟨keep a hy u,by rw [← Act.put_comm a v u h2]; exact he⟩
  | halt x w' =>
   cases x <;> simp only [Oper.upon] at h ⊢
   case panic u=>exact hQ _ _ _ h
 ·rename_i hw
  simp only [hw] at h
  exact ⟨keep a hy _,by rw [← Act.put_comm a v undef h2]; exact h⟩
def wpW (P:Program) (md:Region.Mode) (ops:Array Oper) (Q:Exit→Act→World→Prop) (L:World→World→Prop) : Nat→Array Bool→Act→World→Prop
 | 0,listed,a,w=>Region.ready md ops listed = []∧∀ w1,Ext w w1→Q .normal a w1
 | f + 1, listed, a, w => (Region.ready md ops listed = [] → ∀ w1, Ext w w1 → Q .normal a w1) ∧ ∀ w1, Ext w w1 →
     ∀ i∈Region.ready md ops listed,wpOp P ops Q i (fun a' w'=>L w1 w'∧wpW P md ops Q L f (listed.setIfInBounds i true) a' w') a w1
theorem wpW.later:∀ {f:Nat} {listed:Array Bool} {a:Act} {w w':World},wpW P md ops Q L f listed a w→Ext w w'→wpW P md ops Q L f listed a w'
 | 0,_,_,_,_,h,k=>⟨h.1,fun w1 k1=>h.2 w1 (k.trans k1)⟩
 | _ + 1,_,_,_,_,h,k=>⟨fun h0 w1 k1=>h.1 h0 w1 (k.trans k1),fun w1 k1=>h.2 w1 (k.trans k1)⟩
theorem yQ:∀ (f:Nat) (listed:Array Bool) (a:Act) (w:World),wpW P md ops Q L f listed a w→wpAny P md ops Q f listed a w
 | 0,_,_,_,h=>⟨h.1,h.2 _ (Ext.refl _)⟩
 | f + 1,_,_,_,h=>⟨fun h0=>h.1 h0 _ (Ext.refl _),fun i hi=>wpOp_mono (fun a' w' h'=>yQ f _ a' w' h'.2) (h.2 _ (Ext.refl _) i hi)⟩
theorem T7 (hL:Way L) {i:Nat} {oi:Oper} {v:Value} (hi:ops[i]? = some oi) (hsel:∀ (j:Nat) (o:Oper) cs b,ops[j]? = some o→o.op≠.select cs b)
  (hQ:∀ c a w,Q (.panic c) (a.put oi.dst v) w→Q (.panic c) a w) :
  ∀ (f:Nat) (listed:Array Bool) (a:Act) (w:World),
   (∀ j oj,ops[j]? = some oj→j≠i→listed.getD j true=false→(∀ e∈oj.after,Region.binds md e=true→e.on≠i)→oi.apart ops oj=true) →
   i∈Region.ready md ops listed→fT P ops L w oi v a →
   wpW P md ops Q L f (listed.setIfInBounds i true) (a.put oi.dst v) w→wpW P md ops Q L (f + 1) listed a w:=by
 intro f
 induction f with
 | zero =>
  intro listed a w _ hr hy H
  refine ⟨fun h=>(by rw [h] at hr; cases hr),fun w1 k1 j hj=>?_⟩
  by_cases hji:j=i
  ·subst hji; exact hy.wpOp hi (hL.ext k1) fun w' k'=>⟨hL.ext k',wpW.later H (k1.trans k')⟩
  ·have:=ready_mono hj hji
   rw [H.1] at this
   cases this
 | succ f ih =>
  intro listed a w hfree hr hy H
  have hun:=(mem_ready.1 hr).1
  refine ⟨fun h=>(by rw [h] at hr; cases hr),fun w1 k1 j hj=>?_⟩
  by_cases hji:j=i
  ·subst hji; exact hy.wpOp hi (hL.ext k1) fun w' k'=>⟨hL.ext k',wpW.later H (k1.trans k')⟩
  ·have h1:=H.2 w1 k1 j (ready_mono hj hji)
   obtain ⟨hjun,oj,hoj,hall⟩:=mem_ready.1 hj
   have hnot:∀ e∈oj.after,Region.binds md e=true→e.on≠i:=fun e he hb heq=>by
    have h1:=hall e he hb
    rw [heq,getD_both hun] at h1
    cases h1
   have hfree':∀ k ok,ops[k]? = some ok→k≠i→(listed.setIfInBounds j true).getD k true=false →
     (∀ e∈ok.after,Region.binds md e=true→e.on≠i)→oi.apart ops ok=true:=fun k ok hk hki hun hno=>by
    refine hfree k ok hk hki ?_ hno
    by_cases hjk:j=k
    ·subst hjk; exact hjun
    ·rw [getD_set_ne true hjk] at hun; exact hun
   have h2:=T8 hoj (hfree j oj hoj hji hjun hnot) (fun cs b=>hsel i oi cs b hi) (fun cs b=>hsel j oj cs b hoj) hQ hy h1
   refine wpOp_mono (fun a' w' h3=>⟨h3.2.1,ih (listed.setIfInBounds j true) a' w' hfree' (ready_mono hr (Ne.symm hji)) (h3.1.later hL (hL.trans (hL.ext k1) h3.2.1)) ?_⟩) h2
   rw [Array.setIfInBounds_comm _ _ hji]
   exact h3.2.2
def xS (md:Region.Mode) (ops:Array Oper) : List (Nat×Bool)→Array Bool→Bool
 | [],listed=>(Region.ready md ops listed).isEmpty
 | (i,true)::s,listed=>(Region.ready md ops listed).contains i&&Region.free md ops listed i&&xS md ops s (listed.setIfInBounds i true)
 | (i,false)::s,listed=>(Region.ready md ops listed == [i])&&xS md ops s (listed.setIfInBounds i true)
def wpS (P:Program) (ops:Array Oper) (Q:Exit→Act→World→Prop) (L:World→World→Prop) : List (Nat×Bool)→Act→World→Prop
 | [],a,W=>∀ w1,Ext W w1→Q .normal a w1
 | (i,true)::s,a,W=>∃ o v,ops[i]? = some o∧fT P ops L W o v a∧wpS P ops Q L s (a.put o.dst v) W
 | (i,false)::s,a,W=>∀ w1,Ext W w1→wpOp P ops Q i (fun a' w'=>L w1 w'∧wpS P ops Q L s a' w') a w1
def Tt (ops:Array Oper) (ds:Tmp→Bool) (s:List (Nat×Bool)) : Bool:=s.all fun p=>!p.2||((ops[p.1]?).all fun o=>o.dst.all ds)
theorem xJ (hL:Way L) (hsel:Region.noSelect ops=true) (ds:Tmp→Bool) (hQ:∀ c (a:Act) (d:Tmp) v w,ds d=true→Q (.panic c) (a.put (some d) v) w→Q (.panic c) a w) :
  ∀ (s:List (Nat×Bool)) (listed:Array Bool) (a:Act) (W:World),Tt ops ds s=true→xS md ops s listed=true→wpS P ops Q L s a W→wpW P md ops Q L s.length listed a W
 | [],listed,a,W,_,hB,h=>⟨by simpa [xS] using hB,h⟩
 | (i,true)::s,listed,a,W,hI,hB,h=>by
  simp only [Tt,List.all_cons,Bool.and_eq_true,Bool.not_true,Bool.false_or] at hI
  obtain ⟨hI1,hI2⟩:=hI
  simp only [xS,Bool.and_eq_true] at hB
  obtain ⟨⟨hr,hf⟩,hB'⟩:=hB
  obtain ⟨o,v,h0,hy,hK⟩:=h
  exact T7 hL h0 (Region.noSelect_spec hsel) (fun c a w=>by cases hd:o.dst with | none=>exact fun h=>h | some d=>exact hQ c a d v w (by simpa [h0,hd] using hI1)) s.length listed a W
   (Region.free_spec h0 hf) (by simpa using hr) hy (xJ hL hsel ds hQ s _ _ _ hI2 hB' hK)
 | (i,false)::s,listed,a,W,hI,hB,h=>by
  simp only [Tt,List.all_cons,Bool.and_eq_true] at hI
  simp only [xS,Bool.and_eq_true,beq_iff_eq] at hB
  obtain ⟨hr,hB'⟩:=hB
  refine ⟨fun h0=>(by rw [hr] at h0; cases h0),fun w1 k1 j hj=>?_⟩
  rw [hr,List.mem_singleton] at hj
  subst hj
  exact wpOp_mono (fun a' w' h'=>⟨h'.1,xJ hL hsel ds hQ s _ _ _ hI.2 hB' h'.2⟩) (h w1 k1)
theorem MB:∀ (f:Nat) {g:Nat} {listed:Array Bool} {a:Act} {w:World},f≤g→wpAny P md ops Q f listed a w→wpAny P md ops Q g listed a w
 | 0,0,_,_,_,_,h=>h
 | 0,g + 1,_,_,_,_,h=>⟨fun _=>h.2,by rw [h.1]; simp⟩
 | f + 1,g + 1,_,_,_,hle,h=>⟨h.1,fun i hi=>wpOp_mono (fun a' w' h'=>MB f (by omega) h') (h.2 i hi)⟩
 | f + 1,0,_,_,_,hle,_=>absurd hle (by omega)
theorem oI (L:World→World→Prop) (hL:Way L) {id:Nat} {a:Act} {w:World} {l:List Oper} (s:List (Nat×Bool)) (hm:P.follows .mixedOrders=true)
  (hB:(Region.noSelect l.toArray&&decide (s.length≤l.toArray.size)&&xS .any l.toArray s (Array.replicate l.toArray.size false))=true)
  (hQ:∀ c (a:Act) (d:Tmp) v w,Q (.panic c) (a.put (some d) v) w→Q (.panic c) a w)
  (h:wpS P l.toArray Q L s a w.drew) : (Code.region id l.toArray true).wp P Q a w:=by
 simp only [Bool.and_eq_true,decide_eq_true_eq] at hB
 obtain ⟨⟨hsel,hle⟩,hB⟩:=hB
 exact wp_region_any hm (MB _ hle (yQ _ _ _ _ (xJ (md:=.any) hL hsel (fun _=>true) (fun c a d v w _=>hQ c a d v w) s _ a w.drew (by simp [Tt]) hB h)))
variable {l:List Oper}
theorem ss {o:Oper} {a:Act} (h:o.guard=none) : Region.wanted o (yielded l.toArray a.tmps)=true:=by simp [Region.wanted,h]
theorem tH {W:World} {i:Nat} {s:List (Nat×Bool)} {a:Act} (o:Oper) (v:Value) (hi:l[i]? = some o) (hw:Region.wanted o (yielded l.toArray a.tmps)=true)
  (h:∀ w1,L W w1→OkX P v w1 ((execOp a.eval o).run P w1)) (hr:wpS P l.toArray Q L s (a.put o.dst v) W) : wpS P l.toArray Q L ((i,true)::s) a W:=⟨o,v,by simpa using hi,.inl ⟨hw,h⟩,hr⟩
theorem PY {W:World} {i:Nat} {s:List (Nat×Bool)} {a:Act} (o:Oper) (hi:l[i]? = some o) (hw:Region.wanted o (yielded l.toArray a.tmps)=true)
  (h:∀ w1,Ext W w1→o.wp P a w1 (fun a' w'=>L w1 w'∧wpS P l.toArray Q L s a' w') Q) : wpS P l.toArray Q L ((i,false)::s) a W:=by
 intro w1 k1
 have hi':l.toArray[i]? = some o:=by simpa using hi
 unfold Go.wpOp
 simp only [hi',hw,if_true]
 exact .inl (h w1 k1)
theorem xR {W:World} {a:Act} (h:∀ w1,Ext W w1→Q .normal a w1) : wpS P ops Q L [] a W:=h
end
theorem Lh:Way Ext:=⟨fun h=>h,Ext.trans⟩
end
theorem Tryz.infoCap:(prog.info? 98).map (fun i=>(i.zero,i.size,i.bytes))=some (some (.agg #[.int .i64 0,.int .i64 0]),2,16):=by kernel_rfl
theorem LL (w:World) (x y:Value) (t:TypeId) : ∀ j u,[x,y][j]? = some u→(w.alloc (.cells #[x,y] t)).cell? ((⟨w.heap.size,0,none⟩ : Addr).add j)=some u:=by
 intro j u hu
 have hadd:(⟨w.heap.size,0,none⟩ : Addr).add j=⟨w.heap.size,j,none⟩:=by unfold Addr.add; split <;> simp_all
 rw [hadd,cell_of_row _ w.heap.size j _ t (0,0) (heap_alloc_new w _),← Array.getElem?_toList]
 exact hu
theorem acz {a b:Int} : ∀ u∈[Value.int .i64 a,Value.int .i64 b],u.oneCell' = true:=by
 intro u hu
 simp only [List.mem_cons,List.mem_nil_iff,or_false] at hu
 rcases hu with rfl | rfl <;> rfl
theorem LQ {w:World} {b:Nat} {cs:Array Value} {t:TypeId} (h:w.heap[b]? = some (.cells cs t (0,0))) (j:Nat) (v:Value) : (w.setCell ⟨b,j,none⟩ v).heap[b]? = some (.cells (cs.setIfInBounds j v) t (0,0)):=by
 rw [heap_setCell_same w b j _ _ _ h]
theorem GV (cs:List (Int×Int)) : cj (cs ++ [sr])=cj cs ++ [.int .i64 10000,.int .i64 10000]:=IC cs 10000 10000
theorem xt (w:World) (R i:Nat) (u:Value) : w.grownBy (w.setCell ⟨R,i,none⟩ u) (some R) :=
 ⟨rfl,rfl,rfl,by simp [World.setCell],fun k _ hk=>Below.heap_setCell _ _ _ _ (fun e=>hk (by rw [e]))⟩
theorem Tr {w:World} (B gl nl:Nat) (h:w.heap[gl]? = some (.cells #[.string ⟨#[]⟩,.string ⟨#[103,112,117]⟩] 9 (0,0))) (hB:B≤gl) (h2:nl≤2) : w.ownsRow B 9 1 (.slice (some ⟨gl,0,none⟩) nl 2) nl ((Dw nl).map sv):=by
 refine ⟨by simp [Dw]; omega,.inr ⟨gl,2,_,rfl,hB,h,h2,by simp [maxLen],rfl,?_⟩⟩
 rcases nl with _ | _ | _ | nl
 ·rfl
 ·rfl
 ·rfl
 ·omega
theorem T2 {w V w5:World} {row:Option Nat} {Q:Nat} {o:Obj} (hV:Ext w V) (hg:V.grownBy w5 row) (hb:w.heap[Q]? = some o) (hne:row≠some Q) : w5.heap[Q]? = some o:=by
 have hlt:=(Array.getElem?_eq_some_iff.1 hb).1
 rw [hg.block Q (Nat.lt_of_lt_of_le hlt hV.size) (fun e=>hne e.symm),hV.block Q hlt]
 exact hb
theorem UH (i j k:Nat) (hi:i≤7) (hj:j≤7) (hk:k≤2) : ∃ p:Nat,p≤51∧(p:Int)=(i:Int) * (j:Int) + (k:Int)∧wrap64 (wrap64 ((i:Int) * (j:Int)) + (k:Int))=(p:Int):=by
 have h:i * j≤7 * 7:=Nat.mul_le_mul hi hj
 obtain ⟨p,hp⟩ : ∃ p:Nat,p=i * j:=⟨_,rfl⟩
 rw [← hp] at h
 refine ⟨p + k,by omega,by rw [hp]; simp [Int.natCast_add,Int.natCast_mul],?_⟩
 rw [show (i:Int) * (j:Int)=(p:Int) by rw [hp]; exact (Int.natCast_mul i j).symm]
 rw [show wrap64 (p:Int)=(p:Int) from IntWalk.wrap64_in _ ⟨by omega,by omega⟩]
 rw [show wrap64 ((p:Int) + (k:Int))=(p:Int) + (k:Int) from IntWalk.wrap64_in _ ⟨by omega,by omega⟩]
 omega
def Wz (sh:Int) (xs:List Int) (y nl:Nat) (w:World) (e:Ending) (w':World) : Prop:=∃ vl vq ds qs B,e = .returned (.agg #[vl,vq])∧w.heap.size≤B∧w'.ownsRow w.heap.size 9 1 vl nl ((Dw nl).map sv)∧ja w' B vq ds qs∧GI nl (mS y) (mS y).length ds∧Ext w w'∧fW sh xs=some (gC nl ds)
theorem T6 (a:Int) : wrap64 a=i64.wrap a:=by rw [IntKind.wrap_i64]; unfold wrap64; rfl
theorem abX {xs:List Int} {i jj kk nk L:Nat} {z1 z2 a b:Int} {z y:Nat} (hl:jj + 1 < nk) (e3:z1=ig xs a) (ha:a=(i:Int) + jj + kk) (e4:z2=ig xs b) (hb:b=(i:Int) * jj + kk) (e1:(z:Int)=z1 % ((L + 1:Nat) : Int)) (e2:(y:Int)=z2 % ((4:Nat) : Int)) : [0,(L:Int) / 2,(L:Int),(z:Int)].getD y 0=nV xs i jj kk nk (L:Int):=by
 unfold nV
 rw [if_pos hl,← ha,← hb,← e3,← e4]
 have e5:z1 % ((L:Int) + 1)=(z:Int):=by rw [e1]; rfl
 have e6:z2 % 4=(y:Int):=by rw [e2]; rfl
 rw [e5,e6]
 rfl
theorem abZ {xs:List Int} {i jj kk n:Nat} {z1 z2 a b:Int} {z y:Nat} (hn:n≤10000) (e3:z1=ig xs a) (ha:a=(jj:Int) + kk) (e4:z2=ig xs b) (hb:b=(i:Int) + 2 * jj) (e1:(z:Int)=z1 % ((10000 - n + 1:Nat) : Int)) (e2:(y:Int)=z2 % ((3:Nat) : Int)) : [10000,(n:Int),(n:Int) + (z:Int)].getD y 0=mV xs i jj kk (n:Int):=by
 unfold mV
 rw [← ha,← hb,← e3,← e4]
 have e5:z1 % (10000 - (n:Int) + 1)=(z:Int):=by rw [e1]; congr 1; omega
 have e6:z2 % 3=(y:Int):=by rw [e2]; rfl
 rw [e5,e6]
 rfl
set_option maxHeartbeats 12800000 in
theorem Wy (sh:Int) (v:Value) (xs:List Int) (w:World) (r0:Rd w v (xs.map (Value.int .i64))) (hx30:xs.length≤9223372036854775807) :
  Calls prog 28 #[.int .i64 sh,v] w fun e w'=>∃ nl,1≤nl∧nl≤2∧Wz sh xs (sh % 5).toNat nl w e w':=by
 obtain ⟨c0,hc,hcz0,hcz1,hcz2⟩:=info_parts Tryz.infoCap
 obtain ⟨q0,hq,hqz0,hqz1,hqz2⟩:=info_parts Tryz.infoQ
 obtain ⟨i0,hi,hz0,hz1,hz2⟩:=info_parts Tryz.infoStr
 obtain ⟨W2,hW2⟩ : ∃ W2,W2=sN w:=⟨_,rfl⟩
 have X2:=Lib.hid (show Ext w W2 by rw [hW2]; exact UX w)
 have HS2:=Lib.hid (show W2.heap.size=w.heap.size + 8 by rw [hW2]; exact Qw w)
 have HR0:=Lib.hid (show W2.heap[w.heap.size]? = some (.cells #[.slice none 0 0,.slice none 0 0] 36 (0,0)) by rw [hW2]; exact UW w)
 have HLB:=Lib.hid (show W2.heap[w.heap.size + 1 + 1 + 1 + 1 + 1 + 1 + 1]? = some (.cells #[.string ⟨#[]⟩,.string ⟨#[103,112,117]⟩] 9 (0,0)) by rw [hW2]; exact Qy w)
 have HTR:=Lib.hid (show ∀ y,y < 5→W2.cell? ⟨w.heap.size + 1 + 1 + 1 + 1 + 1 + 1,y,none⟩=some (.slice (some ⟨w.heap.size + 1 + y,0,none⟩) (mS y).length (mS y).length) by rw [hW2]; exact Qv w)
 have HPA:=Lib.hid (show ∀ y,y < 5→∀ i (hi:i < (mS y).length),W2.cell? ⟨w.heap.size + 1 + y,i,none⟩=some (.string ⟨((mS y)[i]).toArray⟩) by rw [hW2]; exact Qx w)
 obtain ⟨A,N,c,rfl,hN,hc1,hc2,hcell⟩:=Jr r0
 have HC:=Lib.hid hcell
 have HN:=Lib.hid hN
 have HRD:=Lib.hid r0
 have hN30:N≤9223372036854775807:=by omega
 clear hcell hN r0
 have hW2':W2 = _:=hW2
 unfold sN at hW2'
 go_enter Tryz.func28,Tryz.ntmps28
 go_wp2_with fail
 rw [← hW2']
 clear hW2 hW2'
 (with_reducible refine (gW _ 2 2 _ rfl (by omega)).mono ?_)
 rintro e w2 ⟨nl',rfl,hny,hnl,rfl⟩
 have HNY:=Lib.hid hny
 clear hny
 have hnl1:(1 + (nl':Int)).toNat=nl' + 1:=by omega
 have hnl2:(0:Int)≤1 + (nl':Int):=by omega
 have hnl3 : 1 + (nl':Int)≤2:=by omega
 go_wp2_with fail
 (with_reducible refine (gW _ 5 5 _ rfl (by omega)).mono ?_)
 rintro e w3 ⟨y,rfl,hny,hy5,rfl⟩
 have HY:=Lib.hid hny
 clear hny hnl1
 obtain ⟨nl,hnl'⟩ : ∃ nl,nl=nl' + 1:=⟨_,rfl⟩
 rw [← hnl']
 have HNL:=Lib.hid hnl'
 have hnl4:nl≤2:=by omega
 have hnl5 : 1≤nl:=by omega
 clear hnl' hnl2 hnl3 hnl
 obtain ⟨gt,hgt⟩ : ∃ gt,gt=w.heap.size + 1 + y:=⟨_,rfl⟩
 obtain ⟨ps,hps⟩ : ∃ ps,ps=mS y:=⟨_,rfl⟩
 obtain ⟨NP,hNP⟩ : ∃ NP,NP=ps.length:=⟨_,rfl⟩
 have hNP7:NP≤7:=by rw [hNP,hps]; exact ML y
 have HPX:=Lib.hid (show ∀ i (hi:i < ps.length),W2.cell? ⟨gt,i,none⟩=some (.string ⟨(ps[i]).toArray⟩) by rw [hgt]; subst hps; exact HPA.out y hy5)
 have HTX:=HTR.out y hy5
 rw [← hgt,← hps,← hNP] at HTX
 have HTX':∀ o,(W2.alloc o).cell? ⟨w.heap.size + 1 + 1 + 1 + 1 + 1 + 1,y,none⟩=some (.slice (some ⟨gt,0,none⟩) NP NP):=fun o=>(aO W2 o).cell HTX
 have HPS:=Lib.hid hps
 have HNP:=Lib.hid hNP
 have HNO:=Lib.hid (show ps.Nodup by rw [hps]; exact PH y)
 have HE0:=Lib.hid (show E1 sh xs nl ps 0 [] by rw [hps]; exact E1.start sh xs (by have h1:=HNY.out; have h2:=HNL.out; rw [h2]; first | omega | (rw [show (((nl' + 1:Nat)) : Int)=1 + (nl':Int) by omega,h1,T6]; rfl)) (by have:=HY.out; omega))
 have hy0:(0:Int)≤(y:Int):=by omega
 have hy5':(y:Int) < 5:=by omega
 clear hgt hps hNP HTX
 go_wp2
 obtain ⟨gl,hgl⟩ : ∃ gl,gl=w.heap.size + 1 + 1 + 1 + 1 + 1 + 1 + 1:=⟨_,rfl⟩
 rw [← hgl]
 have HGL:=Lib.hid (show w.heap.size≤gl by omega)
 have HL2:=Lib.hid (show W2.heap[gl]? = some (.cells #[.string ⟨#[]⟩,.string ⟨#[103,112,117]⟩] 9 (0,0)) by rw [hgl]; exact HLB.out)
 clear hgl HLB HTX' HTR HPA
 obtain ⟨R,hR⟩ : ∃ R,R=W2.heap.size:=⟨_,rfl⟩
 have HR3:=Lib.hid (show (W2.alloc (.cells #[.slice (some ⟨gl,0,none⟩) nl 2,.slice none 0 0] 36)).heap[R]? = some (.cells #[.slice (some ⟨gl,0,none⟩) nl 2,.slice none 0 0] 36 (0,0)) by rw [hR]; exact heap_alloc_new W2 _)
 rw [← hR]
 have HRR:=Lib.hid hR
 clear hR
 go_loopw [8] (fun i wr=>∃ (k:Nat) (vq:Value) (ds:List QD) (qs:List QC),i = .int .i64 k∧k≤NP∧wr.heap[R]? = some (.cells #[.slice (some ⟨gl,0,none⟩) nl 2,vq] 36 (0,0))∧ja wr R vq ds qs∧G1 nl ps k ds∧E1 sh xs nl ps k ds∧Ext W2 wr) (fun i _=>NP - (intOf i).toNat)
 case atStart=>exact ⟨0,_,[],[],rfl,by omega,HR3.out,ja.nil _ _,G1.nil nl ps,HE0.out,aO _ _⟩
 case round =>
  obtain ⟨k,vq,ds,qs,rfl,hk,hRb,hOQ,hG,hE,hx⟩:=hrel
  have HE:=Lib.hid hE
  clear hE HE0
  have HRB:=Lib.hid hRb
  have HOQ:=Lib.hid hOQ
  have HG:=Lib.hid hG
  have HX:=Lib.hid hx
  clear hRb hOQ hG hx
  have k0:(0:Int)≤(k:Int):=by omega
  by_cases hlt:k < NP
  ·have k1:(k:Int) < (NP:Int):=by omega
   have hkp:k < ps.length:=by have:=HNP.out; omega
   have p0:=HX.out.cell (HPX.out k hkp)
   obtain ⟨P,hP⟩ : ∃ P:ByteArray,P=⟨(ps[k]).toArray⟩:=⟨_,rfl⟩
   rw [← hP] at p0
   have HP:=Lib.hid (show P.data.toList=ps[k] by rw [hP])
   clear hP
   obtain ⟨WQ,hWQ⟩ : ∃ WQ,WQ=wr.alloc (.cells #[.string P,.slice none 0 0,.int .i64 1000000] 63):=⟨_,rfl⟩
   obtain ⟨Q,hQ⟩ : ∃ Q,Q=wr.heap.size:=⟨_,rfl⟩
   have HQR:=Lib.hid (show R≤Q by rw [hQ,HRR.out]; exact HX.out.size)
   have HQB:=Lib.hid (show WQ.heap[Q]? = some (.cells #[.string P,.slice none 0 0,.int .i64 1000000] 63 (0,0)) by rw [hWQ,hQ]; exact heap_alloc_new wr _)
   have HXQ:=Lib.hid (show Ext wr WQ by rw [hWQ]; exact aO _ _)
   go_upto_region 8 with fail
   rw [← hWQ,← hQ]
   have HQQ:=Lib.hid hQ
   clear hWQ hQ p0
   go_cut [59] from 48 to 59 (fun s59 wx=>(∃ b:Bool,s59 = .bool b∧b=FR xs k)∧wx=WQ)
   case first =>
    by_cases hkN:k < N
    ·have n1:(k:Int) < (N:Int):=by omega
     obtain ⟨a,rfl,hb,hcs⟩:=HC.out (by omega)
     have h3:=(X2.out.trans (HX.out.trans HXQ.out)).cell' (hcs k (by have:=HN.out; omega))
     have hxg:xs.getD k 0=xs[k]'(by have:=HN.out; omega):=by simp [List.getD,zq (show k < xs.length by have:=HN.out; omega)]
     generalize xs[k]'(by have:=HN.out; omega)=x at h3 hxg
     have HGT:=Lib.hid (show (x.tmod 3==0)=FR xs k by unfold FR; rw [decide_eq_true (show k < xs.length by have:=HN.out; omega),hxg]; rfl)
     clear hcs hb hxg
     go_wp2
     go_meet
     case rel=>exact ⟨⟨_,rfl,by first | exact HGT.out | (rw [← HGT.out]; simp)⟩,rfl⟩
    ·have n1 : ¬ (k:Int) < (N:Int):=by omega
     go_wp2
     go_meet
     case rel=>exact ⟨⟨_,rfl,by unfold FR; rw [decide_eq_false (show ¬ k < xs.length by have:=HN.out; omega)]; rfl⟩,rfl⟩
   case rest =>
    obtain ⟨⟨b,rfl,hbN⟩,rfl⟩:=hcut
    have HBN:=Lib.hid hbN
    clear hbN
    go_upto_if 59 with fail
    go_cut [] from 60 to 66 (fun wx=>∃ u:Int,1≤u∧u≤1000000∧u=Ju xs k∧wx.heap[Q]? = some (.cells #[.string P,.slice none 0 0,.int .i64 u] 63 (0,0))∧Ext wr wx)
    case first =>
     cases b with
     | true =>
      have hkN:k < N:=by
       have h:=HBN.out
       unfold FR at h
       have h2:=(Bool.and_eq_true_iff.1 h.symm).1
       have h3:=zd h2
       have:=HN.out
       omega
      have n1:(k:Int) < (N:Int):=by omega
      obtain ⟨a,rfl,hb,hcs⟩:=HC.out (by omega)
      have h3:=(X2.out.trans (HX.out.trans HXQ.out)).cell' (hcs k (by have:=HN.out; omega))
      have hxg:xs.getD k 0=xs[k]'(by have:=HN.out; omega):=by simp [List.getD,zq (show k < xs.length by have:=HN.out; omega)]
      generalize xs[k]'(by have:=HN.out; omega)=x at h3 hxg
      have HXG:=Lib.hid hxg
      clear hxg
      have u2:=dx HQB.out 2 _ rfl
      have f2:=tc HQB.out 2
      clear hcs hb
      go_wp2_with fail
      (with_reducible refine (gW _ 20000 20000 _ rfl (by omega)).mono ?_)
      rintro e w4 ⟨z,rfl,hz,hz2,rfl⟩
      have HZ:=Lib.hid hz
      clear hz
      go_wp2
      go_meet
      case rel =>
       refine ⟨1 + (z:Int),by omega,by omega,by rw [Ju,if_pos HBN.out.symm,HXG.out,HZ.out]; rfl,?_,?_⟩
       ·rw [LQ HQB.out]; rfl
       ·exact zC HXQ.out (by rw [HQQ.out]; exact Nat.le_refl _) _
     | false =>
      go_wp2
      go_meet
      case rel=>exact ⟨1000000,by omega,by omega,by rw [Ju,if_neg (by rw [← HBN.out]; decide)],HQB.out,HXQ.out⟩
    case rest =>
     obtain ⟨u,hu1,hu2,hu3,hqb,hxq⟩:=hcut
     have HU3:=Lib.hid hu3
     clear hu3
     have HQC:=Lib.hid hqb
     have HXC:=Lib.hid hxq
     clear hqb hxq HBN HQB
     go_wp2
     go_loopw [10] (fun i2 wx=>∃ (kk:Nat) (vc:Value),i2 = .int .i64 kk∧kk≤nl∧wx.heap[Q]? = some (.cells #[.string P,vc,.int .i64 u] 63 (0,0))∧wx.ownsRow (Q + 1) 98 2 vc kk (cj (List.replicate kk sr))∧Ext wr wx) (fun i2 _=>nl - (intOf i2).toNat)
     case atStart=>exact ⟨0,_,rfl,by omega,HQC.out,World.ownsRow_nil _ _ _ 2,HXC.out⟩
     case round =>
      obtain ⟨kk,vc,rfl,hkk,hqb,ho,hxx⟩:=hrel
      obtain ⟨Av,cv,rfl,hv1,hv2⟩:=cK ho
      have HQX:=Lib.hid hqb
      have HO:=Lib.hid ho
      have HXX:=Lib.hid hxx
      clear hqb ho hxx
      have r0:=HXX.out.cell (dx HRB.out 0 _ rfl)
      have kk0:(0:Int)≤(kk:Int):=by omega
      by_cases hlk:kk < nl
      ·have kk1:(kk:Int) < (nl:Int):=by omega
       have q1:=dx HQX.out 1 _ rfl
       have f1:=tc HQX.out 1
       go_wp2_with (at_builtin; go_loud (refine wpList_append_own_at _ rfl (.tmp 75) (.tmp 77) 61 rfl (Q + 1) 98 c0 _ 2 16 Tryz.underlying61 hc hcz0 hcz1 hcz2 rfl (by decide) _ kk (cj (List.replicate kk sr)) rfl (HO.out.alloc _) ⟨_,0,none⟩ 1 1 [.int .i64 10000,.int .i64 10000] rfl rfl (LL _ _ _ _) acz ?c3 ?c4 ?c5 ?_))
       case c3=>simp [maxLen]; omega
       case c4=>omega
       case c5 =>
        have:=(Array.getElem?_eq_some_iff.1 HQX.out).1
        simp; omega
       intro v' w5 ho5 hg5 _ hat5
       have HQ5:=Lib.hid (T2 (aO _ _) hg5 HQX.out (fun e=>by have:=(HO.out.lt Q e).1; omega))
       have HO5:=Lib.hid (show w5.ownsRow (Q + 1) 98 2 v' (kk + 1) (cj (List.replicate (kk + 1) sr)) by
        rw [List.replicate_succ',GV ]; exact ho5)
       have HX5:=Lib.hid ((HXX.out.trans (aO _ _)).trans' (cP hg5 (by have:=HXX.out.size; simp; omega) (Qb HO.out (by have:=HQQ.out; omega))))
       have q5:=dx HQ5.out 1 _ rfl
       have f5:=tc HQ5.out 1
       obtain ⟨A5,c5,rfl,_,_⟩:=cK ho5
       clear ho5 hg5 hat5 q1 f1 r0
       go_wp2
       go_roundw
       case rel =>
        refine ⟨kk + 1,_,by simp,by omega,by rw [LQ HQ5.out]; rfl,?_,?_⟩
        ·exact HO5.out.kept (xt _ Q 1 _) (.inr fun e=>by have:=(HO5.out.lt Q e).1; omega)
        ·exact zC HX5.out (by rw [HQQ.out]; exact Nat.le_refl _) _
       case measure=>simp [intOf]; omega
      ·obtain rfl:kk=nl:=by omega
       have kk1 : ¬ (kk:Int) < (kk:Int):=by omega
       have HROW:=Lib.hid (lI HOQ.out.row HXX.out)
       obtain ⟨Aq,cq,rfl,hcq1,hcq2⟩:=cK HROW.out
       obtain ⟨DL,hDL⟩ : ∃ DL,DL=ds.length:=⟨_,rfl⟩
       have hDL7:DL≤7:=by
        have h1:=congrArg List.length HG.out.paths
        rw [List.length_map,List.length_take] at h1
        omega
       have HROW2:=Lib.hid (show (_:World).ownsRow R 63 3 (.slice Aq DL cq) DL (fZ qs) by have h:=HROW.out; rw [← hDL] at h; exact h)
       have r1:=HXX.out.cell (dx HRB.out 1 _ rfl)
       rw [← hDL] at r1
       have q2:=dx HQX.out 0 _ rfl
       have q3:=dx HQX.out 1 _ rfl
       have q4:=dx HQX.out 2 _ rfl
       have HDL:=Lib.hid hDL
       clear hDL HROW
       go_wp2_with (at_builtin; go_loud (refine wpList_append_own_at _ rfl (.tmp 81) (.tmp 83) 34 rfl R 63 q0 _ 3 48 Tryz.underlying34 hq hqz0 hqz1 hqz2 rfl (by decide) _ DL (fZ qs) rfl (HROW2.out.alloc _) ⟨_,0,none⟩ 1 1 [.string P,.slice Av kk cv,.int .i64 u] rfl rfl (GU _ _ _ _ _) acy ?e3 ?e4 ?e5 ?_))
       case e3=>simp [maxLen]; omega
       case e4=>omega
       case e5 =>
        have:=(Array.getElem?_eq_some_iff.1 HQX.out).1
        have:=HQR.out
        simp; omega
       intro v' w5 ho5 hg5 _ hat5
       have HRX:=Lib.hid ((HXX.out.block R (Array.getElem?_eq_some_iff.1 HRB.out).1).trans HRB.out)
       have hneR:(Value.slice Aq DL cq).ownBlock≠some R:=pQ HROW2.out HRX.out (by decide)
       have HR5:=Lib.hid (T2 (aO _ _) hg5 HRX.out hneR)
       have HX5:=Lib.hid (((HX.out.trans HXX.out).trans (aO _ _)).trans' (cP hg5 (by have:=(HX.out.trans HXX.out).size; simp; omega) (Qb HROW2.out (by rw [HRR.out]; exact Nat.le_refl _))))
       rw [HDL.out] at ho5 hg5
       have HOQ5:=Lib.hid (ja.snoc (q:=⟨P,Av,kk,cv,u⟩) (d:=⟨ps[k],List.replicate kk sr,u⟩) HOQ.out (HXX.out.trans (aO _ _)) ⟨HP.out,rfl,by simp,Fg (HO.out.alloc _) (by have:=HQR.out; omega)⟩
        (fun g hg i qi hqi e=>by
         have h1:=(HO.out.lt g hg).1
         have hil:i < ds.length:=by rw [← HOQ.out.len]; exact (zg.1 hqi).1
         have h2:=((HOQ.out.each i qi hil hqi).2.2.2.lt g e).2
         have:=HQQ.out
         omega) ho5 hg5)
       have q5:=dx HR5.out 1 _ rfl
       have f5:=tc HR5.out 1
       obtain ⟨A5,c5,rfl,_,_⟩:=cK ho5
       have HG5:=Lib.hid (G1.snoc HG.out hkp hu1 hu2)
       have HE5:=Lib.hid (show E1 sh xs _ ps (k + 1) (ds ++ [⟨ps[k],List.replicate kk sr,u⟩]) by rw [HU3.out]; exact E1.step HE.out (by omega) hkp (by have:=HNP.out; omega) (by have:=HDL.out; omega))
       clear ho5 hg5 hat5 q2 q3 q4 r1 r0
       go_wp2
       go_roundw
       case rel =>
        refine ⟨k + 1,_,_,qs ++ [⟨P,Av,kk,cv,u⟩],by simp,by omega,by rw [LQ HR5.out]; rfl,?_,HG5.out,HE5.out,?_⟩
        ·exact HOQ5.out.kept (xt _ R 1 _) HR5.out (by decide) (by decide)
        ·exact zC HX5.out (by rw [HRR.out]; exact Nat.le_refl _) _
       case measure=>simp [intOf]; omega
  ·obtain rfl:k=NP:=by omega
   have k1 : ¬ (k:Int) < (k:Int):=by omega
   have HGI:=Lib.hid (G1.start (HNP.out ▸ HG.out))
   have HE3:=Lib.hid (show E3 sh xs nl ps 0 ds from E1.end (by have h:=HE.out; rw [HNP.out] at h; exact h) (by have:=HNP.out; omega))
   clear HG HE
   go_wp2
   go_loopw [11] (fun i wr=>∃ (k':Nat) (vq:Value) (ds:List QD) (qs:List QC),i = .int .i64 k'∧k'≤k∧wr.heap[R]? = some (.cells #[.slice (some ⟨gl,0,none⟩) nl 2,vq] 36 (0,0))∧ja wr R vq ds qs∧GI nl ps k' ds∧E3 sh xs nl ps k' ds∧Ext W2 wr) (fun i _=>k - (intOf i).toNat)
   case atStart=>exact ⟨0,_,_,_,rfl,by omega,HRB.out,HOQ.out,HGI.out,HE3.out,HX.out⟩
   case round =>
    obtain ⟨i,vq,ds,qs,rfl,hik,hRb,hOQ,hG,hE,hx⟩:=hrel
    clear HRB HOQ HGI HX HE3
    have HE:=Lib.hid hE
    clear hE
    obtain ⟨Aq,cq,rfl,hcq1,hcq2⟩:=cK hOQ.row
    have HRB:=Lib.hid hRb
    have HOQ:=Lib.hid hOQ
    have HG:=Lib.hid hG
    have HX:=Lib.hid hx
    have HDK:=Lib.hid (show ds.length=k by rw [hG.gd.len]; exact HNP.out.symm)
    have r0:=dx HRB.out 0 _ rfl
    have r1:=dx HRB.out 1 _ rfl
    rw [HDK.out] at r1
    clear hRb hOQ hG hx k1 hcq1
    have i0:(0:Int)≤(i:Int):=by omega
    by_cases hlt:i < k
    ·have i1:(i:Int) < (k:Int):=by omega
     have hip:i < ps.length:=by have:=HNP.out; omega
     have p0:=HX.out.cell (HPX.out i hip)
     obtain ⟨P,hP⟩ : ∃ P:ByteArray,P=⟨(ps[i]).toArray⟩:=⟨_,rfl⟩
     rw [← hP] at p0
     have HP:=Lib.hid (show P.data.toList=ps[i] by rw [hP])
     clear hP
     go_wp2
     refine oI Ext Lh [(0,true),(1,true),(2,true),(3,true),(4,true),(5,false),(6,true)] (by kernel_rfl) (by kernel_rfl) (fun _ _ _ _ _ h=>h) ?_
     repeat first | ((with_reducible refine tH ?_ ?_ ?_ ?_ (fun wk k1=>?_) ?_); rotate_left 2; (rfl); (first | exact ss rfl | exact want_some rfl rfl rfl rfl); (go_simp; first | exact OkX.val | (have c0':=k1.cell r0; have c1':=k1.cell r1; have c2':=k1.cell p0; go_simp; exact OkX.val)); simp only [Act.put,List.setIfInBounds_toArray,List.set_cons_zero,List.set_cons_succ]) | ((with_reducible refine sched_skip ?_ ?_ ?_ ?_); rotate_left; (rfl); (exact want_not rfl rfl rfl rfl rfl); simp only [Act.put,List.setIfInBounds_toArray,List.set_cons_zero,List.set_cons_succ])
     ((with_reducible refine PY ?_ ?_ ?_ (fun wk k1=>?_)); rotate_left; (rfl); (first | exact ss rfl | exact want_some rfl rfl rfl rfl))
     have F0:=Lib.hid ((Ext.drew _).trans k1)
     clear k1 r0 r1 p0
     go_simp
     have hq7:ds.length≤1000:=by have:=HDK.out; omega
     have hp7:∀ q∈ds,q.path.length≤1000000000:=fun q hq=>by
      have h1:q.path∈ps:=by rw [← HG.out.gd.paths]; exact List.mem_map_of_mem hq
      rw [HPS.out] at h1
      have:=MJ y _ h1
      omega
     have hqq:=(HOQ.out.ext F0.out).rd
     rw [HDK.out] at hqq
     (with_reducible refine (Us ds _ _ P _ hqq hq7 hp7).mono ?_)
     rintro e wk2 ⟨Ak,nk,ck,rfl,hnk,hok,hxk⟩
     refine ⟨hxk,?_⟩
     try simp only [Act.put,List.setIfInBounds_toArray,List.set_cons_zero,List.set_cons_succ]
     have F1:=Lib.hid (F0.out.trans hxk)
     obtain ⟨ks,hks⟩ : ∃ ks,ks=CS ps[i] ps:=⟨_,rfl⟩
     have hkse:cG P.data.toList ds=ks:=by rw [FI,HP.out,HG.out.gd.paths,hks]
     rw [hkse] at hok hnk
     have HOK:=Lib.hid (Fg hok (show R≤_ by have:=F0.out.size; have:=HX.out.size; have:=HRR.out; omega))
     have hnk7:nk≤7:=by
      rw [hnk,hks]
      unfold CS
      have:=List.length_filter_le (fun x=>decide (ps[i]≠[])&&decide (above x=ps[i])) ps
      have:=HNP.out
      omega
     have HNK:=Lib.hid hnk
     have HKS:=Lib.hid hks
     have HE4:=Lib.hid (show E4 sh xs nl ps i ks 0 ds by rw [hks]; exact E3.open HE.out hip (by have:=HNP.out; omega) HPS.out HG.out.gd.paths)
     clear hxk hok hnk hks hkse hqq hq7 hp7
     repeat first | ((with_reducible refine tH ?_ ?_ ?_ ?_ (fun wk k1=>?_) ?_); rotate_left 2; (rfl); (first | exact ss rfl | exact want_some rfl rfl rfl rfl); (go_simp; first | exact OkX.val); simp only [Act.put,List.setIfInBounds_toArray,List.set_cons_zero,List.set_cons_succ]) | ((with_reducible refine sched_skip ?_ ?_ ?_ ?_); rotate_left; (rfl); (exact want_not rfl rfl rfl rfl rfl); simp only [Act.put,List.setIfInBounds_toArray,List.set_cons_zero,List.set_cons_succ])
     refine xR (fun wz k1=>?_)
     have HOKz:=Lib.hid (lI HOK.out k1)
     have F2:=Lib.hid (F1.out.trans k1)
     obtain ⟨Ak',ck',eK,hck1,hck2⟩:=cK HOKz.out
     injection eK with eK1 eK2 eK3
     subst eK1 eK3
     clear k1 eK2
     go_wp2
     go_loopw [13] (fun l wr=>∃ (kk:Nat) (vq:Value) (ds:List QD) (qs:List QC),l = .int .i64 kk∧kk≤nl∧wr.heap[R]? = some (.cells #[.slice (some ⟨gl,0,none⟩) nl 2,vq] 36 (0,0))∧ja wr R vq ds qs∧GK nl ps i kk ds∧E4 sh xs nl ps i ks kk ds∧wr.ownsRow R 9 1 (.slice Ak nk ck) nk (ks.map sv)∧Ext W2 wr) (fun l _=>nl - (intOf l).toNat)
     case atStart=>exact ⟨0,_,_,_,rfl,by omega,(F2.out.block R (Array.getElem?_eq_some_iff.1 HRB.out).1).trans HRB.out,HOQ.out.ext F2.out,HG.out.toK,HE4.out,HOKz.out,HX.out.trans F2.out⟩
     case round =>
      obtain ⟨kk,vq,ds,qs,rfl,hkk,hRb,hOQ,hG,hE,hkr,hx⟩:=hrel
      clear HRB HOQ HG HX HDK HOKz HOK F0 F1 F2 HE HE4
      have HE:=Lib.hid hE
      clear hE
      have HRB:=Lib.hid hRb
      have HOQ:=Lib.hid hOQ
      have HG:=Lib.hid hG
      have HX:=Lib.hid hx
      have HKR:=Lib.hid hkr
      have r0:=dx HRB.out 0 _ rfl
      clear hRb hOQ hG hx hkr
      have kk0:(0:Int)≤(kk:Int):=by omega
      by_cases hlk:kk < nl
      ·have kk1:(kk:Int) < (nl:Int):=by omega
       go_wp2
       go_loopw [14,15] (fun lf j wr=>∃ (jj:Nat) (left:Int) (vq:Value) (ds:List QD) (qs:List QC),lf = .int .i64 left∧j = .int .i64 jj∧jj≤nk∧wr.heap[R]? = some (.cells #[.slice (some ⟨gl,0,none⟩) nl 2,vq] 36 (0,0))∧ja wr R vq ds qs∧GJ nl ps i kk jj left ds∧E5 sh xs nl ps i ks kk jj left ds∧wr.ownsRow R 9 1 (.slice Ak nk ck) nk (ks.map sv)∧Ext W2 wr) (fun _ j _=>nk - (intOf j).toNat)
       case atStart=>exact ⟨0,10000,_,_,_,rfl,rfl,by omega,HRB.out,HOQ.out,HG.out.toJ,E4.open HE.out hlk hnl4,HKR.out,HX.out⟩
       case round =>
        obtain ⟨jj,left,vq,ds,qs,rfl,rfl,hjj,hRb,hOQ,hG,hE,hkr,hx⟩:=hrel
        clear HRB HOQ HG HX HKR r0 HE
        have HE:=Lib.hid hE
        clear hE
        obtain ⟨L,rfl⟩ : ∃ L:Nat,left=(L:Int):=⟨left.toNat,by have:=hG.lo; omega⟩
        have HRB:=Lib.hid hRb
        have HOQ:=Lib.hid hOQ
        have HG:=Lib.hid hG
        have HX:=Lib.hid hx
        have HKR:=Lib.hid hkr
        have l0:=hG.lo
        have l1:=hG.hi
        have j0:(0:Int)≤(jj:Int):=by omega
        clear hRb hOQ hG hx hkr
        by_cases hlj:jj < nk
        ·have j1:(jj:Int) < (nk:Int):=by omega
         go_upto_if 116 with fail
         go_cut [16] from 112 to 140 (fun s16 wx=>∃ n:Int,s16 = .int .i64 n∧0≤n∧n≤(L:Int)∧(jj + 1=nk→n=(L:Int))∧n=nV xs i jj kk ks.length (L:Int)∧Ext wr wx)
         case first =>
          by_cases hl2:jj + 1 < nk
          ·have n1:(jj:Int) < (nk:Int) - 1:=by omega
           have hrd:=HRD.out.ext (X2.out.trans HX.out)
           have HRX:=Lib.hid hrd
           clear hrd
           go_wp2_with fail
           (with_reducible refine (zc _ xs _ _ HRX.out (by omega) (by omega) (by omega)).mono ?_)
           rintro e w4 ⟨⟨z1,rfl,hz1⟩,rfl⟩
           have HZ1:=Lib.hid hz1
           clear hz1
           go_wp2_with fail
           (with_reducible refine (gW _ (L + 1) _ _ (by omega) (by omega)).mono ?_)
           rintro e w4 ⟨z,rfl,hz,hzl,rfl⟩
           have HZ:=Lib.hid hz
           clear hz
           have hz0:(0:Int)≤(z:Int):=by omega
           have hzl':(z:Int)≤(L:Int):=by omega
           go_wp2_with fail
           have HRX2:=Lib.hid (HRX.out.ext (aO _ (.cells #[.int .i64 0,.int .i64 ((L:Int) / 2),.int .i64 (L:Int),.int .i64 (z:Int)] 3)))
           obtain ⟨p,hp51,hpe,hw⟩:=UH i jj kk (by omega) (by omega) (by omega)
           rw [hw]
           have HPE:=Lib.hid hpe
           clear hw hpe
           (with_reducible refine (zc _ xs _ _ HRX2.out (by omega) (by omega) (by omega)).mono ?_)
           rintro e w4 ⟨⟨z2,rfl,hz2⟩,rfl⟩
           have HZ2:=Lib.hid hz2
           clear hz2
           go_wp2_with fail
           (with_reducible refine (gW _ 4 4 _ rfl (by omega)).mono ?_)
           rintro e w4 ⟨y4,rfl,hyy,hy4,rfl⟩
           have HYY:=Lib.hid hyy
           clear hyy
           have hnv:=abX (show jj + 1 < ks.length by have:=HNK.out; omega) HZ1.out (by first | rfl | omega) HZ2.out HPE.out HZ.out HYY.out
           obtain ⟨n,hn,hn0,hnl,hnn⟩ : ∃ n:Int,(#[Value.int .i64 0,.int .i64 ((L:Int) / 2),.int .i64 (L:Int),.int .i64 (z:Int)] : Array Value)[y4]? = some (.int .i64 n)∧0≤n∧n≤(L:Int)∧n=nV xs i jj kk ks.length (L:Int):=by
            clear HYY
            rcases y4 with _ | _ | _ | _ | y4
            ·exact ⟨0,rfl,by omega,by omega,hnv⟩
            ·exact ⟨(L:Int) / 2,rfl,by omega,by omega,hnv⟩
            ·exact ⟨(L:Int),rfl,by omega,by omega,hnv⟩
            ·exact ⟨(z:Int),rfl,by omega,by omega,hnv⟩
            ·omega
           have hcc:=fun (W:World)=>dx (heap_alloc_new W (.cells #[.int .i64 0,.int .i64 ((L:Int) / 2),.int .i64 (L:Int),.int .i64 (z:Int)] 3 (0,0))) y4 _ hn
           have hy0':(0:Int)≤(y4:Int):=by omega
           have hy4':(y4:Int) < 4:=by omega
           have HN4:=Lib.hid hn
           have HNN:=Lib.hid hnn
           clear hn hnn hnv
           go_wp2
           go_meet
           case rel=>exact ⟨n,rfl,hn0,hnl,fun h=>by omega,HNN.out,aO _ _⟩
          ·have n1 : ¬ (jj:Int) < (nk:Int) - 1:=by omega
           go_wp2
           go_meet
           case rel=>exact ⟨(L:Int),rfl,l0,by omega,fun _=>rfl,by unfold nV; rw [if_neg (by have:=HNK.out; omega)],Ext.refl _⟩
         case rest =>
          obtain ⟨n,rfl,hn0,hnL,hlast,hnv,hxc⟩:=hcut
          obtain ⟨n,rfl⟩ : ∃ n':Nat,n=(n':Int):=⟨n.toNat,by omega⟩
          have HNV:=Lib.hid hnv
          clear hnv
          have HLAST:=Lib.hid hlast
          have HRBc:=Lib.hid ((hxc.block R (Array.getElem?_eq_some_iff.1 HRB.out).1).trans HRB.out)
          have HOQc:=Lib.hid (HOQ.out.ext hxc)
          have HKRc:=Lib.hid (lI HKR.out hxc)
          have HXc:=Lib.hid (HX.out.trans hxc)
          have HRX:=Lib.hid (HRD.out.ext (X2.out.trans HXc.out))
          clear hlast hxc HRB HOQ HKR HX
          go_wp2_with fail
          (with_reducible refine (zc _ xs _ _ HRX.out (by omega) (by omega) (by omega)).mono ?_)
          rintro e w4 ⟨⟨z1,rfl,hz1⟩,rfl⟩
          have HZ1:=Lib.hid hz1
          clear hz1
          go_wp2_with fail
          (with_reducible refine (gW _ (10000 - n + 1) _ _ (by omega) (by omega)).mono ?_)
          rintro e w4 ⟨z,rfl,hz,hzl,rfl⟩
          have HZ:=Lib.hid hz
          clear hz
          have hz0:(0:Int)≤(z:Int):=by omega
          have hzl':(z:Int)≤10000 - (n:Int):=by omega
          go_wp2_with fail
          obtain ⟨WM,hWM⟩ : ∃ WM,WM=wc.alloc (.cells #[.int .i64 10000,.int .i64 (n:Int),.int .i64 ((n:Int) + (z:Int))] 3):=⟨_,rfl⟩
          rw [← hWM]
          have HXM:=Lib.hid (show Ext wc WM by rw [hWM]; exact aO _ _)
          have HHM:=Lib.hid (show WM.heap[wc.heap.size]? = some (.cells #[.int .i64 10000,.int .i64 (n:Int),.int .i64 ((n:Int) + (z:Int))] 3 (0,0)) by rw [hWM]; exact heap_alloc_new wc _)
          clear hWM
          (with_reducible refine (zc _ xs _ _ (HRX.out.ext HXM.out) (by omega) (by omega) (by omega)).mono ?_)
          rintro e w4 ⟨⟨z2,rfl,hz2⟩,rfl⟩
          have HZ2:=Lib.hid hz2
          clear hz2
          go_wp2_with fail
          (with_reducible refine (gW _ 3 3 _ rfl (by omega)).mono ?_)
          rintro e w4 ⟨y3,rfl,hyy,hy3,rfl⟩
          have HYY:=Lib.hid hyy
          clear hyy
          have hmv:=abZ (show n≤10000 by omega) HZ1.out (by first | rfl | omega) HZ2.out (by first | rfl | omega) HZ.out HYY.out
          obtain ⟨mo,hmo,hmo1,hmo2,hmm⟩ : ∃ mo:Int,(#[Value.int .i64 10000,.int .i64 (n:Int),.int .i64 ((n:Int) + (z:Int))] : Array Value)[y3]? = some (.int .i64 mo)∧(n:Int)≤mo∧mo≤10000∧mo=mV xs i jj kk (n:Int):=by
           clear HYY
           rcases y3 with _ | _ | _ | y3
           ·exact ⟨10000,rfl,by omega,by omega,hmv⟩
           ·exact ⟨(n:Int),rfl,by omega,by omega,hmv⟩
           ·exact ⟨(n:Int) + (z:Int),rfl,by omega,by omega,hmv⟩
           ·omega
          have hcc:=dx HHM.out y3 _ hmo
          have hy0':(0:Int)≤(y3:Int):=by omega
          have hy3':(y3:Int) < 3:=by omega
          have HRBm:=Lib.hid ((HXM.out.block R (Array.getElem?_eq_some_iff.1 HRBc.out).1).trans HRBc.out)
          have HOQm:=Lib.hid (HOQc.out.ext HXM.out)
          have HKRm:=Lib.hid (lI HKRc.out HXM.out)
          have HXm:=Lib.hid (HXc.out.trans HXM.out)
          have HMM:=Lib.hid hmm
          clear hmo hmm hmv HRBc HOQc HKRc HRX
          go_wp2
          clear hcc HHM
          have hjks:jj < ks.length:=by have:=HNK.out; omega
          go_loopw [18] (fun mi wr=>∃ (m:Nat) (vq:Value),mi = .int .i64 m∧m≤k∧wr.heap[R]? = some (.cells #[.slice (some ⟨gl,0,none⟩) nl 2,vq] 36 (0,0))∧ja wr R vq (eX ks[jj] kk n mo ds m) qs∧wr.ownsRow R 9 1 (.slice Ak nk ck) nk (ks.map sv)∧Ext W2 wr) (fun mi _=>k - (intOf mi).toNat)
          case atStart=>exact ⟨0,_,rfl,by omega,HRBm.out,by rw [EW]; exact HOQm.out,HKRm.out,HXm.out⟩
          case round =>
           obtain ⟨m,vq,rfl,hmk,hRb,hOQ,hkr,hx⟩:=hrel
           clear HRBm HOQm HKRm HXm HXc
           have hdk:ds.length=k:=by rw [HG.out.gk.gi.gd.len]; exact HNP.out.symm
           have m0:(0:Int)≤(m:Int):=by omega
           by_cases hmlt:m < k
           ·have m1:(m:Int) < (k:Int):=by omega
            have hmd:m < ds.length:=by omega
            have hml:m < (eX ks[jj] kk n mo ds m).length:=by rw [gZ]; exact hmd
            have hsg:=Bs ks[jj] kk n mo ds m hmd hml
            have hcl:(eX ks[jj] kk n mo ds m)[m].caps.length=nl:=by rw [hsg]; exact (HG.out.gk.gi.gd.each _ (List.getElem_mem hmd)).1
            obtain ⟨gq,cq',g,cc,ev,h1,hBg,hglt,⟨cur,hcur⟩,hfz,e1,e2,hput⟩:=hOQ.put hml (k:=kk) (by rw [hcl]; exact hlk)
            obtain ⟨q,hqm⟩ : ∃ q,qs[m]? = some q:=⟨qs[m]'(by rw [hOQ.len]; exact hml),zq _⟩
            have hqp:=(hOQ.each m q hml hqm).1
            rw [hsg] at hqp
            have hrow:=hOQ.row
            rw [ev] at hrow hRb
            have pc:=hrow.cellAt (m * 3) (by omega)
            rw [(u7 qs m q hqm).1] at pc
            rw [gZ,hdk] at hRb
            rw [hcl] at h1
            obtain ⟨gk,rfl⟩ : ∃ gk,Ak=some ⟨gk,0,none⟩:=by
             rcases hkr.2 with ⟨_,h0⟩ | ⟨gk,_,_,e,_⟩
             ·omega
             ·injection e with e; exact ⟨gk,e⟩
            have kc:=hkr.cellAt jj (by omega)
            rw [List.getElem?_map,zq hjks] at kc
            obtain ⟨Kb,hKb⟩ : ∃ Kb:ByteArray,Kb=⟨(ks[jj]).toArray⟩:=⟨_,rfl⟩
            have kc:wr.cell? ⟨gk,jj,none⟩=some (.string Kb):=by rw [hKb]; exact kc
            have HKB:=Lib.hid (show Kb.data.toList=ks[jj] by rw [hKb])
            have r1:=dx hRb 1 _ rfl
            have HQP:=Lib.hid hqp
            have HOQ:=Lib.hid hOQ
            have HRB:=Lib.hid hRb
            have HKR:=Lib.hid hkr
            have HX:=Lib.hid hx
            have HPUT:=Lib.hid (hput n mo)
            have HCUR:=Lib.hid hcur
            have HEV:=Lib.hid ev
            clear hKb hqp hrow hqm ev hOQ hRb hkr hx hput hcur hsg
            generalize ((eX ks[jj] kk n mo ds m)[m].caps[kk]'(by rw [hcl]; exact hlk)).1=o1 at e1
            generalize ((eX ks[jj] kk n mo ds m)[m].caps[kk]'(by rw [hcl]; exact hlk)).2=o2 at e2
            have HCL:=Lib.hid hcl
            clear hcl hdk
            have hkn0:(kk:Int) < (nl:Int):=by omega
            by_cases heq:q.p=Kb
            ·have q1:(q.p.toList==Kb.toList)=true:=by rw [heq]; simp
             have HEQ:=Lib.hid (show ds[m].path=ks[jj] by rw [← HQP.out,heq,HKB.out])
             clear heq
             go_wp2
             refine oI Ext Lh [(0,true),(1,true),(2,true),(3,true),(4,true),(5,true),(6,true),(7,true),(8,true),(9,true),(10,true)] (by kernel_rfl) (by kernel_rfl) (fun _ _ _ _ _ h=>h) ?_
             repeat first | ((with_reducible refine tH ?_ ?_ ?_ ?_ (fun wk k1=>?_) ?_); rotate_left 2; (rfl); (first | exact ss rfl | exact want_some rfl rfl rfl rfl); (go_simp; first | exact OkX.val | (have c0':=k1.cell r1; have c1':=k1.cell pc; have c2':=k1.cell kc; go_simp; exact OkX.val)); simp only [Act.put,List.setIfInBounds_toArray,List.set_cons_zero,List.set_cons_succ]) | ((with_reducible refine sched_skip ?_ ?_ ?_ ?_); rotate_left; (rfl); (exact want_not rfl rfl rfl rfl rfl); simp only [Act.put,List.setIfInBounds_toArray,List.set_cons_zero,List.set_cons_succ])
             refine xR (fun wz k1=>?_)
             have FZ:=Lib.hid ((Ext.drew _).trans k1)
             clear k1
             have z1:=FZ.out.cell r1
             obtain ⟨gq2,cq2,g',cc',ev2,z2,hBg',hglt',⟨cur',hcur'⟩,hfz',z3,z4,hput'⟩:=(HOQ.out.ext FZ.out).put hml (k:=kk) (by rw [HCL.out]; exact hlk)
             have ee:=HEV.out.symm.trans ev2
             injection ee with ee1 ee2 ee3
             injection ee1 with ee1
             injection ee1 with ee1
             subst ee1
             rw [HCL.out] at z2
             generalize ((eX ks[jj] kk n mo ds m)[m].caps[kk]'(by rw [HCL.out]; exact hlk)).1=o1' at z3
             generalize ((eX ks[jj] kk n mo ds m)[m].caps[kk]'(by rw [HCL.out]; exact hlk)).2=o2' at z4
             have HP2:=Lib.hid (hput' n mo)
             have HCUR2:=Lib.hid hcur'
             have f1:=hfz' (kk * 2)
             have f2:=hfz' (kk * 2 + 1)
             have hneR:R≠g':=fun e=>by
              have h9:=(FZ.out.block R (Array.getElem?_eq_some_iff.1 HRB.out).1).trans HRB.out
              rw [e,hcur'] at h9
              injection h9 with h9
              injection h9 with _ h9
              exact absurd h9 (by decide)
             clear ee2 ee3 ev2 hput' hcur' hfz' pc kc r1 h1 e1 e2 hfz
             go_wp2
             go_roundw
             case rel =>
              refine ⟨m + 1,vq,by simp,by omega,?_,?_,?_,?_⟩
              ·rw [HP2.out.2.block R (by have:=FZ.out.size; have:=(Array.getElem?_eq_some_iff.1 HRB.out).1; omega) (fun e=>by injection e with e; exact hneR e),FZ.out.block R (Array.getElem?_eq_some_iff.1 HRB.out).1,HEV.out,gZ,HG.out.gk.gi.gd.len,← HNP.out]
               exact HRB.out
              ·rw [I6 hmd HEQ.out]; exact HP2.out.1
              ·exact (lI HKR.out FZ.out).kept HP2.out.2 (.inr (pQ (lI HKR.out FZ.out) HCUR2.out (by decide)))
              ·exact (HX.out.trans FZ.out).trans' (cP HP2.out.2 (HX.out.trans FZ.out).size (fun k e=>by injection e with e; rw [← HRR.out,← e]; exact hBg'))
             case measure=>simp [intOf]; omega
            ·have q1:(q.p.toList==Kb.toList)=false:=aaW heq
             have HNE:=Lib.hid (show ds[m].path≠ks[jj] from fun e=>heq (aaX (by rw [HQP.out,e,HKB.out])))
             clear heq
             go_wp2
             refine oI Ext Lh [(0,true),(1,true),(2,true),(3,true),(4,true),(5,true),(6,true),(7,true),(8,true),(9,true),(10,true)] (by kernel_rfl) (by kernel_rfl) (fun _ _ _ _ _ h=>h) ?_
             repeat first | ((with_reducible refine tH ?_ ?_ ?_ ?_ (fun wk k1=>?_) ?_); rotate_left 2; (rfl); (first | exact ss rfl | exact want_some rfl rfl rfl rfl); (go_simp; first | exact OkX.val | (have c0':=k1.cell r1; have c1':=k1.cell pc; have c2':=k1.cell kc; go_simp; exact OkX.val)); simp only [Act.put,List.setIfInBounds_toArray,List.set_cons_zero,List.set_cons_succ]) | ((with_reducible refine sched_skip ?_ ?_ ?_ ?_); rotate_left; (rfl); (exact want_not rfl rfl rfl rfl rfl); simp only [Act.put,List.setIfInBounds_toArray,List.set_cons_zero,List.set_cons_succ])
             refine xR (fun wz k1=>?_)
             have FZ:=Lib.hid ((Ext.drew _).trans k1)
             clear k1
             go_wp2
             go_roundw
             case rel=>exact ⟨m + 1,vq,by simp,by omega,by rw [HEV.out,gZ,HG.out.gk.gi.gd.len,← HNP.out]; exact (FZ.out.block R (Array.getElem?_eq_some_iff.1 HRB.out).1).trans HRB.out,by rw [MX hmd HNE.out]; exact HOQ.out.ext FZ.out,lI HKR.out FZ.out,HX.out.trans FZ.out⟩
             case measure=>simp [intOf]; omega
           ·obtain rfl:m=k:=by omega
            have m1 : ¬ (m:Int) < (m:Int):=by omega
            have hvl:∃ A' c',vq = .slice A' m c':=by
             obtain ⟨A',c',e,_,_⟩:=cK hOQ.row
             rw [gZ,hdk] at e
             exact ⟨A',c',e⟩
            obtain ⟨A',c',rfl⟩:=hvl
            have hst:eX ks[jj] kk n mo ds m=iT ks[jj] kk n mo ds:=by
             rw [← I7,hdk]
            rw [hst] at hOQ
            have hr1:=dx hRb 1 _ rfl
            have HRB:=Lib.hid hRb
            have HOQ:=Lib.hid hOQ
            have HKR:=Lib.hid hkr
            have HX:=Lib.hid hx
            have HGS:=Lib.hid (show GJ nl ps i kk (jj + 1) ((L:Int) - (n:Int)) (iT ks[jj] kk n mo ds) by
             have hkd:cG ps[i] ds=ks:=by rw [FI,HG.out.gk.gi.gd.paths,HKS.out]
             have h:=GJ.step (n:=(n:Int)) (mo:=mo) HG.out HNO.out hip (by rw [hkd]; exact hjks) hlk hn0 hnL (by rw [hkd,← HNK.out]; exact HLAST.out) hmo1 hmo2
             simp only [hkd] at h
             exact h)
            have HES:=Lib.hid (show E5 sh xs nl ps i ks kk (jj + 1) ((L:Int) - (n:Int)) (iT ks[jj] kk n mo ds) by
             have h:=E5.step HE.out hjks (by have:=HNK.out; omega) (by omega) hnl4 hlk l0 l1 (by omega) (fun q hq=>(HG.out.gk.gi.gd.each q hq).1)
             rw [← HNV.out,← HMM.out] at h
             exact h)
            clear hst hOQ hRb hkr hx hdk
            go_wp2
            go_roundw
            case rel=>exact ⟨jj + 1,(L:Int) - (n:Int),_,_,_,rfl,by simp,by omega,HRB.out,HOQ.out,HGS.out,HES.out,HKR.out,HX.out⟩
            case measure=>simp [intOf]; omega
        ·obtain rfl:jj=nk:=by omega
         have j1 : ¬ (jj:Int) < (jj:Int):=by omega
         have HGE:=Lib.hid (GJ.end HG.out (fun h=>by rw [FI,HG.out.gk.gi.gd.paths,← HKS.out]; exact HNK.out))
         have HEE:=Lib.hid (show E4 sh xs nl ps i ks (kk + 1) ds from E5.end (by have h:=HE.out; rw [HNK.out] at h; exact h) (by have:=HNK.out; omega))
         go_wp2
         go_roundw
         case rel=>exact ⟨kk + 1,_,_,_,by simp,by omega,HRB.out,HOQ.out,HGE.out,HEE.out,HKR.out,HX.out⟩
         case measure=>simp [intOf]; omega
      ·obtain rfl:kk=nl:=by omega
       have kk1 : ¬ (kk:Int) < (kk:Int):=by omega
       have HGE:=Lib.hid (GK.end HG.out)
       have HEE:=Lib.hid (E4.end HE.out hnl4)
       go_wp2
       go_roundw
       case rel=>exact ⟨i + 1,_,_,_,by simp,by omega,HRB.out,HOQ.out,HGE.out,HEE.out,HX.out⟩
       case measure=>simp [intOf]; omega
    ·obtain rfl:i=k:=by omega
     have i1 : ¬ (i:Int) < (i:Int):=by omega
     have HRES:=Lib.hid ((HX.out.block w.heap.size (Array.getElem?_eq_some_iff.1 HR0.out).1).trans HR0.out)
     have HLBX:=Lib.hid ((HX.out.block gl (Array.getElem?_eq_some_iff.1 HL2.out).1).trans HL2.out)
     have y0:=dx HRES.out 0 _ rfl
     have y1:=dx HRES.out 1 _ rfl
     have g0:=tc HRES.out 0
     have g1:=tc HRES.out 1
     have hRw:R≠w.heap.size:=by have:=HRR.out; have:=HS2.out; omega
     go_wp2
     refine bodyPost_ret (by simp [results,Tryz.results28,go_sem,y0,y1]; try rfl) rfl ?_
     have hgr:wr.grownBy ((wr.setCell ⟨w.heap.size,0,none⟩ (.slice (some ⟨gl,0,none⟩) nl 2)).setCell ⟨w.heap.size,1,none⟩ (.slice Aq i cq)) (some w.heap.size) :=
      ⟨rfl,rfl,rfl,by simp [World.setCell],fun k _ hk=>(Below.heap_setCell _ _ _ _ (fun e=>hk (by rw [e]))).trans (Below.heap_setCell _ _ _ _ (fun e=>hk (by rw [e])))⟩
     have hdk:=HDK.out
     refine ⟨nl,hnl5,hnl4,_,_,ds,qs,R,rfl,by have:=HRR.out; have:=HS2.out; omega,?_,?_,?_,?_,E3.end (by have h:=HE.out; rw [HNP.out] at h; exact h) (by have:=HNP.out; omega)⟩
     ·exact (Tr w.heap.size gl nl HLBX.out HGL.out hnl4).kept hgr (.inr (pQ (Tr w.heap.size gl nl HLBX.out HGL.out hnl4) HRES.out (by decide)))
     ·have h:=HOQ.out.kept hgr HRES.out (by decide) (by decide)
      rw [hdk] at h
      exact h
     ·have e:(sh % 5).toNat=y:=by have:=HY.out; omega
      rw [e,← HPS.out,← HNP.out]
      exact HG.out
     ·exact zC (zC (X2.out.trans HX.out) (Nat.le_refl _) _) (Nat.le_refl _) _
def bm (pq:Int) (v_n:Int) : Option (Int) :=
 (Du pq v_n).bind fun b1=>let v_k:Int:=b1
 (if (decide (v_k < 0))=true then
 let v_k:Int:=(i64.wrap (v_k + v_n))
 some v_k
 else
 some v_k).bind fun j2=>let v_k:=j2
 some v_k
def iQ (v_x:aA) : Option (Bool) :=
 (if (decide ((v_x.fNs.length:Int)≤30))=true then some (decide ((v_x.jV.length:Int)≤80)) else some false).bind fun q1=>some q1
def wW (v_n:Int) : Option (az) :=
 (bm v_n 5).bind fun c1=>(ar ([(⟨1,1⟩ : az),(⟨2,1⟩ : az),(⟨4,4⟩ : az),(⟨3,2⟩ : az),(⟨1,3⟩ : az)] : (List az)) c1).bind fun b2=>some b2
def kF (v_c:ax) (st:(List ByteArray)×Int) : Option (((List ByteArray)×Int)⊕(((List ByteArray)×Int))) :=
 let v_l:=st.1
 let v_i:=st.2
 if (decide (v_i < (v_c.ae.length:Int)))=true then
 (ar v_c.ae v_i).bind fun b1=>(iY v_c b1.aB).bind fun c2=>if c2=true then
 (ar v_c.ae v_i).bind fun b3=>(aP v_l [b3.aB]).bind fun b4=>let v_l:(List ByteArray):=b4
 let v_i:Int:=(i64.wrap (v_i + 1))
 some (.inl (v_l,v_i))
 else
 let v_i:Int:=(i64.wrap (v_i + 1))
 some (.inl (v_l,v_i))
 else
 some (.inr (v_l,v_i))
def lg (v_c:ax) : Option ((List ByteArray)) :=
 let v_l:(List ByteArray):=[]
 let v_i:Int:=0
 (ai (kF v_c) ab (v_l,v_i)).bind fun r5 =>
 let v_l:=r5.1
 let v_i:=r5.2
 some v_l
def fV (v_s:aa) (v_p:ak) (v_a:aQ) (st:aK×Int) : Option ((aK×Int)⊕((aK×Int))) :=
 let v_x:=st.1
 let v_i:=st.2
 if (decide (v_i < (v_s.ac.length:Int)))=true then
 (ar v_s.ac v_i).bind fun b18=>(if (b18.bE==v_p.fId)=true then (bm (i64.wrap (v_a.fD + v_i)) 11).bind fun c19=>some (c19==10) else some false).bind fun q20=>if q20=true then
 (ar v_s.ac v_i).bind fun b21=>(aP v_x.gf [b21.fId]).bind fun b22=>let v_x:aK:={ v_x with gf:=b22 }
 let v_i:Int:=(i64.wrap (v_i + 1))
 some (.inl (v_x,v_i))
 else
 let v_i:Int:=(i64.wrap (v_i + 1))
 some (.inl (v_x,v_i))
 else
 some (.inr (v_x,v_i))
def ob (v_a:aQ) (v_s:aa) : Option (aK) :=
 let v_x:aK:=(⟨5,0,0,0,⟨#[]⟩,aZ.zero,ak.zero,[],[],a8.zero⟩ : aK)
 if ((v_s.ah.length:Int)==0)=true then
 some v_x
 else
 (bm v_a.fA (v_s.ah.length:Int)).bind fun c1=>(ar v_s.ah c1).bind fun b2=>let v_p:ak:=b2
 (bm v_a.fB 8).bind fun c3=>let t4:Int:=v_p.fId
 let t5:Int:=(i64.wrap ((i64.wrap (v_p.ci + 1)) - (i64.wrap (Int.tdiv c3 6))))
 let v_x:aK:={ v_x with fId:=t4 }
 let v_x:aK:={ v_x with ci:=t5 }
 (if (decide ((Int.tmod v_a.fC 3) > 0))=true then
 (bm v_a.fB 5).bind fun c7=>(bm v_a.fC (v_s.bB.al.length:Int)).bind fun c8=>(wW v_a.fD).bind fun c9=>(bm v_a.fD 7).bind fun c10=>let v_k:aM:=(⟨c7,c8,c9,c10,(-1),(-1),0⟩ : aM)
 (if ((Int.tmod v_a.fD 4)==1)=true then
 (bm v_a.fC 3).bind fun c12=>let v_k:aM:={ v_k with eZ:=c12 }
 some (v_k,v_x)
 else
 some (v_k,v_x)).bind fun j11=>let v_k:=j11.1
 let v_x:=j11.2
 (if ((Int.tmod v_a.fD 4)==2)=true then
 (bm v_a.fC 3).bind fun c14=>(bm v_a.fB 6).bind fun c15=>let t16:Int:=c14
 let t17:Int:=c15
 let v_k:aM:={ v_k with eZ:=t16 }
 let v_k:aM:={ v_k with bM:=t17 }
 some (v_k,v_x)
 else
 some (v_k,v_x)).bind fun j13=>let v_k:=j13.1
 let v_x:=j13.2
 let v_x:aK:={ v_x with bL:=([v_k] : (List aM)) }
 some v_x
 else
 some v_x).bind fun j6=>let v_x:=j6
 let v_i:Int:=0
 (ai (fV v_s v_p v_a) ab (v_x,v_i)).bind fun r23 =>
 let v_x:=r23.1
 let v_i:=r23.2
 some v_x
def hJ (v_s:aa) (v_a:aQ) (bJ:Int) (st:aK×Int) : Option ((aK×Int)⊕((aK×Int))) :=
 let v_x:=st.1
 let v_i:=st.2
 if (decide (v_i < (v_s.aE.length:Int)))=true then
 (ar v_s.aE v_i).bind fun b14=>if (b14.fId==bJ)=true then
 (ar v_s.aE v_i).bind fun b15=>(bm v_a.fB 8).bind fun c16=>let v_x:aK:={ v_x with ci:=(i64.wrap ((i64.wrap (b15.ci + 1)) - (i64.wrap (Int.tdiv c16 6)))) }
 let v_i:Int:=(i64.wrap (v_i + 1))
 some (.inl (v_x,v_i))
 else
 let v_i:Int:=(i64.wrap (v_i + 1))
 some (.inl (v_x,v_i))
 else
 some (.inr (v_x,v_i))
def hH (v_s:aa) (bJ:Int) (v_a:aQ) (st:aK×Int) : Option ((aK×Int)⊕((aK×Int))) :=
 let v_x:=st.1
 let aI:=st.2
 if (decide (aI < (v_s.ac.length:Int)))=true then
 (ar v_s.ac aI).bind fun b18=>(if (b18.bM==bJ)=true then (bm (i64.wrap (v_a.fC + aI)) 9).bind fun c19=>some (c19==8) else some false).bind fun q20=>if q20=true then
 (ar v_s.ac aI).bind fun b21=>(aP v_x.gf [b21.fId]).bind fun b22=>let v_x:aK:={ v_x with gf:=b22 }
 let aI:Int:=(i64.wrap (aI + 1))
 some (.inl (v_x,aI))
 else
 let aI:Int:=(i64.wrap (aI + 1))
 some (.inl (v_x,aI))
 else
 some (.inr (v_x,aI))
def hZ (v_a:aQ) (v_s:aa) : Option (aK) :=
 (bm v_a.fA 6).bind fun c1=>let t2:Int:=c1
 let t3:Int:=(v_s.bB.al.length:Int)
 let bJ:Int:=t2
 let su:Int:=t3
 (lg v_s.bB).bind fun c4=>let ka:(List ByteArray):=c4
 (bm v_a.fB 4).bind fun c5=>let v_x:aK:=(⟨0,bJ,0,(i64.wrap (1 + c5)),⟨#[]⟩,aZ.zero,ak.zero,[],[],a8.zero⟩ : aK)
 (bm v_a.il 16).bind fun c6=>((if (c6==0)=true then some true else some (c6==1))).bind fun q7=>(if q7=true then
 let v_x:aK:={ v_x with il:=2 }
 (bm v_a.fB su).bind fun c9=>(bm v_a.fC 3).bind fun c10=>(bm v_a.fD 12).bind fun c11=>(bm v_a.fD 8).bind fun c12=>let v_x:aK:={ v_x with bM:=(⟨bJ,c9,c10,(⟨(i64.wrap (4 + c11)),(i64.wrap (4 + c12))⟩ : az),0,0,false⟩ : aZ) }
 some v_x
 else
 ((if (c6==2)=true then some true else if (c6==3)=true then some true else if (c6==4)=true then some true else some (c6==5))).bind fun q13=>if q13=true then
 let v_x:aK:={ v_x with il:=3 }
 let v_i:Int:=0
 (ai (hJ v_s v_a bJ) ab (v_x,v_i)).bind fun r17 =>
 let v_x:=r17.1
 let v_i:=r17.2
 let aI:Int:=0
 (ai (hH v_s bJ v_a) ab (v_x,aI)).bind fun r23 =>
 let v_x:=r23.1
 let aI:=r23.2
 some v_x
 else
 ((if (c6==6)=true then some true else some (c6==7))).bind fun q24=>if q24=true then
 let v_x:aK:={ v_x with il:=4 }
 (bm v_a.fA 20).bind fun c25=>(bm v_a.fB (ka.length:Int)).bind fun c26=>(ar ka c26).bind fun b27=>(bm v_a.fC 3).bind fun c28=>(bm v_a.fD 3).bind fun c29=>(wW (i64.wrap (Int.tdiv v_a.fD 3))).bind fun c30=>let v_x:aK:={ v_x with bE:=(⟨c25,0,b27,c28,c29,c30,[],0,0,[],[],[],[]⟩ : ak) }
 some v_x
 else
 ((if (c6==8)=true then some true else if (c6==9)=true then some true else some (c6==10))).bind fun q31=>if q31=true then
 (ob v_a v_s).bind fun c32=>let v_x:aK:=c32
 some v_x
 else
 if (c6==11)=true then
 (bm v_a.fB 2).bind fun c33=>(ar ([6,7] : (List Int)) c33).bind fun b34=>let v_x:aK:={ v_x with il:=b34 }
 (bm v_a.fA 20).bind fun c35=>let v_x:aK:={ v_x with fId:=c35 }
 some v_x
 else
 ((if (c6==12)=true then some true else some (c6==13))).bind fun q36=>if q36=true then
 let v_x:aK:={ v_x with il:=8 }
 (bm v_a.fA 5).bind fun c37=>let v_x:aK:={ v_x with fN:=(i64.wrap (1 + c37)) }
 some v_x
 else
 if (c6==14)=true then
 (bm v_a.fD 3).bind fun c38=>(ar ([9,9,10] : (List Int)) c38).bind fun b39=>let v_x:aK:={ v_x with il:=b39 }
 (bm v_a.fB su).bind fun c40=>(bm v_a.fC 5).bind fun c41=>(wW v_a.fD).bind fun c42=>let v_x:aK:={ v_x with ql:=(⟨bJ,c40,(i64.wrap (v_s.bZ + c41)),(i64.wrap (v_s.bZ + 20)),c42⟩ : a8) }
 (bm v_a.fC 12).bind fun c43=>let v_x:aK:={ v_x with fN:=(i64.wrap (1 + c43)) }
 some v_x
 else
 if (c6==15)=true then
 (bm v_a.fA 3).bind fun c44=>(ar ([11,1,1] : (List Int)) c44).bind fun b45=>let v_x:aK:={ v_x with il:=b45 }
 (fW v_a.fB ([v_a.fC,v_a.fD] : (List Int))).bind fun c46=>(zV c46).bind fun c47=>let v_x:aK:={ v_x with NV:=c47 }
 some v_x
 else
 some v_x).bind fun j8=>let v_x:=j8
 some v_x
def eW (v_x:aA) (st:aa×Int) : Option ((aa×Int)⊕((aa×Int))) :=
 let v_s:=st.1
 let v_i:=st.2
 if (decide (v_i < (v_x.jV.length:Int)))=true then
 (ar v_x.jV v_i).bind fun b6=>(hZ b6 v_s).bind fun c7=>(tm v_s c7).bind fun c8=>let v_s:aa:=c8.1
 let v_i:Int:=(i64.wrap (v_i + 1))
 some (.inl (v_s,v_i))
 else
 some (.inr (v_s,v_i))
def cV (v_x:aA) : Option (aa) :=
 (An).bind fun c1=>let v_s:aa:=c1
 (fW v_x.Lg v_x.fNs).bind fun c2=>(zV c2).bind fun c3=>(tm v_s (⟨1,0,0,0,c3,aZ.zero,ak.zero,[],[],a8.zero⟩ : aK)).bind fun c4=>let v_t:aa:=c4.1
 let v_o:bz:=c4.2
 (if (v_o.abu==0)=true then
 let v_s:aa:=v_t
 some v_s
 else
 some v_s).bind fun j5=>let v_s:=j5
 let v_i:Int:=0
 (ai (eW v_x) ab (v_s,v_i)).bind fun r9 =>
 let v_s:=r9.1
 let v_i:=r9.2
 some v_s
def Kr:Ent:=⟨[.lf (.int .i64),.lf (.sl (.int .i64))],[.ag 5],fun x=>fW x.1 x.2.1⟩
def Dq:Ent:=⟨[.lf (.int .i64),.lf (.int .i64)],[.lf (.int .i64)],fun x=>bm x.1 x.2.1⟩
theorem wb:EOk prog 57 Dq:=aH (.s .n (.s .n (.s (.s .n (.j [.leaf 5 (.int .i64)] .n)) .n))) [] [] [] .nil Tryz.mixed Tryz.func57
def rM:Ent:=⟨[.ag 5],[.lf (.sl (.str))],fun x=>lg x.1⟩
theorem wd:EOk prog 10 rM:=aH (.s .n (.s .n (.s (.s .n (.s (.lp [.row 3 3 9 1 (.str),.leaf 4 (.int .i64)] 0 false .n) .n)) .n))) [(5,[27,28])] [] [] (.cons Cj .nil) Tryz.mixed Tryz.func10
def Kq:Ent:=⟨[.lf (.int .i64)],[.ag 0],fun x=>wW x.1⟩
theorem Kp:EOk prog 58 Kq:=aH .n [] [2] [] (.cons wb .nil) Tryz.mixed Tryz.func58
def uM:Ent:=⟨[.ag 15,.ag 12],[.ag 9],fun x=>ob x.1 x.2.1⟩
theorem D5:EOk prog 59 uM:=aH (.s .n (.s .n (.s .n (.s .n (.s .n (.s (.s .n (.j [.box 5 76 9 [(28,1128,3,1,.int .i64)]] (.s (.s .n (.s (.s .n (.j [.box 7 123 1 [],.box 5 76 9 [(28,1128,3,1,.int .i64)]] .n)) (.s (.s .n (.j [.box 7 123 1 [],.box 5 76 9 [(28,1128,3,1,.int .i64)]] .n)) .n))) .n))) (.s (.s .n (.s (.lp [.box 5 76 9 [(28,1128,3,1,.int .i64)],.leaf 8 (.int .i64)] 0 false .n) .n)) .n))))))) [(4,[79,113,114]),(5,[79,113,114]),(7,[79,113,114]),(9,[79,113,114]),(11,[79,113,114]),(16,[79,113,114])] [4] [] (.cons wb (.cons Kp .nil)) Tryz.mixed Tryz.func59
def Ia:Ent:=⟨[.ag 15,.ag 12],[.ag 9],fun x=>hZ x.1 x.2.1⟩
theorem H8 (x:cg [.ag 15,.ag 12]) : fj ⟨prog,[(57,Dq),(10,rM),(58,Kq),(59,uM),(28,Kr),(27,Ck)],230,[.ag 9],[.cell 4 76],[(1,[118,119,157,179,212,225]),(2,[118,119,157,179,212,225]),(3,[118,119,157,179,212,225]),(4,[118,119,157,179,212,225]),(8,[118,119,157,179,212,225]),(18,[118,119,157,179,212,225]),(22,[118,119,157,179,212,225]),(27,[118,119,157,179,212,225]),(31,[118,119,157,179,212,225]),(33,[118,119,179,212,225]),(34,[118,119,157,179,212,225]),(38,[118,119,157,179,212,225]),(40,[118,119,157,212,225]),(41,[118,119,157,179,212,225]),(42,[118,119,157,179,212,225]),(44,[118,119,157,179,225]),(45,[118,119,157,179,212])],[4],[]⟩ ((Tryz.f29).body.getD .skip) (.s (.n) (.s (.n) (.s (.n) (.s (.n) (.s (.s (.n) (.s (.s (.s (.n) (.j [.leaf 30 (.bool)] (.n))) (.j [.box 8 76 9 []] (.s (.n) (.s (.s (.n) (.j [.leaf 53 (.bool)] (.n))) (.s (.s (.n) (.s (.s (.n) (.s (.lp [.box 8 76 9 [(28,1188,3,1,.int .i64)],.leaf 9 (.int .i64)] 1 false (.n)) .n)) (.s (.n) (.s (.lp [.box 8 76 9 [(28,1188,3,1,.int .i64)],.leaf 10 (.int .i64)] 3 false (.n)) .n)))) (.s (.s (.n) (.j [.leaf 121 (.bool)] (.n))) (.s (.n) (.s (.s (.n) (.j [.leaf 148 (.bool)] (.n))) (.s (.n) (.s (.n) (.s (.n) (.s (.s (.n) (.j [.leaf 168 (.bool)] (.n))) (.n))))))))))))) .n)) (.n)))))) [.ag 15,.ag 12] x=hZ x.1 x.2.1:=by kernel_rfl
theorem H9 (hG:bI prog 28 [.lf (.int .i64),.lf (.sl (.int .i64))] [.ag 5] (fun x=>fW x.1 x.2.1)) : bI prog 29 [.ag 15,.ag 12] [.ag 9] (fun x=>hZ x.1 x.2.1):=cd (n:=230) (.cons (wb) (.cons (wd) (.cons (Kp) (.cons (D5) (.cons hG (.cons (Kh) (.nil))))))) Tryz.mixed Tryz.func29 rfl (by kernel_rfl) rfl rfl rfl (H8)
def kE:Ent:=⟨[.ag 16],[.lf (.bool)],fun x=>iQ x.1⟩
theorem pe:EOk prog 7 kE:=aH .n [] [] [] .nil Tryz.mixed Tryz.func7
theorem Bb (x:cg [.ag 16]) : fj ⟨prog,[(25,wO),(28,Kr),(27,Ck),(26,Hj),(29,Ia)],44,[.ag 12],[.cell 2 43],[],[2],[]⟩ ((Tryz.f9).body.getD .skip) (.s (.n) (.s (.n) (.s (.n) (.s (.s (.n) (.j [.box 3 43 12 []] (.n))) (.s (.s (.n) (.s (.lp [.box 3 43 12 [],.leaf 6 (.int .i64)] 0 false (.n)) .n)) (.n)))))) [.ag 16] x=cV x.1:=by kernel_rfl
theorem Bc (hG:bI prog 28 [.lf (.int .i64),.lf (.sl (.int .i64))] [.ag 5] (fun x=>fW x.1 x.2.1)) : bI prog 9 [.ag 16] [.ag 12] (fun x=>cV x.1):=cd (n:=44) (.cons (Cl) (.cons hG (.cons (Kh) (.cons (RT) (.cons (H9 hG) (.nil)))))) Tryz.mixed Tryz.func9 rfl (by kernel_rfl) rfl rfl rfl (Bb)
theorem Ff {w:World} {B e k n:Nat} {v:Value} {us:List Value} {es:List (List D)} {F:Nat→Prop} (h:w.ownsRow B e k v n us) (hn:n=es.length) (hk:∀ x∈es,x.length=k) (hl:us.length=es.flatten.length) (hF:∀ g,B≤g→g < w.heap.size→F g) (hr:∀ (j:Nat) u d,us[j]? = some u→es.flatten[j]? = some d→ep w F u d) : ep w F v (.sl es):=by
 have h':=h
 rcases h.2 with ⟨rfl,h0⟩ | ⟨g,cap,cur,rfl,hb,hg,hle,hmx,_⟩
 ·have:es = []:=List.eq_nil_of_length_eq_zero (by omega)
  subst this
  exact .sl none 0 0 0 [] (fun _=>undef) rfl (Nat.le_refl _) (by simp [maxLen]) (by simp) (by omega) (fun _=>rfl) (by simp) (by simp)
 ·have hlt:=(Array.getElem?_eq_some_iff.1 hg).1
  refine .sl (some ⟨g,0,none⟩) n cap k es (fun j=>(us[j]?).getD undef) hn hle hmx hk (fun _=>⟨_,rfl,hF g hb hlt⟩) (fun h=>by cases h) (fun a j d ha hj=>?_) (fun j d hj=>?_)
  ·injection ha with ha
   subst ha
   have hj2:j < us.length:=by have:=(zg.1 hj).1; omega
   have hadd:(⟨g,0,none⟩ : Addr).add j=⟨g,j,none⟩:=by unfold Addr.add; split <;> simp_all
   have hc:=h'.cellAt j (by have:=h'.1; omega)
   rw [hadd,hc,zq hj2]
   rfl
  ·have hj2:j < us.length:=by have:=(zg.1 hj).1; omega
   exact hr j _ d (by rw [zq hj2]; rfl) hj
theorem Jp {w:World} {F:Nat→Prop} : ∀ (l:List Tx) (j:Nat) (u:Value) (d:D),(l.map sv)[j]? = some u→(((l.map bT).map sD).flatten)[j]? = some d→ep w F u d
 | [],j,u,d,h,_=>by simp at h
 | x::l,0,u,d,h1,h2=>by
  simp [sD] at h1 h2
  subst h1
  subst h2
  exact .v _ rfl
 | x::l,j + 1,u,d,h1,h2=>Jp l j u d (by simpa using h1) (by simpa [sD] using h2)
theorem J3 {w:World} {F:Nat→Prop} : ∀ (l:List (Int×Int)) (j:Nat) (u:Value) (d:D),(cj l)[j]? = some u→(((l.map gP).map eB.d).flatten)[j]? = some d→ep w F u d
 | [],j,u,d,h,_=>by simp [cj] at h
 | x::l,0,u,d,h1,h2=>by
  simp [cj,eB.d,gP] at h1 h2
  subst h1
  subst h2
  exact .v _ rfl
 | x::l,1,u,d,h1,h2=>by
  simp [cj,eB.d,gP] at h1 h2
  subst h1
  subst h2
  exact .v _ rfl
 | x::l,j + 2,u,d,h1,h2=>J3 l j u d (by simpa [cj] using h1) (by simpa [eB.d] using h2)
theorem Oo:∀ l:List (Int×Int),(cj l).length=(((l.map gP).map eB.d).flatten).length
 | []=>rfl
 | x::l=>by
  have:=Oo l
  simp [cj,eB.d] at this ⊢
  omega
theorem S9 {w:World} {B:Nat} {F:Nat→Prop} (hF:∀ g,B≤g→g < w.heap.size→F g) : ∀ (qs:List QC) (ds:List QD),qs.length=ds.length→(∀ (k:Nat) (q:QC) (h:k < ds.length),qs[k]? = some q→xH w B q ds[k])→∀ (j:Nat) (u:Value) (d:D),(fZ qs)[j]? = some u→(((ds.map gQ).map av.d).flatten)[j]? = some d→ep w F u d
 | [],_,_,_,j,u,d,h,_=>by simp [fZ] at h
 | q::qs,[],hl,_,_,_,_,_,_=>by simp at hl
 | q::qs,x::ds,hl,he,j,u,d,h1,h2=>by
  obtain ⟨p1,p2,p3,p4⟩:=he 0 q (by simp) rfl
  dsimp only [List.getElem_cons_zero] at p1 p2 p3 p4
  match j with
  | 0 =>
   simp [fZ,M6,av.d,gQ] at h1 h2
   subst h1
   subst h2
   have:q.p=bT x.path:=aaX (by rw [p1]; simp [bT])
   rw [this]
   exact .v _ rfl
  | 1 =>
   simp [fZ,M6,av.d,gQ] at h1 h2
   subst h1
   subst h2
   have:=Ff (F:=F) p4 (es:=(x.caps.map gP).map eB.d) (by rw [p3]; simp) (fun y hy=>by obtain ⟨z,_,rfl⟩:=List.mem_map.1 hy; rfl) (Oo _) hF (J3 x.caps)
   simpa using this
  | 2 =>
   simp [fZ,M6,av.d,gQ] at h1 h2
   subst h1
   subst h2
   rw [p2]
   exact .v _ rfl
  | j + 3 =>
   refine S9 hF qs ds (by simpa using hl) (fun k q' h hq=>?_) j u d (by simpa [fZ,M6] using h1) (by simpa [av.d] using h2)
   have:=he (k + 1) q' (by simpa using h) (by simpa using hq)
   simpa using this
theorem Xd:∀ (qs:List QC) (ds:List QD),qs.length=ds.length→(fZ qs).length=(((ds.map gQ).map av.d).flatten).length
 | [],[],_=>rfl
 | [],_ :: _,h=>by simp at h
 | _ :: _,[],h=>by simp at h
 | q::qs,d::ds,h=>by
  have:=Xd qs ds (by simpa using h)
  simp [fZ,M6,av.d] at this ⊢
  omega
theorem TF:∀ xs:List Int,(xs.map iD).flatten=xs.map (fun n=>D.v (.int .i64 n))
 | []=>rfl
 | x::xs=>by
  show [D.v (.int .i64 x)] ++ (xs.map iD).flatten = _
  rw [TF xs]
  rfl
theorem ZK {w:World} {G:Nat→Prop} {v:Value} {xs:List Int} (hG:∀ g,G g→g < w.heap.size) (h:ep w G v (.sl (xs.map iD))) : Rd w v (xs.map (Value.int .i64))∧xs.length≤9223372036854775807:=by
 have hfl:=TF xs
 cases h with
 | sl A n c k es us hn hc hm hk hA hA0 hcell hrep =>
  have hn2:n=(xs.map (Value.int .i64)).length:=by rw [hn]; simp
  refine ⟨⟨A,c,by rw [hn2],by omega,hm,fun h0=>?_⟩,by have h9:maxLen=9223372036854775807:=(by decide); rw [List.length_map] at hn2; omega⟩
  obtain ⟨a,ha,hGa⟩:=hA (by omega)
  refine ⟨a,ha,hG _ hGa,fun j u hj=>?_⟩
  rw [List.getElem?_map] at hj
  cases hx:xs[j]? with
  | none=>rw [hx] at hj; cases hj
  | some x =>
   rw [hx] at hj
   injection hj with hj
   subst hj
   have hd:(xs.map iD).flatten[j]? = some (.v (.int .i64 x)):=by rw [hfl,List.getElem?_map,hx]; rfl
   have h1:=hcell a j _ ha hd
   have h2:=hrep j _ hd
   rw [h1]
   generalize us j=y at h2
   cases h2 with
   | v y hy=>rfl
theorem Jo:∀ l:List Tx,(l.map sv).length=(((l.map bT).map sD).flatten).length
 | []=>rfl
 | x::l=>by
  simp only [List.map_cons,List.flatten_cons,List.length_append,List.length_cons]
  rw [Jo l]
  show _ = 1 + _
  omega
theorem Wv:bI prog 28 [.lf (.int .i64),.lf (.sl (.int .i64))] [.ag 5] (fun x=>fW x.1 x.2.1):=by
 rintro ⟨sh,xs,⟨⟩⟩ z hF
 change Int at sh
 change List Int at xs
 refine ⟨fun _=>⟨by kernel_rfl,fun w G vs hG hr=>?_⟩,fun h=>(by cases h)⟩
 have hvl:vs.toList.length=2:=hr.len
 obtain ⟨a,v,hv⟩ : ∃ a v,vs = #[a,v]:=by
  match hv:vs.toList,hvl with
  | [a,v],_=>exact ⟨a,v,by apply Array.ext'; simpa using hv⟩
 subst hv
 have ha:a = .int .i64 sh:=(aJ.vv (hr.rep 0 a _ rfl rfl)).1
 subst ha
 have hd:ep w G v (.sl (xs.map iD)):=by
  have h:=hr.rep 1 v _ rfl rfl
  cases h with
  | d _ _ h=>exact h
 obtain ⟨hrd,hlen⟩:=ZK hG hd
 refine (Wy sh v xs w hrd hlen).mono ?_
 rintro e w' ⟨nl,h1,h2,vl,vq,ds,qs,B,rfl,hB,hl,hq,hgi,hx,he⟩
 have hz:z=gC nl ds:=by
  have:fW sh xs=some z:=hF
  rw [he] at this
  injection this with this
  exact this.symm
 subst hz
 refine ⟨_,fun g=>G g∨(w.heap.size≤g∧g < w'.heap.size),rfl,hx,fun g hg=>.inl hg,fun g hg=>hg.elim (fun h=>Nat.lt_of_lt_of_le (hG g h) hx.size) (fun h=>h.2),fun g hg=>hg.elim .inl (fun h=>.inr h.1),?_⟩
 have dl:ep w' (fun g=>G g∨(w.heap.size≤g∧g < w'.heap.size)) vl (.sl (((Dw nl).map bT).map sD)) :=
  Ff hl (by simp [rC h2]) (fun x hx=>by obtain ⟨y,_,rfl⟩:=List.mem_map.1 hx; rfl) (Jo _) (fun g h3 h4=>.inr ⟨h3,h4⟩) (Jp _)
 have dq:ep w' (fun g=>G g∨(w.heap.size≤g∧g < w'.heap.size)) vq (.sl ((ds.map gQ).map av.d)) :=
  Ff hq.row (by simp) (fun x hx=>by obtain ⟨y,_,rfl⟩:=List.mem_map.1 hx; rfl) (Xd _ _ hq.len) (fun g h3 h4=>.inr ⟨Nat.le_trans hB h3,h4⟩) (S9 (fun g h3 h4=>.inr ⟨Nat.le_trans hB h3,h4⟩) qs ds hq.len hq.each)
 show aJ ρNone dZ w' _ _ (.ag [.d (.sl (((Dw nl).map bT).map sD)),.d (.sl ((ds.map gQ).map av.d))])
 refine .ag #[vl,vq] _ rfl (fun x hx=>?_) (fun j x c h3 h4=>?_)
 ·simp at hx
  rcases hx with rfl | rfl
  ·exact dl.one
  ·exact dq.one
 ·match j with
  | 0 =>
   obtain rfl : _ = x:=by simpa using h3
   cases h4
   exact .d _ _ dl
  | 1 =>
   obtain rfl : _ = x:=by simpa using h3
   cases h4
   exact .d _ _ dq
  | j + 2=>simp at h3
noncomputable def H7:Ent:=⟨[.ag 16],[.ag 12],fun x=>cV x.1⟩
theorem H6:bI prog 9 [.ag 16] [.ag 12] (fun x=>cV x.1):=Bc Wv
noncomputable def uC (x:cg [.lf (.int .i64),.lf (.int .i64)]) : Option (aX [.lf (.int .i64)]):=fj ⟨prog,[],15,[.lf (.int .i64)],[.tmp 4],[],[],[]⟩ ((Tryz.f11).body.getD .skip) (.n) [.lf (.int .i64),.lf (.int .i64)] x
noncomputable def Bg:Ent:=⟨[.lf (.int .i64),.lf (.int .i64)],[.lf (.int .i64)],uC⟩
theorem Bf:bI prog 11 [.lf (.int .i64),.lf (.int .i64)] [.lf (.int .i64)] uC:=cd (n:=15) (.nil) Tryz.mixed Tryz.func11 rfl (by kernel_rfl) rfl rfl rfl (fun _=>rfl)
noncomputable def yN (x:cg [.lf (.sl (.int .i64)),.lf (.sl (.int .i64))]) : Option (aX [.lf (.bool)]):=fj ⟨prog,[],26,[.lf (.bool)],[.tmp 4],[],[],[]⟩ ((Tryz.f22).body.getD .skip) (.s (.n) (.s (.n) (.s (.s (.n) (.s (.lp [.leaf 4 (.bool),.leaf 5 (.int .i64)] 0 true (.n)) .n)) (.n)))) [.lf (.sl (.int .i64)),.lf (.sl (.int .i64))] x
noncomputable def SE:Ent:=⟨[.lf (.sl (.int .i64)),.lf (.sl (.int .i64))],[.lf (.bool)],yN⟩
theorem SC:bI prog 22 [.lf (.sl (.int .i64)),.lf (.sl (.int .i64))] [.lf (.bool)] yN:=cd (n:=26) (.nil) Tryz.mixed Tryz.func22 rfl (by kernel_rfl) rfl rfl rfl (fun _=>rfl)
noncomputable def wg (x:cg []) : Option (aX [.lf (.bool)]):=fj ⟨prog,[(25,wO),(12,pb),(15,xG),(18,kq)],37,[.lf (.bool)],[.tmp 0],[],[],[]⟩ ((Tryz.f6).body.getD .skip) (.n) [] x
noncomputable def wh:Ent:=⟨[],[.lf (.bool)],wg⟩
theorem we:bI prog 6 [] [.lf (.bool)] wg:=cd (n:=37) (.cons (Cl) (.cons (o9) (.cons (xF) (.cons (kp) (.nil))))) Tryz.mixed Tryz.func6 rfl (by kernel_rfl) rfl rfl rfl (fun _=>rfl)
noncomputable def CB (x:cg [.ag 2,.ag 2]) : Option (aX [.lf (.bool)]):=fj ⟨prog,[(25,wO),(14,ut)],18,[.lf (.bool)],[.tmp 4],[],[],[]⟩ ((Tryz.f17).body.getD .skip) (.n) [.ag 2,.ag 2] x
noncomputable def Wx:Ent:=⟨[.ag 2,.ag 2],[.lf (.bool)],CB⟩
theorem Ww:bI prog 17 [.ag 2,.ag 2] [.lf (.bool)] CB:=cd (n:=18) (.cons (Cl) (.cons (yC) (.nil))) Tryz.mixed Tryz.func17 rfl (by kernel_rfl) rfl rfl rfl (fun _=>rfl)
noncomputable def CC (x:cg [.ag 2]) : Option (aX [.lf (.bool)]):=fj ⟨prog,[],37,[.lf (.bool)],[.tmp 2],[],[],[]⟩ ((Tryz.f8).body.getD .skip) (.n) [.ag 2] x
noncomputable def Kt:Ent:=⟨[.ag 2],[.lf (.bool)],CC⟩
theorem Ks:bI prog 8 [.ag 2] [.lf (.bool)] CC:=cd (n:=37) (.nil) Tryz.mixed Tryz.func8 rfl (by kernel_rfl) rfl rfl rfl (fun _=>rfl)
noncomputable def rm (x:cg [.ag 16,.lf (.int .i64),.ag 2,.lf (.int .i64)]) : Option (aX [.lf (.bool)]):=fj ⟨prog,[(6,wh),(7,kE),(8,Kt),(9,H7),(11,Bg),(15,xG),(16,HH),(17,Wx),(18,kq),(19,HF),(20,Mu),(21,Ko),(14,ut),(23,D4),(24,A1),(22,SE)],107,[.lf (.bool)],[.tmp 8],[],[],[]⟩ ((Tryz.f4).body.getD .skip) (.n) [.ag 16,.lf (.int .i64),.ag 2,.lf (.int .i64)] x
theorem Ic:bI prog 4 [.ag 16,.lf (.int .i64),.ag 2,.lf (.int .i64)] [.lf (.bool)] rm:=cd (n:=107) (.cons (we) (.cons (pe) (.cons (Ks) (.cons (H6) (.cons (Bf) (.cons (xF) (.cons (fO) (.cons (Ww) (.cons (kp) (.cons (fM) (.cons (Mt) (.cons (nD) (.cons (yC) (.cons (D3) (.cons (A0) (.cons (SC) (.nil))))))))))))))))) Tryz.mixed Tryz.func4 rfl (by kernel_rfl) rfl rfl rfl (fun _=>rfl)
noncomputable def nN (x:cg [.ag 16,.ag 2,.lf (.bool),.lf (.int .i64)]) : Option (aX [.lf (.bool)]):=fj ⟨prog,[(6,wh),(7,kE),(8,Kt),(9,H7),(10,rM),(11,Bg),(12,pb),(13,AZ),(14,ut)],92,[.lf (.bool)],[.tmp 8],[],[],[]⟩ ((Tryz.f3).body.getD .skip) (.n) [.ag 16,.ag 2,.lf (.bool),.lf (.int .i64)] x
theorem CD:bI prog 3 [.ag 16,.ag 2,.lf (.bool),.lf (.int .i64)] [.lf (.bool)] nN:=cd (n:=92) (.cons (we) (.cons (pe) (.cons (Ks) (.cons (H6) (.cons (wd) (.cons (Bf) (.cons (o9) (.cons (AY) (.cons (yC) (.nil)))))))))) Tryz.mixed Tryz.func3 rfl (by kernel_rfl) rfl rfl rfl (fun _=>rfl)
section
open Go.ChangeShapes Go.WideShapes Go.ChangeAt Go.RowKit Go.Deep
section
variable {H:Type} {enc:TypeId×Value→H} {P:Program} {w:World} {base:Nat} {spare:Nat→Bool} {held:Bool} {r:Reach} {b0:Nat}
end
end
section
open Go.ChangeShapes Go.WideShapes Go.ChangeAt Go.RowKit Go.Deep
instance :Inhabited D:=⟨.v (.int .i64 0)⟩
inductive Fm where
 | int | str | bool | u8
 | sl (es:List Fm)
inductive Shp:Fm→D→Prop
 | int (z:Int) (h:(Lit.int .i64 z).wf=true) : Shp .int (.v (.int .i64 z))
 | str (s:ByteArray) (h:s.size≤maxLen) : Shp .str (.v (.string s))
 | bool (b:Bool) : Shp .bool (.v (.bool b))
 | u8 (z:Int) (h:(Lit.int .u8 z).wf=true) : Shp .u8 (.v (.int .u8 z))
 | sl (ts:List Fm) (es:List (List D)) (hl:∀ e∈es,e.length=ts.length) (h:∀ (e:List D),e∈es→∀ (j:Nat) (T:Fm) (d:D),ts[j]? = some T→e[j]? = some d→Shp T d) (hm:es.length≤maxLen) : Shp (.sl ts) (.sl es)
def rh (P:Program) (t:TypeId) (ts:List Fm) : Prop :=
 ∀ (H:Type) (enc:TypeId×Value→H) (w:World) (base:Nat) (spare:Nat→Bool) (held:Bool) (fuel:Nat) (cs:List Value) (x:DataW H×List MemPlace),DataW.trod enc P w base spare held fuel t cs=some x →
  cs.length=ts.length∧∀ (j:Nat) (T:Fm),ts[j]? = some T→∃ c d,cs[j]? = some c∧ep w (· < w.heap.size) c d∧Shp T d
theorem cx {P:Program} {t:TypeId} (ht:P.underlying t=some (.int .i64)) : rh P t [.int]:=by
 intro H enc w base spare held fuel cs x h
 obtain ⟨z,rfl,_,hz⟩:=DataW.trod_int ht h
 refine ⟨rfl,fun j T hj=>?_⟩
 match j,hj with
 | 0,hj =>
  cases hj
  exact ⟨_,_,rfl,.v _ rfl,.int z hz⟩
theorem UF {P:Program} {t:TypeId} (ht:P.underlying t=some .string) : rh P t [.str]:=by
 intro H enc w base spare held fuel cs x h
 obtain ⟨z,rfl,_,hz⟩:=DataW.trod_string ht h
 refine ⟨rfl,fun j T hj=>?_⟩
 match j,hj with
 | 0,hj =>
  cases hj
  exact ⟨_,_,rfl,.v _ rfl,.str z hz⟩
theorem lK {P:Program} {t:TypeId} {fs:Array Field} {ts:List Fm} (ht:P.underlying t=some (.struct fs)) (hk:P.cellsOf t=ts.length)
  (hcov:∀ j T,ts[j]? = some T→∃ (i:Nat) (f:Field) (kf:Nat) (us:List Fm),fs[i]? = some f∧f.offset≤j∧j < f.offset + kf∧P.cellsOf f.type=kf∧rh P f.type us∧us[j - f.offset]? = some T) : rh P t ts:=by
 intro H enc w base spare held fuel cs x h
 obtain ⟨xs,n,_,rfl,hl,hlen,hf⟩:=DataW.trod_struct ht h
 refine ⟨by rw [hl,hk],fun j T hj=>?_⟩
 obtain ⟨i,f,kf,us,hi,h1,h2,h3,h4,h5⟩:=hcov j T hj
 have hfi:=hf i f hi
 have hlt:i < xs.length:=by rw [hlen]; exact (Array.getElem?_eq_some_iff.1 hi).1
 rw [zq hlt,h3] at hfi
 obtain ⟨_,hz⟩:=h4 H enc w base spare held n _ _ hfi
 obtain ⟨c,d,hc,hd,hs⟩:=hz (j - f.offset) T h5
 rw [List.getElem?_take_of_lt (by omega),List.getElem?_drop,show f.offset + (j - f.offset)=j by omega] at hc
 exact ⟨c,d,hc,hd,hs⟩
theorem aab {α : Type} (k:Nat) (es:List (List α)) (h:∀ e∈es,e.length=k) : es.flatten.length=es.length * k:=by
 induction es with
 | nil=>simp
 | cons e es ih =>
  rw [List.flatten_cons,List.length_append,ih (fun x hx=>h x (List.mem_cons_of_mem _ hx)),h e List.mem_cons_self,List.length_cons,Nat.add_mul]
  omega
theorem ve {P:Program} {t e:TypeId} {ts:List Fm} (ht:P.underlying t=some (.slice e)) (hc:P.cellsOf e=ts.length) (hk : 0 < ts.length) (he:rh P e ts) : rh P t [.sl ts]:=by
 intro H enc w base spare held fuel cs x hf
 rcases open_slice ht hf with ⟨rfl,_⟩ | ⟨a,len,cap,m,n,Dz,Pl,rfl,hb,hl,hm,hmm,_,hx⟩
 ·refine ⟨rfl,fun j T hj=>?_⟩
  match j,hj with
  | 0,hj =>
   cases hj
   exact ⟨_,.sl [],rfl,.sl none 0 0 0 [] (fun _=>.int .i64 0) rfl (Nat.le_refl _) (by simp [maxLen]) (by simp) (fun h=>absurd h (by omega)) (fun _=>rfl) (by simp) (by simp),.sl ts [] (by simp) (by simp) (by simp)⟩
 ·have hlm:len≤m:=by rw [hmm]; split <;> omega
  have each:∀ i,i < m→∃ q:Nat→D,∀ j T,ts[j]? = some T→∃ c,w.cell? (a.add (i * ts.length + j))=some c∧ep w (· < w.heap.size) c (q j)∧Shp T (q j):=by
   intro i hi
   obtain ⟨cs',h1,h2⟩:=hx i hi
   rw [hc] at h1
   obtain ⟨_,hlen,hcell⟩:=World.cells?_some h1
   obtain ⟨_,hz⟩:=he _ _ _ _ _ _ _ _ _ h2
   have:∀ j,j < ts.length→∃ d,∀ T,ts[j]? = some T→∃ c,w.cell? (a.add (i * ts.length + j))=some c∧ep w (· < w.heap.size) c d∧Shp T d:=by
    intro j hj
    obtain ⟨c,d,c1,c2,c3⟩:=hz j ts[j] (zq hj)
    refine ⟨d,fun T hT=>⟨c,?_,c2,?_⟩⟩
    ·have c0:=hcell j hj
     rw [Go.Deep.add_add] at c0
     rw [c0,c1]
    ·rw [zq hj] at hT
     cases hT
     exact c3
   obtain ⟨q,hq⟩:=choose_lt this
   exact ⟨q,fun j T hT=>hq j (by rcases Nat.lt_or_ge j ts.length with h | h; exact h; rw [List.getElem?_eq_none h] at hT; cases hT) T hT⟩
  obtain ⟨q,hq⟩:=choose_lt each
  let row (i:Nat) : List D:=(List.range ts.length).map (q i)
  let es:=(List.range len).map row
  have hrow:∀ x∈es,x.length=ts.length:=by
   intro x hx
   obtain ⟨i,_,rfl⟩:=List.mem_map.1 hx
   simp [row]
  have hcell:∀ j d,es.flatten[j]? = some d→∃ c,w.cell? (a.add j)=some c∧ep w (· < w.heap.size) c d:=by
   intro j d hj
   have hlt:j < len * ts.length:=by
    have:=(zg.1 hj).1
    rw [aab ts.length es hrow] at this
    simpa [es] using this
   have hi:j / ts.length < len:=(Nat.div_lt_iff_lt_mul hk).2 hlt
   have hmod:=Nat.mod_lt j hk
   have hdm:j / ts.length * ts.length + j % ts.length=j:=by rw [Nat.mul_comm]; exact Nat.div_add_mod j _
   have hfl:=zA ts.length es hrow (j / ts.length) (row (j / ts.length)) (by simp [es,hi]) (j % ts.length) hmod
   rw [hdm,hj] at hfl
   have hd:d=q (j / ts.length) (j % ts.length):=by simpa [row,hmod] using hfl
   obtain ⟨c,c1,c2,_⟩:=hq (j / ts.length) (by omega) (j % ts.length) _ (zq hmod)
   rw [hdm] at c1
   exact ⟨c,c1,hd ▸ c2⟩
  refine ⟨rfl,fun j T hj=>?_⟩
  match j,hj with
  | 0,hj =>
   cases hj
   refine ⟨_,.sl es,rfl,.sl (some a) len cap ts.length es (fun j=>(w.cell? (a.add j)).getD (.int .i64 0)) (by simp [es]) hl hm hrow (fun hn=>⟨a,rfl,?_⟩) (fun h=>by cases h) (fun a' j d ha hj=>?_) (fun j d hj=>?_),.sl ts es hrow (fun x hx j T d hT hd=>?_) (by simp [es]; omega)⟩
   ·obtain ⟨c,c1,_⟩:=hq 0 (by omega) 0 _ (zq hk)
    have:=World.block_lt_of_cell? w _ c1
    rwa [show (a.add (0 * ts.length + 0)).block=a.block by unfold Addr.add; split <;> rfl] at this
   ·cases ha
    obtain ⟨c,c1,_⟩:=hcell j d hj
    rw [c1]
    rfl
   ·obtain ⟨c,c1,c2⟩:=hcell j d hj
    rw [c1]
    exact c2
   ·obtain ⟨i,hi,rfl⟩:=List.mem_map.1 hx
    have hi:i < len:=List.mem_range.1 hi
    have hjt:j < ts.length:=(zg.1 hT).1
    have hd:d=q i j:=by simpa [row,hjt] using hd.symm
    obtain ⟨c,_,_,c3⟩:=hq i (by omega) j T hT
    exact hd ▸ c3
section
variable {H:Type} {enc:TypeId×Value→H} {P:Program} {w:World} {base:Nat} {spare:Nat→Bool} {held:Bool} {r:Reach} {b0:Nat}
theorem zh {t:TypeId} {fs:Array Field} {ts:List Fm} {v:Value} {d:DataW H} {ps:List MemPlace} (ht:P.underlying t=some (.struct fs)) (ho:rh P t ts) (hv:Value.okWide P w r b0 t v) (h:DataW.Trod enc P w base spare held t v d ps) :
  ∃ ds:List D,ds.length=ts.length∧(∀ (j:Nat) (T:Fm),ts[j]? = some T→∃ e,ds[j]? = some e∧Shp T e)∧aJ ρNone dZ w (· < w.heap.size) v (.ag (ds.map .d)):=by
 obtain ⟨cs,rfl,_⟩:=okWide_struct ht hv
 obtain ⟨fuel,hf⟩:=h
 simp only [Value.cells] at hf
 obtain ⟨hl,hz⟩:=ho _ _ _ _ _ _ _ _ _ hf
 have:∀ j,j < ts.length→∃ d,∀ T,ts[j]? = some T→∃ c,cs.toList[j]? = some c∧ep w (· < w.heap.size) c d∧Shp T d:=by
  intro j hj
  obtain ⟨c,d,c1,c2,c3⟩:=hz j ts[j] (zq hj)
  refine ⟨d,fun T hT=>⟨c,c1,c2,?_⟩⟩
  rw [zq hj] at hT
  cases hT
  exact c3
 obtain ⟨q,hq⟩:=choose_lt this
 refine ⟨(List.range ts.length).map q,by simp,fun j T hT=>?_,.ag cs _ (by simp; simpa using hl) (fun x hx=>?_) (fun j x c hx hc=>?_)⟩
 ·have hj:j < ts.length:=(zg.1 hT).1
  obtain ⟨c,_,_,c3⟩:=hq j hj T hT
  exact ⟨q j,by simp [hj],c3⟩
 ·obtain ⟨j,hj,rfl⟩:=List.getElem_of_mem (Array.mem_toList_iff.2 hx)
  have hj':j < ts.length:=by rw [← hl]; exact hj
  obtain ⟨c,c1,c2,_⟩:=hq j hj' _ (zq hj')
  rw [zq hj] at c1
  cases c1
  exact c2.one
 ·have hj:j < ts.length:=by
   have:=(Array.getElem?_eq_some_iff.1 hx).1
   rw [← hl]
   simpa using this
  obtain ⟨c',c1,c2,_⟩:=hq j hj _ (zq hj)
  rw [Array.getElem?_toList,hx] at c1
  cases c1
  have:c = .d (q j):=by simpa [hj] using hc.symm
  subst this
  exact .d _ _ c2
end
theorem S0 {α : Type} {f : α→List D} {Q : α→Prop} : ∀ (es:List (List D)),(∀ e∈es,∃ x,e=f x∧Q x)→∃ l:List α,es=l.map f∧∀ x∈l,Q x
 | [],_=>⟨[],rfl,by simp⟩
 | e::es,h=>by
  obtain ⟨x,rfl,hq⟩:=h e List.mem_cons_self
  obtain ⟨l,rfl,hl⟩:=S0 es (fun y hy=>h y (List.mem_cons_of_mem _ hy))
  refine ⟨x::l,rfl,?_⟩
  intro y hy
  rcases List.mem_cons.1 hy with rfl | hy
  ·exact hq
  ·exact hl y hy
theorem KX {P:Program} {f:FuncId} {args:List PV} {b:Bool} (h:PC P f args (.d (.v (.bool b)))) (w:World) (vs:Array Value) (hr:cM ρNone dZ w (· < w.heap.size) vs.toList args) :
  Calls P f vs w fun e w'=>e = .returned (.bool b)∧Below w.heap.size w w':=by
 refine (h.2 w _ vs (fun _ h=>h) hr).mono ?_
 rintro e w' ⟨v,F',rfl,hx,_,_,_,hp⟩
 refine ⟨?_,hx⟩
 cases hp with
 | d _ _ h=>cases h with
  | v=>rfl
end
section
open Go.ChangeShapes Go.WideShapes Go.ChangeAt Go.RowKit Go.Deep
theorem du {d:D} (h:Shp .int d) : ∃ z,d = .v (.int .i64 z)∧(Lit.int .i64 z).wf=true:=by
 cases h with
 | int z h=>exact ⟨z,rfl,h⟩
theorem ZC {d:D} (h:Shp .str d) : ∃ s,d = .v (.string s)∧s.size≤maxLen:=by
 cases h with
 | str z h=>exact ⟨z,rfl,h⟩
def wfI (z:Int) : Prop:=(Lit.int .i64 z).wf=true
theorem P3 {α : Type} {f : α→List D} {Q : α→Prop} {ts:List Fm} {d:D} (hf:∀ e:List D,e.length=ts.length→(∀ (j:Nat) (T:Fm),ts[j]? = some T→∃ d,e[j]? = some d∧Shp T d)→∃ x,e=f x∧Q x) (h:Shp (.sl ts) d) : ∃ l:List α,d = .sl (l.map f)∧(∀ z∈l,Q z)∧l.length≤maxLen:=by
 cases h with
 | sl _ es hl h hm =>
  obtain ⟨l,rfl,hq⟩:=S0 (f:=f) (Q:=Q) es (fun e he=>hf e (hl e he) fun j T hT=>by
   have hj:j < e.length:=by rw [hl e he]; exact (zg.1 hT).1
   exact ⟨e[j],zq hj,h e he j T _ hT (zq hj)⟩)
  exact ⟨l,rfl,hq,by simpa using hm⟩
theorem abl {e:List D} (hl:e.length=1) (h:∀ (j:Nat) (T:Fm),[Fm.int][j]? = some T→∃ d,e[j]? = some d∧Shp T d) : ∃ x:Int,e = [.v (.int .i64 x)]∧wfI x:=by
 match e,hl with
 | [d],_ =>
  obtain ⟨d',hd,s⟩:=h 0 _ rfl
  cases hd
  cases s with
  | int z hz=>exact ⟨z,rfl,hz⟩
theorem qc:rh prog 22 [.sl [.int]]:=ve Tryz.underlying22 (by kernel_rfl) (by decide) (cx Tryz.underlying3)
theorem uY {d:D} (h:Shp (.sl [.int]) d) : ∃ l:List Int,d = .sl (l.map iD)∧(∀ z∈l,wfI z)∧l.length≤maxLen:=P3 (ts:=[.int]) (f:=iD) (Q:=fun z=>wfI z) (fun _ hl h=>abl hl h) h
def aQ.ok (x:aQ) : Prop:=wfI x.il∧wfI x.fA∧wfI x.fB∧wfI x.fC∧wfI x.fD
theorem Dv:rh prog 78 [.int,.int,.int,.int,.int]:=lK Tryz.underlying78 (by kernel_rfl) fun j T hj=>by
 match j,hj with
 | 0,hj=>exact ⟨0,_,1,[.int],rfl,by decide,by decide,by kernel_rfl,(cx Tryz.underlying3),hj⟩
 | 1,hj=>exact ⟨1,_,1,[.int],rfl,by decide,by decide,by kernel_rfl,(cx Tryz.underlying3),hj⟩
 | 2,hj=>exact ⟨2,_,1,[.int],rfl,by decide,by decide,by kernel_rfl,(cx Tryz.underlying3),hj⟩
 | 3,hj=>exact ⟨3,_,1,[.int],rfl,by decide,by decide,by kernel_rfl,(cx Tryz.underlying3),hj⟩
 | 4,hj=>exact ⟨4,_,1,[.int],rfl,by decide,by decide,by kernel_rfl,(cx Tryz.underlying3),hj⟩
theorem KZ {e:List D} (hl:e.length=5) (h:∀ (j:Nat) (T:Fm),([.int,.int,.int,.int,.int] : List Fm)[j]? = some T→∃ d,e[j]? = some d∧Shp T d) : ∃ x:aQ,e=aQ.d x∧x.ok:=by
 match e,hl with
 | [d0,d1,d2,d3,d4],_ =>
  obtain ⟨_,e0,s0⟩:=h 0 _ rfl
  cases e0
  obtain ⟨_,e1,s1⟩:=h 1 _ rfl
  cases e1
  obtain ⟨_,e2,s2⟩:=h 2 _ rfl
  cases e2
  obtain ⟨_,e3,s3⟩:=h 3 _ rfl
  cases e3
  obtain ⟨_,e4,s4⟩:=h 4 _ rfl
  cases e4
  obtain ⟨z0,rfl,k0⟩:=du s0
  obtain ⟨z1,rfl,k1⟩:=du s1
  obtain ⟨z2,rfl,k2⟩:=du s2
  obtain ⟨z3,rfl,k3⟩:=du s3
  obtain ⟨z4,rfl,k4⟩:=du s4
  exact ⟨⟨z0,z1,z2,z3,z4⟩,rfl,⟨k0,k1,k2,k3,k4⟩⟩
theorem BD:rh prog 23 [.sl [.int,.int,.int,.int,.int]]:=ve Tryz.underlying23 (by kernel_rfl) (by decide) Dv
theorem EV {d:D} (h:Shp (.sl [.int,.int,.int,.int,.int]) d) : ∃ l:List aQ,d = .sl (l.map aQ.d)∧(∀ z∈l,aQ.ok z)∧l.length≤maxLen:=P3 (ts:=[.int,.int,.int,.int,.int]) (f:=aQ.d) (Q:=fun z=>aQ.ok z) (fun _ hl h=>KZ hl h) h
def aA.ok (x:aA) : Prop:=wfI x.Lg∧(∀ z∈x.fNs,wfI z)∧x.fNs.length≤maxLen∧(∀ z∈x.jV,aQ.ok z)∧x.jV.length≤maxLen
theorem kJ:rh prog 25 [.int,.sl [.int],.sl [.int,.int,.int,.int,.int]]:=lK Tryz.underlying25 (by kernel_rfl) fun j T hj=>by
 match j,hj with
 | 0,hj=>exact ⟨0,_,1,[.int],rfl,by decide,by decide,by kernel_rfl,(cx Tryz.underlying3),hj⟩
 | 1,hj=>exact ⟨1,_,1,[.sl [.int]],rfl,by decide,by decide,by kernel_rfl,qc,hj⟩
 | 2,hj=>exact ⟨2,_,1,[.sl [.int,.int,.int,.int,.int]],rfl,by decide,by decide,by kernel_rfl,BD,hj⟩
theorem oL {e:List D} (hl:e.length=3) (h:∀ (j:Nat) (T:Fm),([.int,.sl [.int],.sl [.int,.int,.int,.int,.int]] : List Fm)[j]? = some T→∃ d,e[j]? = some d∧Shp T d) : ∃ x:aA,e=aA.d x∧x.ok:=by
 match e,hl with
 | [d0,d1,d2],_ =>
  obtain ⟨_,e0,s0⟩:=h 0 _ rfl
  cases e0
  obtain ⟨_,e1,s1⟩:=h 1 _ rfl
  cases e1
  obtain ⟨_,e2,s2⟩:=h 2 _ rfl
  cases e2
  obtain ⟨z0,rfl,k0⟩:=du s0
  obtain ⟨z1,rfl,k1,m1⟩:=uY s1
  obtain ⟨z2,rfl,k2,m2⟩:=EV s2
  exact ⟨⟨z0,z1,z2⟩,rfl,⟨k0,k1,m1,k2,m2⟩⟩
def az.ok (x:az) : Prop:=wfI x.bH∧wfI x.be
theorem tO:rh prog 27 [.int,.int]:=lK Tryz.underlying27 (by kernel_rfl) fun j T hj=>by
 match j,hj with
 | 0,hj=>exact ⟨0,_,1,[.int],rfl,by decide,by decide,by kernel_rfl,(cx Tryz.underlying3),hj⟩
 | 1,hj=>exact ⟨1,_,1,[.int],rfl,by decide,by decide,by kernel_rfl,(cx Tryz.underlying3),hj⟩
def aM.ok (x:aM) : Prop:=wfI x.bq∧wfI x.a6∧az.ok x.cJ∧wfI x.gg∧wfI x.bM∧wfI x.eZ∧wfI x.g6
theorem Qd:rh prog 123 [.int,.int,.int,.int,.int,.int,.int,.int]:=lK Tryz.underlying123 (by kernel_rfl) fun j T hj=>by
 match j,hj with
 | 0,hj=>exact ⟨0,_,1,[.int],rfl,by decide,by decide,by kernel_rfl,(cx Tryz.underlying3),hj⟩
 | 1,hj=>exact ⟨1,_,1,[.int],rfl,by decide,by decide,by kernel_rfl,(cx Tryz.underlying3),hj⟩
 | 2,hj=>exact ⟨2,_,2,[.int,.int],rfl,by decide,by decide,by kernel_rfl,tO,hj⟩
 | 3,hj=>exact ⟨2,_,2,[.int,.int],rfl,by decide,by decide,by kernel_rfl,tO,hj⟩
 | 4,hj=>exact ⟨3,_,1,[.int],rfl,by decide,by decide,by kernel_rfl,(cx Tryz.underlying3),hj⟩
 | 5,hj=>exact ⟨4,_,1,[.int],rfl,by decide,by decide,by kernel_rfl,(cx Tryz.underlying3),hj⟩
 | 6,hj=>exact ⟨5,_,1,[.int],rfl,by decide,by decide,by kernel_rfl,(cx Tryz.underlying3),hj⟩
 | 7,hj=>exact ⟨6,_,1,[.int],rfl,by decide,by decide,by kernel_rfl,(cx Tryz.underlying3),hj⟩
theorem ZV {e:List D} (hl:e.length=8) (h:∀ (j:Nat) (T:Fm),([.int,.int,.int,.int,.int,.int,.int,.int] : List Fm)[j]? = some T→∃ d,e[j]? = some d∧Shp T d) : ∃ x:aM,e=aM.d x∧x.ok:=by
 match e,hl with
 | [d0,d1,d2,d3,d4,d5,d6,d7],_ =>
  obtain ⟨_,e0,s0⟩:=h 0 _ rfl
  cases e0
  obtain ⟨_,e1,s1⟩:=h 1 _ rfl
  cases e1
  obtain ⟨_,e2,s2⟩:=h 2 _ rfl
  cases e2
  obtain ⟨_,e3,s3⟩:=h 3 _ rfl
  cases e3
  obtain ⟨_,e4,s4⟩:=h 4 _ rfl
  cases e4
  obtain ⟨_,e5,s5⟩:=h 5 _ rfl
  cases e5
  obtain ⟨_,e6,s6⟩:=h 6 _ rfl
  cases e6
  obtain ⟨_,e7,s7⟩:=h 7 _ rfl
  cases e7
  obtain ⟨z0,rfl,k0⟩:=du s0
  obtain ⟨z1,rfl,k1⟩:=du s1
  obtain ⟨z2,rfl,k2⟩:=du s2
  obtain ⟨z3,rfl,k3⟩:=du s3
  obtain ⟨z4,rfl,k4⟩:=du s4
  obtain ⟨z5,rfl,k5⟩:=du s5
  obtain ⟨z6,rfl,k6⟩:=du s6
  obtain ⟨z7,rfl,k7⟩:=du s7
  exact ⟨⟨z0,z1,⟨z2,z3⟩,z4,z5,z6,z7⟩,rfl,⟨k0,k1,⟨k2,k3⟩,k4,k5,k6,k7⟩⟩
theorem Nj:rh prog 28 [.sl [.int,.int,.int,.int,.int,.int,.int,.int]]:=ve Tryz.underlying28 (by kernel_rfl) (by decide) Qd
theorem Ui {d:D} (h:Shp (.sl [.int,.int,.int,.int,.int,.int,.int,.int]) d) : ∃ l:List aM,d = .sl (l.map aM.d)∧(∀ z∈l,aM.ok z)∧l.length≤maxLen:=P3 (ts:=[.int,.int,.int,.int,.int,.int,.int,.int]) (f:=aM.d) (Q:=fun z=>aM.ok z) (fun _ hl h=>ZV hl h) h
def ak.ok (x:ak) : Prop:=wfI x.fId∧wfI x.cC∧x.bD.size≤maxLen∧wfI x.cD∧wfI x.bq∧az.ok x.bb∧(∀ z∈x.bL,aM.ok z)∧x.bL.length≤maxLen∧wfI x.bQ∧wfI x.ci∧(∀ z∈x.bP,wfI z)∧x.bP.length≤maxLen∧(∀ z∈x.dr,wfI z)∧x.dr.length≤maxLen∧(∀ z∈x.ji,wfI z)∧x.ji.length≤maxLen∧(∀ z∈x.jU,wfI z)∧x.jU.length≤maxLen
theorem Fh:rh prog 30 [.int,.int,.str,.int,.int,.int,.int,.sl [.int,.int,.int,.int,.int,.int,.int,.int],.int,.int,.sl [.int],.sl [.int],.sl [.int],.sl [.int]]:=lK Tryz.underlying30 (by kernel_rfl) fun j T hj=>by
 match j,hj with
 | 0,hj=>exact ⟨0,_,1,[.int],rfl,by decide,by decide,by kernel_rfl,(cx Tryz.underlying3),hj⟩
 | 1,hj=>exact ⟨1,_,1,[.int],rfl,by decide,by decide,by kernel_rfl,(cx Tryz.underlying3),hj⟩
 | 2,hj=>exact ⟨2,_,1,[.str],rfl,by decide,by decide,by kernel_rfl,(UF Tryz.underlying9),hj⟩
 | 3,hj=>exact ⟨3,_,1,[.int],rfl,by decide,by decide,by kernel_rfl,(cx Tryz.underlying3),hj⟩
 | 4,hj=>exact ⟨4,_,1,[.int],rfl,by decide,by decide,by kernel_rfl,(cx Tryz.underlying3),hj⟩
 | 5,hj=>exact ⟨5,_,2,[.int,.int],rfl,by decide,by decide,by kernel_rfl,tO,hj⟩
 | 6,hj=>exact ⟨5,_,2,[.int,.int],rfl,by decide,by decide,by kernel_rfl,tO,hj⟩
 | 7,hj=>exact ⟨6,_,1,[.sl [.int,.int,.int,.int,.int,.int,.int,.int]],rfl,by decide,by decide,by kernel_rfl,Nj,hj⟩
 | 8,hj=>exact ⟨7,_,1,[.int],rfl,by decide,by decide,by kernel_rfl,(cx Tryz.underlying3),hj⟩
 | 9,hj=>exact ⟨8,_,1,[.int],rfl,by decide,by decide,by kernel_rfl,(cx Tryz.underlying3),hj⟩
 | 10,hj=>exact ⟨9,_,1,[.sl [.int]],rfl,by decide,by decide,by kernel_rfl,qc,hj⟩
 | 11,hj=>exact ⟨10,_,1,[.sl [.int]],rfl,by decide,by decide,by kernel_rfl,qc,hj⟩
 | 12,hj=>exact ⟨11,_,1,[.sl [.int]],rfl,by decide,by decide,by kernel_rfl,qc,hj⟩
 | 13,hj=>exact ⟨12,_,1,[.sl [.int]],rfl,by decide,by decide,by kernel_rfl,qc,hj⟩
theorem Ti {e:List D} (hl:e.length=14) (h:∀ (j:Nat) (T:Fm),([.int,.int,.str,.int,.int,.int,.int,.sl [.int,.int,.int,.int,.int,.int,.int,.int],.int,.int,.sl [.int],.sl [.int],.sl [.int],.sl [.int]] : List Fm)[j]? = some T→∃ d,e[j]? = some d∧Shp T d) : ∃ x:ak,e=ak.d x∧x.ok:=by
 match e,hl with
 | [d0,d1,d2,d3,d4,d5,d6,d7,d8,d9,d10,d11,d12,d13],_ =>
  obtain ⟨_,e0,s0⟩:=h 0 _ rfl
  cases e0
  obtain ⟨_,e1,s1⟩:=h 1 _ rfl
  cases e1
  obtain ⟨_,e2,s2⟩:=h 2 _ rfl
  cases e2
  obtain ⟨_,e3,s3⟩:=h 3 _ rfl
  cases e3
  obtain ⟨_,e4,s4⟩:=h 4 _ rfl
  cases e4
  obtain ⟨_,e5,s5⟩:=h 5 _ rfl
  cases e5
  obtain ⟨_,e6,s6⟩:=h 6 _ rfl
  cases e6
  obtain ⟨_,e7,s7⟩:=h 7 _ rfl
  cases e7
  obtain ⟨_,e8,s8⟩:=h 8 _ rfl
  cases e8
  obtain ⟨_,e9,s9⟩:=h 9 _ rfl
  cases e9
  obtain ⟨_,e10,s10⟩:=h 10 _ rfl
  cases e10
  obtain ⟨_,e11,s11⟩:=h 11 _ rfl
  cases e11
  obtain ⟨_,e12,s12⟩:=h 12 _ rfl
  cases e12
  obtain ⟨_,e13,s13⟩:=h 13 _ rfl
  cases e13
  obtain ⟨z0,rfl,k0⟩:=du s0
  obtain ⟨z1,rfl,k1⟩:=du s1
  obtain ⟨z2,rfl,k2⟩:=ZC s2
  obtain ⟨z3,rfl,k3⟩:=du s3
  obtain ⟨z4,rfl,k4⟩:=du s4
  obtain ⟨z5,rfl,k5⟩:=du s5
  obtain ⟨z6,rfl,k6⟩:=du s6
  obtain ⟨z7,rfl,k7,m7⟩:=Ui s7
  obtain ⟨z8,rfl,k8⟩:=du s8
  obtain ⟨z9,rfl,k9⟩:=du s9
  obtain ⟨z10,rfl,k10,m10⟩:=uY s10
  obtain ⟨z11,rfl,k11,m11⟩:=uY s11
  obtain ⟨z12,rfl,k12,m12⟩:=uY s12
  obtain ⟨z13,rfl,k13,m13⟩:=uY s13
  exact ⟨⟨z0,z1,z2,z3,z4,⟨z5,z6⟩,z7,z8,z9,z10,z11,z12,z13⟩,rfl,⟨k0,k1,k2,k3,k4,⟨k5,k6⟩,k7,m7,k8,k9,k10,m10,k11,m11,k12,m12,k13,m13⟩⟩
end
theorem ew {α S τ : Type} (l:List α) (mk:Int→S) {f:S→Option (S⊕τ)} {r : τ} (hl:l.length≤1000000)
  (hstep:∀ (k:Nat) (x : α),l[k]? = some x→k < l.length→x∈l→f (mk (k:Int))=some (.inl (mk ((k + 1:Nat) : Int)))) (hend:f (mk (l.length:Int))=some (.inr r)) : ai f ab (mk 0)=some r:=by
 rw [ay l (σ:=Unit) (fun _ k=>mk k) (fun _ _=>some (.inl ())) (fun _=>r) (an hl) (fun k _ x hx=>by rw [hstep k x hx (zg.1 hx).1 (List.mem_of_getElem? hx)]; rfl) (fun _=>hend) ()]
 rw [p7 (fun _ _=>())]
theorem rD (l:List Int) (hl:l.length≤1000000) : qE l l=some true:=by
 unfold qE
 simp only [bne_self_eq_false,zf,if_false]
 rw [ew l (fun k=>k) (r:=.inl (l.length:Int)) hl (fun k x hx hk _=>by
  unfold qD
  simp only [bG hx,if_true,aD hx,zb,bne_self_eq_false,zf,if_false,aR hk hl]) (by unfold qD; simp only [bv,zf,if_false])]
 rfl
structure SzL (a:ak) : Prop where
 queue:a.bD.size≤1000000
 asks:a.bL.length≤1000000
 grants:a.bP.length≤1000000
 kills:a.dr.length≤1000000
 told:a.ji.length≤1000000
 lost:a.jU.length≤1000000
theorem SzA.shorts {B:Nat} {a:ak} (h:SzA B a) (hB:B≤1000000) : SzL a:=⟨h.queue.1,Nat.le_trans h.asks hB,Nat.le_trans h.grants hB,Nat.le_trans h.kills hB,Nat.le_trans h.told hB,Nat.le_trans h.lost hB⟩
theorem Q1 (a:ak) (h:SzL a) : EA a a=some true:=by
 unfold EA
 have h1:a.bL.length≤1000000:=h.asks
 simp only [bne_self_eq_false,BEq.rfl,Bool.and_self,Bool.not_true,zf,if_false,zb]
 rw [ew a.bL (fun k=>k) (r:=.inl (a.bL.length:Int)) h1 (fun k x hx hk _=>by
  unfold si
  simp only [bG hx,if_true,aD hx,zb,BEq.rfl,Bool.and_self,Bool.not_true,zf,if_false,aR hk h1]) (by unfold si; simp only [bv,zf,if_false])]
 simp only [zb,rD _ h.grants,rD _ h.kills,rD _ h.told,rD _ h.lost,if_true]
theorem QU (c:ax) (h:SzC c) : Ez c c=some true:=by
 unfold Ez
 have h1:c.al.length≤1000000:=Nat.le_trans h.labels (by decide)
 have h2:c.ae.length≤1000000:=Nat.le_trans h.queues (by decide)
 simp only [bne_self_eq_false,zf,if_false,zb]
 rw [ew c.al (fun k=>k) (r:=.inl (c.al.length:Int)) h1 (fun k x hx hk _=>by
  unfold sf
  simp only [bG hx,if_true,aD hx,zb,BEq.rfl,Bool.not_true,zf,if_false,aR hk h1]) (by unfold sf; simp only [bv,zf,if_false])]
 simp only [zb]
 rw [ew c.ae (fun k=>k) (r:=.inl (c.ae.length:Int)) h2 (fun k x hx hk hm=>by
  have h3:x.bu.length≤1000000:=Nat.le_trans (h.caps x hm) (by decide)
  unfold se
  simp only [bG hx,if_true,aD hx,zb,BEq.rfl,bne_self_eq_false,Bool.not_true,zf,if_false,aR hk h2]
  rw [ew x.bu (fun k=>k) (r:=.inl (x.bu.length:Int)) h3 (fun k y hy hk _=>by
   unfold sd
   simp only [bG hy,if_true,aD hy,zb,BEq.rfl,Bool.and_self,Bool.not_true,zf,if_false,aR hk h3]) (by unfold sd; simp only [bv,zf,if_false])]
  rfl) (by unfold se; simp only [bv,zf,if_false])]
 rfl
structure lS (s:aa) : Prop where
 conf:SzC s.bB
 nodes:s.aE.length≤1000000
 apps:s.ah.length≤1000000
 conts:s.ac.length≤1000000
 slots:s.aU.length≤1000000
 plans:s.bl.length≤1000000
 app:∀ a∈s.ah,SzL a
 lab:∀ x∈s.bB.al,x.size≤1000000
theorem SzS.short {B:Nat} {s:aa} (h:SzS B s) (hB:B≤1000000) : lS s:=⟨h.conf.sz,Nat.le_trans h.nodes.1 hB,Nat.le_trans h.apps hB,Nat.le_trans h.conts hB,Nat.le_trans h.slots hB,Nat.le_trans h.plans hB,fun a ha=>(h.app a ha).shorts hB,h.conf.lsz⟩
theorem KK (s:aa) (h:lS s) : qK s s=some true:=by
 unfold qK
 simp only [QU _ h.conf,zb,bne_self_eq_false,Bool.not_true,zf,if_false]
 rw [ew s.aE (fun k=>(true,k)) (r:=(true,(s.aE.length:Int))) h.nodes (fun k x hx hk _=>by
  unfold qJ
  simp only [bG hx,if_true,aD hx,zb,BEq.rfl,Bool.and_self,aR hk h.nodes]) (by unfold qJ; simp only [bv,zf,if_false])]
 simp only [zb]
 rw [ew s.ah (fun k=>(true,k)) (r:=(true,(s.ah.length:Int))) h.apps (fun k x hx hk hm=>by
  unfold qI
  simp only [bG hx,if_true,aD hx,zb,Q1 x (h.app x hm),aR hk h.apps]) (by unfold qI; simp only [bv,zf,if_false])]
 simp only [zb]
 rw [ew s.ac (fun k=>(true,k)) (r:=(true,(s.ac.length:Int))) h.conts (fun k x hx hk _=>by
  unfold qH
  simp only [bG hx,if_true,aD hx,zb,BEq.rfl,Bool.and_self,aR hk h.conts]) (by unfold qH; simp only [bv,zf,if_false])]
 simp only [zb]
 rw [ew s.aU (fun k=>(true,k)) (r:=(true,(s.aU.length:Int))) h.slots (fun k x hx hk _=>by
  unfold qG
  simp only [bG hx,if_true,aD hx,zb,BEq.rfl,Bool.and_self,aR hk h.slots]) (by unfold qG; simp only [bv,zf,if_false])]
 simp only [zb]
 rw [ew s.bl (fun k=>(true,k)) (r:=(true,(s.bl.length:Int))) h.plans (fun k x hx hk _=>by
  unfold qF
  simp only [bG hx,if_true,aD hx,zb,BEq.rfl,Bool.and_self,aR hk h.plans]) (by unfold qF; simp only [bv,zf,if_false])]
 rfl
theorem acB {α : Type} (lo hi:List α) (z n : α) (hl:lo.length + hi.length≤900000) :
  (Option.bind (mkO z (i64.wrap (i64.wrap ((lo.length:Int) + 1) + (hi.length:Int)))) fun xs=>Option.bind (sZ xs 0 xs.length lo) fun zs=>Option.bind (ar zs (lo.length:Int)) fun _=>Option.bind (vwO (zs.set ((lo.length:Int)).toNat n).length (i64.wrap ((lo.length:Int) + 1)) ((zs.set ((lo.length:Int)).toNat n).length:Int)) fun _=>Option.bind (sZ (zs.set ((lo.length:Int)).toNat n) (i64.wrap ((lo.length:Int) + 1)).toNat (((zs.set ((lo.length:Int)).toNat n).length:Int)).toNat hi) fun r=>some r)=some (lo++n::hi):=by
 have e1:i64.wrap ((lo.length:Int) + 1)=((lo.length + 1:Nat) : Int):=by rw [IntKind.wrap_i64]; omega
 have e2:i64.wrap (((lo.length + 1:Nat) : Int) + (hi.length:Int))=((lo.length + 1 + hi.length:Nat) : Int):=by rw [IntKind.wrap_i64]; omega
 rw [e1,e2]
 have e3:mkO z ((lo.length + 1 + hi.length:Nat) : Int)=some (List.replicate (lo.length + 1 + hi.length) z):=by
  unfold mkO
  rw [if_pos ⟨by omega,by omega⟩,zt]
 rw [e3]
 simp only [zb]
 have e4:sZ (List.replicate (lo.length + 1 + hi.length) z) 0 (List.replicate (lo.length + 1 + hi.length) z).length lo=some (lo++List.replicate (1 + hi.length) z):=by
  unfold sZ
  rw [if_pos ⟨by omega,Nat.le_refl _⟩]
  unfold lG
  simp only [List.length_replicate,Nat.sub_zero]
  rw [List.take_of_length_le (show lo.length≤lo.length + 1 + hi.length by omega)]
  simp only [List.take_zero,List.nil_append,Nat.zero_add,List.drop_replicate]
  rw [show lo.length + 1 + hi.length - lo.length=1 + hi.length by omega]
 rw [e4]
 simp only [zb]
 have e5:(lo++List.replicate (1 + hi.length) z)[lo.length]? = some z:=by
  rw [List.getElem?_append_right (Nat.le_refl _),Nat.sub_self,Nat.add_comm 1]
  rfl
 rw [aD e5]
 simp only [zb,zt]
 have e6:(lo++List.replicate (1 + hi.length) z).set lo.length n=lo++n::List.replicate hi.length z:=by
  rw [List.set_append_right _ _ (Nat.le_refl _),Nat.sub_self,Nat.add_comm 1]
  rfl
 rw [e6]
 have e7:(lo++n::List.replicate hi.length z).length=lo.length + 1 + hi.length:=by simp; omega
 rw [e7]
 have e8:vwO (lo.length + 1 + hi.length) ((lo.length + 1:Nat) : Int) ((lo.length + 1 + hi.length:Nat) : Int)=some ():=by
  unfold vwO
  rw [if_pos ⟨by omega,by omega,by omega,by omega⟩]
 rw [e8]
 simp only [zb]
 unfold sZ
 rw [if_pos ⟨by omega,by rw [e7]; exact Nat.le_refl _⟩]
 unfold lG
 have h1:(lo++n::List.replicate hi.length z).take (lo.length + 1)=lo ++ [n]:=by
  rw [List.take_append,List.take_of_length_le (Nat.le_succ _)]
  simp
 have h2:lo.length + 1 + hi.length - (lo.length + 1)=hi.length:=by omega
 rw [h1,h2,List.take_of_length_le (Nat.le_refl _)]
 have h3:(lo++n::List.replicate hi.length z).drop (lo.length + 1 + hi.length) = []:=List.drop_of_length_le (by rw [e7]; exact Nat.le_refl _)
 rw [h3]
 simp
theorem yZ {α : Type} (p : α→Bool) : ∀ (l:List α) (i:Nat) (h:i < l.length),(∀ j (hj:j < i),p l[j] = true)→p l[i] = false→(l.takeWhile p).length=i
 | [],i,h,_,_=>absurd h (Nat.not_lt_zero _)
 | x::l,0,h,_,h2=>by
  have h2:p x=false:=h2
  rw [List.takeWhile_cons,h2]
  rfl
 | x::l,i + 1,h,h1,h2=>by
  have h0:p x=true:=h1 0 (Nat.succ_pos _)
  rw [List.takeWhile_cons,h0]
  simp only [if_true,List.length_cons]
  rw [yZ p l i (by simpa using h) (fun j hj=>by have:=h1 (j + 1) (Nat.succ_lt_succ hj); simpa using this) (by simpa using h2)]
theorem Vl {α : Type} (l:List α) (f : α→Option α) (hf:∀ x∈l,f x=some x) (hl:l.length≤1000000) :
  ai (fun st:List α×List α×Int=>if decide (st.2.2 < (l.length:Int))=true then Option.bind (ar st.1 st.2.2) fun x=>Option.bind (f x) fun y=>Option.bind (ar st.1 st.2.2) fun _=>some (.inl (st.1.set st.2.2.toNat y,st.1.set st.2.2.toNat y,i64.wrap (st.2.2 + 1))) else some (.inr (st.1,st.1,st.2.2))) ab (l,l,0)=some (l,l,(l.length:Int)):=by
 rw [ew l (fun k=>(l,l,k)) (r:=(l,l,(l.length:Int))) hl (fun k x hx hk hm=>by
  have e:l.set k x=l:=by
   obtain ⟨h1,h2⟩:=zg.1 hx
   rw [← h2]
   exact List.set_getElem_self h1
  simp only [bG hx,if_true,aD hx,zb,hf x hm,zt,e,aR hk hl]) (by simp only [bv,zf,if_false])]
theorem PX {α : Type} (key : α→Int) (l:List α) (hs:jZ key l) (i:Nat) (h:i < l.length) (a : α) (e:key l[i] = key a) : l.set i a=cE key l a:=by
 have hp:∀ j (hj:j < i),key l[j] < key l[i]:=fun j hj=>by
  have:=(List.pairwise_iff_getElem.1 hs) j i (by omega) h hj
  exact this
 have k:(l.takeWhile fun x=>decide (key x < key a)).length=i:=yZ _ l i h (fun j hj=>by have:=hp j hj; simp; omega) (by simp; omega)
 unfold cE
 rw [k,zq h]
 have d:(key l[i] == key a)=true:=by simpa using e
 simp only [d,if_true]
 rw [List.set_eq_take_append_cons_drop,if_pos h]
def PO (x:ByteArray) : Option ByteArray:=if x.size≤1000000000 then some x else none
theorem D9 {x:ByteArray} (h:x.size≤1000000) : PO x=some x:=by unfold PO; rw [if_pos (by omega)]
def kO {α : Type} (xs:List α) : Option ((Unit×Unit)×List α):=Option.bind (GO xs) fun z=>some (((),()),z)
theorem ey {α : Type} {xs:List α} (h:xs.length≤1000000) : kO xs=some (((),()),xs):=by unfold kO GO; rw [if_pos h]; rfl
noncomputable def yk (a:ak) : Option ak:=sn (a,())
theorem Yc (a:ak) : yk a=Option.bind (PO a.bD) fun q=>Option.bind (kO a.bL) fun r1=>Option.bind (kO a.bP) fun r2=>Option.bind (kO a.dr) fun r3=>Option.bind (kO a.ji) fun r4=>Option.bind (kO a.jU) fun r5=>some ⟨a.fId,a.cC,q,a.cD,a.bq,a.bb,r1.2,a.bQ,a.ci,r2.2,r3.2,r4.2,r5.2⟩:=by kernel_rfl
theorem wB {a:ak} (h:SzL a) : yk a=some a:=by
 rw [Yc,D9 h.queue,ey h.asks,ey h.grants,ey h.kills,ey h.told,ey h.lost]
 rfl
def TQ {α : Type} (f : α→Option α) (l:List α) (st:List α×List α×Int) : Option ((List α×List α×Int)⊕(List α×List α×Int)):=if decide (st.2.2 < (l.length:Int))=true then Option.bind (ar st.1 st.2.2) fun x=>Option.bind (f x) fun y=>Option.bind (ar st.1 st.2.2) fun _=>some (.inl (st.1.set st.2.2.toNat y,st.1.set st.2.2.toNat y,i64.wrap (st.2.2 + 1))) else some (.inr (st.1,st.1,st.2.2))
theorem Gy {α : Type} {f : α→Option α} {l:List α} (hf:∀ x∈l,f x=some x) (hl:l.length≤1000000) : ai (TQ f l) ab (l,l,0)=some (l,l,(l.length:Int)):=Vl l f hf hl
noncomputable def Lc (l:List ak) : Option ((Unit×Unit×Unit)×List ak):=o4 (l,(((),()),()))
theorem U4 (l:List ak) : Lc l=Option.bind (kO l) fun r=>Option.bind (ai (TQ yk r.2) ab (r.2,r.2,0)) fun st=>some (((),(),()),st.1):=by kernel_rfl
theorem QB {l:List ak} (hl:l.length≤1000000) (h:∀ a∈l,SzL a) : Lc l=some (((),(),()),l):=by
 rw [U4,ey hl]
 simp only [zb]
 rw [Gy (fun a ha=>wB (h a ha)) hl]
 rfl
noncomputable def TB (l:List ByteArray) : Option (List ByteArray):=oZ (l,(((),()),()))
theorem U2 (l:List ByteArray) : TB l=Option.bind (kO l) fun r=>Option.bind (ai (TQ PO r.2) ab (r.2,r.2,0)) fun st=>some st.1:=by kernel_rfl
noncomputable def QA (q:av) : Option av:=oY (q,())
theorem Ya (q:av) : QA q=Option.bind (PO q.aB) fun p=>Option.bind (kO q.bu) fun r=>some ⟨p,r.2,q.cD⟩:=by kernel_rfl
noncomputable def TC (l:List av) : Option (List av):=o0 (l,(((),()),()))
theorem U3 (l:List av) : TC l=Option.bind (kO l) fun r=>Option.bind (ai (TQ QA r.2) ab (r.2,r.2,0)) fun st=>some st.1:=by kernel_rfl
noncomputable def QE (c:ax) : Option ax:=qZ (c,())
theorem Yb (c:ax) : QE c=Option.bind (TB c.al) fun l=>Option.bind (TC c.ae) fun q=>some ⟨l,q⟩:=by kernel_rfl
theorem U5 {c:ax} (h:SzC c) (hl:∀ x∈c.al,x.size≤1000000) : QE c=some c:=by
 have h1:c.al.length≤1000000:=Nat.le_trans h.labels (by decide)
 have h2:c.ae.length≤1000000:=Nat.le_trans h.queues (by decide)
 have hq:∀ q∈c.ae,QA q=some q:=fun q hq=>by
  rw [Ya,D9 (h.paths q hq),ey (Nat.le_trans (h.caps q hq) (by decide))]
  rfl
 rw [Yb,U2,U3,ey h1,ey h2]
 simp only [zb]
 rw [Gy (fun x hx=>D9 (hl x hx)) h1]
 simp only [zb]
 rw [Gy hq h2]
 rfl
noncomputable def Lb (s:aa) : Option ((Unit×Unit)×aa):=o5 (s,())
theorem X9 (s:aa) : Lb s=Option.bind (QE s.bB) fun c=>Option.bind (kO s.aE) fun r1=>Option.bind (Lc s.ah) fun r2=>Option.bind (kO s.ac) fun r3=>Option.bind (kO s.aU) fun r4=>Option.bind (kO s.bl) fun r5=>some (((),()),⟨c,r1.2,r2.2,r3.2,r4.2,r5.2,s.bZ,s.qm,s.sV⟩):=by kernel_rfl
theorem Jx {s:aa} (h:lS s) : Lb s=some (((),()),s):=by
 rw [X9,U5 h.conf h.lab,ey h.nodes,QB h.apps h.app,ey h.conts,ey h.slots,ey h.plans]
 rfl
def UU {α : Type} (p : α→Bool) (l:List α) : Option Int:=Option.bind (ai (fun st:Int×Int=>if decide (st.2 < (l.length:Int))=true then Option.bind (ar l st.2) fun x=>if p x=true then some (.inr (.inr st.2)) else some (.inl (st.1,i64.wrap (st.2 + 1))) else some (.inr (.inl (st.1,st.2)))) ab ((0:Int),(0:Int))) fun o:(Int×Int)⊕Int=>match o with | .inl _=>some (-1) | .inr v=>some v
theorem wA {α : Type} (p : α→Bool) (l:List α) (hl:l.length≤1000000) : (∃ i,∃ h:i < l.length,UU p l=some (i:Int)∧p l[i] = true∧∀ j (hj:j < i),p l[j] = false)∨(UU p l=some (-1)∧∀ x∈l,p x=false):=by
 have hp:∃ r,ai (fun st:Int×Int=>if decide (st.2 < (l.length:Int))=true then Option.bind (ar l st.2) fun x=>if p x=true then some (.inr (.inr st.2)) else some (.inl (st.1,i64.wrap (st.2 + 1))) else some (.inr (.inl (st.1,st.2)))) ab ((0:Int),(0:Int))=some r∧((∃ i,∃ h:i < l.length,(r:(Int×Int)⊕Int) = .inr (i:Int)∧p l[i] = true∧∀ j (hj:j < i),p l[j] = false)∨((∃ q,r = .inl q)∧∀ x∈l,p x=false)):=by
  refine aL (fun st=>∃ k:Nat,st.2=(k:Int)∧k≤l.length∧∀ j (hj:j < l.length),j < k→p l[j] = false) (fun st=>l.length - st.2.toNat) _ (fun st ⟨k,h1,h2,h3⟩=>?_) ab _ ⟨0,rfl,Nat.zero_le _,fun j _ h=>by omega⟩ (by have:=an hl; show l.length - (0:Int).toNat < ab; omega)
  simp only [h1]
  rcases Nat.lt_or_ge k l.length with hlt | hge
  ·have d1:decide ((k:Int) < (l.length:Int))=true:=by simpa using hlt
   rw [if_pos d1,aD (zq hlt)]
   simp only [zb]
   cases hpk:p l[k] with
   | true =>
    rw [if_pos rfl]
    exact .inr ⟨_,rfl,.inl ⟨k,hlt,rfl,hpk,fun j hj=>h3 j (by omega) hj⟩⟩
   | false =>
    rw [if_neg (by decide),aR hlt hl]
    refine .inl ⟨_,rfl,⟨k + 1,rfl,hlt,fun j hj hjk=>?_⟩,by simp only [zt]; omega⟩
    rcases Nat.lt_or_ge j k with h | h
    ·exact h3 j hj h
    ·obtain rfl:j=k:=by omega
     exact hpk
  ·have d1:decide ((k:Int) < (l.length:Int))=false:=by simp; omega
   rw [if_neg (by rw [d1]; decide)]
   refine .inr ⟨_,rfl,.inr ⟨⟨_,rfl⟩,fun x hx=>?_⟩⟩
   obtain ⟨j,hj,rfl⟩:=List.getElem_of_mem hx
   exact h3 j hj (by omega)
 obtain ⟨r,h1,h2⟩:=hp
 unfold UU
 rw [h1]
 rcases h2 with ⟨i,h,rfl,h3,h4⟩ | ⟨⟨q,rfl⟩,h3⟩
 ·exact .inl ⟨i,h,rfl,h3,h4⟩
 ·exact .inr ⟨rfl,h3⟩
theorem aaR {α : Type} (l:List α) (z a : α) (k:Nat) (hk:k≤l.length) (hl:l.length≤900000) :
  (Option.bind (mkO z (i64.wrap ((l.length:Int) + 1))) fun xs=>Option.bind (hiO l (k:Int)) fun lo=>Option.bind (sZ xs 0 xs.length lo) fun zs=>Option.bind (ar zs (k:Int)) fun _=>Option.bind (vwO (zs.set ((k:Int)).toNat a).length (i64.wrap ((k:Int) + 1)) ((zs.set ((k:Int)).toNat a).length:Int)) fun _=>Option.bind (loO l (k:Int)) fun hi=>Option.bind (sZ (zs.set ((k:Int)).toNat a) (i64.wrap ((k:Int) + 1)).toNat (((zs.set ((k:Int)).toNat a).length:Int)).toNat hi) fun r=>some r)=some (l.take k++a::l.drop k):=by
 have h:=acB (l.take k) (l.drop k) z a (by simp; omega)
 have e0:(l.take k).length=k:=by simp; omega
 have e1:(l.drop k).length=l.length - k:=by simp
 rw [e0,e1] at h
 have e2:i64.wrap (i64.wrap ((k:Int) + 1) + ((l.length - k:Nat) : Int))=i64.wrap ((l.length:Int) + 1):=by rw [IntKind.wrap_i64,IntKind.wrap_i64,IntKind.wrap_i64]; omega
 rw [e2] at h
 rw [nn hk,jX hk]
 exact h
theorem E7 {α : Type} (key : α→Int) (l:List α) (a : α) (h:∀ x∈l,key x≠key a) : l.take (l.takeWhile fun x=>decide (key x < key a)).length++a::l.drop (l.takeWhile fun x=>decide (key x < key a)).length=cE key l a:=by
 unfold cE
 cases hq:l[(l.takeWhile fun x=>decide (key x < key a)).length]? with
 | none=>rfl
 | some x =>
  have d:(key x==key a)=false:=by
   have:=h x (List.mem_of_getElem? hq)
   simpa using this
  simp only [d,zf,if_false]
def eM (v_s:aa) (v_c:ax) (st:Unit) (v_i:Int) (x_:ByteArray) : Option ((Unit)⊕((Int)⊕(aa×bz))) :=
 (ar v_c.al v_i).bind fun b9=>if (!(b9.toList==x_.toList))=true then
 (dS v_s 14).bind fun c10=>some (.inr (.inr c10))
 else
 some (.inl ())
theorem xc (v_s:aa) (v_c:ax) (a_:Unit) (hl:v_s.bB.al.length≤1000000) : ai (jH v_s v_c) ab (0)=oe (eM v_s v_c) (fun a_=>(.inl ((v_s.bB.al.length:Int)))) a_ 0 v_s.bB.al :=
 fo v_s.bB.al (S:=Int) (fun a_ k_=>(k_)) (eM v_s v_c) (fun a_=>(.inl ((v_s.bB.al.length:Int)))) (an hl) (fun k a x hx=>by
  unfold jH eM; exact bN)
  (fun a=>by unfold jH; exact cL) a_
def eL (v_s:aa) (v_c:ax) (st:Unit) (x_:ak) : Option ((Unit)⊕((Int)⊕(aa×bz))) :=
 (dh x_).bind fun c17=>(if c17=true then (iY v_c x_.bD).bind fun c18=>some (!c18) else some false).bind fun q19=>if q19=true then
 (dS v_s 14).bind fun c20=>some (.inr (.inr c20))
 else
 some (.inl ())
theorem xa (v_s:aa) (v_c:ax) (a_:Unit) (hl:v_s.ah.length≤1000000) : ai (jG v_s v_c) ab (0)=bh (eL v_s v_c) (fun a_=>(.inl ((v_s.ah.length:Int)))) a_ v_s.ah :=
 ay v_s.ah (S:=Int) (fun a_ k_=>(k_)) (eL v_s v_c) (fun a_=>(.inl ((v_s.ah.length:Int)))) (an hl) (fun k a x hx=>by
  unfold jG eL; exact bN)
  (fun a=>by unfold jG; exact cL) a_
def jo (v_s:aa) (cy:Int) (st:(List Int)) (x_:ao) : Option (((List Int))⊕(((List Int)×Int))) :=
 let v_l:=st
 if (x_.bM==cy)=true then
 (aP v_l [x_.fId]).bind fun b4=>let v_l:(List Int):=b4
 some (.inl v_l)
 else
 some (.inl v_l)
theorem DE (v_s:aa) (cy:Int) (a_:(List Int)) (hl:v_s.ac.length≤1000000) : ai (pH v_s cy) ab (a_,(0))=bh (jo v_s cy) (fun a_=>(a_,((v_s.ac.length:Int)))) a_ v_s.ac :=
 ay v_s.ac (S:=(List Int)×Int) (fun a_ k_=>(a_,(k_))) (jo v_s cy) (fun a_=>(a_,((v_s.ac.length:Int)))) (an hl) (fun k a x hx=>by
  unfold pH jo; exact bN)
  (fun a=>by unfold pH; exact cL) a_
def gx (v_x:aK) (v_t:aa) (st:(List Int)) (x_:Int) : Option (((List Int))⊕(((List Int)×Int))) :=
 let cp:=st
 (eV v_t x_).bind fun c11=>let v_c:ao:=c11.1
 let yW:Bool:=c11.2
 (if yW=true then some (v_c.bM==v_x.fId) else some false).bind fun q12=>if q12=true then
 (aP cp [v_c.fId]).bind fun b13=>let cp:(List Int):=b13
 some (.inl cp)
 else
 some (.inl cp)
theorem Al (v_x:aK) (v_t:aa) (a_:(List Int)) (hl:v_x.gf.length≤1000000) : ai (l7 v_x v_t) ab (a_,(0))=bh (gx v_x v_t) (fun a_=>(a_,((v_x.gf.length:Int)))) a_ v_x.gf :=
 ay v_x.gf (S:=(List Int)×Int) (fun a_ k_=>(a_,(k_))) (gx v_x v_t) (fun a_=>(a_,((v_x.gf.length:Int)))) (an hl) (fun k a x hx=>by
  unfold l7 gx; exact bN)
  (fun a=>by unfold l7; exact cL) a_
def ft (cp:(List Int)) (v_s:aa) (st:(List ao)) (x_:Int) : Option (((List ao))⊕(((List ao)×Int))) :=
 let v_l:=st
 (eV v_s x_).bind fun c4=>let v_c:ao:=c4.1
 let bW:Bool:=c4.2
 if bW=true then
 (aP v_l [v_c]).bind fun b5=>let v_l:(List ao):=b5
 some (.inl v_l)
 else
 some (.inl v_l)
theorem yB (cp:(List Int)) (v_s:aa) (a_:(List ao)) (hl:cp.length≤1000000) : ai (kw cp v_s) ab (a_,(0))=bh (ft cp v_s) (fun a_=>(a_,((cp.length:Int)))) a_ cp :=
 ay cp (S:=(List ao)×Int) (fun a_ k_=>(a_,(k_))) (ft cp v_s) (fun a_=>(a_,((cp.length:Int)))) (an hl) (fun k a x hx=>by
  unfold kw ft; exact bN)
  (fun a=>by unfold kw; exact cL) a_
def eb (v_s:aa) (fg:Int) (st:(List Int)) (x_:ao) : Option (((List Int))⊕(((List Int)×Int))) :=
 let v_l:=st
 (if (x_.bE==fg)=true then some (x_.jB != 0) else some false).bind fun q6=>if q6=true then
 (aP v_l [x_.fId]).bind fun b7=>let v_l:(List Int):=b7
 some (.inl v_l)
 else
 some (.inl v_l)
theorem vL (v_s:aa) (fg:Int) (a_:(List Int)) (hl:v_s.ac.length≤1000000) : ai (iZ v_s fg) ab (a_,(0))=bh (eb v_s fg) (fun a_=>(a_,((v_s.ac.length:Int)))) a_ v_s.ac :=
 ay v_s.ac (S:=(List Int)×Int) (fun a_ k_=>(a_,(k_))) (eb v_s fg) (fun a_=>(a_,((v_s.ac.length:Int)))) (an hl) (fun k a x hx=>by
  unfold iZ eb; exact bN)
  (fun a=>by unfold iZ; exact cL) a_
def fq (kH:(List aM)) (v_s:aa) (st:(List aM)) (x_:aM) : Option (((List aM))⊕(((List aM)×Int)⊕((List aM)×Int))) :=
 let v_l:=st
 (qq x_ (v_s.bB.al.length:Int)).bind fun c5=>let v_e:Int:=c5
 if (v_e != 0)=true then
 some (.inr (.inr ([],v_e)))
 else
 (G4 v_l x_).bind fun c6=>let v_l:(List aM):=c6.1
 let v_e:Int:=c6.2
 if (v_e != 0)=true then
 some (.inr (.inr ([],v_e)))
 else
 some (.inl v_l)
theorem yz (kH:(List aM)) (v_s:aa) (a_:(List aM)) (hl:kH.length≤1000000) : ai (kv kH v_s) ab (a_,(0))=bh (fq kH v_s) (fun a_=>(.inl (a_,((kH.length:Int))))) a_ kH :=
 ay kH (S:=(List aM)×Int) (fun a_ k_=>(a_,(k_))) (fq kH v_s) (fun a_=>(.inl (a_,((kH.length:Int))))) (an hl) (fun k a x hx=>by
  unfold kv fq; exact bN)
  (fun a=>by unfold kv; exact cL) a_
def eJ (v_x:aK) (st:aa×ak) (x_:Int) : Option ((aa×ak)⊕((aa×ak×Int))) :=
 let v_s:=st.1
 let v_a:=st.2
 (eV v_s x_).bind fun c17=>let v_c:ao:=c17.1
 let yW:Bool:=c17.2
 (if yW=true then some (v_c.bE==v_a.fId) else some false).bind fun q18=>(if q18=true then some (!v_c.bb) else some false).bind fun q19=>if q19=true then
 (qV v_s v_c.fId).bind fun c20=>let v_s:aa:=c20
 (jw v_a.bP v_c.fId).bind fun c21=>let v_a:ak:={ v_a with bP:=c21.1 }
 some (.inl (v_s,v_a))
 else
 some (.inl (v_s,v_a))
theorem w9 (v_x:aK) (a_:aa×ak) (hl:v_x.gf.length≤1000000) : ai (jF v_x) ab (a_.1,a_.2,(0))=bh (eJ v_x) (fun a_=>(a_.1,a_.2,((v_x.gf.length:Int)))) a_ v_x.gf :=
 ay v_x.gf (S:=aa×ak×Int) (fun a_ k_=>(a_.1,a_.2,(k_))) (eJ v_x) (fun a_=>(a_.1,a_.2,((v_x.gf.length:Int)))) (an hl) (fun k a x hx=>by
  unfold jF eJ; exact bN)
  (fun a=>by unfold jF; exact cL) a_
def gw (v_s:aa) (fg:Int) (st:Unit) (x_:ao) : Option ((Unit)⊕((Int)⊕(Int))) :=
 (if (x_.bE==fg)=true then some x_.bb else some false).bind fun q5=>if q5=true then
 some (.inr (.inr x_.fId))
 else
 some (.inl ())
theorem Aj (v_s:aa) (fg:Int) (a_:Unit) (hl:v_s.ac.length≤1000000) : ai (l6 v_s fg) ab (0)=bh (gw v_s fg) (fun a_=>(.inl ((v_s.ac.length:Int)))) a_ v_s.ac :=
 ay v_s.ac (S:=Int) (fun a_ k_=>(k_)) (gw v_s fg) (fun a_=>(.inl ((v_s.ac.length:Int)))) (an hl) (fun k a x hx=>by
  unfold l6 gw; exact bN)
  (fun a=>by unfold l6; exact cL) a_
def gv (v_l:(List Int)) (st:aa) (x_:Int) : Option ((aa)⊕((aa×Int))) :=
 let v_s:=st
 (zP v_s x_).bind fun c12=>(fK c12 x_).bind fun c13=>let v_s:aa:=c13
 (yA v_s x_).bind fun c14=>(jx v_s c14).bind fun c15=>let v_s:aa:=c15
 some (.inl v_s)
theorem Af (v_l:(List Int)) (a_:aa) (hl:v_l.length≤1000000) : ai (l5 v_l) ab (a_,(0))=bh (gv v_l) (fun a_=>(a_,((v_l.length:Int)))) a_ v_l :=
 ay v_l (S:=aa×Int) (fun a_ k_=>(a_,(k_))) (gv v_l) (fun a_=>(a_,((v_l.length:Int)))) (an hl) (fun k a x hx=>by
  unfold l5 gv; exact bN)
  (fun a=>by unfold l5; exact cL) a_
def gu (v_l:(List Int)) (st:aa) (x_:Int) : Option ((aa)⊕((aa×Int))) :=
 let v_s:=st
 (vM v_s x_).bind fun c17=>(jx v_s ([c17] : (List Int))).bind fun c18=>let v_s:aa:=c18
 some (.inl v_s)
theorem Ae (v_l:(List Int)) (a_:aa) (hl:v_l.length≤1000000) : ai (lZ v_l) ab (a_,(0))=bh (gu v_l) (fun a_=>(a_,((v_l.length:Int)))) a_ v_l :=
 ay v_l (S:=aa×Int) (fun a_ k_=>(a_,(k_))) (gu v_l) (fun a_=>(a_,((v_l.length:Int)))) (an hl) (fun k a x hx=>by
  unfold lZ gu; exact bN)
  (fun a=>by unfold lZ; exact cL) a_
def gr (v_s:aa) (st:(List a8)) (x_:a8) : Option (((List a8))⊕(((List a8)×Int))) :=
 let yT:=st
 if (decide (x_.jY > v_s.bZ))=true then
 (aP yT [x_]).bind fun b21=>let yT:(List a8):=b21
 some (.inl yT)
 else
 some (.inl yT)
theorem Ad (v_s:aa) (a_:(List a8)) (hl:v_s.bl.length≤1000000) : ai (lY v_s) ab (a_,(0))=bh (gr v_s) (fun a_=>(a_,((v_s.bl.length:Int)))) a_ v_s.bl :=
 ay v_s.bl (S:=(List a8)×Int) (fun a_ k_=>(a_,(k_))) (gr v_s) (fun a_=>(a_,((v_s.bl.length:Int)))) (an hl) (fun k a x hx=>by
  unfold lY gr; exact bN)
  (fun a=>by unfold lY; exact cL) a_
def jq (v_l:(List a8)) (af:Int) (v_t:Int) (st:az) (x_:a8) : Option ((az)⊕((az×Int))) :=
 let v_v:=st
 (if (x_.a6==af)=true then some (decide (x_.ou≤v_t)) else some false).bind fun q8=>(if q8=true then some (decide (v_t < x_.jY)) else some false).bind fun q9=>if q9=true then
 (dv v_v x_.iX).bind fun c10=>let v_v:az:=c10
 some (.inl v_v)
 else
 some (.inl v_v)
theorem DG (v_l:(List a8)) (af:Int) (v_t:Int) (a_:az) (hl:v_l.length≤1000000) : ai (pJ v_l af v_t) ab (a_,(0))=bh (jq v_l af v_t) (fun a_=>(a_,((v_l.length:Int)))) a_ v_l :=
 ay v_l (S:=az×Int) (fun a_ k_=>(a_,(k_))) (jq v_l af v_t) (fun a_=>(a_,((v_l.length:Int)))) (an hl) (fun k a x hx=>by
  unfold pJ jq; exact bN)
  (fun a=>by unfold pJ; exact cL) a_
def gF (v_l:(List a8)) (v_t:Int) (gY:Int) (v_p:a8) (fR:az) (st:Unit) (x_:a8) : Option ((Unit)⊕((Int)⊕(Bool))) :=
 let v_u:Int:=x_.ou
 (if (decide (v_u > v_t))=true then some (decide ((i64.wrap (v_u - v_t)) < gY)) else some false).bind fun q10=>(if q10=true then (vS v_l v_p.a6 v_u).bind fun c11=>(dv c11 v_p.iX).bind fun c12=>(fU c12 fR).bind fun c13=>some (!c13) else some false).bind fun q14=>if q14=true then
 some (.inr (.inr false))
 else
 some (.inl ())
theorem AA (v_l:(List a8)) (v_t:Int) (gY:Int) (v_p:a8) (fR:az) (a_:Unit) (hl:v_l.length≤1000000) : ai (mj v_l v_t gY v_p fR) ab (0)=bh (gF v_l v_t gY v_p fR) (fun a_=>(.inl ((v_l.length:Int)))) a_ v_l :=
 ay v_l (S:=Int) (fun a_ k_=>(k_)) (gF v_l v_t gY v_p fR) (fun a_=>(.inl ((v_l.length:Int)))) (an hl) (fun k a x hx=>by
  unfold mj gF; exact bN)
  (fun a=>by unfold mj; exact cL) a_
def iy (v_s:aa) (v_p:a8) (st:Int) (v_i:Int) (x_:a8) : Option ((Int)⊕((Int×Int)⊕(aa×Int×Int))) :=
 let v_k:=st
 if (x_.fId==v_p.fId)=true then
 some (.inr (.inr (v_s,0,7)))
 else
 if (decide (x_.fId < v_p.fId))=true then
 let v_k:Int:=(i64.wrap (v_i + 1))
 some (.inl v_k)
 else
 some (.inl v_k)
theorem Cn (v_s:aa) (v_p:a8) (a_:Int) (hl:v_s.bl.length≤1000000) : ai (n7 v_s v_p) ab (a_,(0))=oe (iy v_s v_p) (fun a_=>(.inl (a_,((v_s.bl.length:Int))))) a_ 0 v_s.bl :=
 fo v_s.bl (S:=Int×Int) (fun a_ k_=>(a_,(k_))) (iy v_s v_p) (fun a_=>(.inl (a_,((v_s.bl.length:Int))))) (an hl) (fun k a x hx=>by
  unfold n7 iy; exact bN)
  (fun a=>by unfold n7; exact cL) a_
def gG (v_s:aa) (bJ:Int) (st:(List a8)) (x_:a8) : Option (((List a8))⊕(((List a8)×Int))) :=
 let v_l:=st
 if (x_.fId != bJ)=true then
 (aP v_l [x_]).bind fun b4=>let v_l:(List a8):=b4
 some (.inl v_l)
 else
 some (.inl v_l)
theorem AB (v_s:aa) (bJ:Int) (a_:(List a8)) (hl:v_s.bl.length≤1000000) : ai (ml v_s bJ) ab (a_,(0))=bh (gG v_s bJ) (fun a_=>(a_,((v_s.bl.length:Int)))) a_ v_s.bl :=
 ay v_s.bl (S:=(List a8)×Int) (fun a_ k_=>(a_,(k_))) (gG v_s bJ) (fun a_=>(a_,((v_s.bl.length:Int)))) (an hl) (fun k a x hx=>by
  unfold ml gG; exact bN)
  (fun a=>by unfold ml; exact cL) a_
theorem Wk (l:List a8) (k t:Int) (hl:l.length≤1000000) : ∃ r,vS l k t=some r:=by
 unfold vS
 dsimp only
 rw [DG l k t _ hl]
 obtain ⟨r,e1,_⟩:=aV (g:=jq l k t) (fin:=fun b=>(b,(l.length:Int))) (fun _ _=>True) (fun _=>True) l 0 (⟨0,0⟩ : az) (fun j b x hx _=>by
  unfold jq
  simp only [eI,zb,dy]
  split <;> exact ⟨_,rfl,fun _ _=>trivial,fun _ _=>trivial⟩) (fun _ _=>trivial) trivial
 rw [e1]
 exact ⟨_,rfl⟩
def AtV (l:List a8) (k t:Int) : az:=(vS l k t).getD ⟨0,0⟩
theorem Kl (l:List a8) (k t:Int) (hl:l.length≤1000000) : vS l k t=some (AtV l k t):=by
 obtain ⟨r,e⟩:=Wk l k t hl
 unfold AtV
 rw [e]
 rfl
theorem O8 (n:Int) : vQ n=some (decide (n≥0)&&decide (n≤1073741824)):=by unfold vQ; simp only [dy,zb]
def aaT (l:List a8) (v:az) (p:a8) (t n:Int) : Bool:=(tp l v p t n).getD false
theorem O9 (l:List a8) (v:az) (p:a8) (t n:Int) (hl:l.length≤1000000) : tp l v p t n=some (aaT l v p t n):=by
 have:∃ r,tp l v p t n=some r:=by
  unfold tp
  simp only [Kl l _ _ hl,eI,kS,zb]
  split
  ·exact ⟨_,rfl⟩
  rw [AA l t n p v () hl]
  obtain ⟨r,e1,_⟩:=aV (g:=gF l t n p v) (fin:=fun _=>(.inl (l.length:Int))) (fun _ _=>True) (fun _=>True) l 0 () (fun j b x hx _=>by
   unfold gF
   simp only [Kl l _ _ hl,eI,kS,zb,dy]
   split <;> exact ⟨_,rfl,fun _ _=>trivial,fun _ _=>trivial⟩) (fun _ _=>trivial) trivial
  rw [e1]
  cases r <;> exact ⟨_,rfl⟩
 obtain ⟨r,e⟩:=this
 unfold aaT
 rw [e]
 rfl
theorem Mi (l:List a8) (v:az) (p:a8) (n:Int) (hl:l.length≤1000000) : ∃ r,wR l v p n=some r:=by
 unfold wR
 simp only [O8,zb,orB]
 split
 ·exact ⟨_,rfl⟩
 have hw:∀ k:Int,-1≤k→k≤1000000000→i64.wrap (k + 1)=k + 1:=fun k h1 h2=>IY (by omega) (by omega)
 obtain ⟨r,e1,_⟩:=aL (f:=oX l p n v) (fun st=>-1≤st.2∧st.2≤(l.length:Int)) (fun st=>((l.length:Int) - st.2).toNat) (fun _=>True) (fun st ⟨h1,h2⟩=>by
  unfold oX
  by_cases hlt:st.2 < (l.length:Int)
  ·have hn:((l.length:Int) - (st.2 + 1)).toNat < ((l.length:Int) - st.2).toNat:=by omega
   simp only [hlt,decide_true,if_true,O9 l _ _ _ _ hl,dy,orB,zb,hw _ h1 (by omega)]
   by_cases h0:st.2≥0
   ·obtain ⟨x,hx,_⟩:=NF h0 hlt
    simp only [h0,decide_true,if_true,hx,zb]
    split <;> exact .inl ⟨_,rfl,⟨by show -1≤st.2 + 1; omega,by show st.2 + 1≤_; omega⟩,hn⟩
   ·simp only [h0,decide_false,zf,if_false,zb]
    split <;> exact .inl ⟨_,rfl,⟨by show -1≤st.2 + 1; omega,by show st.2 + 1≤_; omega⟩,hn⟩
  ·simp only [hlt,decide_false,zf,if_false]
   exact .inr ⟨_,rfl,trivial⟩) ab (-1,-1) ⟨by simp,by show (-1:Int)≤_; omega⟩ (by show ((l.length:Int) - (-1)).toNat < ab; unfold ab; omega)
 rw [e1]
 simp only [zb]
 split <;> exact ⟨_,rfl⟩
theorem SzS.plan {B:Nat} {s:aa} (h:SzS B s) {l:List a8} (hl:l.length≤B) : SzS B { s with bl:=l } := ⟨h.conf,h.nodes,h.apps,h.conts,h.slots,hl,h.app⟩
theorem Sd {B:Nat} {s:aa} (h:SzS B s) (hB:B + 1≤1000000) (p:a8) (n:Int) : ∃ r,AC s p n=some r∧SzS (B + 1) r.1∧r.1.ac=s.ac∧r.1.ah=s.ah:=by
 have k1:=h.plans; have k2:=h.nodes.1
 have hm:=h.mono (Nat.le_succ B)
 unfold AC
 simp only [zb,orB]
 split
 ·exact ⟨_,rfl,hm,rfl,rfl⟩
 rw [Cn s p 0 (by omega)]
 obtain ⟨r,e1,e2⟩:=mZ (g:=iy s p) (fin:=fun b=>(.inl (b,(s.bl.length:Int)))) (fun j b=>∃ K:Nat,b=(K:Int)∧K≤j) (fun r=>match r with | .inl m=>∃ K:Nat,m.1=(K:Int)∧K≤s.bl.length | .inr m=>m.1=s) s.bl 0 0 (fun j b x hx ⟨K,hK,hj⟩=>by
  have hj2:=(zg.1 hx).1
  unfold iy
  dsimp only
  split
  ·exact ⟨_,rfl,fun a' e=>(by cases e),fun r e=>(by injection e with e; subst e; rfl)⟩
  split
  ·refine ⟨_,rfl,fun a' e=>?_,fun r e=>by cases e⟩
   injection e with e
   subst e
   exact ⟨0 + j + 1,aR (by omega : 0 + j < 1000000) (Nat.le_refl _),Nat.le_refl _⟩
  ·refine ⟨_,rfl,fun a' e=>?_,fun r e=>by cases e⟩
   injection e with e
   subst e
   exact ⟨K,hK,by omega⟩) (fun b ⟨K,hK,hj⟩=>⟨K,hK,by omega⟩) ⟨0,rfl,Nat.le_refl _⟩
 rw [e1]
 simp only [zb]
 cases r with
 | inr m=>exact ⟨_,rfl,by rw [show m.1=s from e2]; exact hm,by rw [show m.1=s from e2],by rw [show m.1=s from e2]⟩
 | inl m =>
  obtain ⟨K,hK,hK2⟩:=e2
  obtain ⟨c,hc⟩:=Mi s.bl (vF s p.a6) p n (by omega)
  simp only [hK,oz s _ (Nat.le_trans k2 (by omega)),hc,zb]
  split
  ·exact ⟨_,rfl,hm,rfl,rfl⟩
  split
  ·exact ⟨_,rfl,hm,rfl,rfl⟩
  split
  ·exact ⟨_,rfl,hm,rfl,rfl⟩
  rw [nn hK2]
  simp only [zb]
  rw [aF (by simp; omega)]
  simp only [zb]
  rw [aF (by simp; omega)]
  simp only [zb]
  rw [jX hK2]
  simp only [zb]
  rw [aF (by simp; omega)]
  exact ⟨_,rfl,hm.plan (by simp; omega),rfl,rfl⟩
theorem Pc {B:Nat} {s:aa} (h:SzS B s) (hB:B≤1000000) (id:Int) : ∃ r,vR s id=some r∧SzS B r.1∧r.1.ac=s.ac∧r.1.ah=s.ah:=by
 have k1:=h.plans
 unfold vR
 dsimp only
 have e:gG s id=fun acc x=>if (x.fId != id)=true then (aP acc [id' x]).map (fun a=>(.inl a:List a8⊕(List a8×Int))) else some (.inl acc):=by
  funext acc x
  unfold gG
  dsimp only [id']
  split
  ·cases aP acc [x] <;> rfl
  ·rfl
 rw [AB s id [] (by omega),e,bV (fun c:a8=>c.fId != id) id' _ s.bl [] (by simp; omega)]
 simp only [zb,List.nil_append,zo]
 split
 ·exact ⟨_,rfl,h,rfl,rfl⟩
 ·exact ⟨_,rfl,h.plan (Nat.le_trans (List.length_filter_le _ _) k1),rfl,rfl⟩
theorem kT (s:aa) (e:Int) : dS s e=some (s,⟨e,[],[],[],0⟩):=rfl
theorem OkS.node {M:Nat} {s:aa} (h:OkS M s) {l:List aZ} (hl:l.length≤s.aE.length + 1) (hs:jZ aZ.fId l) (hn:∀ n∈l,(0≤n.bQ∧n.bQ≤1000000000)∧0≤n.ci) : OkS (M + 1) { s with aE:=l } := by
 obtain ⟨⟨B,h1,h2⟩,h3⟩:=h
 have k:=h1.mono (Nat.le_succ B)
 have k1:=h1.nodes
 exact ⟨⟨B + 1,⟨k.conf,⟨by show l.length≤B + 1; omega,hs,k1.2.2.1,hn⟩,k.apps,k.conts,k.slots,k.plans,k.app⟩,by show B + 1 + s.ac.length≤_; omega⟩,h3⟩
theorem OkS.nodeIn {M:Nat} {s:aa} (h:OkS M s) {n:aZ} (hi:tU s n.fId=true) (hn:(0≤n.bQ∧n.bQ≤1000000000)∧0≤n.ci) : OkS M { s with aE:=cE aZ.fId s.aE n } := by
 obtain ⟨⟨B,h1,h2⟩,h3⟩:=h
 have k1:=h1.nodes
 unfold tU at hi
 rw [List.any_eq_true] at hi
 obtain ⟨x,hx,hxe⟩:=hi
 have hlen:=rR aZ.fId n s.aE k1.2.1 ⟨x,hx,by simpa using hxe⟩
 exact ⟨⟨B,⟨h1.conf,⟨by show (cE _ _ _).length≤B; omega,jd _ _ _ k1.2.1,k1.2.2.1,fun y hy=>by rcases kK hy with rfl | hy; exact hn; exact k1.2.2.2 y hy⟩,h1.apps,h1.conts,h1.slots,h1.plans,h1.app⟩,h2⟩,h3⟩
theorem OkS.small {M:Nat} {s:aa} (h:OkS M s) : s.aE.length≤M∧s.ah.length≤M∧s.ac.length≤M∧s.aU.length≤M∧s.bl.length≤M:=⟨h.sz.nodes.1,h.sz.apps,h.sz.conts,h.sz.slots,h.sz.plans⟩
theorem NA {s:aa} {id:Int} (h:tU s id=true) : (eY s id).fId=id:=by
 unfold tU at h
 rw [List.any_eq_true] at h
 obtain ⟨x,hx,e⟩:=h
 unfold eY
 cases hf:s.aE.find? fun c=>c.fId==id with
 | none=>have:=List.find?_eq_none.1 hf x hx; exact absurd e (by simpa using this)
 | some a=>simpa using List.find?_some hf
theorem W4 {M:Nat} {s:aa} (h:OkS M s) {id:Int} : (0≤(eY s id).bQ∧(eY s id).bQ≤1000000000)∧0≤(eY s id).ci:=by
 unfold eY
 cases hf:s.aE.find? fun c=>c.fId==id with
 | none=>exact ⟨⟨Int.le_refl _,by decide⟩,Int.le_refl _⟩
 | some a=>exact h.sz.nodes.2.2.2 a (List.mem_of_find?_eq_some hf)
theorem abg {M:Nat} {s:aa} (h:OkS M s) (n:aZ) : OkS (M + 1) (ZH s n).1:=by
 unfold ZH
 split
 ·exact h.mono (Nat.le_succ _)
 split
 ·exact h.mono (Nat.le_succ _)
 split
 ·exact h.mono (Nat.le_succ _)
 ·exact h.node (tM _ _ _) (jd _ _ _ h.sz.nodes.2.1) (fun y hy=>by rcases kK hy with rfl | hy; exact ⟨h.sz.nodes.2.2.1,Int.le_refl _⟩; exact h.sz.nodes.2.2.2 y hy)
theorem aaD {M:Nat} {s:aa} (h:OkS M s) (id b:Int) : OkS M (Ov s id b).1:=by
 unfold Ov
 split
 ·exact h
 split
 ·exact h
 split
 ·exact h
 split
 ·exact h
 split
 ·exact h
 ·rename_i hu _ hb _ _
  have hu:tU s id=true:=by simpa using hu
  exact h.nodeIn (n:={ eY s id with bQ:=s.bZ,ci:=b }) (by show tU s (eY s id).fId=true; rw [NA hu]; exact hu) ⟨h.sz.nodes.2.2.1,by simpa using hb⟩
theorem aak {M:Nat} {s:aa} (h:OkS M s) (id:Int) : OkS M (TR s id):=by
 unfold TR
 split
 ·rename_i hu
  exact h.nodeIn (n:={ eY s id with fUp:=false }) (by show tU s (eY s id).fId=true; rw [NA hu]; exact hu) (W4 h)
 ·exact h
theorem OkS.fewer {M:Nat} {s:aa} (h:OkS M s) {c:List ao} {l:List bA} (hc:c.length≤s.ac.length) (hl:l.length≤s.aU.length) : OkS M { s with ac:=c,aU:=l } := by
 obtain ⟨⟨B,h1,h2⟩,h3⟩:=h
 exact ⟨⟨B,h1.fewer hc hl,by show B + c.length≤M; omega⟩,h3⟩
theorem OkS.put {M:Nat} {s:aa} (h:OkS M s) {a:ak} {k:Nat} (ha:∀ B,SzS B s→SzA (B + k) a) : OkS (M + k + 1) { s with ah:=cE ak.fId s.ah a } := by
 obtain ⟨⟨B,h1,h2⟩,h3⟩:=h
 have k1:=(h1.mono (Nat.le_add_right B k)).put ((ha B h1).mono (Nat.le_succ _))
 exact ⟨⟨B + k + 1,k1,by show B + k + 1 + s.ac.length≤_; omega⟩,jd _ _ _ h3⟩
theorem OkS.now {M:Nat} {s:aa} (h:OkS M s) {n:Int} (hn : 0≤n∧n≤1000000000) : OkS M { s with bZ:=n } := by
 obtain ⟨⟨B,h1,h2⟩,h3⟩:=h
 exact ⟨⟨B,⟨h1.conf,⟨h1.nodes.1,h1.nodes.2.1,hn,h1.nodes.2.2.2⟩,h1.apps,h1.conts,h1.slots,h1.plans,h1.app⟩,h2⟩,h3⟩
theorem OkS.epoch {M:Nat} {s:aa} (h:OkS M s) (n k:Int) : OkS M { s with qm:=n,sV:=k } := by
 obtain ⟨⟨B,h1,h2⟩,h3⟩:=h
 exact ⟨⟨B,⟨h1.conf,h1.nodes,h1.apps,h1.conts,h1.slots,h1.plans,h1.app⟩,h2⟩,h3⟩
theorem OkS.newConf {M:Nat} {s:aa} (h:OkS M s) {c:ax} (hc:wi c) : OkS M { s with bB:=c } := by
 obtain ⟨⟨B,h1,h2⟩,h3⟩:=h
 exact ⟨⟨B,⟨hc,h1.nodes,h1.apps,h1.conts,h1.slots,h1.plans,h1.app⟩,h2⟩,h3⟩
theorem OkS.plans {M:Nat} {s:aa} (h:OkS M s) {l:List a8} (hl:l.length≤s.bl.length) : OkS M { s with bl:=l } := by
 obtain ⟨⟨B,h1,h2⟩,h3⟩:=h
 exact ⟨⟨B,h1.plan (Nat.le_trans hl h1.plans),h2⟩,h3⟩
theorem OkS.lose {M:Nat} {s:aa} (h:OkS M s) (ids:List Int) (hI:ids.length≤1000000) (hM:M + 1≤1000000) : ∃ r,jx s ids=some r∧OkS M r:=by
 obtain ⟨r,h1,h2,h3,_⟩:=HB h.m h.srt ids hI hM
 exact ⟨r,h1,h2,h3⟩
theorem OkS.r14 {M:Nat} {s:aa} (h:OkS M s) (hM:M + 100≤1000000) (id:Int) : ∃ r,qT s id=some r∧OkS (M + 40) r.1:=by
 obtain ⟨⟨B,h1,h2⟩,h3⟩:=h
 obtain ⟨r,r1,r2,_⟩:=Pm h1 h3 (by omega) id
 have r4:=Hs r1
 exact ⟨r,r1,⟨B + 24 + 2,r2.1,by omega⟩,r2.2⟩
theorem Vn {M:Nat} {s:aa} (h:OkS M s) (hM:M≤1000000) (text:ByteArray) : ∃ r,ur s text=some r∧OkS M r.1:=by
 obtain ⟨p,p1,p2⟩:=OP text
 have k1:=h.small
 have kc:=h.sz.conf.sz.labels
 unfold ur
 simp only [p1,zb]
 have hchk:∃ e,(if (p.2==0)=true then Option.bind (vI p.1) fun c3=>some c3 else some p.2)=some e∧(e=0→wi p.1):=by
  split
  ·obtain ⟨c,c1,c2⟩:=OJ p2
   rw [c1]
   exact ⟨c,rfl,fun e=>(c2 e).form⟩
  ·rename_i hne
   exact ⟨_,rfl,fun e=>absurd (by rw [e]; rfl) hne⟩
 obtain ⟨e,e1,e2⟩:=hchk
 rw [e1]
 simp only [zb,kT]
 split
 ·exact ⟨_,rfl,h⟩
 rename_i hz
 have hf:=e2 (by simpa using hz)
 split
 ·exact ⟨_,rfl,h⟩
 rename_i hlab
 have hlab:s.bB.al.length≤p.1.al.length:=by have:=of_decide_eq_false (by simpa using hlab:decide ((p.1.al.length:Int) < (s.bB.al.length:Int))=false); omega
 rw [xc s p.1 () (by omega)]
 obtain ⟨r,r1,r2⟩:=mZ (g:=eM s p.1) (fin:=fun _=>(.inl (s.bB.al.length:Int))) (fun _ _=>True) (fun r=>∀ m,r = .inr m→OkS M m.1) s.bB.al 0 () (fun j a x hx _=>by
  have hj:=(zg.1 hx).1
  unfold eM
  simp only [Nat.zero_add,aD (zq (show j < p.1.al.length by omega)),zb,kT]
  split
  ·exact ⟨_,rfl,fun a' e=>(by cases e),fun r e m em=>(by injection e with e; subst e; injection em with em; subst em; exact h)⟩
  ·exact ⟨_,rfl,fun a' e=>trivial,fun r e=>(by cases e)⟩) (fun b _ m em=>by cases em) trivial
 rw [r1]
 simp only [zb]
 cases r with
 | inr m=>exact ⟨m,rfl,r2 m rfl⟩
 | inl m =>
  dsimp only
  rw [xa s p.1 () (by omega)]
  obtain ⟨q,q1,q2⟩:=aV (g:=eL s p.1) (fin:=fun _=>(.inl (s.ah.length:Int))) (fun _ _=>True) (fun r=>∀ m,r = .inr m→OkS M m.1) s.ah 0 () (fun j a x hx _=>by
   unfold eL
   simp only [dn,kR _ _ hf.sz,zb,kT,dy]
   split
   ·exact ⟨_,rfl,fun a' e=>(by cases e),fun r e m em=>(by injection e with e; subst e; injection em with em; subst em; exact h)⟩
   ·exact ⟨_,rfl,fun a' e=>trivial,fun r e=>(by cases e)⟩) (fun b _ m em=>by cases em) trivial
  rw [q1]
  simp only [zb]
  cases q with
  | inr m=>exact ⟨m,rfl,q2 m rfl⟩
  | inl m=>exact ⟨_,rfl,h.newConf hf⟩
theorem Xv (s:aa) (n:Int) (hl:s.ac.length≤1000000) : ∃ r,yA s n=some r∧r.length≤s.ac.length:=by
 unfold yA
 dsimp only
 rw [DE s n [] hl]
 obtain ⟨r,r1,r2⟩:=aV (g:=jo s n) (fin:=fun b=>(b,(s.ac.length:Int))) (fun k b=>b.length≤k) (fun r=>r.1.length≤s.ac.length) s.ac 0 [] (fun j b x hx hb=>by
  have hj:=(zg.1 hx).1
  unfold jo
  dsimp only
  split
  ·rw [aF (by simp; omega)]
   exact ⟨_,rfl,fun a' e=>(by injection e with e; subst e; simp; omega),fun r e=>(by cases e)⟩
  ·exact ⟨_,rfl,fun a' e=>(by injection e with e; subst e; omega),fun r e=>(by cases e)⟩) (fun b hb=>(by simpa using hb)) (by simp)
 rw [r1]
 exact ⟨_,rfl,r2⟩
theorem Fp (s:aa) (n:Int) (hl:s.ac.length≤1000000) : ∃ r,oD s n=some r:=by
 unfold oD
 dsimp only
 rw [vL s n [] hl]
 obtain ⟨r,r1,r2⟩:=aV (g:=eb s n) (fin:=fun b=>(b,(s.ac.length:Int))) (fun k b=>b.length≤k) (fun _=>True) s.ac 0 [] (fun j b x hx hb=>by
  have hj:=(zg.1 hx).1
  unfold eb
  simp only [dy,zb]
  split
  ·rw [aF (by simp; omega)]
   exact ⟨_,rfl,fun a' e=>(by injection e with e; subst e; simp; omega),fun r e=>(by cases e)⟩
  ·exact ⟨_,rfl,fun a' e=>(by injection e with e; subst e; omega),fun r e=>(by cases e)⟩) (fun b hb=>trivial) (by simp)
 rw [r1]
 exact ⟨_,rfl⟩
theorem Om (ids:List Int) (s:aa) (hl:s.ac.length≤1000000) (hi:ids.length≤1000000) : ∃ r,tj s ids=some r:=by
 unfold tj
 dsimp only
 rw [yB ids s [] hi]
 obtain ⟨r,r1,r2⟩:=aV (g:=ft ids s) (fin:=fun b=>(b,(ids.length:Int))) (fun k b=>b.length≤k) (fun _=>True) ids 0 [] (fun j b x hx hb=>by
  have hj:=(zg.1 hx).1
  unfold ft
  simp only [ld s x hl,zb]
  split
  ·rw [aF (by simp; omega)]
   exact ⟨_,rfl,fun a' e=>(by injection e with e; subst e; simp; omega),fun r e=>(by cases e)⟩
  ·exact ⟨_,rfl,fun a' e=>(by injection e with e; subst e; omega),fun r e=>(by cases e)⟩) (fun b hb=>trivial) (by simp)
 rw [r1]
 exact ⟨_,rfl⟩
theorem WN (s:aa) (l more:List aM) (hl:l.length≤100000) (hm:more.length≤1000000) : ∃ r,wN s l more=some r∧r.1.length≤l.length + 8:=by
 unfold wN
 dsimp only
 rw [yz more s l hm]
 obtain ⟨r,r1,r2⟩:=aV (g:=fq more s) (fin:=fun b=>(.inl (b,(more.length:Int)))) (fun _ b=>b.length≤l.length + 8∧b.length≤100000) (fun r=>(∀ m,r = .inl m→m.1.length≤l.length + 8)∧∀ m,r = .inr m→m.1.length≤l.length + 8) more 0 l (fun j b x hx hb=>by
  unfold fq
  simp only [OA,zb]
  split
  ·exact ⟨_,rfl,fun a' e=>(by cases e),fun r e=>(by injection e with e; subst e; exact ⟨fun m em=>(by cases em),fun m em=>(by injection em with em; subst em; exact Nat.zero_le _)⟩)⟩
  obtain ⟨t,t1,t2⟩:=VC b x hb.2
  simp only [t1,zb]
  split
  ·exact ⟨_,rfl,fun a' e=>(by cases e),fun r e=>(by injection e with e; subst e; exact ⟨fun m em=>(by cases em),fun m em=>(by injection em with em; subst em; exact Nat.zero_le _)⟩)⟩
  ·exact ⟨_,rfl,fun a' e=>(by injection e with e; subst e; exact ⟨by omega,by omega⟩),fun r e=>(by cases e)⟩) (fun b hb=>⟨fun m em=>(by injection em with em; subst em; exact hb.1),fun m em=>(by cases em)⟩) ⟨by omega,hl⟩
 rw [r1]
 simp only [zb]
 cases r with
 | inr m=>exact ⟨_,rfl,r2.2 _ rfl⟩
 | inl m=>exact ⟨_,rfl,r2.1 m rfl⟩
theorem aaA (s:aa) (n:Int) (hl:s.ac.length≤1000000) : ∃ r,vM s n=some r:=by
 unfold vM
 dsimp only
 rw [Aj s n () hl]
 obtain ⟨r,r1,r2⟩:=aV (g:=gw s n) (fin:=fun _=>(.inl (s.ac.length:Int))) (fun _ _=>True) (fun _=>True) s.ac 0 () (fun j b x hx hb=>by
  unfold gw
  simp only [dy,zb]
  split
  ·exact ⟨_,rfl,fun a' e=>trivial,fun r e=>trivial⟩
  ·exact ⟨_,rfl,fun a' e=>trivial,fun r e=>trivial⟩) (fun b hb=>trivial) trivial
 rw [r1]
 simp only [zb]
 cases r <;> exact ⟨_,rfl⟩
theorem Nm {M:Nat} {s:aa} (h:OkS M s) (hM:M + 100≤1000000) (x:aK) (hx:x.gf.length≤1000000) : ∃ r,Am s x=some r∧OkS (M + 40) r.1:=by
 have k1:=h.small
 unfold Am
 simp only [nw s _ (show s.aE.length≤1000000 by omega),zb,dy]
 obtain ⟨o,o1,_⟩:=Xv s x.fId (by omega)
 split
 ·rw [o1]
  exact ⟨_,rfl,h.mono (by omega)⟩
 rw [Rh s _ _ (by omega)]
 simp only [zb,kT]
 split
 ·exact ⟨_,rfl,h.mono (by omega)⟩
 have hb:=aaD h x.fId x.ci
 generalize (Ov s x.fId x.ci).1=t at hb
 have k2:=hb.small
 rw [Al x t [] hx]
 obtain ⟨r,r1,r2⟩:=aV (g:=gx x t) (fin:=fun b=>(b,(x.gf.length:Int))) (fun k b=>b.length≤k) (fun r=>r.1.length≤x.gf.length) x.gf 0 [] (fun j b y hy hb=>by
  have hj:=(zg.1 hy).1
  unfold gx
  simp only [ld t y (show t.ac.length≤1000000 by omega),zb,dy]
  split
  ·rw [aF (by simp; omega)]
   exact ⟨_,rfl,fun a' e=>(by injection e with e; subst e; simp; omega),fun r e=>(by cases e)⟩
  ·exact ⟨_,rfl,fun a' e=>(by injection e with e; subst e; omega),fun r e=>(by cases e)⟩) (fun b hb=>(by simpa using hb)) (by simp)
 rw [r1]
 simp only [zb]
 obtain ⟨a,a1,a2⟩:=hb.lose r.1 (by omega) (by omega)
 obtain ⟨c,c1,c2⟩:=a2.r14 (by omega) x.fId
 have k3:=c2.small
 obtain ⟨o,o1,_⟩:=Xv c.1 x.fId (by omega)
 simp only [a1,c1,o1,zb]
 exact ⟨_,rfl,c2⟩
theorem nr {α : Type} (p : α→Bool) (l:List α) : (l.filter p).length≤l.length:=List.length_filter_le _ _
theorem UI {M:Nat} {s:aa} (h:OkS M s) (hM:M + 100≤100000) (x:aK) (hx:x.gf.length≤1000000) (ha:x.bL.length≤1000000) : ∃ r,uq s x=some r∧OkS (M + 10) r.1:=by
 have k1:=h.small
 unfold uq
 simp only [dp s _ (show s.ah.length≤1000000 by omega),zb,kT]
 have stay:OkS (M + 10) s:=h.mono (by omega)
 split
 ·exact ⟨_,rfl,stay⟩
 split
 ·exact ⟨_,rfl,stay⟩
 split
 ·exact ⟨_,rfl,stay⟩
 have hA:=h.sz.get x.fId
 obtain ⟨n,hn⟩:=Fp s (bU s x.fId).fId (by omega)
 have q1:=hA.told; have q2:=hA.lost; have q3:=hA.asks; have q4:=hA.grants; have q5:=hA.kills
 split
 ·obtain ⟨c,hc⟩:=Om (bU s x.fId).ji s (by omega) (by omega)
  simp only [hc,hn,zb]
  rw [aF (by simp; omega)]
  exact ⟨_,rfl,stay⟩
 split
 ·exact ⟨_,rfl,stay⟩
 obtain ⟨w,w1,w2⟩:=WN s (bU s x.fId).bL x.bL (by omega) ha
 simp only [w1,zb]
 split
 ·exact ⟨_,rfl,stay⟩
 rw [w9 x (s,bU s x.fId) hx]
 obtain ⟨r,r1,l,g,r2,r3,r4,r5⟩:=aV (g:=eJ x) (fin:=fun b=>(b.1,b.2,(x.gf.length:Int))) (fun _ b=>∃ (l:List ao) (g:List Int),b.1 = { s with ac:=l } ∧ l.length≤s.ac.length∧b.2 = { bU s x.fId with bP:=g } ∧ g.length≤(bU s x.fId).bP.length) (fun r=>∃ (l:List ao) (g:List Int),r.1 = { s with ac:=l } ∧ l.length≤s.ac.length∧r.2.1 = { bU s x.fId with bP:=g } ∧ g.length≤(bU s x.fId).bP.length) x.gf 0 (s,bU s x.fId) (fun j b y hy ⟨l,g,b1,b2,b3,b4⟩=>by
  obtain ⟨bs,ba⟩:=b
  dsimp only at b1 b3
  subst b1
  subst b3
  unfold eJ
  dsimp only
  rw [ld { s with ac:=l } y (show l.length≤1000000 by omega)]
  simp only [zb,dy]
  split
  ·rw [Dp { s with ac:=l } _ (show l.length≤1000000 by omega),v7 g _ (by omega)]
   simp only [zb]
   exact ⟨_,rfl,fun a' e=>(by injection e with e; subst e; exact ⟨_,_,rfl,Nat.le_trans (nr _ _) b2,rfl,Nat.le_trans (nr _ _) b4⟩),fun r e=>(by cases e)⟩
  ·exact ⟨_,rfl,fun a' e=>(by injection e with e; subst e; exact ⟨l,g,rfl,b2,rfl,b4⟩),fun r e=>(by cases e)⟩) (fun b hb=>hb) ⟨s.ac,(bU s x.fId).bP,rfl,Nat.le_refl _,rfl,Nat.le_refl _⟩
 rw [r1]
 obtain ⟨rs,ra,ri⟩:=r
 dsimp only at r2 r4
 subst r2
 subst r4
 have ht:OkS M { s with ac:=l } := h.fewer (c:=l) (l:=s.aU) r3 (Nat.le_refl _)
 simp only [zb]
 obtain ⟨c,hc⟩:=Om g { s with ac:=l } (show l.length≤1000000 by omega) (by omega)
 obtain ⟨n,hn⟩:=Fp { s with ac:=l } (bU s x.fId).fId (show l.length≤1000000 by omega)
 simp only [hc,hn,zb]
 rw [aF (by simp; omega)]
 simp only [zb]
 rw [fL { s with ac:=l } _ (by show s.ah.length + 1≤_; omega)]
 refine ⟨_,rfl,OkS.mono (ht.put (k:=8) (fun B hB=>?_)) (by omega)⟩
 have hb:SzA B (bU s x.fId):=hB.get x.fId
 have p1:=hb.asks; have p2:=hb.grants; have p3:=hb.kills
 exact ⟨⟨hb.queue.1,hB.nodes.2.2.1.1,hB.nodes.2.2.1.2,hb.queue.2.2.2⟩,by show w.1.length≤_; omega,Nat.zero_le _,Nat.zero_le _,by show g.length≤_; omega,by show (bU s x.fId).dr.length≤_; omega⟩
theorem Yj {M:Nat} {s:aa} (h:OkS M s) (hM:M + 100≤100000) (id st:Int) : ∃ r,Ai s id st=some r∧OkS (M + 10) r.1:=by
 have k1:=h.small
 unfold Ai
 simp only [dp s _ (show s.ah.length≤1000000 by omega),zb,kT,dn]
 split
 ·exact ⟨_,rfl,h.mono (by omega)⟩
 split
 ·exact ⟨_,rfl,h.mono (by omega)⟩
 unfold Ms
 simp only [dp s id (show s.ah.length≤1000000 by omega),zb,dn,orB]
 split
 ·exact ⟨_,rfl,h.mono (by omega)⟩
 ·rw [fL s _ (by omega)]
  simp only [zb]
  rw [Dl _ _ (by show s.ac.length≤_; omega) (by show s.aU.length≤_; omega)]
  have ht:=h.put (k:=0) (a:={ bU s id with cC:=st,bL:=[],bP:=[],dr:=[],ji:=[],jU:=[] }) (fun B hB=>⟨(hB.get id).queue,Nat.zero_le _,Nat.zero_le _,Nat.zero_le _,Nat.zero_le _,Nat.zero_le _⟩)
  exact ⟨_,rfl,(ht.fewer (c:=s.ac.filter fun c=>!(c.bE==id)) (l:=s.aU.filter fun c=>c.bE != id) (nr _ _) (nr _ _)).mono (by omega)⟩
theorem QF (s:aa) (hl:s.ah.length≤1000000) : ∃ l,nC s=some { s with ah:=l } ∧ l.Sublist s.ah:=by
 unfold nC
 dsimp only
 rw [pk s (false,[]) hl]
 obtain ⟨r,h1,h2⟩:=aV (g:=cI s) (fin:=fun b=>(b.1,b.2,(s.ah.length:Int))) (fun k b=>b.2.length≤k∧b.2.Sublist (s.ah.take k)) (fun r=>r.2.1.Sublist s.ah) s.ah 0 (false,[]) (fun j b x hx ⟨hb,hm⟩=>by
  have hj:=(zg.1 hx).1
  have hmono:∀ {l:List ak},l.Sublist (s.ah.take (0 + j))→l.Sublist (s.ah.take (0 + j + 1)):=fun hk=>hk.trans (List.take_sublist_take_left (by omega))
  unfold cI
  simp only [dn,dy,zb]
  split
  ·exact ⟨_,rfl,fun a' e=>(by injection e with e; subst e; exact ⟨by show b.2.length≤_; omega,hmono hm⟩),fun r e=>(by cases e)⟩
  ·rw [aF (by simp; omega)]
   refine ⟨_,rfl,fun a' e=>?_,fun r e=>(by cases e)⟩
   injection e with e
   subst e
   refine ⟨by simp; omega,?_⟩
   show (b.2 ++ [x]).Sublist _
   rw [List.take_add_one,show s.ah[0 + j]? = some x by rw [Nat.zero_add]; exact hx]
   exact hm.append (List.Sublist.refl _)) (fun b ⟨hb,hm⟩=>by simpa using hm) ⟨by simp,by simp⟩
 rw [h1]
 exact ⟨_,rfl,h2⟩
theorem OkS.apps {M:Nat} {s:aa} (h:OkS M s) {l:List ak} (hl:l.Sublist s.ah) : OkS M { s with ah:=l } := by
 obtain ⟨⟨B,h1,h2⟩,h3⟩:=h
 exact ⟨⟨B,⟨h1.conf,h1.nodes,Nat.le_trans hl.length_le h1.apps,h1.conts,h1.slots,h1.plans,fun x hx=>h1.app x (hl.subset hx)⟩,h2⟩,List.Pairwise.sublist hl h3⟩
theorem Ue {M:Nat} {s:aa} (h:OkS M s) (hM:M + 100≤100000) (a:ak) (hq:a.bD.size≤1000000∧a.fId < 9000) : ∃ r,kV s a=some r∧OkS (M + 10) r.1:=by
 have k1:=h.small
 have stay:OkS (M + 10) s:=h.mono (by omega)
 unfold kV
 simp only [Dm,orB,zb,dp s _ (show s.ah.length≤1000000 by omega),kR _ _ h.sz.conf.sz]
 split
 ·exact ⟨_,rfl,stay⟩
 split
 ·exact ⟨_,rfl,stay⟩
 rw [pm s 0 (by omega)]
 obtain ⟨r,hr,_⟩:=aV (g:=cX s) (fin:=fun b=>(b,(s.ah.length:Int))) (fun _ _=>True) (fun _=>True) s.ah 0 0 (fun j b x hx _=>by
  unfold cX
  simp only [dn,zb,tE]
  exact ⟨_,rfl,fun _ _=>trivial,fun _ _=>trivial⟩) (fun _ _=>trivial) trivial
 rw [hr]
 simp only [zb]
 split
 ·exact ⟨_,rfl,stay⟩
 split
 ·exact ⟨_,rfl,stay⟩
 obtain ⟨l,hl,hl1⟩:=QF s (by omega)
 have fin:∀ t:aa,OkS M t→∃ r,Option.bind (pY a) (fun c17=>Option.bind (eo t ⟨a.fId,1,a.bD,a.cD,a.bq,a.bb,c17,t.bZ,0,[],[],[],[]⟩) fun c18=>some (c18,(0:Int)))=some r∧OkS (M + 10) r.1:=by
  intro t ht
  have h5:=ht.small
  rw [ux]
  simp only [zb]
  rw [fL t _ (by omega)]
  exact ⟨_,rfl,(ht.put (k:=1) (a:=⟨a.fId,1,a.bD,a.cD,a.bq,a.bb,[⟨0,0,a.bb,1,-1,-1,0⟩],t.bZ,0,[],[],[],[]⟩) fun B hB=>⟨⟨hq.1,hB.nodes.2.2.1.1,hB.nodes.2.2.1.2,hq.2⟩,by simp,Nat.zero_le _,Nat.zero_le _,Nat.zero_le _,Nat.zero_le _⟩).mono (by omega)⟩
 split
 ·rw [hl]
  simp only [zb]
  exact fin { s with ah:=l } (h.apps hl1)
 ·exact fin s h
theorem OkS.noSlot {M:Nat} {s:aa} (h:OkS M s) (hM:M≤1000000) (n:Int) : ∃ r,fK s n=some r∧OkS M r:=by
 have k1:=h.small
 exact ⟨_,xx s n (by omega),h.fewer (c:=s.ac) (Nat.le_refl _) (nr _ _)⟩
theorem Zy {M:Nat} {s:aa} (h:OkS M s) (hM:M + 100≤100000) (n:Int) : ∃ r,Ah s n=some r∧OkS (M + 10) r.1:=by
 have k1:=h.small
 have stay:OkS (M + 10) s:=h.mono (by omega)
 unfold Ah
 simp only [orB,zb,kT]
 split
 ·exact ⟨_,rfl,stay⟩
 split
 ·exact ⟨_,rfl,stay⟩
 rename_i hq1 hq2
 have hq1 : 1≤n∧n≤100:=by
  have h9:(decide (n < 1)||decide (n > 100))=false:=by simpa using hq1
  simp at h9
  omega
 have hnow:=h.sz.nodes.2.2.1
 have hq2:i64.wrap (s.bZ + n)=s.bZ + n∧s.bZ + n≤1000000000:=by
  have e:i64.wrap (s.bZ + n)=s.bZ + n:=by rw [IntKind.wrap_i64]; omega
  have h9 : ¬ (i64.wrap (s.bZ + n) > 1000000000):=fun h=>hq2 (by simpa using h)
  exact ⟨e,by omega⟩
 have h1:=h.now (n:=i64.wrap (s.bZ + n)) (by rw [hq2.1]; omega)
 have hconts:({ s with bZ:=i64.wrap (s.bZ + n) } : aa).ac.length≤M:=h1.small.2.2.1
 generalize ({ s with bZ:=i64.wrap (s.bZ + n) } : aa)=t at h1
 have k2:=h1.small
 rw [LZ t (by omega)]
 simp only [zb]
 have hl:((t.aE.filter fun b=>b.fUp&&decide (i64.wrap (t.bZ - b.bQ)≥10)).map aZ.fId).length≤1000000:=by
  rw [List.length_map]
  exact Nat.le_trans (nr _ _) (by omega)
 generalize ((t.aE.filter fun b=>b.fUp&&decide (i64.wrap (t.bZ - b.bQ)≥10)).map aZ.fId)=l at hl
 rw [Af l t hl]
 obtain ⟨r,r1,r2⟩:=aV (g:=gv l) (fin:=fun b=>(b,(l.length:Int))) (fun _ b=>OkS M b) (fun r=>OkS M r.1) l 0 t (fun j b y hy hb=>by
  have k3:=hb.small
  unfold gv
  dsimp only
  rw [Rg b y (by omega)]
  simp only [zb]
  obtain ⟨c,c1,c2⟩:=(aak hb y).noSlot (by omega) y
  have k4:=c2.small
  obtain ⟨o,o1,o2⟩:=Xv c y (by omega)
  obtain ⟨z,z1,z2⟩:=c2.lose o (by omega) (by omega)
  simp only [c1,o1,z1,zb]
  exact ⟨_,rfl,fun a' e=>(by injection e with e; subst e; exact z2),fun r e=>(by cases e)⟩) (fun b hb=>hb) h1
 rw [r1]
 simp only [zb]
 have k5:=r2.small
 rw [xC r.1 (by omega)]
 simp only [zb]
 have hl2:((r.1.ah.filter fun b=>b.cC==2&&decide (i64.wrap (r.1.bZ - b.bQ)≥15)).map ak.fId).length≤1000000:=by
  rw [List.length_map]
  exact Nat.le_trans (nr _ _) (by omega)
 generalize ((r.1.ah.filter fun b=>b.cC==2&&decide (i64.wrap (r.1.bZ - b.bQ)≥15)).map ak.fId)=l2 at hl2
 rw [Ae l2 r.1 hl2]
 obtain ⟨q,q1,q2⟩:=aV (g:=gu l2) (fin:=fun b=>(b,(l2.length:Int))) (fun _ b=>OkS M b) (fun r=>OkS M r.1) l2 0 r.1 (fun j b y hy hb=>by
  have k3:=hb.small
  unfold gu
  dsimp only
  obtain ⟨c,c1⟩:=aaA b y (by omega)
  obtain ⟨z,z1,z2⟩:=hb.lose [c] (by simp) (by omega)
  simp only [c1,z1,zb]
  exact ⟨_,rfl,fun a' e=>(by injection e with e; subst e; exact z2),fun r e=>(by cases e)⟩) (fun b hb=>hb) r2
 rw [q1]
 simp only [zb]
 have k6:=q2.small
 rw [Ad q.1 [] (by omega)]
 obtain ⟨p,p1,p2⟩:=aV (g:=gr q.1) (fin:=fun b=>(b,(q.1.bl.length:Int))) (fun k b=>b.length≤k) (fun r=>r.1.length≤q.1.bl.length) q.1.bl 0 [] (fun j b y hy hb=>by
  have hj:=(zg.1 hy).1
  unfold gr
  dsimp only
  split
  ·rw [aF (by simp; omega)]
   exact ⟨_,rfl,fun a' e=>(by injection e with e; subst e; simp; omega),fun r e=>(by cases e)⟩
  ·exact ⟨_,rfl,fun a' e=>(by injection e with e; subst e; omega),fun r e=>(by cases e)⟩) (fun b hb=>(by simpa using hb)) (by simp)
 rw [p1]
 simp only [zb]
 obtain ⟨z,z1,z2,z3⟩:=Mf (q2.plans p2) (by omega)
 have k7:=z2.small
 simp only [z1,zb]
 rw [Dc s z.1 (by omega) (by omega)]
 exact ⟨_,rfl,z2.mono (by omega)⟩
theorem abG {M:Nat} {s:aa} (h:OkS M s) (hM:M + 100≤100000) (p:a8) (n:Int) : ∃ r,AC s p n=some r∧OkS (M + 10) r.1:=by
 obtain ⟨⟨B,h1,h2⟩,h3⟩:=h
 obtain ⟨r,r1,r2,r3,r4⟩:=Sd h1 (by omega) p n
 exact ⟨r,r1,⟨B + 1,r2,by rw [r3]; omega⟩,by rw [r4]; exact h3⟩
theorem aaj {M:Nat} {s:aa} (h:OkS M s) (hM:M + 100≤100000) (id:Int) : ∃ r,vR s id=some r∧OkS (M + 10) r.1:=by
 obtain ⟨⟨B,h1,h2⟩,h3⟩:=h
 obtain ⟨r,r1,r2,r3,r4⟩:=Pc h1 (by omega) id
 exact ⟨r,r1,⟨B,r2,by rw [r3]; omega⟩,by rw [r4]; exact h3⟩
structure InP (x:aK) : Prop where
 ids:x.gf.length≤1000000
 asks:x.bL.length≤1000000
 queue:x.bE.bD.size≤1000000∧x.bE.fId < 9000
theorem oN {α : Type} {c:Prop} [Decidable c] {a b:Option α} {Q : α→Prop} (h1:∃ r,a=some r∧Q r) (h2:∃ r,b=some r∧Q r) : ∃ r,(if c then a else b)=some r∧Q r:=by
 by_cases h:c
 ·rw [if_pos h]; exact h1
 ·rw [if_neg h]; exact h2
theorem T4 {M:Nat} {s:aa} (h:OkS M s) (hM:M + 100≤100000) {x:aK} (hx:InP x) : ∃ r,tm s x=some r∧OkS (M + 40) r.1:=by
 have k1:=h.small
 have up:∀ {o:Option (aa×bz)},(∃ r,o=some r∧OkS (M + 10) r.1)→∃ r,(Option.bind o fun c=>some c)=some r∧OkS (M + 40) r.1:=fun ⟨r,e,hr⟩=>by
  rw [e]
  exact ⟨r,rfl,hr.mono (by omega)⟩
 unfold tm
 refine oN ?_ ?_
 ·obtain ⟨r,r1,r2⟩:=Vn h (by omega) x.NV
  exact up ⟨r,r1,r2.mono (by omega)⟩
 refine oN ?_ ?_
 ·rw [G6 s _ (by omega)]
  exact ⟨_,rfl,(abg h x.bM).mono (by omega)⟩
 refine oN ?_ ?_
 ·obtain ⟨r,r1,r2⟩:=Nm h (by omega) x hx.ids
  rw [r1]
  exact ⟨_,rfl,r2⟩
 refine oN ?_ ?_
 ·obtain ⟨r,r1,r2⟩:=Ue h hM x.bE hx.queue
  rw [r1]
  exact ⟨_,rfl,r2.mono (by omega)⟩
 refine oN ?_ ?_
 ·exact up (UI h hM x hx.ids hx.asks)
 refine oN ?_ ?_
 ·exact up (Yj h hM x.fId 3)
 refine oN ?_ ?_
 ·exact up (Yj h hM x.fId 4)
 refine oN ?_ ?_
 ·exact up (Zy h hM x.fN)
 refine oN ?_ ?_
 ·obtain ⟨r,r1,r2⟩:=abG h hM x.ql x.fN
  rw [r1]
  exact ⟨_,rfl,r2.mono (by omega)⟩
 refine oN ?_ ?_
 ·obtain ⟨r,r1,r2⟩:=aaj h hM x.fId
  rw [r1]
  exact ⟨_,rfl,r2.mono (by omega)⟩
 refine oN ?_ ?_
 ·refine oN ?_ ?_
  ·exact ⟨_,rfl,h.mono (by omega)⟩
  ·exact ⟨_,rfl,(h.epoch (i64.wrap (s.qm + 1)) 0).mono (by omega)⟩
 ·exact ⟨_,rfl,h.mono (by omega)⟩
def BF:aa:=⟨⟨[⟨#[]⟩],[⟨⟨#[114,111,111,116]⟩,[⟨10000,10000⟩],10000⟩]⟩,[],[],[],[],[],0,0,0⟩
theorem Hk:An=some BF:=rfl
theorem ZF:zR ⟨#[114,111,111,116]⟩=some [⟨#[114,111,111,116]⟩]:=by kernel_rfl
theorem K0:OkS 1 BF:=by
 refine ⟨⟨0,⟨⟨⟨by decide,by decide,?_,?_⟩,?_,?_,⟨by decide,?_⟩,by decide,?_,?_⟩,⟨by decide,List.Pairwise.nil,by decide,fun n hn=>by cases hn⟩,by decide,by decide,by decide,by decide,?_⟩,by decide⟩,List.Pairwise.nil⟩
 ·intro q hq; simp only [BF,List.mem_singleton] at hq; subst hq; decide
 ·intro q hq; simp only [BF,List.mem_singleton] at hq; subst hq; decide
 ·intro q hq; simp only [BF,List.mem_singleton] at hq; subst hq; rfl
 ·intro q hq r hr x hx
  simp only [BF,List.mem_singleton] at hq
  subst hq
  rw [ZF] at hr
  injection hr with hr
  subst hr
  simp only [List.mem_singleton] at hx
  subst hx
  exact Ek (c:=BF.bB) (q:=⟨⟨#[114,111,111,116]⟩,[⟨10000,10000⟩],10000⟩) (by simp [BF])
 ·intro q hq; simp only [BF,List.mem_singleton] at hq; subst hq; show dG 6 _≤4; rw [show dG 6 ⟨#[114,111,111,116]⟩=1 by kernel_rfl]; decide
 ·exact ⟨⟨⟨#[114,111,111,116]⟩,[⟨10000,10000⟩],10000⟩,by simp [BF],by kernel_rfl⟩
 ·intro x hx; simp only [BF,List.mem_singleton] at hx; subst hx; decide
 ·intro a ha; cases ha
def di (v_c:ax) (st:(List ByteArray)) (x_:av) : Option (((List ByteArray))⊕(((List ByteArray)×Int))) :=
 let v_l:=st
 (iY v_c x_.aB).bind fun c5=>if c5=true then
 (aP v_l [x_.aB]).bind fun b6=>let v_l:(List ByteArray):=b6
 some (.inl v_l)
 else
 some (.inl v_l)
theorem rl (v_c:ax) (a_:(List ByteArray)) (hl:v_c.ae.length≤1000000) : ai (kF v_c) ab (a_,(0))=bh (di v_c) (fun a_=>(a_,((v_c.ae.length:Int)))) a_ v_c.ae :=
 ay v_c.ae (S:=(List ByteArray)×Int) (fun a_ k_=>(a_,(k_))) (di v_c) (fun a_=>(a_,((v_c.ae.length:Int)))) (an hl) (fun k a x hx=>by
  unfold kF di; exact bN)
  (fun a=>by unfold kF; exact cL) a_
def dz (v_s:aa) (v_p:ak) (v_a:aQ) (st:aK) (v_i:Int) (x_:ao) : Option ((aK)⊕((aK×Int))) :=
 let v_x:=st
 (if (x_.bE==v_p.fId)=true then (bm (i64.wrap (v_a.fD + v_i)) 11).bind fun c23=>some (c23==10) else some false).bind fun q24=>if q24=true then
 (aP v_x.gf [x_.fId]).bind fun b25=>let v_x:aK:={ v_x with gf:=b25 }
 some (.inl v_x)
 else
 some (.inl v_x)
theorem uz (v_s:aa) (v_p:ak) (v_a:aQ) (a_:aK) (hl:v_s.ac.length≤1000000) : ai (fV v_s v_p v_a) ab (a_,(0))=oe (dz v_s v_p v_a) (fun a_=>(a_,((v_s.ac.length:Int)))) a_ 0 v_s.ac :=
 fo v_s.ac (S:=aK×Int) (fun a_ k_=>(a_,(k_))) (dz v_s v_p v_a) (fun a_=>(a_,((v_s.ac.length:Int)))) (an hl) (fun k a x hx=>by
  unfold fV dz; exact bN)
  (fun a=>by unfold fV; exact cL) a_
def dM (v_s:aa) (v_a:aQ) (bJ:Int) (st:aK) (x_:aZ) : Option ((aK)⊕((aK×Int))) :=
 let v_x:=st
 if (x_.fId==bJ)=true then
 (bm v_a.fB 8).bind fun c17=>let v_x:aK:={ v_x with ci:=(i64.wrap ((i64.wrap (x_.ci + 1)) - (i64.wrap (Int.tdiv c17 6)))) }
 some (.inl v_x)
 else
 some (.inl v_x)
theorem uQ (v_s:aa) (v_a:aQ) (bJ:Int) (a_:aK) (hl:v_s.aE.length≤1000000) : ai (hJ v_s v_a bJ) ab (a_,(0))=bh (dM v_s v_a bJ) (fun a_=>(a_,((v_s.aE.length:Int)))) a_ v_s.aE :=
 ay v_s.aE (S:=aK×Int) (fun a_ k_=>(a_,(k_))) (dM v_s v_a bJ) (fun a_=>(a_,((v_s.aE.length:Int)))) (an hl) (fun k a x hx=>by
  unfold hJ dM; exact bN)
  (fun a=>by unfold hJ; exact cL) a_
def dL (v_s:aa) (bJ:Int) (v_a:aQ) (st:aK) (aI:Int) (x_:ao) : Option ((aK)⊕((aK×Int))) :=
 let v_x:=st
 (if (x_.bM==bJ)=true then (bm (i64.wrap (v_a.fC + aI)) 9).bind fun c23=>some (c23==8) else some false).bind fun q24=>if q24=true then
 (aP v_x.gf [x_.fId]).bind fun b25=>let v_x:aK:={ v_x with gf:=b25 }
 some (.inl v_x)
 else
 some (.inl v_x)
theorem uP (v_s:aa) (bJ:Int) (v_a:aQ) (a_:aK) (hl:v_s.ac.length≤1000000) : ai (hH v_s bJ v_a) ab (a_,(0))=oe (dL v_s bJ v_a) (fun a_=>(a_,((v_s.ac.length:Int)))) a_ 0 v_s.ac :=
 fo v_s.ac (S:=aK×Int) (fun a_ k_=>(a_,(k_))) (dL v_s bJ v_a) (fun a_=>(a_,((v_s.ac.length:Int)))) (an hl) (fun k a x hx=>by
  unfold hH dL; exact bN)
  (fun a=>by unfold hH; exact cL) a_
def dc (v_x:aA) (st:aa) (x_:aQ) : Option ((aa)⊕((aa×Int))) :=
 let v_s:=st
 (hZ x_ v_s).bind fun c9=>(tm v_s c9).bind fun c10=>let v_s:aa:=c10.1
 some (.inl v_s)
theorem sq (v_x:aA) (a_:aa) (hl:v_x.jV.length≤1000000) : ai (eW v_x) ab (a_,(0))=bh (dc v_x) (fun a_=>(a_,((v_x.jV.length:Int)))) a_ v_x.jV :=
 ay v_x.jV (S:=aa×Int) (fun a_ k_=>(a_,(k_))) (dc v_x) (fun a_=>(a_,((v_x.jV.length:Int)))) (an hl) (fun k a x hx=>by
  unfold eW dc; exact bN)
  (fun a=>by unfold eW; exact cL) a_
theorem aW (a:Int) {n:Int} (h0 : 0 < n) (h1:n≤1000000000) : Ok (bm a n) (fun k=>0≤k∧k < n):=by
 unfold bm Du
 rw [if_neg (by omega)]
 have h:=D8 (a:=a) h0
 simp only [zb]
 refine Ok.bind (P:=fun k=>0≤k∧k < n) (Ok.ite (fun hc=>?_) fun hc=>?_) fun r hr=>Ok.pure hr
 ·have:=zd hc
  refine Ok.pure ?_
  rw [IntKind.wrap_i64]; omega
 ·have:=of_decide_eq_false (by simpa using hc:decide (a.tmod n < 0)=false)
  exact Ok.pure (by omega)
theorem yM (n:Int) : Ok (wW n) (fun _=>True):=by
 unfold wW
 exact Ok.bind (aW _ (by omega) (by omega)) fun k hk=>Ok.bind (iW hk.1 hk.2) fun b _=>Ok.pure trivial
theorem Be {c:ax} (h:wi c) : Ok (lg c) (fun l=>0 < l.length∧l.length≤1000∧∀ x∈l,x.size≤1000000):=by
 have hq:=h.sz.queues
 unfold lg
 dsimp only
 have e:di c=fun acc x=>if jf c x.aB=true then (aP acc [x.aB]).map (fun a=>(.inl a:List ByteArray⊕(List ByteArray×Int))) else some (.inl acc):=by
  funext acc x
  unfold di
  simp only [kR _ _ h.sz,zb]
  split
  ·cases aP acc [x.aB] <;> rfl
  ·rfl
 rw [rl c [] (by omega),e,bV (fun q:av=>jf c q.aB) av.aB _ c.ae [] (by simp; omega)]
 simp only [zb,List.nil_append]
 refine Ok.pure ⟨?_,?_,fun x hx=>?_⟩
 ·obtain ⟨q,hq,hl⟩:=h.leaf
  rw [List.length_map]
  exact List.length_pos_of_mem (List.mem_filter.2 ⟨hq,hl⟩)
 ·rw [List.length_map]
  exact Nat.le_trans (List.length_filter_le _ _) hq
 ·obtain ⟨q,hq,rfl⟩:=List.mem_map.1 hx
  exact h.sz.paths q (List.mem_filter.1 hq).1
theorem Mw {M:Nat} {s:aa} (h:OkS M s) (hM:M≤100000) (a:aQ) : Ok (ob a s) InP:=by
 have k1:=h.small
 have hlab:=h.sz.conf.lab1
 have hlab2:=h.sz.conf.sz.labels
 unfold ob
 dsimp only
 refine Ok.ite (fun _=>Ok.pure ⟨by simp,by simp,by decide⟩) fun hc=>?_
 have hn:(s.ah.length:Int)≠0:=fun e=>hc (by rw [e]; rfl)
 refine Ok.bind (aW _ (by omega) (by omega)) fun w hw=>Ok.bind (iW hw.1 hw.2) fun p _=>Ok.bind (aW _ (by omega) (by omega)) fun u _=>?_
 refine Ok.bind (P:=fun x:aK=>x.gf = []∧x.bL.length≤1∧(x.bE.bD.size=0∧x.bE.fId=0)) (Ok.ite (fun _=>?_) fun _=>Ok.pure ⟨rfl,by simp,rfl,rfl⟩) fun x ⟨x1,x2,x3⟩=>?_
 ·refine Ok.bind (aW _ (by omega) (by omega)) fun c7 _=>Ok.bind (aW _ (by omega) (by omega)) fun c8 _=>Ok.bind (yM _) fun c9 _=>Ok.bind (aW _ (by omega) (by omega)) fun c10 _=>?_
  refine Ok.bind (P:=fun j:aM×aK=>j.2.gf = []∧(j.2.bE.bD.size=0∧j.2.bE.fId=0)) (Ok.ite (fun _=>Ok.bind (aW _ (by omega) (by omega)) fun _ _=>Ok.pure ⟨rfl,rfl,rfl⟩) fun _=>Ok.pure ⟨rfl,rfl,rfl⟩) fun j1 ⟨j2,j3⟩=>?_
  refine Ok.bind (P:=fun j:aM×aK=>j.2.gf = []∧(j.2.bE.bD.size=0∧j.2.bE.fId=0)) (Ok.ite (fun _=>Ok.bind (aW _ (by omega) (by omega)) fun _ _=>Ok.bind (aW _ (by omega) (by omega)) fun _ _=>Ok.pure ⟨j2,j3⟩) fun _=>Ok.pure ⟨j2,j3⟩) fun j4 ⟨j5,j6⟩=>Ok.pure ⟨j5,by simp,j6⟩
 ·rw [uz s p a x (by omega)]
  refine Ok.bind (uZ (g:=dz s p a) (fin:=fun a_=>(a_,((s.ac.length:Int)))) (fun k b=>b.gf.length≤k∧b.bL.length≤1∧(b.bE.bD.size=0∧b.bE.fId=0)) s.ac x (fun j b y hy ⟨b1,b2,b3⟩=>?_) ⟨by rw [x1]; simp,x2,x3⟩) fun r ⟨q,e,q1,q2,q3⟩=>?_
  ·have hj:=(zg.1 hy).1
   unfold dz
   dsimp only
   refine Ok.bind (P:=fun _=>True) (Ok.ite (fun _=>Ok.bind (aW _ (by omega) (by omega)) fun _ _=>Ok.pure trivial) fun _=>Ok.pure trivial) fun t _=>Ok.ite (fun _=>?_) fun _=>Ok.pure ⟨_,rfl,by omega,b2,b3⟩
   rw [aF (by simp; omega)]
   exact Ok.pure ⟨_,rfl,by simp; omega,b2,b3⟩
  ·subst e
   exact Ok.pure ⟨by dsimp only; omega,by dsimp only; omega,by dsimp only; omega⟩
theorem Pz {M:Nat} {s:aa} (h:OkS M s) (hM:M≤100000) (a:aQ) : Ok (hZ a s) InP:=by
 have k1:=h.small
 have hlab:=h.sz.conf.lab1
 have hlab2:=h.sz.conf.sz.labels
 have orOk:∀ {c:Prop} [Decidable c] {d:Bool},Ok (if c then some true else some d) (fun _=>True):=fun {c} _ {d} => Ok.ite (fun _=>Ok.pure trivial) fun _=>Ok.pure trivial
 have hx0:∀ k id b n t nd ap pl,ap.bD.size≤1000000∧ap.fId < 9000→InP (⟨k,id,b,n,t,nd,ap,[],[],pl⟩ : aK):=fun k id b n t nd ap pl hq=>⟨by simp,by simp,hq⟩
 unfold hZ
 dsimp only
 refine Ok.bind (aW _ (by omega) (by omega)) fun c1 _=>Ok.bind (Be h.sz.conf) fun lv ⟨l1,l2,l3⟩=>Ok.bind (aW _ (by omega) (by omega)) fun c5 _=>Ok.bind (aW _ (by omega) (by omega)) fun c6 _=>Ok.bind orOk fun q7 _=>?_
 refine Ok.bind (P:=InP) (Ok.ite (fun _=>?_) fun _=>?_) fun r hr=>Ok.pure hr
 ·exact Ok.bind (aW _ (by omega) (by omega)) fun _ _=>Ok.bind (aW _ (by omega) (by omega)) fun _ _=>Ok.bind (aW _ (by omega) (by omega)) fun _ _=>Ok.bind (aW _ (by omega) (by omega)) fun _ _=>Ok.pure (hx0 _ _ _ _ _ _ _ _ (by decide))
 refine Ok.bind (P:=fun _=>True) (Ok.ite (fun _=>Ok.pure trivial) fun _=>Ok.ite (fun _=>Ok.pure trivial) fun _=>orOk) fun q13 _=>Ok.ite (fun _=>?_) fun _=>?_
 ·rw [uQ s a c1 _ (by omega)]
  refine Ok.bind (EX (g:=dM s a c1) (fin:=fun a_=>(a_,((s.aE.length:Int)))) (fun k b=>b.gf = []∧b.bL = []∧(b.bE.bD.size=0∧b.bE.fId=0)) s.aE _ (fun j b y hy ⟨b1,b2,b3⟩=>?_) ⟨rfl,rfl,rfl,rfl⟩) fun r ⟨q,e,q1,q2,q3⟩=>?_
  ·unfold dM
   dsimp only
   exact Ok.ite (fun _=>Ok.bind (aW _ (by omega) (by omega)) fun _ _=>Ok.pure ⟨_,rfl,b1,b2,b3⟩) fun _=>Ok.pure ⟨_,rfl,b1,b2,b3⟩
  subst e
  dsimp only
  rw [uP s c1 a q (by omega)]
  refine Ok.bind (uZ (g:=dL s c1 a) (fin:=fun a_=>(a_,((s.ac.length:Int)))) (fun k b=>b.gf.length≤k∧b.bL = []∧(b.bE.bD.size=0∧b.bE.fId=0)) s.ac q (fun j b y hy ⟨b1,b2,b3⟩=>?_) ⟨by rw [q1]; simp,q2,q3⟩) fun r ⟨q,e,q1,q2,q3⟩=>?_
  ·have hj:=(zg.1 hy).1
   unfold dL
   dsimp only
   refine Ok.bind (P:=fun _=>True) (Ok.ite (fun _=>Ok.bind (aW _ (by omega) (by omega)) fun _ _=>Ok.pure trivial) fun _=>Ok.pure trivial) fun t _=>Ok.ite (fun _=>?_) fun _=>Ok.pure ⟨_,rfl,by omega,b2,b3⟩
   rw [aF (by simp; omega)]
   exact Ok.pure ⟨_,rfl,by simp; omega,b2,b3⟩
  ·subst e
   exact Ok.pure ⟨by dsimp only; omega,by dsimp only; rw [q2]; simp,by dsimp only; omega⟩
 refine Ok.bind orOk fun q24 _=>Ok.ite (fun _=>?_) fun _=>?_
 ·exact Ok.bind (aW _ (by omega) (by omega)) fun _ hi0=>Ok.bind (aW _ (by omega) (by omega)) fun w hw=>Ok.bind (iW hw.1 hw.2) fun b hb=>Ok.bind (aW _ (by omega) (by omega)) fun _ _=>Ok.bind (aW _ (by omega) (by omega)) fun _ _=>Ok.bind (yM _) fun _ _=>Ok.pure (hx0 _ _ _ _ _ _ _ _ ⟨l3 b hb,Int.lt_of_lt_of_le hi0.2 (by decide)⟩)
 refine Ok.bind (P:=fun _=>True) (Ok.ite (fun _=>Ok.pure trivial) fun _=>orOk) fun q31 _=>Ok.ite (fun _=>?_) fun _=>?_
 ·exact Ok.bind (Mw h hM a) fun x hx=>Ok.pure hx
 refine Ok.ite (fun _=>?_) fun _=>?_
 ·exact Ok.bind (aW _ (by omega) (by omega)) fun w hw=>Ok.bind (iW hw.1 hw.2) fun _ _=>Ok.bind (aW _ (by omega) (by omega)) fun _ _=>Ok.pure (hx0 _ _ _ _ _ _ _ _ (by decide))
 refine Ok.bind orOk fun q36 _=>Ok.ite (fun _=>?_) fun _=>?_
 ·exact Ok.bind (aW _ (by omega) (by omega)) fun _ _=>Ok.pure (hx0 _ _ _ _ _ _ _ _ (by decide))
 refine Ok.ite (fun _=>?_) fun _=>?_
 ·exact Ok.bind (aW _ (by omega) (by omega)) fun w hw=>Ok.bind (iW hw.1 hw.2) fun _ _=>Ok.bind (aW _ (by omega) (by omega)) fun _ _=>Ok.bind (aW _ (by omega) (by omega)) fun _ _=>Ok.bind (yM _) fun _ _=>Ok.bind (aW _ (by omega) (by omega)) fun _ _=>Ok.pure (hx0 _ _ _ _ _ _ _ _ (by decide))
 refine Ok.ite (fun _=>?_) fun _=>?_
 ·refine Ok.bind (aW _ (by omega) (by omega)) fun w hw=>Ok.bind (iW hw.1 hw.2) fun _ _=>Ok.bind (Ib _ _) fun c hc=>?_
  obtain ⟨t,ht⟩:=Hf hc
  exact Ok.bind (P:=fun _=>True) ⟨t,ht,trivial⟩ fun _ _=>Ok.pure (hx0 _ _ _ _ _ _ _ _ (by decide))
 ·exact Ok.pure (hx0 _ _ _ _ _ _ _ _ (by decide))
theorem G2 (x:aA) (hx:x.jV.length≤80) : Ok (cV x) (OkS 10000):=by
 unfold cV
 rw [Hk]
 simp only [zb]
 refine Ok.bind (Ib _ _) fun c hc=>?_
 obtain ⟨t,ht⟩:=Hf hc
 refine Ok.bind (P:=fun _=>True) ⟨t,ht,trivial⟩ fun t _=>Ok.bind (P:=fun r:aa×bz=>OkS 41 r.1) (T4 (M:=1) (x:=⟨1,0,0,0,t,aZ.zero,ak.zero,[],[],a8.zero⟩) K0 (by omega) ⟨by simp,by simp,Nat.zero_le _,show (0:Int) < 9000 by decide⟩) fun r hr=>?_
 refine Ok.bind (P:=OkS 41) (Ok.ite (fun _=>Ok.pure hr) fun _=>Ok.pure (K0.mono (by omega))) fun s hs=>?_
 rw [sq x s (by omega)]
 refine Ok.bind (EX (g:=dc x) (fin:=fun a_=>(a_,((x.jV.length:Int)))) (fun k b=>OkS (41 + 40 * k) b) x.jV s (fun j b y hy hb=>?_) hs) fun r ⟨q,e,hq⟩=>?_
 ·have hj:=(zg.1 hy).1
  unfold dc
  dsimp only
  exact Ok.bind (Pz hb (by omega) y) fun i hi=>Ok.bind (T4 hb (by omega) hi) fun r hr=>Ok.pure ⟨_,rfl,hr.mono (by omega)⟩
 ·subst e
  exact Ok.pure (hq.mono (by omega))
noncomputable def CQ (a:ak) : Option Bool:=so (a,())
theorem Z2 (a:ak) : CQ a=Option.bind (if (a.cC==1)=true then some true else some (a.cC==2)) fun q=>some q:=by kernel_rfl
theorem FA (a:ak) : CQ a=some (dg a):=by
 rw [Z2]
 unfold dg
 cases a.cC==1 <;> rfl
noncomputable def El (l:List ak) (id:Int) : Option Int:=rc (l,(id,()))
theorem wy (l:List ak) (id:Int) : El l id=Option.bind (UU (fun x:ak=>x.fId==id) l) fun r=>some r:=by kernel_rfl
noncomputable def QH (s:aa) (id:Int) : Option (ak×Bool):=sp (s,(id,()))
theorem Yf (s:aa) (id:Int) : QH s id=Option.bind (El s.ah id) fun r=>if decide (r < 0)=true then some (⟨0,0,⟨#[]⟩,0,0,⟨0,0⟩,[],0,0,[],[],[],[]⟩,false) else Option.bind (ar s.ah r) fun x=>Option.bind (yk x) fun y=>some (y,true):=by kernel_rfl
theorem FY {s:aa} {id:Int} {i:Nat} (h:i < s.ah.length) (h2:(s.ah[i].fId==id)=true) (h3:∀ j (hj:j < i),(s.ah[j].fId==id)=false) : bU s id=s.ah[i]∧xr s id=true:=by
 have hf:s.ah.find? (fun c=>c.fId==id)=some s.ah[i]:=by
  rw [List.find?_eq_some_iff_getElem]
  exact ⟨h2,i,h,rfl,fun j hj=>by rw [h3 j hj]; rfl⟩
 unfold bU xr
 rw [hf]
 exact ⟨rfl,List.any_eq_true.2 ⟨_,List.getElem_mem h,h2⟩⟩
theorem FX {s:aa} {id:Int} (h:∀ x∈s.ah,(x.fId==id)=false) : bU s id=ak.zero∧xr s id=false:=by
 have hf:s.ah.find? (fun c=>c.fId==id)=none:=by
  rw [List.find?_eq_none]
  intro x hx
  simp [h x hx]
 unfold bU xr
 rw [hf]
 refine ⟨rfl,?_⟩
 rw [List.any_eq_false]
 intro x hx
 simp [h x hx]
theorem U7 {s:aa} (id:Int) (hl:s.ah.length≤1000000) (h:∀ a∈s.ah,SzL a) : QH s id=some (bU s id,xr s id):=by
 rw [Yf,wy]
 rcases wA (fun x:ak=>x.fId==id) s.ah hl with ⟨i,hi,g1,g2,g3⟩ | ⟨g1,g2⟩
 ·rw [g1,(FY hi g2 g3).1,(FY hi g2 g3).2]
  have d:decide ((i:Int) < 0)=false:=by simp
  simp only [zb,d,zf,if_false,aD (zq hi),wB (h _ (List.getElem_mem hi))]
 ·rw [g1,(FX g2).1,(FX g2).2]
  rfl
noncomputable def FO (l:List ak) (a:ak) : Option (List ak):=o8 (l,(a,()))
theorem Qt (l:List ak) (a:ak) : FO l a=Option.bind (ai (fun st:Int=>Option.bind (if decide (st < (l.length:Int))=true then Option.bind (ar l st) fun x=>some (decide (x.fId < a.fId)) else some false) fun q=>if q=true then some (.inl (i64.wrap (st + 1))) else some (.inr st)) ab 0) fun k =>
  Option.bind (mkO (⟨0,0,⟨#[]⟩,0,0,⟨0,0⟩,[],0,0,[],[],[],[]⟩ : ak) (i64.wrap ((l.length:Int) + 1))) fun xs=>Option.bind (hiO l k) fun lo=>Option.bind (sZ xs 0 xs.length lo) fun zs=>Option.bind (ar zs k) fun _=>Option.bind (vwO (zs.set k.toNat a).length (i64.wrap (k + 1)) ((zs.set k.toNat a).length:Int)) fun _=>Option.bind (loO l k) fun hi=>Option.bind (sZ (zs.set k.toNat a) (i64.wrap (k + 1)).toNat (((zs.set k.toNat a).length:Int)).toNat hi) fun r=>some r:=by kernel_rfl
theorem ND {l:List ak} {a:ak} (hl:l.length≤900000) (h:∀ x∈l,x.fId≠a.fId) : FO l a=some (cE ak.fId l a):=by
 rw [Qt,tR l (fun x=>decide (x.fId < a.fId)) (an (by omega)) (fun k x hx=>by
  have hk:=(zg.1 hx).1
  simp only [bG hx,if_true,aD hx,zb,aR hk (show l.length≤1000000 by omega)]) (by simp only [bv,zf,if_false,zb])]
 simp only [zb]
 rw [aaR l _ a _ (lA _ _) hl,E7 ak.fId l a h]
noncomputable def Xi (s:aa) (a:ak) : Option aa:=uy (s,(a,()))
theorem ZN (s:aa) (a:ak) : Xi s a=Option.bind (Lb s) fun r=>Option.bind (El r.2.ah a.fId) fun i=>if decide (i≥0)=true then Option.bind (yk a) fun b=>Option.bind (ar r.2.ah i) fun _=>some { r.2 with ah:=r.2.ah.set i.toNat b } else Option.bind (yk a) fun b=>Option.bind (FO r.2.ah b) fun l=>some { r.2 with ah:=l } := by kernel_rfl
theorem Xh {s:aa} {a:ak} (h:lS s) (hl:s.ah.length≤900000) (hs:jZ ak.fId s.ah) (ha:SzL a) : Xi s a=some { s with ah:=cE ak.fId s.ah a } := by
 rw [ZN,Jx h]
 simp only [zb]
 rw [wy,wB ha]
 rcases wA (fun x:ak=>x.fId==a.fId) s.ah h.apps with ⟨i,hi,g1,g2,g3⟩ | ⟨g1,g2⟩
 ·rw [g1]
  have d:decide ((i:Int)≥0)=true:=by simp
  simp only [zb,d,if_true,aD (zq hi),zt]
  rw [PX ak.fId s.ah hs i hi a (by simpa using g2)]
 ·rw [g1]
  have d:decide ((-1:Int)≥0)=false:=by decide
  simp only [zb,d,zf,if_false]
  rw [ND hl (fun x hx=>by simpa using g2 x hx)]
  rfl
noncomputable def Ef (a b:Int) : Option Int:=o7 (a,(b,()))
theorem UD (a b:Int) : Ef a b=if decide (b < a)=true then some 0 else some (IntKind.u64.wrap (IntKind.u64.wrap b - IntKind.u64.wrap a)):=by kernel_rfl
noncomputable def EU (s:aa) : Option (List Int):=pd (s,())
theorem PU (s:aa) : EU s=Option.bind (ai (fun st:List Int×Int=>if decide (st.2 < (s.ah.length:Int))=true then Option.bind (ar s.ah st.2) fun x=>Option.bind (if (x.cC==2)=true then Option.bind (Ef x.bQ s.bZ) fun r=>some (decide (r≥15)) else some false) fun q=>if q=true then Option.bind (aP st.1 [x.fId]) fun zs=>some (.inl (zs,i64.wrap (st.2 + 1))) else some (.inl (st.1,i64.wrap (st.2 + 1))) else some (.inr (st.1,st.2))) ab (([] : List Int),(0:Int))) fun st=>some st.1:=by kernel_rfl
def Jm (s:aa) (b:ak) : Bool:=b.cC==2&&decide (i64.wrap (s.bZ - b.bQ)≥15)
theorem XO {s:aa} (hs : 0≤s.bZ∧s.bZ≤2000000000) {x:ak} (hx : 0≤x.bQ∧x.bQ≤1000000000) : (if (x.cC==2)=true then Option.bind (Ef x.bQ s.bZ) fun r=>some (decide (r≥15)) else some false)=some (Jm s x):=by
 unfold Jm
 cases x.cC==2 with
 | false=>rfl
 | true =>
  have e1:i64.wrap (s.bZ - x.bQ)=s.bZ - x.bQ:=by rw [IntKind.wrap_i64]; omega
  simp only [if_true,Bool.true_and,e1,UD]
  rcases Int.lt_or_le s.bZ x.bQ with h | h
  ·have d1:decide (s.bZ < x.bQ)=true:=by simpa using h
   have d2:decide (s.bZ - x.bQ≥15)=false:=by simp; omega
   rw [d1,d2]
   rfl
  ·have d1:decide (s.bZ < x.bQ)=false:=by simp; omega
   have e2:IntKind.u64.wrap (IntKind.u64.wrap s.bZ - IntKind.u64.wrap x.bQ)=s.bZ - x.bQ:=by
    rw [IntKind.wrap_u64,IntKind.wrap_u64,IntKind.wrap_u64]; omega
   rw [d1]
   simp only [zf,if_false,zb,e2]
theorem MW {s:aa} (hl:s.ah.length≤1000000) (hs : 0≤s.bZ∧s.bZ≤2000000000) (hx:∀ x∈s.ah,0≤x.bQ∧x.bQ≤1000000000) : EU s=some ((s.ah.filter (Jm s)).map ak.fId):=by
 rw [PU]
 have h:=ay s.ah (S:=List Int×Int) (τ:=List Int×Int) (f:=fun st:List Int×Int=>if decide (st.2 < (s.ah.length:Int))=true then Option.bind (ar s.ah st.2) fun x=>Option.bind (if (x.cC==2)=true then Option.bind (Ef x.bQ s.bZ) fun r=>some (decide (r≥15)) else some false) fun q=>if q=true then Option.bind (aP st.1 [x.fId]) fun zs=>some (.inl (zs,i64.wrap (st.2 + 1))) else some (.inl (st.1,i64.wrap (st.2 + 1))) else some (.inr (st.1,st.2))) (fun a k=>(a,k)) (fun acc x=>if Jm s x=true then (aP acc [x.fId]).map (fun a=>(.inl a:List Int⊕(List Int×Int))) else some (.inl acc)) (fun a=>(a,(s.ah.length:Int))) (an hl) (fun k a x hk0=>by
  have hk:=(zg.1 hk0).1
  simp only [bG hk0,if_true,aD hk0,zb,aR hk hl,XO hs (hx x (List.mem_of_getElem? hk0))]
  split
  ·cases aP a [x.fId] <;> rfl
  ·rfl) (fun a=>by simp only [bv,zf,if_false]) ([] : List Int)
 rw [show (([] : List Int),(0:Int))=(fun (a_:List Int) (k_:Int)=>(a_,k_)) [] 0 from rfl,h,bV (Jm s) ak.fId _ s.ah [] (by simpa using hl)]
 rfl
def FL (p:ByteArray) (r:Int) : Prop:=(r = -1∧∀ j,j < p.size→((p.data[j]!).toNat:Int)≠46)∨(∃ i:Nat,i < p.size∧r=i∧((p.data[i]!).toNat:Int)=46∧∀ j,i < j→j < p.size→((p.data[j]!).toNat:Int)≠46)
theorem Qo {p:ByteArray} {r q:Int} (h:FL p r) (k:FL p q) : r=q:=by
 rcases h with ⟨rfl,h⟩ | ⟨i,h1,rfl,h2,h3⟩
 ·rcases k with ⟨rfl,_⟩ | ⟨j,k1,rfl,k2,_⟩
  ·rfl
  ·exact absurd k2 (h j k1)
 ·rcases k with ⟨rfl,k⟩ | ⟨j,k1,rfl,k2,k3⟩
  ·exact absurd h2 (k i h1)
  ·rcases Nat.lt_trichotomy i j with e | e | e
   ·exact absurd k2 (h3 j e k1)
   ·rw [e]
   ·exact absurd h2 (k3 i e h1)
theorem W8 {p:ByteArray} {m:Nat} (h:m < p.size) : ke p (m:Int)=some ((p.data[m]!).toNat:Int):=by
 unfold ke
 have h':m < p.data.size:=h
 rw [if_pos (Int.natCast_nonneg m),zt,Array.getElem?_toList,Array.getElem?_eq_getElem h',getElem!_pos p.data m h']
 rfl
theorem Vv (p:ByteArray) (hp:p.size≤1000000) : Ok (ai (eH p) ab ((p.size:Int) - 1)) (FL p):=by
 refine aL (fun st=>∃ k:Nat,st=(k:Int) - 1∧k≤p.size∧∀ j,k≤j→j < p.size→((p.data[j]!).toNat:Int)≠46) (fun st=>(st + 1).toNat) (FL p) (fun st ⟨k,h1,h2,h3⟩=>?_) ab _ ⟨p.size,rfl,Nat.le_refl _,fun j h1 h2=>by omega⟩ (by have:=an hp; omega)
 subst h1
 unfold eH
 dsimp only
 cases k with
 | zero =>
  have d:decide (((0:Nat) : Int) - 1≥0)=false:=by decide
  simp only [d,zf,if_false,zb]
  exact .inr ⟨_,rfl,.inl ⟨rfl,fun j hj=>h3 j (Nat.zero_le _) hj⟩⟩
 | succ m =>
  have d:decide (((m + 1:Nat) : Int) - 1≥0)=true:=decide_eq_true (by omega)
  have e:((m + 1:Nat) : Int) - 1=(m:Int):=by omega
  have w:i64.wrap ((m:Int) - 1)=(m:Int) - 1:=by rw [IntKind.wrap_i64]; omega
  simp only [d,if_true,e,W8 (show m < p.size by omega),zb,w]
  by_cases hc:((p.data[m]!).toNat:Int)=46
  ·have d2:(((p.data[m]!).toNat:Int) != 46)=false:=by simpa using hc
   rw [d2]
   exact .inr ⟨_,rfl,.inr ⟨m,by omega,rfl,hc,fun j hj hjs=>h3 j (by omega) hjs⟩⟩
  ·have d2:(((p.data[m]!).toNat:Int) != 46)=true:=by simpa using hc
   rw [d2]
   refine .inl ⟨_,rfl,⟨m,rfl,by omega,fun j hj hjs=>?_⟩,by omega⟩
   rcases Nat.lt_or_ge m j with e | e
   ·exact h3 j (by omega) hjs
   ·obtain rfl:j=m:=by omega
    exact hc
noncomputable def Q4 (p:ByteArray) : Option ByteArray:=qY (p,())
theorem YR (p:ByteArray) : Q4 p=Option.bind (Jn p ⟨#[46]⟩) fun r=>Option.bind (Ij p (if r > 0 then r else 0)) fun z=>some z:=by kernel_rfl
theorem XP {p:ByteArray} (hp:p.size≤1000000) : Jn p ⟨#[46]⟩=some (Lib.lastIndexByte p 46):=by
 unfold Jn
 rw [dif_pos ⟨rfl,by omega⟩]
 rfl
theorem abS (p:ByteArray) : Ij p 0=some ⟨#[]⟩:=by
 unfold Ij
 rw [if_pos ⟨Int.le_refl _,Nat.zero_le _⟩]
 congr 1
 apply ByteArray.ext
 apply Array.ext'
 simp
theorem Vu {p:ByteArray} (hp:p.size≤1000000) : Q4 p=some (ej p):=by
 rw [← (nv hp).1,YR,XP hp]
 unfold dK
 have w:i64.wrap ((p.size:Int) - 1)=(p.size:Int) - 1:=by rw [IntKind.wrap_i64]; omega
 dsimp only
 rw [w]
 obtain ⟨r,r1,r2⟩:=Vv p hp
 have hl:FL p (Lib.lastIndexByte p 46):=Lib.lastIdx_spec p 46 p.size
 rw [r1,Qo hl r2]
 simp only [zb]
 rcases Int.lt_trichotomy r 0 with h | h | h
 ·have d1:decide (r < 0)=true:=by simpa using h
  rw [d1,if_neg (by omega),abS]
  rfl
 ·subst h
  rw [if_neg (by omega),abS]
  rfl
 ·have d1:decide (r < 0)=false:=by simp; omega
  rw [d1,if_pos h]
  rfl
theorem I8 {α σ τ : Type} {g h : σ→α→Option (σ⊕τ)} {fin : σ→τ} : ∀ (l:List α) (a : σ),(∀ a,∀ x∈l,g a x=h a x)→bh g fin a l=bh h fin a l
 | [],_,_=>rfl
 | x::l,a,e=>by
  simp only [bh,e a x List.mem_cons_self]
  cases h a x with
  | none=>rfl
  | some o =>
   cases o with
   | inl a'=>exact I8 l a' fun b y hy=>e b y (List.mem_cons_of_mem _ hy)
   | inr r=>rfl
def K7 (p:ByteArray) (q:av) : Bool:=!(p.toList==(⟨#[]⟩ : ByteArray).toList)&&((ej q.aB).toList==p.toList)
theorem Rp (c:ax) (p:ByteArray) (h:SzC c) : ek c p=some ((c.ae.filter (K7 p)).map av.aB):=by
 have hq:c.ae.length≤1000000:=Nat.le_trans h.queues (by decide)
 unfold ek
 dsimp only
 rw [gp c p [] hq]
 rw [I8 (h:=fun acc x=>if K7 p x=true then (aP acc [x.aB]).map (fun a=>(.inl a:List ByteArray⊕(List ByteArray×Int))) else some (.inl acc)) _ _ fun a x hx=>?_]
 ·rw [bV (K7 p) av.aB _ c.ae [] (by simpa using hq)]
  rfl
 ·unfold cu K7
  dsimp only
  rw [(nv (h.paths x hx)).1]
  simp only [zb,dy]
  split
  ·cases aP a [x.aB] <;> rfl
  ·rfl
noncomputable def K9 (q:av) (p:ByteArray) : Option Bool:=qW (q,(p,()))
theorem XV (q:av) (p:ByteArray) : K9 q p=Option.bind (if (!(p.toList==(⟨#[]⟩ : ByteArray).toList))=true then Option.bind (Q4 q.aB) fun r=>some (r.toList==p.toList) else some false) fun b=>some b:=by kernel_rfl
theorem UQ {q:av} (p:ByteArray) (h:q.aB.size≤1000000) : K9 q p=some (K7 p q):=by
 rw [XV,Vu h]
 unfold K7
 simp only [zb,dy]
noncomputable def XS (c:ax) (p:ByteArray) : Option (List ByteArray):=sk (c,(p,()))
theorem Z6 (c:ax) (p:ByteArray) : XS c p=Option.bind (ai (fun st:List ByteArray×Int=>if decide (st.2 < (c.ae.length:Int))=true then Option.bind (ar c.ae st.2) fun x=>Option.bind (K9 x p) fun r=>if r=true then Option.bind (PO x.aB) fun t=>Option.bind (aP st.1 [t]) fun zs=>some (.inl (zs,i64.wrap (st.2 + 1))) else some (.inl (st.1,i64.wrap (st.2 + 1))) else some (.inr (st.1,st.2))) ab (([] : List ByteArray),(0:Int))) fun st=>some st.1:=by kernel_rfl
theorem XR (c:ax) (p:ByteArray) (h:SzC c) : XS c p=some ((c.ae.filter (K7 p)).map av.aB):=by
 have hq:c.ae.length≤1000000:=Nat.le_trans h.queues (by decide)
 rw [Z6]
 have hl:=ay c.ae (S:=List ByteArray×Int) (τ:=List ByteArray×Int) (f:=fun st:List ByteArray×Int=>if decide (st.2 < (c.ae.length:Int))=true then Option.bind (ar c.ae st.2) fun x=>Option.bind (K9 x p) fun r=>if r=true then Option.bind (PO x.aB) fun t=>Option.bind (aP st.1 [t]) fun zs=>some (.inl (zs,i64.wrap (st.2 + 1))) else some (.inl (st.1,i64.wrap (st.2 + 1))) else some (.inr (st.1,st.2))) (fun a k=>(a,k)) (fun acc x=>if K7 p x=true then (aP acc [x.aB]).map (fun a=>(.inl a:List ByteArray⊕(List ByteArray×Int))) else some (.inl acc)) (fun a=>(a,(c.ae.length:Int))) (an hq) (fun k a x hk0=>by
  have hk:=(zg.1 hk0).1
  have hm:=h.paths x (List.mem_of_getElem? hk0)
  simp only [bG hk0,if_true,aD hk0,zb,aR hk hq,UQ p hm,D9 hm]
  split
  ·cases aP a [x.aB] <;> rfl
  ·rfl) (fun a=>by simp only [bv,zf,if_false]) ([] : List ByteArray)
 rw [show (([] : List ByteArray),(0:Int))=(fun (a_:List ByteArray) (k_:Int)=>(a_,k_)) [] 0 from rfl,hl,bV (K7 p) av.aB _ c.ae [] (by simpa using hq)]
 rfl
noncomputable def Tu (c:ax) (p:ByteArray) : Option Int:=qX (c,(p,()))
theorem US (c:ax) (p:ByteArray) : Tu c p=Option.bind (UU (fun q:av=>q.aB.toList==p.toList) c.ae) fun r=>some r:=by kernel_rfl
noncomputable def XK (c:ax) (p:ByteArray) : Option Bool:=sj (c,(p,()))
theorem Z5 (c:ax) (p:ByteArray) : XK c p=Option.bind (Tu c p) fun r=>Option.bind (if decide (r≥0)=true then Option.bind (XS c p) fun l=>some ((l.length:Int)==0) else some false) fun q=>some q:=by kernel_rfl
theorem Nw (c:ax) (p:ByteArray) (h:SzC c) : XK c p=some (jf c p):=by
 have hq:c.ae.length≤1000000:=Nat.le_trans h.queues (by decide)
 rw [← kR c p h,Z5,US]
 unfold iY
 rw [jn c p h,Rp c p h,XR c p h]
 rcases wA (fun q:av=>q.aB.toList==p.toList) c.ae hq with ⟨i,hi,g1,g2,_⟩ | ⟨g1,g2⟩
 ·have hu:isQ c p=true:=List.any_eq_true.2 ⟨_,List.getElem_mem hi,g2⟩
  have d:decide ((i:Int)≥0)=true:=by simp
  rw [g1,hu]
  simp only [zb,d,if_true]
 ·have hu:isQ c p=false:=by
   unfold isQ
   rw [List.any_eq_false]
   intro x hx
   simp [g2 x hx]
  have d:decide ((-1:Int)≥0)=false:=by decide
  rw [g1,hu]
  simp only [zb,d,zf,if_false]
noncomputable def j7 (a n:Int) : Option Int:=uC (a,(n,()))
noncomputable def Qq (a b:List Int) : Option Bool:=yN (a,(b,()))
noncomputable def Ej:Option Bool:=wg ()
theorem yc:Ej=some true:=by kernel_rfl
theorem PD (a n:Int) : j7 a n=Option.bind (Du a n) fun q=>if decide (q < 0)=true then some (i64.wrap (q + n)) else some q:=by kernel_rfl
theorem gV (a:Int) {n:Int} (h0 : 0 < n) (h1:n≤1000000000) : Ok (j7 a n) (fun k=>0≤k∧k < n):=by
 rw [PD]
 unfold Du
 rw [if_neg (by omega)]
 have h:=D8 (a:=a) h0
 simp only [zb]
 refine Ok.ite (fun hc=>?_) fun hc=>?_
 ·have:=zd hc
  refine Ok.pure ?_
  rw [IntKind.wrap_i64]; omega
 ·have:=of_decide_eq_false (by simpa using hc:decide (a.tmod n < 0)=false)
  exact Ok.pure (by omega)
theorem XX (a b:List Int) : Qq a b=if ((a.length:Int) != (b.length:Int))=true then some false else Option.bind (ai (fun st:Bool×Int=>if decide (st.2 < (a.length:Int))=true then Option.bind (ar a st.2) fun x=>Option.bind (ar b st.2) fun y=>if (x != y)=true then some (.inr (.inr false)) else some (.inl (st.1,i64.wrap (st.2 + 1))) else some (.inr (.inl (st.1,st.2)))) ab (false,(0:Int))) fun o:(Bool×Int)⊕Bool=>match o with | .inl _=>some true | .inr v=>some v:=by kernel_rfl
theorem NC (a:List Int) (hl:a.length≤1000000) : Qq a a=some true:=by
 rw [XX,if_neg (by simp),ew a (fun k=>(false,k)) (r:=.inl (false,(a.length:Int))) hl (fun k x hx hk _=>by
  simp only [bG hx,if_true,aD hx,zb,bne_self_eq_false,zf,if_false,aR hk hl]) (by simp only [bv,zf,if_false])]
 rfl
noncomputable def Xu (a b:ak) : Option Bool:=CB (a,(b,()))
theorem ZU (a b:ak) : Xu a b=Option.bind An fun r=>Option.bind An fun r1=>Option.bind (qK { r with ah:=[a] } { r1 with ah:=[b] }) fun r=>some r:=by kernel_rfl
theorem Qe (a:ak) (h:SzL a) : Xu a a=some true:=by
 rw [ZU,Hk]
 simp only [zb]
 have hs:lS BF:=K0.sz.short (by decide)
 rw [KK { BF with ah:=[a] } ⟨hs.conf,hs.nodes,by simp,hs.conts,hs.slots,hs.plans,fun x hx=>by simp at hx; subst hx; exact h,hs.lab⟩]
 rfl
noncomputable def TG (a:ak) : Option Bool:=CC (a,())
theorem aad (a:ak) : TG a=Option.bind (if decide ((a.bL.length:Int)≤20)=true then some (decide ((a.bP.length:Int)≤50)) else some false) fun q=>Option.bind (if q=true then some (decide ((a.dr.length:Int)≤50)) else some false) fun q=>Option.bind (if q=true then some (decide ((a.ji.length:Int)≤50)) else some false) fun q=>Option.bind (if q=true then some (decide ((a.jU.length:Int)≤50)) else some false) fun q=>Option.bind (if q=true then some (decide ((a.bD.size:Int)≤60)) else some false) fun q=>some q:=by kernel_rfl
theorem NT (a:ak) : TG a=some (decide ((a.bL.length:Int)≤20)&&decide ((a.bP.length:Int)≤50)&&decide ((a.dr.length:Int)≤50)&&decide ((a.ji.length:Int)≤50)&&decide ((a.jU.length:Int)≤50)&&decide ((a.bD.size:Int)≤60)):=by
 rw [aad]
 simp only [dy,zb]
theorem NS {a:ak} (h:(decide ((a.bL.length:Int)≤20)&&decide ((a.bP.length:Int)≤50)&&decide ((a.dr.length:Int)≤50)&&decide ((a.ji.length:Int)≤50)&&decide ((a.jU.length:Int)≤50)&&decide ((a.bD.size:Int)≤60))=true) : SzL a:=by
 simp only [Bool.and_eq_true,decide_eq_true_eq] at h
 exact ⟨by omega,by omega,by omega,by omega,by omega,by omega⟩
theorem QJ (x:aA) : iQ x=some (decide ((x.fNs.length:Int)≤30)&&decide ((x.jV.length:Int)≤80)):=by
 unfold iQ
 simp only [dy,zb]
def Qn (s:aa) (w:Int) : aa:={ s with bZ:=i64.wrap (s.bZ + w) }
noncomputable def TY (t:aa) (p q:ak×Bool) (a:ak) : Option Bool :=
 Option.bind (if (p.2==q.2)=true then Option.bind (Xu p.1 q.1) fun r=>some r else some false) fun b=>Option.bind (if b=true then Option.bind (CQ p.1) fun r=>Option.bind (dh q.1) fun r2=>some (r==r2) else some false) fun b=>Option.bind (if b=true then Option.bind (CQ a) fun r=>Option.bind (dh a) fun r2=>some (r==r2) else some false) fun b=>Option.bind (if b=true then Option.bind (Xi t a) fun r5=>Option.bind (eo t a) fun r=>Option.bind (qK r5 r) fun r=>some r else some false) fun b=>Option.bind (if b=true then Option.bind (EU t) fun l=>Option.bind (qU t) fun m=>Option.bind (Qq l m) fun r=>some r else some false) fun b=>some b
noncomputable def LO (t:aa) (id:Int) (a:ak) : Option Bool:=Option.bind (QH t id) fun p=>Option.bind (ef t id) fun q=>if (Int.tmod a.fId 2==0)=true then TY t p q { a with fId:=id } else TY t p q a
theorem YK (x:aA) (id:Int) (a:ak) (more:Int) : rm (x,(id,(a,(more,()))))=Option.bind Ej fun r=>if (!r)=true then some false else Option.bind (iQ x) fun r=>Option.bind (if (!r)=true then some true else Option.bind (TG a) fun r=>some (!r)) fun q=>if q=true then some true else Option.bind (cV x) fun s=>Option.bind (j7 more 20) fun w=>Option.bind (if decide ((s.ah.length:Int) > 0)=true then some (decide (Int.tmod id 3 > 0)) else some false) fun q=>if q=true then Option.bind (j7 id (s.ah.length:Int)) fun k=>Option.bind (ar s.ah k) fun n=>LO (Qn s w) n.fId a else LO (Qn s w) id a:=by kernel_rfl
structure Zm (t:aa) : Prop where
 short:lS t
 small:t.ah.length≤900000
 srt:jZ ak.fId t.ah
 now : 0≤t.bZ∧t.bZ≤2000000000
 seen:∀ x∈t.ah,0≤x.bQ∧x.bQ≤1000000000
 get:∀ id,SzL (bU t id)
theorem On {t:aa} (h:Zm t) (id:Int) {a:ak} (ha:SzL a) : TY t (bU t id,xr t id) (bU t id,xr t id) a=some true:=by
 have hp:lS { t with ah:=cE ak.fId t.ah a } := ⟨h.short.conf,h.short.nodes,by have:=tM ak.fId t.ah a; have:=h.small; show (cE _ _ _).length≤_; omega,h.short.conts,h.short.slots,h.short.plans,fun x hx=>by rcases kK hx with rfl | hx; exact ha; exact h.short.app x hx,h.short.lab⟩
 unfold TY
 simp only [BEq.rfl,if_true,Qe _ (h.get id),zb,FA,dn,Xh h.short h.small h.srt ha,fL t a (by have:=h.small; omega),KK _ hp,MW h.short.apps h.now h.seen,xC t h.short.apps]
 have e:(t.ah.filter (Jm t)).map ak.fId=(t.ah.filter fun b=>b.cC==2&&decide (i64.wrap (t.bZ - b.bQ)≥15)).map ak.fId:=rfl
 rw [← e,NC _ (by rw [List.length_map]; exact Nat.le_trans (List.length_filter_le _ _) h.short.apps)]
 rfl
theorem J4 {t:aa} (h:Zm t) (id:Int) {a:ak} (ha:SzL a) : LO t id a=some true:=by
 unfold LO
 rw [U7 id h.short.apps h.short.app,dp t id h.short.apps]
 simp only [zb]
 split
 ·exact On h id (a:={ a with fId:=id }) ⟨ha.queue,ha.asks,ha.grants,ha.kills,ha.told,ha.lost⟩
 ·exact On h id ha
theorem OkS.fit10 {M:Nat} {s:aa} (h:OkS M s) (hM:M≤100000) {w:Int} (hw : 0≤w∧w < 20) : Zm (Qn s w):=by
 have hs:=h.sz.short (show M≤1000000 by omega)
 have hn:=h.sz.nodes.2.2.1
 refine ⟨⟨hs.conf,hs.nodes,hs.apps,hs.conts,hs.slots,hs.plans,hs.app,hs.lab⟩,by have:=h.sz.apps; show s.ah.length≤_; omega,h.srt,?_,fun x hx=>⟨(h.sz.app x hx).queue.2.1,(h.sz.app x hx).queue.2.2.1⟩,fun id=>(h.sz.get id).shorts (by omega)⟩
 show 0≤i64.wrap (s.bZ + w)∧i64.wrap (s.bZ + w)≤2000000000
 rw [IntKind.wrap_i64]; omega
theorem AppsAsks.plain (a0:aA) (_k0:aA.ok a0) (a1:Int) (_k1:wfI a1) (a2:ak) (_k2:ak.ok a2) (a3:Int) (_k3:wfI a3) : rm (a0,(a1,(a2,(a3,()))))=some true:=by
 rw [YK,yc,QJ,NT]
 simp only [zb,Bool.not_true,zf,if_false]
 cases hf:(decide ((a0.fNs.length:Int)≤30)&&decide ((a0.jV.length:Int)≤80)) with
 | false=>rfl
 | true =>
  simp only [Bool.not_true,zf,if_false,zb]
  cases hg:(decide ((a2.bL.length:Int)≤20)&&decide ((a2.bP.length:Int)≤50)&&decide ((a2.dr.length:Int)≤50)&&decide ((a2.ji.length:Int)≤50)&&decide ((a2.jU.length:Int)≤50)&&decide ((a2.bD.size:Int)≤60)) with
  | false=>rfl
  | true =>
   have ha:=NS hg
   simp only [Bool.not_true,zf,if_false]
   rw [Bool.and_eq_true] at hf
   have hacts:a0.jV.length≤80:=by have:=zd hf.2; omega
   obtain ⟨s,h1,h2⟩:=G2 a0 hacts
   obtain ⟨w,w1,w2⟩:=gV a3 (n:=20) (by decide) (by decide)
   rw [h1]
   simp only [zb]
   rw [w1]
   simp only [zb,dy]
   have hF:=h2.fit10 (by decide) w2
   cases hq:(decide ((s.ah.length:Int) > 0)&&decide (Int.tmod a1 3 > 0)) with
   | false=>exact J4 hF a1 ha
   | true =>
    rw [Bool.and_eq_true] at hq
    have hpos:=zd hq.1
    have hl:=h2.sz.apps
    obtain ⟨k,e1,e2⟩:=gV a1 (n:=(s.ah.length:Int)) (by omega) (by omega)
    obtain ⟨n,n1,_⟩:=iW e2.1 e2.2
    simp only [if_true]
    rw [e1]
    simp only [zb]
    rw [n1]
    simp only [zb]
    exact J4 hF _ ha
noncomputable def mP (a l m:Int) : Option Bool:=o6 (a,(l,(m,())))
theorem MD (a l m:Int) : mP a l m=Option.bind (if decide (l≤a)=true then some (decide (a≤m)) else some false) fun q=>some q:=by kernel_rfl
theorem Kv (a l m:Int) : mP a l m=some (decide (l≤a)&&decide (a≤m)):=by
 rw [MD]
 simp only [dy,zb]
noncomputable def GX (a:ak) : Option Bool:=nM (a,())
theorem QW (a:ak) : GX a=Option.bind (mP a.fId 0 9999) fun r=>Option.bind (if r=true then Option.bind (mP a.cD 0 99) fun r=>some r else some false) fun q=>Option.bind (if q=true then Option.bind (mP a.bq 0 9) fun r=>some r else some false) fun q=>Option.bind (if q=true then Option.bind (mP a.bb.bH 1 1073741824) fun r=>some r else some false) fun q=>Option.bind (if q=true then Option.bind (mP a.bb.be 1 1073741824) fun r=>some r else some false) fun q=>some q:=by kernel_rfl
def GY (a:ak) : Bool:=((((decide (0≤a.fId)&&decide (a.fId≤9999))&&(decide (0≤a.cD)&&decide (a.cD≤99)))&&(decide (0≤a.bq)&&decide (a.bq≤9)))&&(decide (1≤a.bb.bH)&&decide (a.bb.bH≤1073741824)))&&(decide (1≤a.bb.be)&&decide (a.bb.be≤1073741824))
theorem C5 (a:ak) : GX a=some (GY a):=by
 rw [QW]
 simp only [Kv,dy,zb]
 rfl
noncomputable def QT (l:List ak) : Option Int:=kW (l,())
theorem Ol (l:List ak) : QT l=Option.bind (ai (fun st:Int×Int=>if decide (st.2 < (l.length:Int))=true then Option.bind (ar l st.2) fun x=>Option.bind (CQ x) fun r=>if r=true then some (.inl (i64.wrap (st.1 + 1),i64.wrap (st.2 + 1))) else some (.inl (st.1,i64.wrap (st.2 + 1))) else some (.inr (st.1,st.2))) ab ((0:Int),(0:Int))) fun st=>some st.1:=by kernel_rfl
theorem yr:∀ (l:List ak) (k:Nat),k + l.length≤1000000→l.foldl (fun (a:Int) x=>if dg x=true then i64.wrap (a + 1) else a) (k:Int)=((k + (l.filter dg).length:Nat) : Int)
 | [],_,_=>rfl
 | x::l,k,h=>by
  simp only [List.length_cons] at h
  rw [List.foldl_cons,List.filter_cons]
  cases dg x with
  | true =>
   have e:i64.wrap ((k:Int) + 1)=((k + 1:Nat) : Int):=by rw [IntKind.wrap_i64]; omega
   simp only [if_true,e,List.length_cons]
   rw [yr l (k + 1) (by omega)]
   congr 1
   omega
  | false =>
   simp only [zf,if_false]
   exact yr l k (by omega)
theorem GH (l:List ak) (hl:l.length≤1000000) (fin:Int→Int×Int) : bh (fun (a:Int) x=>some (.inl (if dg x=true then i64.wrap (a + 1) else a))) fin 0 l=some (fin (((l.filter dg).length:Nat) : Int)):=by
 rw [p7 (fun (a:Int) x=>if dg x=true then i64.wrap (a + 1) else a) fin l 0]
 have h:=yr l 0 (by omega)
 rw [show ((0:Nat) : Int)=0 from rfl] at h
 rw [h,Nat.zero_add]
theorem B5 {l:List ak} (hl:l.length≤1000000) : QT l=some (((l.filter dg).length:Nat) : Int):=by
 rw [Ol]
 simp only [FA,zb]
 have h:=ay l (S:=Int×Int) (τ:=Int×Int) (f:=fun st:Int×Int=>if decide (st.2 < (l.length:Int))=true then Option.bind (ar l st.2) fun x=>if dg x=true then some (.inl (i64.wrap (st.1 + 1),i64.wrap (st.2 + 1))) else some (.inl (st.1,i64.wrap (st.2 + 1))) else some (.inr (st.1,st.2))) (fun a k=>(a,k)) (fun (a:Int) x=>some (.inl (if dg x=true then i64.wrap (a + 1) else a))) (fun a=>(a,(l.length:Int))) (an hl) (fun k a x hk0=>by
  have hk:=(zg.1 hk0).1
  simp only [bG hk0,if_true,aD hk0,zb,aR hk hl]
  cases dg x <;> rfl) (fun a=>by simp only [bv,zf,if_false]) (0:Int)
 rw [show ((0:Int),(0:Int))=(fun (a_:Int) (k_:Int)=>(a_,k_)) 0 0 from rfl,h,GH l hl]
 rfl
theorem Vm (s:aa) (hl:s.ah.length≤1000000) : ai (gO s) ab ((0:Int),(0:Int))=some ((((s.ah.filter dg).length:Nat) : Int),(s.ah.length:Int)):=by
 have e:cX s=fun (a:Int) x=>some (.inl (if dg x=true then i64.wrap (a + 1) else a)):=by
  funext a x
  unfold cX
  simp only [dn,zb]
  cases dg x <;> rfl
 rw [pm s 0 hl,e,GH s.ah hl]
theorem JG {α : Type} (p : α→Bool) : ∀ (l:List α) (i:Nat) (h:i < l.length),(∀ j (hj:j < i),p l[j] = false)→p l[i] = true→l.take i++l.drop (i + 1)=l.eraseP p
 | [],_,h,_,_=>by simp at h
 | x::l,0,_,_,hp=>by
  have hx:p x=true:=hp
  simp [List.eraseP_cons,hx]
 | x::l,i + 1,h,h1,hp=>by
  have hx:p x=false:=h1 0 (by omega)
  have hr:=JG p l i (by simpa using h) (fun j hj=>h1 (j + 1) (by omega)) hp
  simp [List.eraseP_cons,hx,← hr]
theorem tV (s:aa) : ∀ (l:List ak) (d:Bool) (acc:List ak),acc.length + l.length≤1000000→bh (cI s) (fun b=>(b.1,b.2,(s.ah.length:Int))) (d,acc) l=some (d||l.any (fun a=>!dg a),acc++(if d=true then l else l.eraseP (fun a=>!dg a)),(s.ah.length:Int))
 | [],d,acc,_=>by
  cases d <;> simp [bh]
 | x::l,d,acc,h=>by
  simp only [List.length_cons] at h
  have g:cI s (d,acc) x=if (!d && !dg x)=true then some (.inl (true,acc)) else some (.inl (d,acc ++ [x])):=by
   unfold cI
   dsimp only
   rw [aF (show acc.length + [x].length≤1000000 by simp; omega)]
   simp only [dn,dy,zb]
  simp only [bh,g]
  cases d with
  | true =>
   simp only [Bool.not_true,Bool.false_and,zf,if_false]
   rw [tV s l true (acc ++ [x]) (by simp; omega)]
   simp
  | false =>
   cases hx:dg x with
   | true =>
    simp only [Bool.not_true,Bool.and_false,zf,if_false]
    rw [tV s l false (acc ++ [x]) (by simp; omega)]
    simp [List.eraseP_cons,hx]
   | false =>
    simp only [Bool.not_false,Bool.and_self,if_true]
    rw [tV s l true acc (by omega)]
    simp [List.eraseP_cons,hx]
theorem U6 (s:aa) (hl:s.ah.length≤1000000) : nC s=some { s with ah:=s.ah.eraseP fun a=>!dg a } := by
 unfold nC
 dsimp only
 rw [pk s (false,[]) hl,tV s s.ah false [] (by simpa using hl)]
 simp
noncomputable def Nk (a:ak) : Option Bool:=nK (a,())
theorem Qh (a:ak) : Nk a=Option.bind (CQ a) fun r=>some (!r):=by kernel_rfl
noncomputable def Qu (l:List ak) : Option Int:=wa (l,(((),()),()))
theorem XY (l:List ak) : Qu l=Option.bind (ai (fun st:Int×Int=>if decide (st.2 < (l.length:Int))=true then Option.bind (ar l st.2) fun x=>Option.bind (Nk x) fun r=>if r=true then some (.inr (.inr st.2)) else some (.inl (st.1,i64.wrap (st.2 + 1))) else some (.inr (.inl (st.1,st.2)))) ab ((0:Int),(0:Int))) fun o:(Int×Int)⊕Int=>match o with | .inl _=>some (-1) | .inr v=>some v:=by kernel_rfl
theorem UT (l:List ak) : Qu l=UU (fun a=>!dg a) l:=by
 rw [XY]
 simp only [Qh,FA,zb]
 rfl
noncomputable def wl (l:List ak) : Option ((Unit×Unit)×List ak):=mF (l,())
theorem CE (l:List ak) : wl l=if decide ((l.length:Int) < 16)=true then some (((),()),l) else Option.bind (Qu l) fun r=>Option.bind (Option.bind (Ys l r (i64.wrap (r + 1))) fun z=>some ((((),(),(),()) : Unit×Unit×Unit×Unit),z)) fun z=>some (((),()),z.2):=by kernel_rfl
theorem Kw {l:List ak} (h:l.length < 16) : wl l=some (((),()),l):=by
 have d:decide ((l.length:Int) < 16)=true:=decide_eq_true (by omega)
 rw [CE,d,if_pos rfl]
theorem Kx {l:List ak} (h : 16≤l.length) (hl:l.length≤1000000) (hc:(l.filter dg).length < 16) : wl l=some (((),()),l.eraseP fun a=>!dg a):=by
 have d:decide ((l.length:Int) < 16)=false:=decide_eq_false (by omega)
 rw [CE,d,if_neg (by decide),UT]
 rcases wA (fun a=>!dg a) l hl with ⟨i,hi,g1,g2,g3⟩ | ⟨_,g2⟩
 ·have e:i64.wrap ((i:Int) + 1)=((i + 1:Nat) : Int):=by rw [IntKind.wrap_i64]; omega
  rw [g1]
  simp only [zb,e]
  unfold Ys
  rw [if_pos ⟨by omega,by omega,by omega⟩,zt,zt,JG (fun a:ak=>!dg a) l i hi g3 g2]
  rfl
 ·have:l.filter dg=l:=by
   rw [List.filter_eq_self]
   intro x hx
   have:=g2 x hx
   simpa using this
  rw [this] at hc
  omega
noncomputable def MF (a:ak) (now:Int) : Option ak:=nH (a,(now,()))
def SN (a:ak) (now:Int) : ak:=⟨a.fId,1,a.bD,a.cD,a.bq,a.bb,[⟨0,0,a.bb,1,-1,-1,0⟩],now,0,[],[],[],[]⟩
theorem ME (a:ak) (now:Int) : MF a now=some (SN a now):=by kernel_rfl
noncomputable def FM (l:List ak) (a:ak) : Option ((Unit×Unit×Unit)×List ak):=nL (l,(a,()))
theorem Qr (l:List ak) (a:ak) : FM l a=Option.bind (ai (fun st:Int=>Option.bind (if decide (st < (l.length:Int))=true then Option.bind (ar l st) fun x=>some (decide (x.fId < a.fId)) else some false) fun q=>if q=true then some (.inl (i64.wrap (st + 1))) else some (.inr st)) ab 0) fun k =>
  Option.bind (mkO (⟨0,0,⟨#[]⟩,0,0,⟨0,0⟩,[],0,0,[],[],[],[]⟩ : ak) (i64.wrap ((l.length:Int) + 1))) fun xs=>Option.bind (vwO l.length 0 k) fun _=>Option.bind (sZ xs 0 xs.length ((l.drop (Int.toNat 0)).take (k.toNat - Int.toNat 0))) fun zs=>Option.bind (ar zs k) fun _=>Option.bind (vwO (zs.set k.toNat a).length (i64.wrap (k + 1)) ((zs.set k.toNat a).length:Int)) fun _=>Option.bind (vwO l.length k (l.length:Int)) fun _=>Option.bind (sZ (zs.set k.toNat a) (i64.wrap (k + 1)).toNat (((zs.set k.toNat a).length:Int)).toNat ((l.drop k.toNat).take (((l.length:Int)).toNat - k.toNat))) fun r=>some (((),(),()),r):=by kernel_rfl
theorem CU {l:List ak} {a:ak} (hl:l.length≤900000) (h:∀ x∈l,x.fId≠a.fId) : FM l a=some (((),(),()),cE ak.fId l a):=by
 rw [Qr,tR l (fun x=>decide (x.fId < a.fId)) (an (by omega)) (fun k x hx=>by
  have hk:=(zg.1 hx).1
  simp only [bG hx,if_true,aD hx,zb,aR hk (show l.length≤1000000 by omega)]) (by simp only [bv,zf,if_false,zb])]
 simp only [zb]
 rw [← E7 ak.fId l a h]
 have hk:=lA (fun x:ak=>decide (x.fId < a.fId)) l
 generalize (l.takeWhile fun x=>decide (x.fId < a.fId)).length=k at *
 have v1:vwO l.length 0 (k:Int)=some ():=by
  unfold vwO
  rw [if_pos ⟨by omega,by omega,by omega,by omega⟩]
 have v2:vwO l.length (k:Int) (l.length:Int)=some ():=by
  unfold vwO
  rw [if_pos ⟨by omega,by omega,by omega,by omega⟩]
 have t1:(l.drop (Int.toNat 0)).take ((k:Int).toNat - Int.toNat 0)=l.take k:=by simp
 have t2:(l.drop (k:Int).toNat).take (((l.length:Int)).toNat - (k:Int).toNat)=l.drop k:=by
  rw [zt,zt,List.take_of_length_le (by simp)]
 rw [t2,v1,v2,t1]
 have g:=aaR l (⟨0,0,⟨#[]⟩,0,0,⟨0,0⟩,[],0,0,[],[],[],[]⟩ : ak) a k hk hl
 rw [nn hk,jX hk] at g
 simp only [zb] at g
 have g2:=congrArg (Option.map (fun r=>((((),(),()) : Unit×Unit×Unit),r))) g
 simp only [Option.map_bind,Function.comp_def,Option.map_some] at g2
 simp only [zb]
 exact g2
noncomputable def Er (s:aa) (a:ak) : Option Int:=rg (s,(a,()))
theorem JZ (s:aa) (a:ak) : Er s a=Option.bind (GX a) fun r=>if (!r)=true then some 1 else Option.bind (El s.ah a.fId) fun r=>if decide (r≥0)=true then some 7 else Option.bind (QT s.ah) fun r=>if decide (r≥16)=true then some 4 else Option.bind (XK s.bB a.bD) fun r=>if (!r)=true then some 19 else some 0:=by kernel_rfl
noncomputable def uV (s:aa) (a:ak) : Option (aa×Int):=pa (s,(a,()))
theorem EP (s:aa) (a:ak) : uV s a=Option.bind (Lb s) fun r=>Option.bind (Er s a) fun e=>if (e==0)=true then Option.bind (wl r.2.ah) fun r2=>Option.bind (yk a) fun r3=>Option.bind (MF r3 s.bZ) fun r4=>Option.bind (FM r2.2 r4) fun r5=>some ({ r.2 with ah:=r5.2 },e) else some (r.2,e):=by kernel_rfl
theorem abE (a:ak) : (decide (a.fId < 0)||decide (a.fId > 9999)||decide (a.cD < 0)||decide (a.cD > 99)||decide (a.bq < 0)||decide (a.bq > 9) || !(decide (a.bb.bH≥1)&&decide (a.bb.bH≤1073741824)) || !(decide (a.bb.be≥1)&&decide (a.bb.be≤1073741824))) = !GY a:=by
 unfold GY
 rw [Bool.eq_iff_iff]
 simp
 omega
theorem lS.putA {s:aa} (h:lS s) {l:List ak} (hl:l.length≤900000) (hm:∀ x∈l,SzL x) {a:ak} (ha:SzL a) : lS { s with ah:=cE ak.fId l a } := ⟨h.conf,h.nodes,by have:=tM ak.fId l a; show (cE _ _ _).length≤_; omega,h.conts,h.slots,h.plans,fun x hx=>by rcases kK hx with rfl | hx; exact ha; exact hm x hx,h.lab⟩
theorem MG {a:ak} (ha:SzL a) (now:Int) : SzL (SN a now):=⟨ha.queue,show 1≤1000000 by decide,Nat.zero_le _,Nat.zero_le _,Nat.zero_le _,Nat.zero_le _⟩
theorem KE {s:aa} {a:ak} {r:aa×Int} (h:uV s a=some r) : Er s a=some r.2:=by
 rw [EP] at h
 simp only [Option.bind_eq_some_iff] at h
 obtain ⟨r0,_,e,he,h⟩:=h
 rw [he]
 split at h
 ·simp only [Option.bind_eq_some_iff] at h
  obtain ⟨_,_,_,_,_,_,_,_,h⟩:=h
  cases h
  rfl
 ·cases h
  rfl
theorem CF {s:aa} {a:ak} (hs:lS s) (hl:s.ah.length≤900000) (ha:SzL a) : ∃ r,uV s a=some r∧kV s a=some r∧(r.2=0∨r.1=s)∧lS r.1:=by
 have hl':s.ah.length≤1000000:=by omega
 rw [EP,Jx hs,JZ,C5,wy]
 unfold kV
 simp only [Dm,orB,zb,dp s a.fId hl',kR _ _ hs.conf,Nw _ _ hs.conf,B5 hl',Vm s hl',abE]
 cases GY a with
 | false=>exact ⟨(s,1),rfl,rfl,.inr rfl,hs⟩
 | true =>
  simp only [Bool.not_true,zf,if_false]
  rcases wA (fun x:ak=>x.fId==a.fId) s.ah hl' with ⟨i,hi,g1,g2,g3⟩ | ⟨g1,g2⟩
  ·have d:decide ((i:Int)≥0)=true:=by simp
   rw [g1,(FY hi g2 g3).2]
   simp only [zb,d,if_true]
   exact ⟨(s,7),rfl,rfl,.inr rfl,hs⟩
  ·have d:decide ((-1:Int)≥0)=false:=by decide
   rw [g1,(FX g2).2]
   simp only [zb,d,zf,if_false]
   have hn:∀ x∈s.ah,x.fId≠a.fId:=fun x hx=>by simpa using g2 x hx
   cases hc:decide ((((s.ah.filter dg).length:Nat) : Int)≥16) with
   | true=>exact ⟨(s,4),rfl,rfl,.inr rfl,hs⟩
   | false =>
    have hc':(s.ah.filter dg).length < 16:=by have:=of_decide_eq_false hc; omega
    simp only [zf,if_false]
    cases jf s.bB a.bD with
    | false=>exact ⟨(s,19),rfl,rfl,.inr rfl,hs⟩
    | true =>
     simp only [Bool.not_true,zf,if_false,zb,wB ha,ME,ux,BEq.rfl,if_true]
     rcases Nat.lt_or_ge s.ah.length 16 with h16 | h16
     ·have d2:decide ((s.ah.length:Int)≥16)=false:=decide_eq_false (by omega)
      simp only [d2,zf,if_false,zb]
      rw [Kw h16,fL s _ (by omega)]
      simp only [zb]
      rw [CU (a:=SN a s.bZ) hl hn]
      exact ⟨_,rfl,rfl,.inl rfl,hs.putA hl hs.app (MG ha _)⟩
     ·have d2:decide ((s.ah.length:Int)≥16)=true:=decide_eq_true (by omega)
      have he:(s.ah.eraseP fun a=>!dg a).length≤s.ah.length:=List.length_eraseP_le
      simp only [d2,if_true,U6 s hl',zb]
      rw [Kx h16 hl' hc',fL { s with ah:=s.ah.eraseP fun a=>!dg a } _ (by show (s.ah.eraseP _).length + 1≤_; omega)]
      simp only [zb]
      rw [CU (a:=SN a s.bZ) (by omega) (fun x hx=>hn x (List.mem_of_mem_eraseP hx))]
      exact ⟨_,rfl,rfl,.inl rfl,hs.putA (l:=s.ah.eraseP fun a=>!dg a) (by omega) (fun x hx=>hs.app x (List.mem_of_mem_eraseP hx)) (MG ha _)⟩
noncomputable def LJ (s:aa) (a:ak) : Option Bool:=Option.bind (uV s a) fun r=>Option.bind (kV s a) fun q=>Option.bind (if (r.2==q.2)=true then Option.bind (qK r.1 q.1) fun b=>some b else some false) fun b=>Option.bind (if b=true then Option.bind (if (r.2==0)=true then some true else Option.bind (qK r.1 s) fun b=>some b) fun q=>some q else some false) fun b=>some b
theorem PK (x:aA) (a:ak) (good:Bool) (at_:Int) : nN (x,(a,(good,(at_,()))))=Option.bind Ej fun r=>if (!r)=true then some false else Option.bind (iQ x) fun r=>Option.bind (if (!r)=true then some true else Option.bind (TG a) fun r=>some (!r)) fun q=>if q=true then some true else Option.bind (cV x) fun s=>if good=true then Option.bind (lg s.bB) fun l=>Option.bind (j7 a.fId 30) fun r2=>Option.bind (j7 a.cD 100) fun r3=>Option.bind (j7 a.bq 10) fun r4=>Option.bind (j7 at_ (l.length:Int)) fun r5=>Option.bind (ar l r5) fun p=>Option.bind (j7 a.bb.bH 50) fun r6=>Option.bind (j7 a.bb.be 50) fun r7=>LJ s { a with fId:=r2,bD:=p,cD:=r3,bq:=r4,bb:=⟨i64.wrap (1 + r6),i64.wrap (1 + r7)⟩ } else LJ s a:=by kernel_rfl
theorem JY {M:Nat} {s:aa} (h:OkS M s) (hM:M + 100≤100000) {a:ak} (ha:SzL a) : LJ s a=some true:=by
 have hs:=h.sz.short (show M≤1000000 by omega)
 obtain ⟨r,h1,h2,h3,hr⟩:=CF hs (by have:=h.sz.apps; omega) ha
 unfold LJ
 rw [h1,h2]
 simp only [zb,BEq.rfl,if_true,KK _ hr]
 rcases h3 with h3 | h3
 ·rw [h3]
  rfl
 ·rw [h3,KK _ hs]
  cases (r.2==0) <;> rfl
theorem AppsSubmit.plain (a0:aA) (_k0:aA.ok a0) (a1:ak) (_k1:ak.ok a1) (a2:Bool) (a3:Int) (_k3:wfI a3) : nN (a0,(a1,(a2,(a3,()))))=some true:=by
 rw [PK,yc,QJ,NT]
 simp only [zb,Bool.not_true,zf,if_false]
 cases hf:(decide ((a0.fNs.length:Int)≤30)&&decide ((a0.jV.length:Int)≤80)) with
 | false=>rfl
 | true =>
  simp only [Bool.not_true,zf,if_false,zb]
  cases hg:(decide ((a1.bL.length:Int)≤20)&&decide ((a1.bP.length:Int)≤50)&&decide ((a1.dr.length:Int)≤50)&&decide ((a1.ji.length:Int)≤50)&&decide ((a1.jU.length:Int)≤50)&&decide ((a1.bD.size:Int)≤60)) with
  | false=>rfl
  | true =>
   have ha:=NS hg
   simp only [Bool.not_true,zf,if_false]
   rw [Bool.and_eq_true] at hf
   have hacts:a0.jV.length≤80:=by have:=zd hf.2; omega
   obtain ⟨s,h1,h2⟩:=G2 a0 hacts
   rw [h1]
   simp only [zb]
   cases a2 with
   | false=>exact JY h2 (by decide) ha
   | true =>
    simp only [if_true]
    obtain ⟨l,e1,e2,e3,e4⟩:=Be h2.sz.conf
    obtain ⟨r2,f2,_⟩:=gV a1.fId (n:=30) (by decide) (by decide)
    obtain ⟨r3,f3,_⟩:=gV a1.cD (n:=100) (by decide) (by decide)
    obtain ⟨r4,f4,_⟩:=gV a1.bq (n:=10) (by decide) (by decide)
    obtain ⟨r5,f5,f6⟩:=gV a3 (n:=(l.length:Int)) (by omega) (by omega)
    obtain ⟨p,p1,p2⟩:=iW f6.1 f6.2
    obtain ⟨r6,f7,_⟩:=gV a1.bb.bH (n:=50) (by decide) (by decide)
    obtain ⟨r7,f8,_⟩:=gV a1.bb.be (n:=50) (by decide) (by decide)
    rw [e1]
    simp only [zb]
    rw [f2,f3,f4]
    simp only [zb]
    rw [f5]
    simp only [zb]
    rw [p1,f7,f8]
    simp only [zb]
    exact JY h2 (by decide) ⟨e4 p p2,ha.asks,ha.grants,ha.kills,ha.told,ha.lost⟩
end Go.Proofs.YtmjkjaahbgikjaaGreat
