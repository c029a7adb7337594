/- My texts, in one. -/
import Derived.Test.YtmjkjaahbgikjaaGreatZE
set_option linter.all false
set_option maxRecDepth 100000
set_option maxHeartbeats 4000000
namespace Go.Proofs.YtmjkjaahbgikjaaGreat
open Go.RowKit
open IntKind (i64)
open Go.Proofs.Tryz (prog)
section
def bT (l:Tx) : ByteArray:=⟨l.toArray⟩
def gP (c:Int×Int) : eu:=⟨c.1,c.2⟩
def gQ (d:QD) : ax:=⟨bT d.path,d.caps.map gP,d.user⟩
def gC (nl:Nat) (ds:List QD) : av:=⟨(CO nl).map bT,ds.map gQ⟩
theorem Xt {a b:Tx} : ((bT a).toList==(bT b).toList)=decide (a=b):=by
 by_cases h:a=b
 ·subst h; simp
 ·have:bT a≠bT b:=fun e=>h (by
   have:=congrArg (fun x:ByteArray=>x.data.toList) e
   simpa [bT] using this)
  rw [decide_eq_false h]
  cases hb:((bT a).toList==(bT b).toList) with
  | false=>rfl
  | true=>exact absurd (sy hb) this
theorem hJ (a:Int) {n:Int} (h0 : 0 < n) (h1:n≤1125899906842625) : dg a n=some (a % n):=by
 have l1:a.tmod n < n:=Int.tmod_lt_of_pos a h0
 have l2 : -n < a.tmod n:=by have:=Int.lt_tmod_of_pos a h0; omega
 unfold dg CL
 rw [if_neg (by omega)]
 simp only [zb]
 by_cases hneg:a.tmod n < 0
 ·rw [MN h0 hneg]
  simp only [hneg,decide_true,if_true,zb]
  rw [IntKind.wrap_i64]
  congr 1
  omega
 ·rw [MM h0 hneg]
  simp only [hneg,decide_false,zf,if_false,zb]
def ia (xs:List Int) (i:Int) : Int:=if xs.length=0 then i else xs.getD (i % (xs.length:Int)).toNat 0
theorem tX (xs:List Int) {i:Int} (h : 0≤i) : ku xs i=some (ia xs i):=by
 unfold ku ia
 by_cases hz:xs.length=0
 ·rw [if_pos (by rw [hz]; rfl),if_pos hz]
 ·have hn:(xs.length:Int)≠0:=by omega
  rw [if_neg (by simpa using hz),if_neg hz]
  unfold CL
  rw [if_neg hn]
  simp only [zb]
  have e:i.tmod (xs.length:Int)=i % (xs.length:Int):=Int.tmod_eq_emod_of_nonneg h
  rw [e]
  have h0:=Int.emod_nonneg i hn
  have h1:=Int.emod_lt_of_pos i (show (0:Int) < xs.length by omega)
  obtain ⟨m,hm⟩ : ∃ m:Nat,i % (xs.length:Int)=(m:Int):=⟨(i % (xs.length:Int)).toNat,by omega⟩
  rw [hm] at h1 ⊢
  have hmx:m < xs.length:=by omega
  rw [aD (zq hmx)]
  simp [List.getD,zq hmx]
def EO (xs:List Int) (k:Nat) : Bool:=decide (k < xs.length)&&((xs.getD k 0).tmod 3==0)
def Im (xs:List Int) (k:Nat) : Int:=if EO xs k=true then 1 + xs.getD k 0 % 20000 else 1000000
theorem X6 {nl:Nat} (hnl:nl≤2) (c:av) (hc:c.ak.length=nl) (p:ByteArray) (u:Int) : ah (eo c) ab (⟨p,[],u⟩,0)=some (⟨p,(List.replicate nl rN).map gP,u⟩,(nl:Int)):=by
 rw [sS c _ (by omega)]
 obtain ⟨ls,qs⟩:=c
 dsimp only at hc ⊢
 subst hc
 rcases ls with _ | ⟨a,_ | ⟨b,_ | ⟨d,ls⟩⟩⟩
 ·rfl
 ·rfl
 ·rfl
 ·simp only [List.length_cons] at hnl; omega
theorem Rq {nl:Nat} (hnl:nl≤2) (ps:List Tx) (xs:List Int) (ds:List QD) {k:Nat} (hk:k < ps.length) (hps:ps.length≤7) (hds:ds.length≤7) : dz (ps.map bT) xs (gC nl ds,(k:Int))=some (.inl (gC nl (ds ++ [⟨ps[k],List.replicate nl rN,Im xs k⟩]),((k + 1:Nat) : Int))):=by
 have e1:(ps.map bT)[k]? = some (bT ps[k]):=by simp [hk]
 have d1:decide ((k:Int) < ((ps.map bT).length:Int))=true:=by simp; omega
 have hl:(gC nl ds).ak.length=nl:=by show ((CO nl).map bT).length=nl; rw [List.length_map,qS hnl]
 unfold dz
 dsimp only
 rw [if_pos d1,aD e1]
 simp only [zb]
 have fin:∀ u:Int,(Option.bind (ah (eo (gC nl ds)) ab ((⟨bT ps[k],[],u⟩ : ax),(0:Int))) fun r12=>Option.bind (aU (gC nl ds).ae [r12.1]) fun b13=>some (Sum.inl ((⟨(gC nl ds).ak,b13⟩ : av),i64.wrap ((k:Int) + 1)) : (av×Int)⊕(av×Int)))=some (.inl (gC nl (ds ++ [⟨ps[k],List.replicate nl rN,u⟩]),((k + 1:Nat) : Int))):=by
  intro u
  rw [X6 hnl _ hl]
  simp only [zb]
  rw [aE (by show (ds.map gQ).length + 1≤_; rw [List.length_map]; omega)]
  simp only [zb,a6 (show k < 7 by omega) (show 7≤1000000 by omega)]
  unfold gC
  simp only [List.map_append,List.map_cons,List.map_nil,gQ]
 unfold Im EO
 by_cases hN:k < xs.length
 ·have e2:xs[k]? = some xs[k]:=zq hN
  have e3:xs.getD k 0=xs[k]:=by simp [List.getD,e2]
  have d2:decide ((k:Int) < (xs.length:Int))=true:=by simp; omega
  simp only [d2,if_true,aD e2,zb,hN,decide_true,Bool.true_and,e3]
  by_cases ht:(xs[k].tmod 3==0)=true
  ·have h0:=Int.emod_nonneg xs[k] (show (20000:Int)≠0 by decide)
   have h1:=Int.emod_lt_of_pos xs[k] (show (0:Int) < 20000 by decide)
   simp only [ht,if_true,hJ xs[k] (show (0:Int) < 20000 by decide) (by decide),zb,w64 (n:=1 + xs[k] % 20000) (by omega)]
   exact fin _
  ·simp only [ht,if_false,zb,zf]
   exact fin _
 ·have d2:decide ((k:Int) < (xs.length:Int))=false:=by simp; omega
  simp only [d2,zf,if_false,zb,hN,decide_false,Bool.false_and]
  exact fin _
theorem Ey {α β : Type} (f : α→β) (g : α→α) (b : β) : ∀ (l:List α) (m:Nat) (h:m < l.length),b=f (g l[m])→(l.modify m g).map f=(l.map f).set m b
 | x::l,0,h,e=>by subst e; rfl
 | x::l,m + 1,h,e=>by
  simp only [List.modify_succ_cons,List.map_cons,List.set_cons_succ]
  rw [Ey f g b l m (by simpa using h) e]
theorem XZ {nl:Nat} {ks:List Tx} {ds:List QD} {k j:Nat} (hj:j < ks.length) (n mo:Int) (hN:ds.length≤7) (hc:∀ q∈ds,q.caps.length=nl) (hk:k < nl) : ah (ek (k:Int) n mo (j:Int) (ks.map bT)) ab (gC nl ds,0)=some (gC nl (iM ks[j] k n mo ds),(ds.length:Int)):=by
 have hp:∃ r,ah (ek (k:Int) n mo (j:Int) (ks.map bT)) ab (gC nl ds,0)=some r∧r=(gC nl (iM ks[j] k n mo ds),(ds.length:Int)):=by
  refine aL (f:=ek (k:Int) n mo (j:Int) (ks.map bT)) (fun st=>∃ m:Nat,m≤ds.length∧st=(gC nl (eV ks[j] k n mo ds m),(m:Int))) (fun st=>ds.length - st.2.toNat) (fun r=>r=(gC nl (iM ks[j] k n mo ds),(ds.length:Int))) (fun st ⟨m,hm,hst⟩=>?_) ab (gC nl ds,0) ⟨0,Nat.zero_le _,by rw [D6]; rfl⟩ (by show ds.length - (0:Int).toNat < ab; unfold ab; omega)
  subst hst
  unfold ek
  dsimp only
  have hlen:(gC nl (eV ks[j] k n mo ds m)).ae.length=ds.length:=by show ((eV _ _ _ _ ds m).map gQ).length = _; rw [List.length_map,gS]
  rw [hlen]
  rcases Nat.lt_or_ge m ds.length with hlt | hge
  ·left
   have d1:decide ((m:Int) < (ds.length:Int))=true:=by simpa using hlt
   have hml:m < (eV ks[j] k n mo ds m).length:=by rw [gS]; exact hlt
   have e1:(gC nl (eV ks[j] k n mo ds m)).ae[m]? = some (gQ ds[m]):=by
    show ((eV _ _ _ _ ds m).map gQ)[m]? = _
    rw [List.getElem?_map,zq hml,AJ _ _ _ _ _ _ hlt]
    rfl
   have e2:(ks.map bT)[j]? = some (bT ks[j]):=by simp [hj]
   have e3:(gQ ds[m]).bu[k]? = some (gP (ds[m].caps[k]'(by rw [hc _ (List.getElem_mem hlt)]; exact hk))):=by
    show (ds[m].caps.map gP)[k]? = _
    rw [List.getElem?_map,zq (by rw [hc _ (List.getElem_mem hlt)]; exact hk)]
    rfl
   rw [if_pos d1,aD e1,aD e2]
   simp only [zb,aD e3,a6 (show m < 7 by omega) (show 7≤1000000 by omega),zt]
   rw [show (gQ ds[m]).aC=bT ds[m].path from rfl,Xt]
   by_cases he:ds[m].path=ks[j]
   ·rw [if_pos (by simpa using he)]
    refine ⟨_,rfl,⟨m + 1,hlt,?_⟩,by simp only [zt]; omega⟩
    rw [HQ hlt he]
    congr 1
    unfold gC
    congr 1
    dsimp only
    refine (Ey gQ _ _ _ m hml ?_).symm
    rw [AJ _ _ _ _ _ _ hlt]
    unfold gQ
    simp [List.map_set,gP]
   ·rw [if_neg (by simpa using he)]
    exact ⟨_,rfl,⟨m + 1,hlt,by rw [LN hlt he]⟩,by simp only [zt]; omega⟩
  ·right
   have hm2:m=ds.length:=by omega
   subst hm2
   have d1:decide ((ds.length:Int) < (ds.length:Int))=false:=by simp
   rw [if_neg (by rw [d1]; decide)]
   exact ⟨_,rfl,by rw [HR]⟩
 obtain ⟨r,h1,h2⟩:=hp
 rw [h1,h2]
theorem B4 {σ α τ : Type} {g g' : σ→α→Option (σ⊕τ)} (fin : σ→τ) : ∀ (l:List α) (a : σ),(∀ x∈l,∀ a,g a x=g' a x)→bh g fin a l=bh g' fin a l
 | [],a,_=>rfl
 | x::l,a,h=>by
  simp only [bh]
  rw [h x (List.mem_cons_self ..)]
  cases g' a x with
  | none=>rfl
  | some o=>cases o with
   | inl a'=>exact B4 fin l a' (fun y hy=>h y (List.mem_cons_of_mem _ hy))
   | inr r=>rfl
theorem PJ (y:Nat) : ∀ x∈mE y,eh (bT x)=bT (above x):=by
 unfold mE
 split
 all_goals
  intro x hx
  simp only [List.mem_cons,List.not_mem_nil,or_false] at hx
  repeat (first | (subst hx; kernel_rfl) | (rcases hx with h | hx; (subst h; kernel_rfl)))
theorem Zr (nl:Nat) {ds:List QD} {ps:List Tx} {y:Nat} (hy:ps=mE y) (hd:ds.map (·.path)=ps) {p:Tx} (hp:p∈ps) : ei (gC nl ds) (bT p)=some ((Ca p ps).map bT):=by
 have hlen:ds.length≤7:=by
  have h1:=congrArg List.length hd
  have h2:=LB y
  rw [hy,List.length_map] at h1
  omega
 have hsz:∀ q∈(gC nl ds).ae,q.aC.size≤1000000:=fun q hq=>by
  obtain ⟨d,hd2,rfl⟩:=List.mem_map.1 hq
  have h1:d.path∈ps:=by rw [← hd]; exact List.mem_map_of_mem hd2
  rw [hy] at h1
  have h2:=LA y _ h1
  show (bT d.path).size≤_
  have:(bT d.path).size=d.path.length:=by simp [bT,ByteArray.size]
  omega
 unfold ei
 dsimp only
 rw [gf (gC nl ds) (bT p) [] (by show (ds.map gQ).length≤_; rw [List.length_map]; omega)]
 rw [B4 (g':=fun acc x=>if (!((bT p).toList==(⟨#[]⟩ : ByteArray).toList)&&((eh x.aC).toList==(bT p).toList))=true then (aU acc [x.aC]).map (fun a=>(.inl a:List ByteArray⊕(List ByteArray×Int))) else some (.inl acc)) _ _ _ (fun x hx acc=>by
  unfold co
  simp only [(mZ (hsz x hx)).1,zb,du]
  split
  ·cases aU acc [x.aC] <;> rfl
  ·rfl)]
 rw [cg (fun x:ax=>!((bT p).toList==(⟨#[]⟩ : ByteArray).toList)&&((eh x.aC).toList==(bT p).toList)) ax.aC _ _ [] (by show 0 + (ds.map gQ).length≤_; rw [List.length_map]; omega)]
 simp only [zb,List.nil_append]
 congr 1
 have e1:((gC nl ds).ae.filter fun x:ax=>!((bT p).toList==(⟨#[]⟩ : ByteArray).toList)&&((eh x.aC).toList==(bT p).toList)).map ax.aC=(ps.filter fun x=>!((bT p).toList==(bT []).toList)&&((eh (bT x)).toList==(bT p).toList)).map bT:=by
  rw [← hd]
  show ((ds.map gQ).filter _).map _ = _
  rw [List.filter_map,List.filter_map,List.map_map,List.map_map]
  rfl
 rw [e1]
 congr 1
 unfold Ca
 refine List.filter_congr fun x hx=>?_
 rw [hy] at hx
 rw [PJ y x hx,Xt,Xt]
 simp
theorem oQ {α β : Type} {o:Option α} {f : α→Option β} {r : α} {x:Option β} (h1:o=some r) (h2:f r=x) : Option.bind o f=x:=by subst h1; exact h2
def nV (xs:List Int) (i jj kk nk:Nat) (L:Int) : Int:=if jj + 1 < nk then [0,L / 2,L,ia xs ((i:Int) + jj + kk) % (L + 1)].getD (ia xs ((i:Int) * jj + kk) % 4).toNat 0 else L
def mV (xs:List Int) (i jj kk:Nat) (n:Int) : Int:=[10000,n,n + ia xs ((jj:Int) + kk) % (10000 - n + 1)].getD (ia xs ((i:Int) + 2 * jj) % 3).toNat 0
theorem Il (l:List Int) (a:Int) (hl : 0 < l.length) : aw l (a % (l.length:Int))=some (l.getD (a % (l.length:Int)).toNat 0):=by
 have h0:=Int.emod_nonneg a (show (l.length:Int)≠0 by omega)
 have h1:=Int.emod_lt_of_pos a (show (0:Int) < l.length by omega)
 obtain ⟨m,hm⟩ : ∃ m:Nat,a % (l.length:Int)=(m:Int):=⟨(a % (l.length:Int)).toNat,by omega⟩
 rw [hm] at h1 ⊢
 have hmx:m < l.length:=by omega
 rw [aD (zq hmx)]
 simp [List.getD,zq hmx]
theorem aaI (xs:List Int) (i jj kk nk:Nat) {L:Int} (h0 : 0≤L) : 0≤nV xs i jj kk nk L∧nV xs i jj kk nk L≤L:=by
 unfold nV
 split
 ·have a0:=Int.emod_nonneg (ia xs ((i:Int) * jj + kk)) (show (4:Int)≠0 by decide)
  have a1:=Int.emod_lt_of_pos (ia xs ((i:Int) * jj + kk)) (show (0:Int) < 4 by decide)
  have b0:=Int.emod_nonneg (ia xs ((i:Int) + jj + kk)) (show (L + 1)≠0 by omega)
  have b1:=Int.emod_lt_of_pos (ia xs ((i:Int) + jj + kk)) (show (0:Int) < L + 1 by omega)
  generalize ia xs ((i:Int) + jj + kk) % (L + 1)=b at b0 b1
  obtain ⟨m,hm⟩ : ∃ m:Nat,(ia xs ((i:Int) * jj + kk) % 4)=(m:Int):=⟨(ia xs ((i:Int) * jj + kk) % 4).toNat,by omega⟩
  rw [hm] at a1 ⊢
  rcases m with _ | _ | _ | _ | m
  ·exact ⟨Int.le_refl _,h0⟩
  ·show 0≤L / 2∧L / 2≤L; omega
  ·exact ⟨h0,Int.le_refl _⟩
  ·show 0≤b∧b≤L; omega
  ·omega
 ·exact ⟨h0,Int.le_refl _⟩
theorem Rp {nl:Nat} {ks:List Tx} {ds:List QD} {xs:List Int} {i jj kk:Nat} {L:Int} (hj:jj < ks.length) (hks:ks.length≤7) (hi:i≤7) (hnl:nl≤2) (hkk:kk < nl) (h0 : 0≤L) (h1:L≤10000) (hN:ds.length≤7) (hc:∀ q∈ds,q.caps.length=nl) :
  db (ks.map bT) xs (i:Int) (kk:Int) (L,gC nl ds,(jj:Int))=some (.inl (L - nV xs i jj kk ks.length L,gC nl (iM ks[jj] kk (nV xs i jj kk ks.length L) (mV xs i jj kk (nV xs i jj kk ks.length L)) ds),((jj + 1:Nat) : Int))):=by
 have hij:(i:Int) * (jj:Int)≤100:=by
  have:i * jj≤7 * 7:=Nat.mul_le_mul hi (by omega)
  have h2:((i * jj:Nat) : Int)≤49:=by omega
  rw [Int.natCast_mul] at h2
  omega
 have hij0 : 0≤(i:Int) * (jj:Int):=Int.mul_nonneg (by omega) (by omega)
 have hn:=aaI xs i jj kk ks.length h0
 have d1:decide ((jj:Int) < ((ks.map bT).length:Int))=true:=by simp; omega
 unfold db
 dsimp only
 rw [if_pos d1]
 refine oQ (r:=nV xs i jj kk ks.length L) ?_ ?_
 ·unfold nV
  by_cases hl:jj + 1 < ks.length
  ·have d2:decide ((jj:Int) < i64.wrap (((ks.map bT).length:Int) - 1))=true:=by
    rw [List.length_map,w64 (by omega)]
    simp; omega
   have h2d:L.tdiv 2=L / 2:=Int.tdiv_eq_ediv_of_nonneg h0
   rw [if_pos d2,if_pos hl,h2d,w64 (n:=(i:Int) + jj) (by omega),w64 (n:=(i:Int) + jj + kk) (by omega),w64 (n:=L + 1) (by omega),w64 (n:=(i:Int) * jj) (by omega),w64 (n:=(i:Int) * jj + kk) (by omega),w64 (n:=L / 2) (by omega)]
   refine oQ (tX xs (by omega)) (oQ (hJ _ (by omega) (by omega)) (oQ (tX xs (by omega)) (oQ (hJ _ (by omega) (by omega)) (oQ ?_ rfl))))
   exact Il [0,L / 2,L,_] _ (by simp)
  ·have d2:decide ((jj:Int) < i64.wrap (((ks.map bT).length:Int) - 1))=false:=by
    rw [List.length_map,w64 (by omega)]
    simp; omega
   rw [if_neg (by rw [d2]; decide),if_neg hl]
 ·generalize nV xs i jj kk ks.length L=n at hn
  rw [w64 (n:=L - n) (by omega),w64 (n:=(jj:Int) + kk) (by omega),w64 (n:=10000 - n) (by omega),w64 (n:=10000 - n + 1) (by omega),w64 (n:=2 * (jj:Int)) (by omega),w64 (n:=(i:Int) + 2 * jj) (by omega)]
  have b0:=Int.emod_nonneg (ia xs ((jj:Int) + kk)) (show (10000 - n + 1)≠0 by omega)
  have b1:=Int.emod_lt_of_pos (ia xs ((jj:Int) + kk)) (show (0:Int) < 10000 - n + 1 by omega)
  refine oQ (tX xs (by omega)) (oQ (hJ _ (by omega) (by omega)) (oQ (tX xs (by omega)) (oQ (hJ _ (by omega) (by omega)) (oQ (r:=mV xs i jj kk n) ?_ ?_))))
  ·rw [w64 (n:=n + ia xs ((jj:Int) + kk) % (10000 - n + 1)) (by omega)]
   exact Il [10000,n,_] _ (by simp)
  ·refine oQ (XZ hj n (mV xs i jj kk n) hN hc hkk) ?_
   rw [a6 (show jj < 7 by omega) (show 7≤1000000 by omega)]
theorem Mf {σ τ : Type} {f : σ→Option (σ⊕τ)} {s s' : σ} {n:Nat} (h:f s=some (.inl s')) : ah f (n + 1) s=ah f n s':=by simp only [ah,h]
theorem vQ {σ τ : Type} {f : σ→Option (σ⊕τ)} {s : σ} {r : τ} {n:Nat} (h:f s=some (.inr r)) : ah f (n + 1) s=some r:=by simp only [ah,h]
def E1 (sh:Int) (xs:List Int) (nl:Nat) (ps:List Tx) (k:Nat) (ds:List QD) : Prop:=∃ n,n + k=ab∧fQ sh xs=Option.bind (ah (dz (ps.map bT) xs) n (gC nl ds,(k:Int))) fun r=>Option.bind (ah (cS (ps.map bT) xs) ab (r.1,0)) fun r=>some r.1
def E3 (sh:Int) (xs:List Int) (nl:Nat) (ps:List Tx) (i:Nat) (ds:List QD) : Prop:=∃ n,n + i=ab∧fQ sh xs=Option.bind (ah (cS (ps.map bT) xs) n (gC nl ds,(i:Int))) fun r=>some r.1
def E4 (sh:Int) (xs:List Int) (nl:Nat) (ps:List Tx) (i:Nat) (ks:List Tx) (kk:Nat) (ds:List QD) : Prop:=∃ n3,n3 + (i + 1)=ab∧∃ n,n + kk=ab∧fQ sh xs=Option.bind (Option.bind (ah (dy xs (i:Int) (ks.map bT)) n (gC nl ds,(kk:Int))) fun r=>ah (cS (ps.map bT) xs) n3 (r.1,((i + 1:Nat) : Int))) fun r=>some r.1
def E5 (sh:Int) (xs:List Int) (nl:Nat) (ps:List Tx) (i:Nat) (ks:List Tx) (kk jj:Nat) (L:Int) (ds:List QD) : Prop:=∃ n3,n3 + (i + 1)=ab∧∃ n4,n4 + (kk + 1)=ab∧∃ n,n + jj=ab∧fQ sh xs=Option.bind (Option.bind (Option.bind (ah (db (ks.map bT) xs (i:Int) (kk:Int)) n (L,gC nl ds,(jj:Int))) fun r=>ah (dy xs (i:Int) (ks.map bT)) n4 (r.2.1,((kk + 1:Nat) : Int))) fun r=>ah (cS (ps.map bT) xs) n3 (r.1,((i + 1:Nat) : Int))) fun r=>some r.1
section
variable {sh:Int} {xs:List Int} {nl:Nat} {ps:List Tx} {ds:List QD}
theorem E1.step {k:Nat} (h:E1 sh xs nl ps k ds) (hnl:nl≤2) (hk:k < ps.length) (hps:ps.length≤7) (hds:ds.length≤7) : E1 sh xs nl ps (k + 1) (ds ++ [⟨ps[k],List.replicate nl rN,Im xs k⟩]):=by
 obtain ⟨n,h1,h2⟩:=h
 obtain ⟨n,rfl⟩ : ∃ m,n=m + 1:=⟨n - 1,by unfold ab at h1; omega⟩
 rw [Mf (Rq hnl ps xs ds hk hps hds)] at h2
 exact ⟨n,by omega,h2⟩
theorem E1.end (h:E1 sh xs nl ps ps.length ds) (hps:ps.length≤7) : E3 sh xs nl ps 0 ds:=by
 obtain ⟨n,h1,h2⟩:=h
 obtain ⟨n,rfl⟩ : ∃ m,n=m + 1:=⟨n - 1,by unfold ab at h1; omega⟩
 rw [vQ (r:=(gC nl ds,(ps.length:Int))) (by unfold dz; simp)] at h2
 exact ⟨ab,rfl,h2⟩
theorem E3.open {i:Nat} (h:E3 sh xs nl ps i ds) (hi:i < ps.length) (hps:ps.length≤7) {y:Nat} (hy:ps=mE y) (hd:ds.map (·.path)=ps) : E4 sh xs nl ps i (Ca ps[i] ps) 0 ds:=by
 obtain ⟨n,h1,h2⟩:=h
 obtain ⟨n,rfl⟩ : ∃ m,n=m + 1:=⟨n - 1,by unfold ab at h1; omega⟩
 refine ⟨n,by omega,ab,rfl,h2.trans ?_⟩
 have e1:(ps.map bT)[i]? = some (bT ps[i]):=by simp [hi]
 have d1:decide ((i:Int) < ((ps.map bT).length:Int))=true:=by simp; omega
 congr 1
 rw [ah]
 unfold cS
 dsimp only
 rw [if_pos d1,aD e1]
 simp only [zb,Zr nl hy hd (List.getElem_mem hi),a6 (show i < 7 by omega) (show 7≤1000000 by omega)]
 cases ah (dy xs (i:Int) ((Ca ps[i] ps).map bT)) ab (gC nl ds,0) <;> rfl
theorem E4.open {i kk:Nat} {ks:List Tx} (h:E4 sh xs nl ps i ks kk ds) (hk:kk < nl) (hnl:nl≤2) : E5 sh xs nl ps i ks kk 0 10000 ds:=by
 obtain ⟨n3,h3,n,h1,h2⟩:=h
 obtain ⟨n,rfl⟩ : ∃ m,n=m + 1:=⟨n - 1,by unfold ab at h1; omega⟩
 refine ⟨n3,h3,n,by omega,ab,rfl,h2.trans ?_⟩
 have hl:(gC nl ds).ak.length=nl:=by show ((CO nl).map bT).length=nl; rw [List.length_map,qS hnl]
 have d1:decide ((kk:Int) < ((gC nl ds).ak.length:Int))=true:=by rw [hl]; simpa using hk
 congr 1
 congr 1
 rw [ah]
 unfold dy
 dsimp only
 rw [if_pos d1]
 simp only [a6 (show kk < 7 by omega) (show 7≤1000000 by omega)]
 cases ah (db (ks.map bT) xs (i:Int) (kk:Int)) ab (10000,gC nl ds,0) <;> rfl
theorem E5.step {i kk jj:Nat} {ks:List Tx} {L:Int} (h:E5 sh xs nl ps i ks kk jj L ds) (hj:jj < ks.length) (hks:ks.length≤7) (hi:i≤7) (hnl:nl≤2) (hkk:kk < nl) (h0 : 0≤L) (hL:L≤10000) (hN:ds.length≤7) (hc:∀ q∈ds,q.caps.length=nl) :
  E5 sh xs nl ps i ks kk (jj + 1) (L - nV xs i jj kk ks.length L) (iM ks[jj] kk (nV xs i jj kk ks.length L) (mV xs i jj kk (nV xs i jj kk ks.length L)) ds):=by
 obtain ⟨n3,h3,n4,h4,n,h1,h2⟩:=h
 obtain ⟨n,rfl⟩ : ∃ m,n=m + 1:=⟨n - 1,by unfold ab at h1; omega⟩
 rw [Mf (Rp hj hks hi hnl hkk h0 hL hN hc)] at h2
 exact ⟨n3,h3,n4,h4,n,by omega,h2⟩
theorem E5.end {i kk:Nat} {ks:List Tx} {L:Int} (h:E5 sh xs nl ps i ks kk ks.length L ds) (hks:ks.length≤7) : E4 sh xs nl ps i ks (kk + 1) ds:=by
 obtain ⟨n3,h3,n4,h4,n,h1,h2⟩:=h
 obtain ⟨n,rfl⟩ : ∃ m,n=m + 1:=⟨n - 1,by unfold ab at h1; omega⟩
 rw [vQ (r:=(L,gC nl ds,(ks.length:Int))) (by unfold db; simp)] at h2
 exact ⟨n3,h3,n4,h4,h2⟩
theorem E4.end {i:Nat} {ks:List Tx} (h:E4 sh xs nl ps i ks nl ds) (hnl:nl≤2) : E3 sh xs nl ps (i + 1) ds:=by
 obtain ⟨n3,h3,n,h1,h2⟩:=h
 obtain ⟨n,rfl⟩ : ∃ m,n=m + 1:=⟨n - 1,by unfold ab at h1; omega⟩
 have hl:(gC nl ds).ak.length=nl:=by show ((CO nl).map bT).length=nl; rw [List.length_map,qS hnl]
 rw [vQ (r:=(gC nl ds,(nl:Int))) (by unfold dy; simp [hl])] at h2
 exact ⟨n3,h3,h2⟩
theorem E3.end (h:E3 sh xs nl ps ps.length ds) (hps:ps.length≤7) : fQ sh xs=some (gC nl ds):=by
 obtain ⟨n,h1,h2⟩:=h
 obtain ⟨n,rfl⟩ : ∃ m,n=m + 1:=⟨n - 1,by unfold ab at h1; omega⟩
 rw [vQ (r:=(gC nl ds,(ps.length:Int))) (by unfold cS; simp)] at h2
 exact h2
end
theorem E1.start (sh:Int) (xs:List Int) {nl y:Nat} (hnl:(nl:Int)=1 + i64.wrap (sh.tdiv 5) % 2) (hy:(y:Int)=sh % 5) : E1 sh xs nl (mE y) 0 []:=by
 refine ⟨ab,rfl,?_⟩
 have h0:=Int.emod_nonneg (i64.wrap (sh.tdiv 5)) (show (2:Int)≠0 by decide)
 have h1:=Int.emod_lt_of_pos (i64.wrap (sh.tdiv 5)) (show (0:Int) < 2 by decide)
 have y0:=Int.emod_nonneg sh (show (5:Int)≠0 by decide)
 have y1:=Int.emod_lt_of_pos sh (show (0:Int) < 5 by decide)
 unfold fQ
 dsimp only
 refine oQ (hJ _ (by decide) (by decide)) ?_
 rw [w64 (n:=1 + i64.wrap (sh.tdiv 5) % 2) (by omega),← hnl]
 refine oQ (mS (by simp; omega)) (oQ (hJ _ (by decide) (by decide)) ?_)
 rw [← hy]
 have hy5:y < 5:=by omega
 refine oQ (r:=(mE y).map bT) ?_ ?_
 ·rcases y with _ | _ | _ | _ | _ | y
  all_goals first | rfl | omega
 ·have e:(⟨List.take nl [(⟨#[]⟩ : ByteArray),⟨#[103,112,117]⟩],[]⟩ : av)=gC nl []:=by
   unfold gC CO
   rw [List.map_take]
   rfl
  rw [e]
  rfl
end
theorem dk {w:World} {b:Nat} {cs:Array Value} {t:TypeId} (h:w.heap[b]? = some (.cells cs t (0,0))) (j:Nat) (v:Value) (hv:cs[j]? = some v) : w.cell? ⟨b,j,none⟩=some v:=by
 rw [cell_of_row w b j cs t (0,0) h,hv]
theorem sB {w:World} {b:Nat} {cs:Array Value} {t:TypeId} (h:w.heap[b]? = some (.cells cs t (0,0))) (j:Nat) : w.frozen? ⟨b,j,none⟩=false:=by
 simp [World.frozen?,h]
noncomputable def sg (w:World) : World:=((((((((w.alloc (Obj.cells #[Value.slice none 0 0,Value.slice none 0 0] 36)).alloc (Obj.cells #[Value.string { data:=#[114,111,111,116] }] 9)).alloc (Obj.cells #[Value.string { data:=#[114,111,111,116] },Value.string { data:=#[114,111,111,116,46,97] },Value.string { data:=#[114,111,111,116,46,98] }] 9)).alloc (Obj.cells #[Value.string { data:=#[114,111,111,116] },Value.string { data:=#[114,111,111,116,46,97] },Value.string { data:=#[114,111,111,116,46,97,46,120] },Value.string { data:=#[114,111,111,116,46,97,46,121] },Value.string { data:=#[114,111,111,116,46,98] }] 9)).alloc (Obj.cells #[Value.string { data:=#[114,111,111,116] },Value.string { data:=#[114,111,111,116,46,97] },Value.string { data:=#[114,111,111,116,46,98] },Value.string { data:=#[114,111,111,116,46,98,46,120] },Value.string { data:=#[114,111,111,116,46,98,46,120,46,112] },Value.string { data:=#[114,111,111,116,46,98,46,120,46,113] },Value.string { data:=#[114,111,111,116,46,99] }] 9)).alloc (Obj.cells #[Value.string { data:=#[114,111,111,116] },Value.string { data:=#[114,111,111,116,46,97] }] 9)).alloc (Obj.cells #[Value.slice (some { block:=w.heap.size + 1,off:=0 }) 1 1,Value.slice (some { block:=w.heap.size + 1 + 1,off:=0 }) 3 3,Value.slice (some { block:=w.heap.size + 1 + 1 + 1,off:=0 }) 5 5,Value.slice (some { block:=w.heap.size + 1 + 1 + 1 + 1,off:=0 }) 7 7,Value.slice (some { block:=w.heap.size + 1 + 1 + 1 + 1 + 1,off:=0 }) 2 2] 33)).alloc (Obj.cells #[Value.string { data:=#[] },Value.string { data:=#[103,112,117] }] 9))
theorem TN (w:World) : Ext w (sg w):=(((((((aO w _).trans (aO _ _)).trans (aO _ _)).trans (aO _ _)).trans (aO _ _)).trans (aO _ _)).trans (aO _ _)).trans (aO _ _)
theorem Pf (w:World) : (sg w).heap.size=w.heap.size + 8:=by simp [sg]
theorem TM (w:World) : (sg w).heap[w.heap.size]? = some (.cells #[.slice none 0 0,.slice none 0 0] 36 (0,0)):=by
 have h:=heap_alloc_new w (.cells #[.slice none 0 0,.slice none 0 0] 36 (0,0))
 have x:Ext (w.alloc (.cells #[.slice none 0 0,.slice none 0 0] 36 (0,0))) (sg w):=((((((aO _ _).trans (aO _ _)).trans (aO _ _)).trans (aO _ _)).trans (aO _ _)).trans (aO _ _)).trans (aO _ _)
 exact (x.block _ (Array.getElem?_eq_some_iff.1 h).1).trans h
theorem Ph (w:World) : (sg w).heap[w.heap.size + 1 + 1 + 1 + 1 + 1 + 1 + 1]? = some (.cells #[.string ⟨#[]⟩,.string ⟨#[103,112,117]⟩] 9 (0,0)):=by
 have e:∀ (W1:World) (o:Obj) (n:Nat),W1.heap.size=n→(W1.alloc o).heap[n]? = some o:=by intro W1 o n h; subst h; exact heap_alloc_new W1 o
 unfold sg
 exact e _ _ _ (by simp)
theorem Pe (w:World) (y:Nat) (hy:y < 5) : (sg w).cell? ⟨w.heap.size + 1 + 1 + 1 + 1 + 1 + 1,y,none⟩=some (.slice (some ⟨w.heap.size + 1 + y,0,none⟩) (mE y).length (mE y).length):=by
 unfold sg
 rcases y with _ | _ | _ | _ | _ | y
 all_goals first | omega | (simp [go_sem,mE,Nat.add_assoc])
theorem Pg (w:World) (y:Nat) (hy:y < 5) (i:Nat) (hi:i < (mE y).length) : (sg w).cell? ⟨w.heap.size + 1 + y,i,none⟩=some (.string ⟨((mE y)[i]).toArray⟩):=by
 unfold sg
 rcases y with _ | _ | _ | _ | _ | y
 all_goals first | omega | skip
 all_goals (rcases i with _ | _ | _ | _ | _ | _ | _ | i)
 all_goals first | (exfalso; simp [mE] at hi; done) | (exfalso; simp [mE] at hi; omega) | (simp [go_sem,mE,Nat.add_assoc])
theorem yA (v:Value) (xs:List Int) (i:Int) (w:World) (r0:Rd w v (xs.map (Value.int .i64))) (hn:xs.length≤9223372036854775807) (h0 : 0≤i) (h1:i≤1000000) :
  Calls prog 56 #[v,.int .i64 i] w fun e w'=>(∃ a:Int,e = .returned (.int .i64 a)∧a=ia xs i)∧w=w':=by
 obtain ⟨A,N,c,rfl,hN,hc1,hc2,hcell⟩:=Ij r0
 have HC:=Lib.hid hcell
 have HN:=Lib.hid hN
 have hN1:N≤9223372036854775807:=by omega
 clear hcell hN r0
 by_cases hz:N=0
 ·subst hz
  have hp:ia xs i=i:=by unfold ia; rw [if_pos (by have:=HN.out; omega)]
  rw [hp]
  clear hp
  go_enter Tryz.func56,Tryz.ntmps56
  go_wp2
  go_ret
  exact ⟨⟨_,rfl,rfl⟩,rfl⟩
 ·have q0:((N:Int)==0)=false:=by simp; omega
  obtain ⟨m,hm⟩ : ∃ m:Nat,i % (N:Int)=(m:Int):=⟨(i % (N:Int)).toNat,by have:=Int.emod_nonneg i (show (N:Int)≠0 by omega); omega⟩
  have hmN:m < N:=by have:=Int.emod_lt_of_pos i (show (0:Int) < N by omega); omega
  obtain ⟨a,rfl,hb,hcs⟩:=HC.out (by omega)
  have h3:=hcs m (by have:=HN.out; omega)
  have n1:(1:Int)≤(N:Int):=by omega
  have m0:(0:Int)≤(m:Int):=by omega
  have m1:(m:Int) < (N:Int):=by omega
  have hp:ia xs i=xs[m]'(by have:=HN.out; omega):=by
   unfold ia
   rw [if_neg (by have:=HN.out; omega),show (xs.length:Int)=(N:Int) by have:=HN.out; omega,hm]
   simp [List.getD,zq (show m < xs.length by have:=HN.out; omega)]
  generalize xs[m]'(by have:=HN.out; omega)=x at h3 hp
  rw [hp]
  clear hp
  clear hcs
  go_enter Tryz.func56,Tryz.ntmps56
  go_wp2
  go_ret
  exact ⟨⟨_,rfl,rfl⟩,rfl⟩
section
section
variable {P:Program} {ops:Array Oper} {Q:Exit→Act→World→Prop} {md:Region.Mode} {L:World→World→Prop}
def fL (P:Program) (ops:Array Oper) (L:World→World→Prop) (W:World) (o:Oper) (v:Value) (a:Act) : Prop :=
 (Region.wanted o (yielded ops a.tmps)=true∧∀ w,L W w→OkX P v w ((execOp a.eval o).run P w)) ∨
 (Region.wanted o (yielded ops a.tmps)=false∧v=undef)
structure Way (L:World→World→Prop) : Prop where
 ext:∀ {a b},Ext a b→L a b
 trans:∀ {a b c},L a b→L b c→L a c
theorem fL.of_same {W:World} {o:Oper} {v:Value} {a a':Act} (hy:fL P ops L W o v a) (he:execOp a'.eval o=execOp a.eval o)
  (hw:Region.wanted o (yielded ops a'.tmps)=Region.wanted o (yielded ops a.tmps)) : fL P ops L W o v a':=by
 unfold fL at *
 rw [he,hw]
 exact hy
theorem fL.later (hL:Way L) {W W':World} {o:Oper} {v:Value} {a:Act} (hy:fL P ops L W o v a) (h:L W W') : fL P ops L W' o v a :=
 hy.imp (fun ⟨hw,hv⟩=>⟨hw,fun w k=>hv w (hL.trans h k)⟩) id
theorem fL.wpOp {W w:World} {i:Nat} {o:Oper} {v:Value} {a:Act} (hi:ops[i]? = some o) (hy:fL P ops L W o v a) (hW:L W w)
  {K:Act→World→Prop} (h:∀ w',Ext w w'→K (a.put o.dst v) w') : wpOp P ops Q i K a w:=by
 unfold Go.wpOp
 simp only [hi]
 rcases hy with ⟨hw,hv⟩ | ⟨hw,rfl⟩
 ·simp only [hw,if_true]
  refine .inl ?_
  unfold Oper.wp
  have:=hv w hW
  generalize (execOp a.eval o).run P w=r at *
  cases r with
  | ok n w' =>
   cases n <;> simp only [OkX] at this <;> simp only [Oper.upon]
   case value u=>rw [this.1]; exact h _ this.2
   case enter f args =>
    refine Calls.mono this.2 fun e w'' he=>?_
    rw [he.1]
    exact h _ (this.1.trans he.2)
  | halt x w'=>simp only [OkX] at this
 ·simp only [hw,zf,if_false]; exact h _ (Ext.refl _)
theorem SP {j:Nat} {W:World} {oi oj:Oper} {v:Value} (hj:ops[j]? = some oj) (hap:oi.apart ops oj=true)
  (hsi:∀ cs b,oi.op≠.select cs b) (hsj:∀ cs b,oj.op≠.select cs b)
  (hQ:∀ c a w,Q (.panic c) (a.put oi.dst v) w→Q (.panic c) a w) {K:Act→World→Prop} {a:Act} {w:World}
  (hy:fL P ops L W oi v a) (h:wpOp P ops Q j K (a.put oi.dst v) w) :
  wpOp P ops Q j (fun a' w'=>fL P ops L W oi v a'∧K (a'.put oi.dst v) w') a w:=by
 obtain ⟨h1,h2,h3⟩:=Oper.apart_spec hap
 have keep:∀ (a:Act),fL P ops L W oi v a→∀ u,fL P ops L W oi v (a.put oj.dst u):=fun a hy u =>
  hy.of_same (execOp_put oi hsi a oj.dst u h3) (wanted_put oi a oj.dst u h3)
 have keepD:∀ d,fL P ops L W oi v { a with defers:=d::a.defers } := fun d=>hy.of_same rfl rfl
 unfold Go.wpOp at *
 simp only [hj] at *
 rw [wanted_put oj a oi.dst v h1] at h
 split
 ·rename_i hw
  simp only [hw,if_true] at h
  rcases h with h | ⟨hasks,hlets⟩
  case inr=>exact .inr ⟨by unfold Oper.asks at *; rw [execOp_put oj hsj a oi.dst v h1] at hasks; exact hasks,hlets⟩
  refine .inl ?_
  unfold Oper.wp at *
  rw [execOp_put oj hsj a oi.dst v h1] at h
  generalize (execOp a.eval oj).run P w=r at *
  cases r with
  | ok n w' =>
   cases n <;> simp only [Oper.upon] at h ⊢
   case value u=>exact ⟨keep a hy u,by rw [← Act.put_comm a v u h2]; exact h⟩
   case skip=>exact ⟨keep a hy _,by rw [← Act.put_comm a v undef h2]; exact h⟩
   case defer d =>
    refine ⟨keep _ (keepD d) _,?_⟩
    rw [← Act.put_comm _ v undef h2,← Act.put_defers]
    exact h
   case enter f args =>
    refine Calls.mono h fun e w'' he=>?_
    cases e with
    | returned u=>exact ⟨keep a hy u,by rw [← Act.put_comm a v u h2]; exact he⟩
    | panicked c=>exact hQ _ _ _ he
    | outgrown=>exact he
   case row row args=>exact Rows.mono h fun u w'' he=>⟨keep a hy u,by rw [← Act.put_comm a v u h2]; exact he⟩
  | halt x w' =>
   cases x <;> simp only [Oper.upon] at h ⊢
   case panic u=>exact hQ _ _ _ h
 ·rename_i hw
  simp only [hw] at h
  exact ⟨keep a hy _,by rw [← Act.put_comm a v undef h2]; exact h⟩
def wpW (P:Program) (md:Region.Mode) (ops:Array Oper) (Q:Exit→Act→World→Prop) (L:World→World→Prop) : Nat→Array Bool→Act→World→Prop
 | 0,listed,a,w=>Region.ready md ops listed = []∧∀ w1,Ext w w1→Q .normal a w1
 | f + 1, listed, a, w => (Region.ready md ops listed = [] → ∀ w1, Ext w w1 → Q .normal a w1) ∧ ∀ w1, Ext w w1 →
     ∀ i∈Region.ready md ops listed,wpOp P ops Q i (fun a' w'=>L w1 w'∧wpW P md ops Q L f (listed.setIfInBounds i true) a' w') a w1
theorem wpW.later:∀ {f:Nat} {listed:Array Bool} {a:Act} {w w':World},wpW P md ops Q L f listed a w→Ext w w'→wpW P md ops Q L f listed a w'
 | 0,_,_,_,_,h,k=>⟨h.1,fun w1 k1=>h.2 w1 (k.trans k1)⟩
 | _ + 1,_,_,_,_,h,k=>⟨fun h0 w1 k1=>h.1 h0 w1 (k.trans k1),fun w1 k1=>h.2 w1 (k.trans k1)⟩
theorem yi:∀ (f:Nat) (listed:Array Bool) (a:Act) (w:World),wpW P md ops Q L f listed a w→wpAny P md ops Q f listed a w
 | 0,_,_,_,h=>⟨h.1,h.2 _ (Ext.refl _)⟩
 | f + 1,_,_,_,h=>⟨fun h0=>h.1 h0 _ (Ext.refl _),fun i hi=>wpOp_mono (fun a' w' h'=>yi f _ a' w' h'.2) (h.2 _ (Ext.refl _) i hi)⟩
theorem SO (hL:Way L) {i:Nat} {oi:Oper} {v:Value} (hi:ops[i]? = some oi) (hsel:∀ (j:Nat) (o:Oper) cs b,ops[j]? = some o→o.op≠.select cs b)
  (hQ:∀ c a w,Q (.panic c) (a.put oi.dst v) w→Q (.panic c) a w) :
  ∀ (f:Nat) (listed:Array Bool) (a:Act) (w:World),
   (∀ j oj,ops[j]? = some oj→j≠i→listed.getD j true=false→(∀ e∈oj.after,Region.binds md e=true→e.on≠i)→oi.apart ops oj=true) →
   i∈Region.ready md ops listed→fL P ops L w oi v a →
   wpW P md ops Q L f (listed.setIfInBounds i true) (a.put oi.dst v) w→wpW P md ops Q L (f + 1) listed a w:=by
 intro f
 induction f with
 | zero =>
  intro listed a w _ hr hy H
  refine ⟨fun h=>(by rw [h] at hr; cases hr),fun w1 k1 j hj=>?_⟩
  by_cases hji:j=i
  ·subst hji; exact hy.wpOp hi (hL.ext k1) fun w' k'=>⟨hL.ext k',wpW.later H (k1.trans k')⟩
  ·have:=ready_mono hj hji
   rw [H.1] at this
   cases this
 | succ f ih =>
  intro listed a w hfree hr hy H
  have hun:=(mem_ready.1 hr).1
  refine ⟨fun h=>(by rw [h] at hr; cases hr),fun w1 k1 j hj=>?_⟩
  by_cases hji:j=i
  ·subst hji; exact hy.wpOp hi (hL.ext k1) fun w' k'=>⟨hL.ext k',wpW.later H (k1.trans k')⟩
  ·have h1:=H.2 w1 k1 j (ready_mono hj hji)
   obtain ⟨hjun,oj,hoj,hall⟩:=mem_ready.1 hj
   have hnot:∀ e∈oj.after,Region.binds md e=true→e.on≠i:=fun e he hb heq=>by
    have h1:=hall e he hb
    rw [heq,getD_both hun] at h1
    cases h1
   have hfree':∀ k ok,ops[k]? = some ok→k≠i→(listed.setIfInBounds j true).getD k true=false →
     (∀ e∈ok.after,Region.binds md e=true→e.on≠i)→oi.apart ops ok=true:=fun k ok hk hki hun hno=>by
    refine hfree k ok hk hki ?_ hno
    by_cases hjk:j=k
    ·subst hjk; exact hjun
    ·rw [getD_set_ne true hjk] at hun; exact hun
   have h2:=SP hoj (hfree j oj hoj hji hjun hnot) (fun cs b=>hsel i oi cs b hi) (fun cs b=>hsel j oj cs b hoj) hQ hy h1
   refine wpOp_mono (fun a' w' h3=>⟨h3.2.1,ih (listed.setIfInBounds j true) a' w' hfree' (ready_mono hr (Ne.symm hji)) (h3.1.later hL (hL.trans (hL.ext k1) h3.2.1)) ?_⟩) h2
   rw [Array.setIfInBounds_comm _ _ hji]
   exact h3.2.2
def xm (md:Region.Mode) (ops:Array Oper) : List (Nat×Bool)→Array Bool→Bool
 | [],listed=>(Region.ready md ops listed).isEmpty
 | (i,true)::s,listed=>(Region.ready md ops listed).contains i&&Region.free md ops listed i&&xm md ops s (listed.setIfInBounds i true)
 | (i,false)::s,listed=>(Region.ready md ops listed == [i])&&xm md ops s (listed.setIfInBounds i true)
def wpS (P:Program) (ops:Array Oper) (Q:Exit→Act→World→Prop) (L:World→World→Prop) : List (Nat×Bool)→Act→World→Prop
 | [],a,W=>∀ w1,Ext W w1→Q .normal a w1
 | (i,true)::s,a,W=>∃ o v,ops[i]? = some o∧fL P ops L W o v a∧wpS P ops Q L s (a.put o.dst v) W
 | (i,false)::s,a,W=>∀ w1,Ext W w1→wpOp P ops Q i (fun a' w'=>L w1 w'∧wpS P ops Q L s a' w') a w1
def Sa (ops:Array Oper) (ds:Tmp→Bool) (s:List (Nat×Bool)) : Bool:=s.all fun p=>!p.2||((ops[p.1]?).all fun o=>o.dst.all ds)
theorem xd (hL:Way L) (hsel:Region.noSelect ops=true) (ds:Tmp→Bool) (hQ:∀ c (a:Act) (d:Tmp) v w,ds d=true→Q (.panic c) (a.put (some d) v) w→Q (.panic c) a w) :
  ∀ (s:List (Nat×Bool)) (listed:Array Bool) (a:Act) (W:World),Sa ops ds s=true→xm md ops s listed=true→wpS P ops Q L s a W→wpW P md ops Q L s.length listed a W
 | [],listed,a,W,_,hB,h=>⟨by simpa [xm] using hB,h⟩
 | (i,true)::s,listed,a,W,hI,hB,h=>by
  simp only [Sa,List.all_cons,Bool.and_eq_true,Bool.not_true,Bool.false_or] at hI
  obtain ⟨hI1,hI2⟩:=hI
  simp only [xm,Bool.and_eq_true] at hB
  obtain ⟨⟨hr,hf⟩,hB'⟩:=hB
  obtain ⟨o,v,h0,hy,hK⟩:=h
  exact SO hL h0 (Region.noSelect_spec hsel) (fun c a w=>by cases hd:o.dst with | none=>exact fun h=>h | some d=>exact hQ c a d v w (by simpa [h0,hd] using hI1)) s.length listed a W
   (Region.free_spec h0 hf) (by simpa using hr) hy (xd hL hsel ds hQ s _ _ _ hI2 hB' hK)
 | (i,false)::s,listed,a,W,hI,hB,h=>by
  simp only [Sa,List.all_cons,Bool.and_eq_true] at hI
  simp only [xm,Bool.and_eq_true,beq_iff_eq] at hB
  obtain ⟨hr,hB'⟩:=hB
  refine ⟨fun h0=>(by rw [hr] at h0; cases h0),fun w1 k1 j hj=>?_⟩
  rw [hr,List.mem_singleton] at hj
  subst hj
  exact wpOp_mono (fun a' w' h'=>⟨h'.1,xd hL hsel ds hQ s _ _ _ hI.2 hB' h'.2⟩) (h w1 k1)
theorem Lr:∀ (f:Nat) {g:Nat} {listed:Array Bool} {a:Act} {w:World},f≤g→wpAny P md ops Q f listed a w→wpAny P md ops Q g listed a w
 | 0,0,_,_,_,_,h=>h
 | 0,g + 1,_,_,_,_,h=>⟨fun _=>h.2,by rw [h.1]; simp⟩
 | f + 1,g + 1,_,_,_,hle,h=>⟨h.1,fun i hi=>wpOp_mono (fun a' w' h'=>Lr f (by omega) h') (h.2 i hi)⟩
 | f + 1,0,_,_,_,hle,_=>absurd hle (by omega)
theorem ol (L:World→World→Prop) (hL:Way L) {id:Nat} {a:Act} {w:World} {l:List Oper} (s:List (Nat×Bool)) (hm:P.follows .mixedOrders=true)
  (hB:(Region.noSelect l.toArray&&decide (s.length≤l.toArray.size)&&xm .any l.toArray s (Array.replicate l.toArray.size false))=true)
  (hQ:∀ c (a:Act) (d:Tmp) v w,Q (.panic c) (a.put (some d) v) w→Q (.panic c) a w)
  (h:wpS P l.toArray Q L s a w.drew) : (Code.region id l.toArray true).wp P Q a w:=by
 simp only [Bool.and_eq_true,decide_eq_true_eq] at hB
 obtain ⟨⟨hsel,hle⟩,hB⟩:=hB
 exact wp_region_any hm (Lr _ hle (yi _ _ _ _ (xd (md:=.any) hL hsel (fun _=>true) (fun c a d v w _=>hQ c a d v w) s _ a w.drew (by simp [Sa]) hB h)))
variable {l:List Oper}
theorem rO {o:Oper} {a:Act} (h:o.guard=none) : Region.wanted o (yielded l.toArray a.tmps)=true:=by simp [Region.wanted,h]
theorem tc {W:World} {i:Nat} {s:List (Nat×Bool)} {a:Act} (o:Oper) (v:Value) (hi:l[i]? = some o) (hw:Region.wanted o (yielded l.toArray a.tmps)=true)
  (h:∀ w1,L W w1→OkX P v w1 ((execOp a.eval o).run P w1)) (hr:wpS P l.toArray Q L s (a.put o.dst v) W) : wpS P l.toArray Q L ((i,true)::s) a W:=⟨o,v,by simpa using hi,.inl ⟨hw,h⟩,hr⟩
theorem OI {W:World} {i:Nat} {s:List (Nat×Bool)} {a:Act} (o:Oper) (hi:l[i]? = some o) (hw:Region.wanted o (yielded l.toArray a.tmps)=true)
  (h:∀ w1,Ext W w1→o.wp P a w1 (fun a' w'=>L w1 w'∧wpS P l.toArray Q L s a' w') Q) : wpS P l.toArray Q L ((i,false)::s) a W:=by
 intro w1 k1
 have hi':l.toArray[i]? = some o:=by simpa using hi
 unfold Go.wpOp
 simp only [hi',hw,if_true]
 exact .inl (h w1 k1)
theorem xl {W:World} {a:Act} (h:∀ w1,Ext W w1→Q .normal a w1) : wpS P ops Q L [] a W:=h
end
theorem J8:Way Ext:=⟨fun h=>h,Ext.trans⟩
end
theorem Tryz.infoCap:(prog.info? 98).map (fun i=>(i.zero,i.size,i.bytes))=some (some (.agg #[.int .i64 0,.int .i64 0]),2,16):=by kernel_rfl
theorem Ky (w:World) (x y:Value) (t:TypeId) : ∀ j u,[x,y][j]? = some u→(w.alloc (.cells #[x,y] t)).cell? ((⟨w.heap.size,0,none⟩ : Addr).add j)=some u:=by
 intro j u hu
 have hadd:(⟨w.heap.size,0,none⟩ : Addr).add j=⟨w.heap.size,j,none⟩:=by unfold Addr.add; split <;> simp_all
 rw [hadd,cell_of_row _ w.heap.size j _ t (0,0) (heap_alloc_new w _),← Array.getElem?_toList]
 exact hu
theorem abo {a b:Int} : ∀ u∈[Value.int .i64 a,Value.int .i64 b],u.oneCell' = true:=by
 intro u hu
 simp only [List.mem_cons,List.mem_nil_iff,or_false] at hu
 rcases hu with rfl | rfl <;> rfl
theorem KC {w:World} {b:Nat} {cs:Array Value} {t:TypeId} (h:w.heap[b]? = some (.cells cs t (0,0))) (j:Nat) (v:Value) : (w.setCell ⟨b,j,none⟩ v).heap[b]? = some (.cells (cs.setIfInBounds j v) t (0,0)):=by
 rw [heap_setCell_same w b j _ _ _ h]
theorem FL (cs:List (Int×Int)) : ce (cs ++ [rN])=ce cs ++ [.int .i64 10000,.int .i64 10000]:=He cs 10000 10000
theorem wT (w:World) (R i:Nat) (u:Value) : w.grownBy (w.setCell ⟨R,i,none⟩ u) (some R) :=
 ⟨rfl,rfl,rfl,by simp [World.setCell],fun k _ hk=>Below.heap_setCell _ _ _ _ (fun e=>hk (by rw [e]))⟩
theorem R7 {w:World} (B gl nl:Nat) (h:w.heap[gl]? = some (.cells #[.string ⟨#[]⟩,.string ⟨#[103,112,117]⟩] 9 (0,0))) (hB:B≤gl) (h2:nl≤2) : w.ownsRow B 9 1 (.slice (some ⟨gl,0,none⟩) nl 2) nl ((CO nl).map sv):=by
 refine ⟨by simp [CO]; omega,.inr ⟨gl,2,_,rfl,hB,h,h2,by simp [maxLen],rfl,?_⟩⟩
 rcases nl with _ | _ | _ | nl
 ·rfl
 ·rfl
 ·rfl
 ·omega
theorem SI {w V w5:World} {row:Option Nat} {Q:Nat} {o:Obj} (hV:Ext w V) (hg:V.grownBy w5 row) (hb:w.heap[Q]? = some o) (hne:row≠some Q) : w5.heap[Q]? = some o:=by
 have hlt:=(Array.getElem?_eq_some_iff.1 hb).1
 rw [hg.block Q (Nat.lt_of_lt_of_le hlt hV.size) (fun e=>hne e.symm),hV.block Q hlt]
 exact hb
theorem Tt (i j k:Nat) (hi:i≤7) (hj:j≤7) (hk:k≤2) : ∃ p:Nat,p≤51∧(p:Int)=(i:Int) * (j:Int) + (k:Int)∧wrap64 (wrap64 ((i:Int) * (j:Int)) + (k:Int))=(p:Int):=by
 have h:i * j≤7 * 7:=Nat.mul_le_mul hi hj
 obtain ⟨p,hp⟩ : ∃ p:Nat,p=i * j:=⟨_,rfl⟩
 rw [← hp] at h
 refine ⟨p + k,by omega,by rw [hp]; simp [Int.natCast_add,Int.natCast_mul],?_⟩
 rw [show (i:Int) * (j:Int)=(p:Int) by rw [hp]; exact (Int.natCast_mul i j).symm]
 rw [show wrap64 (p:Int)=(p:Int) from IntWalk.wrap64_in _ ⟨by omega,by omega⟩]
 rw [show wrap64 ((p:Int) + (k:Int))=(p:Int) + (k:Int) from IntWalk.wrap64_in _ ⟨by omega,by omega⟩]
 omega
def Vp (sh:Int) (xs:List Int) (y nl:Nat) (w:World) (e:Ending) (w':World) : Prop:=∃ vl vq ds qs B,e = .returned (.agg #[vl,vq])∧w.heap.size≤B∧w'.ownsRow w.heap.size 9 1 vl nl ((CO nl).map sv)∧iX w' B vq ds qs∧GI nl (mE y) (mE y).length ds∧Ext w w'∧fQ sh xs=some (gC nl ds)
theorem SN (a:Int) : wrap64 a=i64.wrap a:=by rw [IntKind.wrap_i64]; unfold wrap64; rfl
theorem aaJ {xs:List Int} {i jj kk nk L:Nat} {z1 z2 a b:Int} {z y:Nat} (hl:jj + 1 < nk) (e3:z1=ia xs a) (ha:a=(i:Int) + jj + kk) (e4:z2=ia xs b) (hb:b=(i:Int) * jj + kk) (e1:(z:Int)=z1 % ((L + 1:Nat) : Int)) (e2:(y:Int)=z2 % ((4:Nat) : Int)) : [0,(L:Int) / 2,(L:Int),(z:Int)].getD y 0=nV xs i jj kk nk (L:Int):=by
 unfold nV
 rw [if_pos hl,← ha,← hb,← e3,← e4]
 have e5:z1 % ((L:Int) + 1)=(z:Int):=by rw [e1]; rfl
 have e6:z2 % 4=(y:Int):=by rw [e2]; rfl
 rw [e5,e6]
 rfl
theorem aaM {xs:List Int} {i jj kk n:Nat} {z1 z2 a b:Int} {z y:Nat} (hn:n≤10000) (e3:z1=ia xs a) (ha:a=(jj:Int) + kk) (e4:z2=ia xs b) (hb:b=(i:Int) + 2 * jj) (e1:(z:Int)=z1 % ((10000 - n + 1:Nat) : Int)) (e2:(y:Int)=z2 % ((3:Nat) : Int)) : [10000,(n:Int),(n:Int) + (z:Int)].getD y 0=mV xs i jj kk (n:Int):=by
 unfold mV
 rw [← ha,← hb,← e3,← e4]
 have e5:z1 % (10000 - (n:Int) + 1)=(z:Int):=by rw [e1]; congr 1; omega
 have e6:z2 % 3=(y:Int):=by rw [e2]; rfl
 rw [e5,e6]
 rfl
set_option maxHeartbeats 12800000 in
theorem Vo (sh:Int) (v:Value) (xs:List Int) (w:World) (r0:Rd w v (xs.map (Value.int .i64))) (hx30:xs.length≤9223372036854775807) :
  Calls prog 28 #[.int .i64 sh,v] w fun e w'=>∃ nl,1≤nl∧nl≤2∧Vp sh xs (sh % 5).toNat nl w e w':=by
 obtain ⟨c0,hc,hcz0,hcz1,hcz2⟩:=info_parts Tryz.infoCap
 obtain ⟨q0,hq,hqz0,hqz1,hqz2⟩:=info_parts Tryz.infoQ
 obtain ⟨i0,hi,hz0,hz1,hz2⟩:=info_parts Tryz.infoStr
 obtain ⟨W2,hW2⟩ : ∃ W2,W2=sg w:=⟨_,rfl⟩
 have X2:=Lib.hid (show Ext w W2 by rw [hW2]; exact TN w)
 have HS2:=Lib.hid (show W2.heap.size=w.heap.size + 8 by rw [hW2]; exact Pf w)
 have HR0:=Lib.hid (show W2.heap[w.heap.size]? = some (.cells #[.slice none 0 0,.slice none 0 0] 36 (0,0)) by rw [hW2]; exact TM w)
 have HLB:=Lib.hid (show W2.heap[w.heap.size + 1 + 1 + 1 + 1 + 1 + 1 + 1]? = some (.cells #[.string ⟨#[]⟩,.string ⟨#[103,112,117]⟩] 9 (0,0)) by rw [hW2]; exact Ph w)
 have HTR:=Lib.hid (show ∀ y,y < 5→W2.cell? ⟨w.heap.size + 1 + 1 + 1 + 1 + 1 + 1,y,none⟩=some (.slice (some ⟨w.heap.size + 1 + y,0,none⟩) (mE y).length (mE y).length) by rw [hW2]; exact Pe w)
 have HPA:=Lib.hid (show ∀ y,y < 5→∀ i (hi:i < (mE y).length),W2.cell? ⟨w.heap.size + 1 + y,i,none⟩=some (.string ⟨((mE y)[i]).toArray⟩) by rw [hW2]; exact Pg w)
 obtain ⟨A,N,c,rfl,hN,hc1,hc2,hcell⟩:=Ij r0
 have HC:=Lib.hid hcell
 have HN:=Lib.hid hN
 have HRD:=Lib.hid r0
 have hN30:N≤9223372036854775807:=by omega
 clear hcell hN r0
 have hW2':W2 = _:=hW2
 unfold sg at hW2'
 go_enter Tryz.func28,Tryz.ntmps28
 go_wp2_with fail
 rw [← hW2']
 clear hW2 hW2'
 (with_reducible refine (gN _ 2 2 _ rfl (by omega)).mono ?_)
 rintro e w2 ⟨nl',rfl,hny,hnl,rfl⟩
 have HNY:=Lib.hid hny
 clear hny
 have hnl1:(1 + (nl':Int)).toNat=nl' + 1:=by omega
 have hnl2:(0:Int)≤1 + (nl':Int):=by omega
 have hnl3 : 1 + (nl':Int)≤2:=by omega
 go_wp2_with fail
 (with_reducible refine (gN _ 5 5 _ rfl (by omega)).mono ?_)
 rintro e w3 ⟨y,rfl,hny,hy5,rfl⟩
 have HY:=Lib.hid hny
 clear hny hnl1
 obtain ⟨nl,hnl'⟩ : ∃ nl,nl=nl' + 1:=⟨_,rfl⟩
 rw [← hnl']
 have HNL:=Lib.hid hnl'
 have hnl4:nl≤2:=by omega
 have hnl5 : 1≤nl:=by omega
 clear hnl' hnl2 hnl3 hnl
 obtain ⟨gt,hgt⟩ : ∃ gt,gt=w.heap.size + 1 + y:=⟨_,rfl⟩
 obtain ⟨ps,hps⟩ : ∃ ps,ps=mE y:=⟨_,rfl⟩
 obtain ⟨NP,hNP⟩ : ∃ NP,NP=ps.length:=⟨_,rfl⟩
 have hNP7:NP≤7:=by rw [hNP,hps]; exact LB y
 have HPX:=Lib.hid (show ∀ i (hi:i < ps.length),W2.cell? ⟨gt,i,none⟩=some (.string ⟨(ps[i]).toArray⟩) by rw [hgt]; subst hps; exact HPA.out y hy5)
 have HTX:=HTR.out y hy5
 rw [← hgt,← hps,← hNP] at HTX
 have HTX':∀ o,(W2.alloc o).cell? ⟨w.heap.size + 1 + 1 + 1 + 1 + 1 + 1,y,none⟩=some (.slice (some ⟨gt,0,none⟩) NP NP):=fun o=>(aO W2 o).cell HTX
 have HPS:=Lib.hid hps
 have HNP:=Lib.hid hNP
 have HNO:=Lib.hid (show ps.Nodup by rw [hps]; exact Ov y)
 have HE0:=Lib.hid (show E1 sh xs nl ps 0 [] by rw [hps]; exact E1.start sh xs (by have h1:=HNY.out; have h2:=HNL.out; rw [h2]; first | omega | (rw [show (((nl' + 1:Nat)) : Int)=1 + (nl':Int) by omega,h1,SN]; rfl)) (by have:=HY.out; omega))
 have hy0:(0:Int)≤(y:Int):=by omega
 have hy5':(y:Int) < 5:=by omega
 clear hgt hps hNP HTX
 go_wp2
 obtain ⟨gl,hgl⟩ : ∃ gl,gl=w.heap.size + 1 + 1 + 1 + 1 + 1 + 1 + 1:=⟨_,rfl⟩
 rw [← hgl]
 have HGL:=Lib.hid (show w.heap.size≤gl by omega)
 have HL2:=Lib.hid (show W2.heap[gl]? = some (.cells #[.string ⟨#[]⟩,.string ⟨#[103,112,117]⟩] 9 (0,0)) by rw [hgl]; exact HLB.out)
 clear hgl HLB HTX' HTR HPA
 obtain ⟨R,hR⟩ : ∃ R,R=W2.heap.size:=⟨_,rfl⟩
 have HR3:=Lib.hid (show (W2.alloc (.cells #[.slice (some ⟨gl,0,none⟩) nl 2,.slice none 0 0] 36)).heap[R]? = some (.cells #[.slice (some ⟨gl,0,none⟩) nl 2,.slice none 0 0] 36 (0,0)) by rw [hR]; exact heap_alloc_new W2 _)
 rw [← hR]
 have HRR:=Lib.hid hR
 clear hR
 go_loopw [8] (fun i wr=>∃ (k:Nat) (vq:Value) (ds:List QD) (qs:List QC),i = .int .i64 k∧k≤NP∧wr.heap[R]? = some (.cells #[.slice (some ⟨gl,0,none⟩) nl 2,vq] 36 (0,0))∧iX wr R vq ds qs∧G1 nl ps k ds∧E1 sh xs nl ps k ds∧Ext W2 wr) (fun i _=>NP - (intOf i).toNat)
 case atStart=>exact ⟨0,_,[],[],rfl,by omega,HR3.out,iX.nil _ _,G1.nil nl ps,HE0.out,aO _ _⟩
 case round =>
  obtain ⟨k,vq,ds,qs,rfl,hk,hRb,hOQ,hG,hE,hx⟩:=hrel
  have HE:=Lib.hid hE
  clear hE HE0
  have HRB:=Lib.hid hRb
  have HOQ:=Lib.hid hOQ
  have HG:=Lib.hid hG
  have HX:=Lib.hid hx
  clear hRb hOQ hG hx
  have k0:(0:Int)≤(k:Int):=by omega
  by_cases hlt:k < NP
  ·have k1:(k:Int) < (NP:Int):=by omega
   have hkp:k < ps.length:=by have:=HNP.out; omega
   have p0:=HX.out.cell (HPX.out k hkp)
   obtain ⟨P,hP⟩ : ∃ P:ByteArray,P=⟨(ps[k]).toArray⟩:=⟨_,rfl⟩
   rw [← hP] at p0
   have HP:=Lib.hid (show P.data.toList=ps[k] by rw [hP])
   clear hP
   obtain ⟨WQ,hWQ⟩ : ∃ WQ,WQ=wr.alloc (.cells #[.string P,.slice none 0 0,.int .i64 1000000] 63):=⟨_,rfl⟩
   obtain ⟨Q,hQ⟩ : ∃ Q,Q=wr.heap.size:=⟨_,rfl⟩
   have HQR:=Lib.hid (show R≤Q by rw [hQ,HRR.out]; exact HX.out.size)
   have HQB:=Lib.hid (show WQ.heap[Q]? = some (.cells #[.string P,.slice none 0 0,.int .i64 1000000] 63 (0,0)) by rw [hWQ,hQ]; exact heap_alloc_new wr _)
   have HXQ:=Lib.hid (show Ext wr WQ by rw [hWQ]; exact aO _ _)
   go_upto_region 8 with fail
   rw [← hWQ,← hQ]
   have HQQ:=Lib.hid hQ
   clear hWQ hQ p0
   go_cut [59] from 48 to 59 (fun s59 wx=>(∃ b:Bool,s59 = .bool b∧b=EO xs k)∧wx=WQ)
   case first =>
    by_cases hkN:k < N
    ·have n1:(k:Int) < (N:Int):=by omega
     obtain ⟨a,rfl,hb,hcs⟩:=HC.out (by omega)
     have h3:=(X2.out.trans (HX.out.trans HXQ.out)).cell' (hcs k (by have:=HN.out; omega))
     have hxg:xs.getD k 0=xs[k]'(by have:=HN.out; omega):=by simp [List.getD,zq (show k < xs.length by have:=HN.out; omega)]
     generalize xs[k]'(by have:=HN.out; omega)=x at h3 hxg
     have HGT:=Lib.hid (show (x.tmod 3==0)=EO xs k by unfold EO; rw [decide_eq_true (show k < xs.length by have:=HN.out; omega),hxg]; rfl)
     clear hcs hb hxg
     go_wp2
     go_meet
     case rel=>exact ⟨⟨_,rfl,by first | exact HGT.out | (rw [← HGT.out]; simp)⟩,rfl⟩
    ·have n1 : ¬ (k:Int) < (N:Int):=by omega
     go_wp2
     go_meet
     case rel=>exact ⟨⟨_,rfl,by unfold EO; rw [decide_eq_false (show ¬ k < xs.length by have:=HN.out; omega)]; rfl⟩,rfl⟩
   case rest =>
    obtain ⟨⟨b,rfl,hbN⟩,rfl⟩:=hcut
    have HBN:=Lib.hid hbN
    clear hbN
    go_upto_if 59 with fail
    go_cut [] from 60 to 66 (fun wx=>∃ u:Int,1≤u∧u≤1000000∧u=Im xs k∧wx.heap[Q]? = some (.cells #[.string P,.slice none 0 0,.int .i64 u] 63 (0,0))∧Ext wr wx)
    case first =>
     cases b with
     | true =>
      have hkN:k < N:=by
       have h:=HBN.out
       unfold EO at h
       have h2:=(Bool.and_eq_true_iff.1 h.symm).1
       have h3:=zd h2
       have:=HN.out
       omega
      have n1:(k:Int) < (N:Int):=by omega
      obtain ⟨a,rfl,hb,hcs⟩:=HC.out (by omega)
      have h3:=(X2.out.trans (HX.out.trans HXQ.out)).cell' (hcs k (by have:=HN.out; omega))
      have hxg:xs.getD k 0=xs[k]'(by have:=HN.out; omega):=by simp [List.getD,zq (show k < xs.length by have:=HN.out; omega)]
      generalize xs[k]'(by have:=HN.out; omega)=x at h3 hxg
      have HXG:=Lib.hid hxg
      clear hxg
      have u2:=dk HQB.out 2 _ rfl
      have f2:=sB HQB.out 2
      clear hcs hb
      go_wp2_with fail
      (with_reducible refine (gN _ 20000 20000 _ rfl (by omega)).mono ?_)
      rintro e w4 ⟨z,rfl,hz,hz2,rfl⟩
      have HZ:=Lib.hid hz
      clear hz
      go_wp2
      go_meet
      case rel =>
       refine ⟨1 + (z:Int),by omega,by omega,by rw [Im,if_pos HBN.out.symm,HXG.out,HZ.out]; rfl,?_,?_⟩
       ·rw [KC HQB.out]; rfl
       ·exact yR HXQ.out (by rw [HQQ.out]; exact Nat.le_refl _) _
     | false =>
      go_wp2
      go_meet
      case rel=>exact ⟨1000000,by omega,by omega,by rw [Im,if_neg (by rw [← HBN.out]; decide)],HQB.out,HXQ.out⟩
    case rest =>
     obtain ⟨u,hu1,hu2,hu3,hqb,hxq⟩:=hcut
     have HU3:=Lib.hid hu3
     clear hu3
     have HQC:=Lib.hid hqb
     have HXC:=Lib.hid hxq
     clear hqb hxq HBN HQB
     go_wp2
     go_loopw [10] (fun i2 wx=>∃ (kk:Nat) (vc:Value),i2 = .int .i64 kk∧kk≤nl∧wx.heap[Q]? = some (.cells #[.string P,vc,.int .i64 u] 63 (0,0))∧wx.ownsRow (Q + 1) 98 2 vc kk (ce (List.replicate kk rN))∧Ext wr wx) (fun i2 _=>nl - (intOf i2).toNat)
     case atStart=>exact ⟨0,_,rfl,by omega,HQC.out,World.ownsRow_nil _ _ _ 2,HXC.out⟩
     case round =>
      obtain ⟨kk,vc,rfl,hkk,hqb,ho,hxx⟩:=hrel
      obtain ⟨Av,cv,rfl,hv1,hv2⟩:=cG ho
      have HQX:=Lib.hid hqb
      have HO:=Lib.hid ho
      have HXX:=Lib.hid hxx
      clear hqb ho hxx
      have r0:=HXX.out.cell (dk HRB.out 0 _ rfl)
      have kk0:(0:Int)≤(kk:Int):=by omega
      by_cases hlk:kk < nl
      ·have kk1:(kk:Int) < (nl:Int):=by omega
       have q1:=dk HQX.out 1 _ rfl
       have f1:=sB HQX.out 1
       go_wp2_with (at_builtin; go_loud (refine wpList_append_own_at _ rfl (.tmp 75) (.tmp 77) 61 rfl (Q + 1) 98 c0 _ 2 16 Tryz.underlying61 hc hcz0 hcz1 hcz2 rfl (by decide) _ kk (ce (List.replicate kk rN)) rfl (HO.out.alloc _) ⟨_,0,none⟩ 1 1 [.int .i64 10000,.int .i64 10000] rfl rfl (Ky _ _ _ _) abo ?c3 ?c4 ?c5 ?_))
       case c3=>simp [maxLen]; omega
       case c4=>omega
       case c5 =>
        have:=(Array.getElem?_eq_some_iff.1 HQX.out).1
        simp; omega
       intro v' w5 ho5 hg5 _ hat5
       have HQ5:=Lib.hid (SI (aO _ _) hg5 HQX.out (fun e=>by have:=(HO.out.lt Q e).1; omega))
       have HO5:=Lib.hid (show w5.ownsRow (Q + 1) 98 2 v' (kk + 1) (ce (List.replicate (kk + 1) rN)) by
        rw [List.replicate_succ',FL ]; exact ho5)
       have HX5:=Lib.hid ((HXX.out.trans (aO _ _)).trans' (cM hg5 (by have:=HXX.out.size; simp; omega) (OX HO.out (by have:=HQQ.out; omega))))
       have q5:=dk HQ5.out 1 _ rfl
       have f5:=sB HQ5.out 1
       obtain ⟨A5,c5,rfl,_,_⟩:=cG ho5
       clear ho5 hg5 hat5 q1 f1 r0
       go_wp2
       go_roundw
       case rel =>
        refine ⟨kk + 1,_,by simp,by omega,by rw [KC HQ5.out]; rfl,?_,?_⟩
        ·exact HO5.out.kept (wT _ Q 1 _) (.inr fun e=>by have:=(HO5.out.lt Q e).1; omega)
        ·exact yR HX5.out (by rw [HQQ.out]; exact Nat.le_refl _) _
       case measure=>simp [intOf]; omega
      ·obtain rfl:kk=nl:=by omega
       have kk1 : ¬ (kk:Int) < (kk:Int):=by omega
       have HROW:=Lib.hid (lq HOQ.out.row HXX.out)
       obtain ⟨Aq,cq,rfl,hcq1,hcq2⟩:=cG HROW.out
       obtain ⟨DL,hDL⟩ : ∃ DL,DL=ds.length:=⟨_,rfl⟩
       have hDL7:DL≤7:=by
        have h1:=congrArg List.length HG.out.paths
        rw [List.length_map,List.length_take] at h1
        omega
       have HROW2:=Lib.hid (show (_:World).ownsRow R 63 3 (.slice Aq DL cq) DL (fT qs) by have h:=HROW.out; rw [← hDL] at h; exact h)
       have r1:=HXX.out.cell (dk HRB.out 1 _ rfl)
       rw [← hDL] at r1
       have q2:=dk HQX.out 0 _ rfl
       have q3:=dk HQX.out 1 _ rfl
       have q4:=dk HQX.out 2 _ rfl
       have HDL:=Lib.hid hDL
       clear hDL HROW
       go_wp2_with (at_builtin; go_loud (refine wpList_append_own_at _ rfl (.tmp 81) (.tmp 83) 34 rfl R 63 q0 _ 3 48 Tryz.underlying34 hq hqz0 hqz1 hqz2 rfl (by decide) _ DL (fT qs) rfl (HROW2.out.alloc _) ⟨_,0,none⟩ 1 1 [.string P,.slice Av kk cv,.int .i64 u] rfl rfl (FK _ _ _ _ _) abn ?e3 ?e4 ?e5 ?_))
       case e3=>simp [maxLen]; omega
       case e4=>omega
       case e5 =>
        have:=(Array.getElem?_eq_some_iff.1 HQX.out).1
        have:=HQR.out
        simp; omega
       intro v' w5 ho5 hg5 _ hat5
       have HRX:=Lib.hid ((HXX.out.block R (Array.getElem?_eq_some_iff.1 HRB.out).1).trans HRB.out)
       have hneR:(Value.slice Aq DL cq).ownBlock≠some R:=pq HROW2.out HRX.out (by decide)
       have HR5:=Lib.hid (SI (aO _ _) hg5 HRX.out hneR)
       have HX5:=Lib.hid (((HX.out.trans HXX.out).trans (aO _ _)).trans' (cM hg5 (by have:=(HX.out.trans HXX.out).size; simp; omega) (OX HROW2.out (by rw [HRR.out]; exact Nat.le_refl _))))
       rw [HDL.out] at ho5 hg5
       have HOQ5:=Lib.hid (iX.snoc (q:=⟨P,Av,kk,cv,u⟩) (d:=⟨ps[k],List.replicate kk rN,u⟩) HOQ.out (HXX.out.trans (aO _ _)) ⟨HP.out,rfl,by simp,El (HO.out.alloc _) (by have:=HQR.out; omega)⟩
        (fun g hg i qi hqi e=>by
         have h1:=(HO.out.lt g hg).1
         have hil:i < ds.length:=by rw [← HOQ.out.len]; exact (zg.1 hqi).1
         have h2:=((HOQ.out.each i qi hil hqi).2.2.2.lt g e).2
         have:=HQQ.out
         omega) ho5 hg5)
       have q5:=dk HR5.out 1 _ rfl
       have f5:=sB HR5.out 1
       obtain ⟨A5,c5,rfl,_,_⟩:=cG ho5
       have HG5:=Lib.hid (G1.snoc HG.out hkp hu1 hu2)
       have HE5:=Lib.hid (show E1 sh xs _ ps (k + 1) (ds ++ [⟨ps[k],List.replicate kk rN,u⟩]) by rw [HU3.out]; exact E1.step HE.out (by omega) hkp (by have:=HNP.out; omega) (by have:=HDL.out; omega))
       clear ho5 hg5 hat5 q2 q3 q4 r1 r0
       go_wp2
       go_roundw
       case rel =>
        refine ⟨k + 1,_,_,qs ++ [⟨P,Av,kk,cv,u⟩],by simp,by omega,by rw [KC HR5.out]; rfl,?_,HG5.out,HE5.out,?_⟩
        ·exact HOQ5.out.kept (wT _ R 1 _) HR5.out (by decide) (by decide)
        ·exact yR HX5.out (by rw [HRR.out]; exact Nat.le_refl _) _
       case measure=>simp [intOf]; omega
  ·obtain rfl:k=NP:=by omega
   have k1 : ¬ (k:Int) < (k:Int):=by omega
   have HGI:=Lib.hid (G1.start (HNP.out ▸ HG.out))
   have HE3:=Lib.hid (show E3 sh xs nl ps 0 ds from E1.end (by have h:=HE.out; rw [HNP.out] at h; exact h) (by have:=HNP.out; omega))
   clear HG HE
   go_wp2
   go_loopw [11] (fun i wr=>∃ (k':Nat) (vq:Value) (ds:List QD) (qs:List QC),i = .int .i64 k'∧k'≤k∧wr.heap[R]? = some (.cells #[.slice (some ⟨gl,0,none⟩) nl 2,vq] 36 (0,0))∧iX wr R vq ds qs∧GI nl ps k' ds∧E3 sh xs nl ps k' ds∧Ext W2 wr) (fun i _=>k - (intOf i).toNat)
   case atStart=>exact ⟨0,_,_,_,rfl,by omega,HRB.out,HOQ.out,HGI.out,HE3.out,HX.out⟩
   case round =>
    obtain ⟨i,vq,ds,qs,rfl,hik,hRb,hOQ,hG,hE,hx⟩:=hrel
    clear HRB HOQ HGI HX HE3
    have HE:=Lib.hid hE
    clear hE
    obtain ⟨Aq,cq,rfl,hcq1,hcq2⟩:=cG hOQ.row
    have HRB:=Lib.hid hRb
    have HOQ:=Lib.hid hOQ
    have HG:=Lib.hid hG
    have HX:=Lib.hid hx
    have HDK:=Lib.hid (show ds.length=k by rw [hG.gd.len]; exact HNP.out.symm)
    have r0:=dk HRB.out 0 _ rfl
    have r1:=dk HRB.out 1 _ rfl
    rw [HDK.out] at r1
    clear hRb hOQ hG hx k1 hcq1
    have i0:(0:Int)≤(i:Int):=by omega
    by_cases hlt:i < k
    ·have i1:(i:Int) < (k:Int):=by omega
     have hip:i < ps.length:=by have:=HNP.out; omega
     have p0:=HX.out.cell (HPX.out i hip)
     obtain ⟨P,hP⟩ : ∃ P:ByteArray,P=⟨(ps[i]).toArray⟩:=⟨_,rfl⟩
     rw [← hP] at p0
     have HP:=Lib.hid (show P.data.toList=ps[i] by rw [hP])
     clear hP
     go_wp2
     refine ol Ext J8 [(0,true),(1,true),(2,true),(3,true),(4,true),(5,false),(6,true)] (by kernel_rfl) (by kernel_rfl) (fun _ _ _ _ _ h=>h) ?_
     repeat first | ((with_reducible refine tc ?_ ?_ ?_ ?_ (fun wk k1=>?_) ?_); rotate_left 2; (rfl); (first | exact rO rfl | exact want_some rfl rfl rfl rfl); (go_simp; first | exact OkX.val | (have c0':=k1.cell r0; have c1':=k1.cell r1; have c2':=k1.cell p0; go_simp; exact OkX.val)); simp only [Act.put,List.setIfInBounds_toArray,List.set_cons_zero,List.set_cons_succ]) | ((with_reducible refine sched_skip ?_ ?_ ?_ ?_); rotate_left; (rfl); (exact want_not rfl rfl rfl rfl rfl); simp only [Act.put,List.setIfInBounds_toArray,List.set_cons_zero,List.set_cons_succ])
     ((with_reducible refine OI ?_ ?_ ?_ (fun wk k1=>?_)); rotate_left; (rfl); (first | exact rO rfl | exact want_some rfl rfl rfl rfl))
     have F0:=Lib.hid ((Ext.drew _).trans k1)
     clear k1 r0 r1 p0
     go_simp
     have hq7:ds.length≤1000:=by have:=HDK.out; omega
     have hp7:∀ q∈ds,q.path.length≤1000000000:=fun q hq=>by
      have h1:q.path∈ps:=by rw [← HG.out.gd.paths]; exact List.mem_map_of_mem hq
      rw [HPS.out] at h1
      have:=LA y _ h1
      omega
     have hqq:=(HOQ.out.ext F0.out).rd
     rw [HDK.out] at hqq
     (with_reducible refine (Tf ds _ _ P _ hqq hq7 hp7).mono ?_)
     rintro e wk2 ⟨Ak,nk,ck,rfl,hnk,hok,hxk⟩
     refine ⟨hxk,?_⟩
     try simp only [Act.put,List.setIfInBounds_toArray,List.set_cons_zero,List.set_cons_succ]
     have F1:=Lib.hid (F0.out.trans hxk)
     obtain ⟨ks,hks⟩ : ∃ ks,ks=Ca ps[i] ps:=⟨_,rfl⟩
     have hkse:cA P.data.toList ds=ks:=by rw [EG,HP.out,HG.out.gd.paths,hks]
     rw [hkse] at hok hnk
     have HOK:=Lib.hid (El hok (show R≤_ by have:=F0.out.size; have:=HX.out.size; have:=HRR.out; omega))
     have hnk7:nk≤7:=by
      rw [hnk,hks]
      unfold Ca
      have:=List.length_filter_le (fun x=>decide (ps[i]≠[])&&decide (above x=ps[i])) ps
      have:=HNP.out
      omega
     have HNK:=Lib.hid hnk
     have HKS:=Lib.hid hks
     have HE4:=Lib.hid (show E4 sh xs nl ps i ks 0 ds by rw [hks]; exact E3.open HE.out hip (by have:=HNP.out; omega) HPS.out HG.out.gd.paths)
     clear hxk hok hnk hks hkse hqq hq7 hp7
     repeat first | ((with_reducible refine tc ?_ ?_ ?_ ?_ (fun wk k1=>?_) ?_); rotate_left 2; (rfl); (first | exact rO rfl | exact want_some rfl rfl rfl rfl); (go_simp; first | exact OkX.val); simp only [Act.put,List.setIfInBounds_toArray,List.set_cons_zero,List.set_cons_succ]) | ((with_reducible refine sched_skip ?_ ?_ ?_ ?_); rotate_left; (rfl); (exact want_not rfl rfl rfl rfl rfl); simp only [Act.put,List.setIfInBounds_toArray,List.set_cons_zero,List.set_cons_succ])
     refine xl (fun wz k1=>?_)
     have HOKz:=Lib.hid (lq HOK.out k1)
     have F2:=Lib.hid (F1.out.trans k1)
     obtain ⟨Ak',ck',eK,hck1,hck2⟩:=cG HOKz.out
     injection eK with eK1 eK2 eK3
     subst eK1 eK3
     clear k1 eK2
     go_wp2
     go_loopw [13] (fun l wr=>∃ (kk:Nat) (vq:Value) (ds:List QD) (qs:List QC),l = .int .i64 kk∧kk≤nl∧wr.heap[R]? = some (.cells #[.slice (some ⟨gl,0,none⟩) nl 2,vq] 36 (0,0))∧iX wr R vq ds qs∧GK nl ps i kk ds∧E4 sh xs nl ps i ks kk ds∧wr.ownsRow R 9 1 (.slice Ak nk ck) nk (ks.map sv)∧Ext W2 wr) (fun l _=>nl - (intOf l).toNat)
     case atStart=>exact ⟨0,_,_,_,rfl,by omega,(F2.out.block R (Array.getElem?_eq_some_iff.1 HRB.out).1).trans HRB.out,HOQ.out.ext F2.out,HG.out.toK,HE4.out,HOKz.out,HX.out.trans F2.out⟩
     case round =>
      obtain ⟨kk,vq,ds,qs,rfl,hkk,hRb,hOQ,hG,hE,hkr,hx⟩:=hrel
      clear HRB HOQ HG HX HDK HOKz HOK F0 F1 F2 HE HE4
      have HE:=Lib.hid hE
      clear hE
      have HRB:=Lib.hid hRb
      have HOQ:=Lib.hid hOQ
      have HG:=Lib.hid hG
      have HX:=Lib.hid hx
      have HKR:=Lib.hid hkr
      have r0:=dk HRB.out 0 _ rfl
      clear hRb hOQ hG hx hkr
      have kk0:(0:Int)≤(kk:Int):=by omega
      by_cases hlk:kk < nl
      ·have kk1:(kk:Int) < (nl:Int):=by omega
       go_wp2
       go_loopw [14,15] (fun lf j wr=>∃ (jj:Nat) (left:Int) (vq:Value) (ds:List QD) (qs:List QC),lf = .int .i64 left∧j = .int .i64 jj∧jj≤nk∧wr.heap[R]? = some (.cells #[.slice (some ⟨gl,0,none⟩) nl 2,vq] 36 (0,0))∧iX wr R vq ds qs∧GJ nl ps i kk jj left ds∧E5 sh xs nl ps i ks kk jj left ds∧wr.ownsRow R 9 1 (.slice Ak nk ck) nk (ks.map sv)∧Ext W2 wr) (fun _ j _=>nk - (intOf j).toNat)
       case atStart=>exact ⟨0,10000,_,_,_,rfl,rfl,by omega,HRB.out,HOQ.out,HG.out.toJ,E4.open HE.out hlk hnl4,HKR.out,HX.out⟩
       case round =>
        obtain ⟨jj,left,vq,ds,qs,rfl,rfl,hjj,hRb,hOQ,hG,hE,hkr,hx⟩:=hrel
        clear HRB HOQ HG HX HKR r0 HE
        have HE:=Lib.hid hE
        clear hE
        obtain ⟨L,rfl⟩ : ∃ L:Nat,left=(L:Int):=⟨left.toNat,by have:=hG.lo; omega⟩
        have HRB:=Lib.hid hRb
        have HOQ:=Lib.hid hOQ
        have HG:=Lib.hid hG
        have HX:=Lib.hid hx
        have HKR:=Lib.hid hkr
        have l0:=hG.lo
        have l1:=hG.hi
        have j0:(0:Int)≤(jj:Int):=by omega
        clear hRb hOQ hG hx hkr
        by_cases hlj:jj < nk
        ·have j1:(jj:Int) < (nk:Int):=by omega
         go_upto_if 116 with fail
         go_cut [16] from 112 to 140 (fun s16 wx=>∃ n:Int,s16 = .int .i64 n∧0≤n∧n≤(L:Int)∧(jj + 1=nk→n=(L:Int))∧n=nV xs i jj kk ks.length (L:Int)∧Ext wr wx)
         case first =>
          by_cases hl2:jj + 1 < nk
          ·have n1:(jj:Int) < (nk:Int) - 1:=by omega
           have hrd:=HRD.out.ext (X2.out.trans HX.out)
           have HRX:=Lib.hid hrd
           clear hrd
           go_wp2_with fail
           (with_reducible refine (yA _ xs _ _ HRX.out (by omega) (by omega) (by omega)).mono ?_)
           rintro e w4 ⟨⟨z1,rfl,hz1⟩,rfl⟩
           have HZ1:=Lib.hid hz1
           clear hz1
           go_wp2_with fail
           (with_reducible refine (gN _ (L + 1) _ _ (by omega) (by omega)).mono ?_)
           rintro e w4 ⟨z,rfl,hz,hzl,rfl⟩
           have HZ:=Lib.hid hz
           clear hz
           have hz0:(0:Int)≤(z:Int):=by omega
           have hzl':(z:Int)≤(L:Int):=by omega
           go_wp2_with fail
           have HRX2:=Lib.hid (HRX.out.ext (aO _ (.cells #[.int .i64 0,.int .i64 ((L:Int) / 2),.int .i64 (L:Int),.int .i64 (z:Int)] 3)))
           obtain ⟨p,hp51,hpe,hw⟩:=Tt i jj kk (by omega) (by omega) (by omega)
           rw [hw]
           have HPE:=Lib.hid hpe
           clear hw hpe
           (with_reducible refine (yA _ xs _ _ HRX2.out (by omega) (by omega) (by omega)).mono ?_)
           rintro e w4 ⟨⟨z2,rfl,hz2⟩,rfl⟩
           have HZ2:=Lib.hid hz2
           clear hz2
           go_wp2_with fail
           (with_reducible refine (gN _ 4 4 _ rfl (by omega)).mono ?_)
           rintro e w4 ⟨y4,rfl,hyy,hy4,rfl⟩
           have HYY:=Lib.hid hyy
           clear hyy
           have hnv:=aaJ (show jj + 1 < ks.length by have:=HNK.out; omega) HZ1.out (by first | rfl | omega) HZ2.out HPE.out HZ.out HYY.out
           obtain ⟨n,hn,hn0,hnl,hnn⟩ : ∃ n:Int,(#[Value.int .i64 0,.int .i64 ((L:Int) / 2),.int .i64 (L:Int),.int .i64 (z:Int)] : Array Value)[y4]? = some (.int .i64 n)∧0≤n∧n≤(L:Int)∧n=nV xs i jj kk ks.length (L:Int):=by
            clear HYY
            rcases y4 with _ | _ | _ | _ | y4
            ·exact ⟨0,rfl,by omega,by omega,hnv⟩
            ·exact ⟨(L:Int) / 2,rfl,by omega,by omega,hnv⟩
            ·exact ⟨(L:Int),rfl,by omega,by omega,hnv⟩
            ·exact ⟨(z:Int),rfl,by omega,by omega,hnv⟩
            ·omega
           have hcc:=fun (W:World)=>dk (heap_alloc_new W (.cells #[.int .i64 0,.int .i64 ((L:Int) / 2),.int .i64 (L:Int),.int .i64 (z:Int)] 3 (0,0))) y4 _ hn
           have hy0':(0:Int)≤(y4:Int):=by omega
           have hy4':(y4:Int) < 4:=by omega
           have HN4:=Lib.hid hn
           have HNN:=Lib.hid hnn
           clear hn hnn hnv
           go_wp2
           go_meet
           case rel=>exact ⟨n,rfl,hn0,hnl,fun h=>by omega,HNN.out,aO _ _⟩
          ·have n1 : ¬ (jj:Int) < (nk:Int) - 1:=by omega
           go_wp2
           go_meet
           case rel=>exact ⟨(L:Int),rfl,l0,by omega,fun _=>rfl,by unfold nV; rw [if_neg (by have:=HNK.out; omega)],Ext.refl _⟩
         case rest =>
          obtain ⟨n,rfl,hn0,hnL,hlast,hnv,hxc⟩:=hcut
          obtain ⟨n,rfl⟩ : ∃ n':Nat,n=(n':Int):=⟨n.toNat,by omega⟩
          have HNV:=Lib.hid hnv
          clear hnv
          have HLAST:=Lib.hid hlast
          have HRBc:=Lib.hid ((hxc.block R (Array.getElem?_eq_some_iff.1 HRB.out).1).trans HRB.out)
          have HOQc:=Lib.hid (HOQ.out.ext hxc)
          have HKRc:=Lib.hid (lq HKR.out hxc)
          have HXc:=Lib.hid (HX.out.trans hxc)
          have HRX:=Lib.hid (HRD.out.ext (X2.out.trans HXc.out))
          clear hlast hxc HRB HOQ HKR HX
          go_wp2_with fail
          (with_reducible refine (yA _ xs _ _ HRX.out (by omega) (by omega) (by omega)).mono ?_)
          rintro e w4 ⟨⟨z1,rfl,hz1⟩,rfl⟩
          have HZ1:=Lib.hid hz1
          clear hz1
          go_wp2_with fail
          (with_reducible refine (gN _ (10000 - n + 1) _ _ (by omega) (by omega)).mono ?_)
          rintro e w4 ⟨z,rfl,hz,hzl,rfl⟩
          have HZ:=Lib.hid hz
          clear hz
          have hz0:(0:Int)≤(z:Int):=by omega
          have hzl':(z:Int)≤10000 - (n:Int):=by omega
          go_wp2_with fail
          obtain ⟨WM,hWM⟩ : ∃ WM,WM=wc.alloc (.cells #[.int .i64 10000,.int .i64 (n:Int),.int .i64 ((n:Int) + (z:Int))] 3):=⟨_,rfl⟩
          rw [← hWM]
          have HXM:=Lib.hid (show Ext wc WM by rw [hWM]; exact aO _ _)
          have HHM:=Lib.hid (show WM.heap[wc.heap.size]? = some (.cells #[.int .i64 10000,.int .i64 (n:Int),.int .i64 ((n:Int) + (z:Int))] 3 (0,0)) by rw [hWM]; exact heap_alloc_new wc _)
          clear hWM
          (with_reducible refine (yA _ xs _ _ (HRX.out.ext HXM.out) (by omega) (by omega) (by omega)).mono ?_)
          rintro e w4 ⟨⟨z2,rfl,hz2⟩,rfl⟩
          have HZ2:=Lib.hid hz2
          clear hz2
          go_wp2_with fail
          (with_reducible refine (gN _ 3 3 _ rfl (by omega)).mono ?_)
          rintro e w4 ⟨y3,rfl,hyy,hy3,rfl⟩
          have HYY:=Lib.hid hyy
          clear hyy
          have hmv:=aaM (show n≤10000 by omega) HZ1.out (by first | rfl | omega) HZ2.out (by first | rfl | omega) HZ.out HYY.out
          obtain ⟨mo,hmo,hmo1,hmo2,hmm⟩ : ∃ mo:Int,(#[Value.int .i64 10000,.int .i64 (n:Int),.int .i64 ((n:Int) + (z:Int))] : Array Value)[y3]? = some (.int .i64 mo)∧(n:Int)≤mo∧mo≤10000∧mo=mV xs i jj kk (n:Int):=by
           clear HYY
           rcases y3 with _ | _ | _ | y3
           ·exact ⟨10000,rfl,by omega,by omega,hmv⟩
           ·exact ⟨(n:Int),rfl,by omega,by omega,hmv⟩
           ·exact ⟨(n:Int) + (z:Int),rfl,by omega,by omega,hmv⟩
           ·omega
          have hcc:=dk HHM.out y3 _ hmo
          have hy0':(0:Int)≤(y3:Int):=by omega
          have hy3':(y3:Int) < 3:=by omega
          have HRBm:=Lib.hid ((HXM.out.block R (Array.getElem?_eq_some_iff.1 HRBc.out).1).trans HRBc.out)
          have HOQm:=Lib.hid (HOQc.out.ext HXM.out)
          have HKRm:=Lib.hid (lq HKRc.out HXM.out)
          have HXm:=Lib.hid (HXc.out.trans HXM.out)
          have HMM:=Lib.hid hmm
          clear hmo hmm hmv HRBc HOQc HKRc HRX
          go_wp2
          clear hcc HHM
          have hjks:jj < ks.length:=by have:=HNK.out; omega
          go_loopw [18] (fun mi wr=>∃ (m:Nat) (vq:Value),mi = .int .i64 m∧m≤k∧wr.heap[R]? = some (.cells #[.slice (some ⟨gl,0,none⟩) nl 2,vq] 36 (0,0))∧iX wr R vq (eV ks[jj] kk n mo ds m) qs∧wr.ownsRow R 9 1 (.slice Ak nk ck) nk (ks.map sv)∧Ext W2 wr) (fun mi _=>k - (intOf mi).toNat)
          case atStart=>exact ⟨0,_,rfl,by omega,HRBm.out,by rw [D6]; exact HOQm.out,HKRm.out,HXm.out⟩
          case round =>
           obtain ⟨m,vq,rfl,hmk,hRb,hOQ,hkr,hx⟩:=hrel
           clear HRBm HOQm HKRm HXm HXc
           have hdk:ds.length=k:=by rw [HG.out.gk.gi.gd.len]; exact HNP.out.symm
           have m0:(0:Int)≤(m:Int):=by omega
           by_cases hmlt:m < k
           ·have m1:(m:Int) < (k:Int):=by omega
            have hmd:m < ds.length:=by omega
            have hml:m < (eV ks[jj] kk n mo ds m).length:=by rw [gS]; exact hmd
            have hsg:=AJ ks[jj] kk n mo ds m hmd hml
            have hcl:(eV ks[jj] kk n mo ds m)[m].caps.length=nl:=by rw [hsg]; exact (HG.out.gk.gi.gd.each _ (List.getElem_mem hmd)).1
            obtain ⟨gq,cq',g,cc,ev,h1,hBg,hglt,⟨cur,hcur⟩,hfz,e1,e2,hput⟩:=hOQ.put hml (k:=kk) (by rw [hcl]; exact hlk)
            obtain ⟨q,hqm⟩ : ∃ q,qs[m]? = some q:=⟨qs[m]'(by rw [hOQ.len]; exact hml),zq _⟩
            have hqp:=(hOQ.each m q hml hqm).1
            rw [hsg] at hqp
            have hrow:=hOQ.row
            rw [ev] at hrow hRb
            have pc:=hrow.cellAt (m * 3) (by omega)
            rw [(uE qs m q hqm).1] at pc
            rw [gS,hdk] at hRb
            rw [hcl] at h1
            obtain ⟨gk,rfl⟩ : ∃ gk,Ak=some ⟨gk,0,none⟩:=by
             rcases hkr.2 with ⟨_,h0⟩ | ⟨gk,_,_,e,_⟩
             ·omega
             ·injection e with e; exact ⟨gk,e⟩
            have kc:=hkr.cellAt jj (by omega)
            rw [List.getElem?_map,zq hjks] at kc
            obtain ⟨Kb,hKb⟩ : ∃ Kb:ByteArray,Kb=⟨(ks[jj]).toArray⟩:=⟨_,rfl⟩
            have kc:wr.cell? ⟨gk,jj,none⟩=some (.string Kb):=by rw [hKb]; exact kc
            have HKB:=Lib.hid (show Kb.data.toList=ks[jj] by rw [hKb])
            have r1:=dk hRb 1 _ rfl
            have HQP:=Lib.hid hqp
            have HOQ:=Lib.hid hOQ
            have HRB:=Lib.hid hRb
            have HKR:=Lib.hid hkr
            have HX:=Lib.hid hx
            have HPUT:=Lib.hid (hput n mo)
            have HCUR:=Lib.hid hcur
            have HEV:=Lib.hid ev
            clear hKb hqp hrow hqm ev hOQ hRb hkr hx hput hcur hsg
            generalize ((eV ks[jj] kk n mo ds m)[m].caps[kk]'(by rw [hcl]; exact hlk)).1=o1 at e1
            generalize ((eV ks[jj] kk n mo ds m)[m].caps[kk]'(by rw [hcl]; exact hlk)).2=o2 at e2
            have HCL:=Lib.hid hcl
            clear hcl hdk
            have hkn0:(kk:Int) < (nl:Int):=by omega
            by_cases heq:q.p=Kb
            ·have q1:(q.p.toList==Kb.toList)=true:=by rw [heq]; simp
             have HEQ:=Lib.hid (show ds[m].path=ks[jj] by rw [← HQP.out,heq,HKB.out])
             clear heq
             go_wp2
             refine ol Ext J8 [(0,true),(1,true),(2,true),(3,true),(4,true),(5,true),(6,true),(7,true),(8,true),(9,true),(10,true)] (by kernel_rfl) (by kernel_rfl) (fun _ _ _ _ _ h=>h) ?_
             repeat first | ((with_reducible refine tc ?_ ?_ ?_ ?_ (fun wk k1=>?_) ?_); rotate_left 2; (rfl); (first | exact rO rfl | exact want_some rfl rfl rfl rfl); (go_simp; first | exact OkX.val | (have c0':=k1.cell r1; have c1':=k1.cell pc; have c2':=k1.cell kc; go_simp; exact OkX.val)); simp only [Act.put,List.setIfInBounds_toArray,List.set_cons_zero,List.set_cons_succ]) | ((with_reducible refine sched_skip ?_ ?_ ?_ ?_); rotate_left; (rfl); (exact want_not rfl rfl rfl rfl rfl); simp only [Act.put,List.setIfInBounds_toArray,List.set_cons_zero,List.set_cons_succ])
             refine xl (fun wz k1=>?_)
             have FZ:=Lib.hid ((Ext.drew _).trans k1)
             clear k1
             have z1:=FZ.out.cell r1
             obtain ⟨gq2,cq2,g',cc',ev2,z2,hBg',hglt',⟨cur',hcur'⟩,hfz',z3,z4,hput'⟩:=(HOQ.out.ext FZ.out).put hml (k:=kk) (by rw [HCL.out]; exact hlk)
             have ee:=HEV.out.symm.trans ev2
             injection ee with ee1 ee2 ee3
             injection ee1 with ee1
             injection ee1 with ee1
             subst ee1
             rw [HCL.out] at z2
             generalize ((eV ks[jj] kk n mo ds m)[m].caps[kk]'(by rw [HCL.out]; exact hlk)).1=o1' at z3
             generalize ((eV ks[jj] kk n mo ds m)[m].caps[kk]'(by rw [HCL.out]; exact hlk)).2=o2' at z4
             have HP2:=Lib.hid (hput' n mo)
             have HCUR2:=Lib.hid hcur'
             have f1:=hfz' (kk * 2)
             have f2:=hfz' (kk * 2 + 1)
             have hneR:R≠g':=fun e=>by
              have h9:=(FZ.out.block R (Array.getElem?_eq_some_iff.1 HRB.out).1).trans HRB.out
              rw [e,hcur'] at h9
              injection h9 with h9
              injection h9 with _ h9
              exact absurd h9 (by decide)
             clear ee2 ee3 ev2 hput' hcur' hfz' pc kc r1 h1 e1 e2 hfz
             go_wp2
             go_roundw
             case rel =>
              refine ⟨m + 1,vq,by simp,by omega,?_,?_,?_,?_⟩
              ·rw [HP2.out.2.block R (by have:=FZ.out.size; have:=(Array.getElem?_eq_some_iff.1 HRB.out).1; omega) (fun e=>by injection e with e; exact hneR e),FZ.out.block R (Array.getElem?_eq_some_iff.1 HRB.out).1,HEV.out,gS,HG.out.gk.gi.gd.len,← HNP.out]
               exact HRB.out
              ·rw [HQ hmd HEQ.out]; exact HP2.out.1
              ·exact (lq HKR.out FZ.out).kept HP2.out.2 (.inr (pq (lq HKR.out FZ.out) HCUR2.out (by decide)))
              ·exact (HX.out.trans FZ.out).trans' (cM HP2.out.2 (HX.out.trans FZ.out).size (fun k e=>by injection e with e; rw [← HRR.out,← e]; exact hBg'))
             case measure=>simp [intOf]; omega
            ·have q1:(q.p.toList==Kb.toList)=false:=ZH heq
             have HNE:=Lib.hid (show ds[m].path≠ks[jj] from fun e=>heq (ZI (by rw [HQP.out,e,HKB.out])))
             clear heq
             go_wp2
             refine ol Ext J8 [(0,true),(1,true),(2,true),(3,true),(4,true),(5,true),(6,true),(7,true),(8,true),(9,true),(10,true)] (by kernel_rfl) (by kernel_rfl) (fun _ _ _ _ _ h=>h) ?_
             repeat first | ((with_reducible refine tc ?_ ?_ ?_ ?_ (fun wk k1=>?_) ?_); rotate_left 2; (rfl); (first | exact rO rfl | exact want_some rfl rfl rfl rfl); (go_simp; first | exact OkX.val | (have c0':=k1.cell r1; have c1':=k1.cell pc; have c2':=k1.cell kc; go_simp; exact OkX.val)); simp only [Act.put,List.setIfInBounds_toArray,List.set_cons_zero,List.set_cons_succ]) | ((with_reducible refine sched_skip ?_ ?_ ?_ ?_); rotate_left; (rfl); (exact want_not rfl rfl rfl rfl rfl); simp only [Act.put,List.setIfInBounds_toArray,List.set_cons_zero,List.set_cons_succ])
             refine xl (fun wz k1=>?_)
             have FZ:=Lib.hid ((Ext.drew _).trans k1)
             clear k1
             go_wp2
             go_roundw
             case rel=>exact ⟨m + 1,vq,by simp,by omega,by rw [HEV.out,gS,HG.out.gk.gi.gd.len,← HNP.out]; exact (FZ.out.block R (Array.getElem?_eq_some_iff.1 HRB.out).1).trans HRB.out,by rw [LN hmd HNE.out]; exact HOQ.out.ext FZ.out,lq HKR.out FZ.out,HX.out.trans FZ.out⟩
             case measure=>simp [intOf]; omega
           ·obtain rfl:m=k:=by omega
            have m1 : ¬ (m:Int) < (m:Int):=by omega
            have hvl:∃ A' c',vq = .slice A' m c':=by
             obtain ⟨A',c',e,_,_⟩:=cG hOQ.row
             rw [gS,hdk] at e
             exact ⟨A',c',e⟩
            obtain ⟨A',c',rfl⟩:=hvl
            have hst:eV ks[jj] kk n mo ds m=iM ks[jj] kk n mo ds:=by
             rw [← HR,hdk]
            rw [hst] at hOQ
            have hr1:=dk hRb 1 _ rfl
            have HRB:=Lib.hid hRb
            have HOQ:=Lib.hid hOQ
            have HKR:=Lib.hid hkr
            have HX:=Lib.hid hx
            have HGS:=Lib.hid (show GJ nl ps i kk (jj + 1) ((L:Int) - (n:Int)) (iM ks[jj] kk n mo ds) by
             have hkd:cA ps[i] ds=ks:=by rw [EG,HG.out.gk.gi.gd.paths,HKS.out]
             have h:=GJ.step (n:=(n:Int)) (mo:=mo) HG.out HNO.out hip (by rw [hkd]; exact hjks) hlk hn0 hnL (by rw [hkd,← HNK.out]; exact HLAST.out) hmo1 hmo2
             simp only [hkd] at h
             exact h)
            have HES:=Lib.hid (show E5 sh xs nl ps i ks kk (jj + 1) ((L:Int) - (n:Int)) (iM ks[jj] kk n mo ds) by
             have h:=E5.step HE.out hjks (by have:=HNK.out; omega) (by omega) hnl4 hlk l0 l1 (by omega) (fun q hq=>(HG.out.gk.gi.gd.each q hq).1)
             rw [← HNV.out,← HMM.out] at h
             exact h)
            clear hst hOQ hRb hkr hx hdk
            go_wp2
            go_roundw
            case rel=>exact ⟨jj + 1,(L:Int) - (n:Int),_,_,_,rfl,by simp,by omega,HRB.out,HOQ.out,HGS.out,HES.out,HKR.out,HX.out⟩
            case measure=>simp [intOf]; omega
        ·obtain rfl:jj=nk:=by omega
         have j1 : ¬ (jj:Int) < (jj:Int):=by omega
         have HGE:=Lib.hid (GJ.end HG.out (fun h=>by rw [EG,HG.out.gk.gi.gd.paths,← HKS.out]; exact HNK.out))
         have HEE:=Lib.hid (show E4 sh xs nl ps i ks (kk + 1) ds from E5.end (by have h:=HE.out; rw [HNK.out] at h; exact h) (by have:=HNK.out; omega))
         go_wp2
         go_roundw
         case rel=>exact ⟨kk + 1,_,_,_,by simp,by omega,HRB.out,HOQ.out,HGE.out,HEE.out,HKR.out,HX.out⟩
         case measure=>simp [intOf]; omega
      ·obtain rfl:kk=nl:=by omega
       have kk1 : ¬ (kk:Int) < (kk:Int):=by omega
       have HGE:=Lib.hid (GK.end HG.out)
       have HEE:=Lib.hid (E4.end HE.out hnl4)
       go_wp2
       go_roundw
       case rel=>exact ⟨i + 1,_,_,_,by simp,by omega,HRB.out,HOQ.out,HGE.out,HEE.out,HX.out⟩
       case measure=>simp [intOf]; omega
    ·obtain rfl:i=k:=by omega
     have i1 : ¬ (i:Int) < (i:Int):=by omega
     have HRES:=Lib.hid ((HX.out.block w.heap.size (Array.getElem?_eq_some_iff.1 HR0.out).1).trans HR0.out)
     have HLBX:=Lib.hid ((HX.out.block gl (Array.getElem?_eq_some_iff.1 HL2.out).1).trans HL2.out)
     have y0:=dk HRES.out 0 _ rfl
     have y1:=dk HRES.out 1 _ rfl
     have g0:=sB HRES.out 0
     have g1:=sB HRES.out 1
     have hRw:R≠w.heap.size:=by have:=HRR.out; have:=HS2.out; omega
     go_wp2
     refine bodyPost_ret (by simp [results,Tryz.results28,go_sem,y0,y1]; try rfl) rfl ?_
     have hgr:wr.grownBy ((wr.setCell ⟨w.heap.size,0,none⟩ (.slice (some ⟨gl,0,none⟩) nl 2)).setCell ⟨w.heap.size,1,none⟩ (.slice Aq i cq)) (some w.heap.size) :=
      ⟨rfl,rfl,rfl,by simp [World.setCell],fun k _ hk=>(Below.heap_setCell _ _ _ _ (fun e=>hk (by rw [e]))).trans (Below.heap_setCell _ _ _ _ (fun e=>hk (by rw [e])))⟩
     have hdk:=HDK.out
     refine ⟨nl,hnl5,hnl4,_,_,ds,qs,R,rfl,by have:=HRR.out; have:=HS2.out; omega,?_,?_,?_,?_,E3.end (by have h:=HE.out; rw [HNP.out] at h; exact h) (by have:=HNP.out; omega)⟩
     ·exact (R7 w.heap.size gl nl HLBX.out HGL.out hnl4).kept hgr (.inr (pq (R7 w.heap.size gl nl HLBX.out HGL.out hnl4) HRES.out (by decide)))
     ·have h:=HOQ.out.kept hgr HRES.out (by decide) (by decide)
      rw [hdk] at h
      exact h
     ·have e:(sh % 5).toNat=y:=by have:=HY.out; omega
      rw [e,← HPS.out,← HNP.out]
      exact HG.out
     ·exact yR (yR (X2.out.trans HX.out) (Nat.le_refl _) _) (Nat.le_refl _) _
def bm (oW:Int) (v_n:Int) : Option (Int) :=
 (CL oW v_n).bind fun b1=>let v_k:Int:=b1
 (if (decide (v_k < 0))=true then
 let v_k:Int:=(i64.wrap (v_k + v_n))
 some v_k
 else
 some v_k).bind fun j2=>let v_k:=j2
 some v_k
def nP (v_x:aH) : Option (Bool) :=
 (if (decide ((v_x.fNs.length:Int)≤30))=true then some (decide ((v_x.mz.length:Int)≤80)) else some false).bind fun q1=>some q1
def wq (v_n:Int) : Option (az) :=
 (bm v_n 5).bind fun c1=>(aw ([(⟨1,1⟩ : az),(⟨2,1⟩ : az),(⟨4,4⟩ : az),(⟨3,2⟩ : az),(⟨1,3⟩ : az)] : (List az)) c1).bind fun b2=>some b2
def kt (v_c:av) (st:(List ByteArray)×Int) : Option (((List ByteArray)×Int)⊕(((List ByteArray)×Int))) :=
 let v_l:=st.1
 let v_i:=st.2
 if (decide (v_i < (v_c.ae.length:Int)))=true then
 (aw v_c.ae v_i).bind fun b1=>(jx v_c b1.aC).bind fun c2=>if c2=true then
 (aw v_c.ae v_i).bind fun b3=>(aU v_l [b3.aC]).bind fun b4=>let v_l:(List ByteArray):=b4
 let v_i:Int:=(i64.wrap (v_i + 1))
 some (.inl (v_l,v_i))
 else
 let v_i:Int:=(i64.wrap (v_i + 1))
 some (.inl (v_l,v_i))
 else
 some (.inr (v_l,v_i))
def sR (v_c:av) : Option ((List ByteArray)) :=
 let v_l:(List ByteArray):=[]
 let v_i:Int:=0
 (ah (kt v_c) ab (v_l,v_i)).bind fun r5 =>
 let v_l:=r5.1
 let v_i:=r5.2
 some v_l
def fO (v_s:aa) (v_p:aq) (v_a:aP) (st:aK×Int) : Option ((aK×Int)⊕((aK×Int))) :=
 let v_x:=st.1
 let v_i:=st.2
 if (decide (v_i < (v_s.ac.length:Int)))=true then
 (aw v_s.ac v_i).bind fun b18=>(if (b18.bG==v_p.fId)=true then (bm (i64.wrap (v_a.fD + v_i)) 11).bind fun c19=>some (c19==10) else some false).bind fun q20=>if q20=true then
 (aw v_s.ac v_i).bind fun b21=>(aU v_x.fY [b21.fId]).bind fun b22=>let v_x:aK:={ v_x with fY:=b22 }
 let v_i:Int:=(i64.wrap (v_i + 1))
 some (.inl (v_x,v_i))
 else
 let v_i:Int:=(i64.wrap (v_i + 1))
 some (.inl (v_x,v_i))
 else
 some (.inr (v_x,v_i))
def nQ (v_a:aP) (v_s:aa) : Option (aK) :=
 let v_x:aK:=(⟨5,0,0,0,⟨#[]⟩,aX.zero,aq.zero,[],[],a7.zero⟩ : aK)
 if ((v_s.aj.length:Int)==0)=true then
 some v_x
 else
 (bm v_a.fA (v_s.aj.length:Int)).bind fun c1=>(aw v_s.aj c1).bind fun b2=>let v_p:aq:=b2
 (bm v_a.fB 8).bind fun c3=>let t4:Int:=v_p.fId
 let t5:Int:=(i64.wrap ((i64.wrap (v_p.cd + 1)) - (i64.wrap (Int.tdiv c3 6))))
 let v_x:aK:={ v_x with fId:=t4 }
 let v_x:aK:={ v_x with cd:=t5 }
 (if (decide ((Int.tmod v_a.fC 3) > 0))=true then
 (bm v_a.fB 5).bind fun c7=>(bm v_a.fC (v_s.bN.ak.length:Int)).bind fun c8=>(wq v_a.fD).bind fun c9=>(bm v_a.fD 7).bind fun c10=>let v_k:aM:=(⟨c7,c8,c9,c10,(-1),(-1),0⟩ : aM)
 (if ((Int.tmod v_a.fD 4)==1)=true then
 (bm v_a.fC 3).bind fun c12=>let v_k:aM:={ v_k with eX:=c12 }
 some (v_k,v_x)
 else
 some (v_k,v_x)).bind fun j11=>let v_k:=j11.1
 let v_x:=j11.2
 (if ((Int.tmod v_a.fD 4)==2)=true then
 (bm v_a.fC 3).bind fun c14=>(bm v_a.fB 6).bind fun c15=>let t16:Int:=c14
 let t17:Int:=c15
 let v_k:aM:={ v_k with eX:=t16 }
 let v_k:aM:={ v_k with bJ:=t17 }
 some (v_k,v_x)
 else
 some (v_k,v_x)).bind fun j13=>let v_k:=j13.1
 let v_x:=j13.2
 let v_x:aK:={ v_x with bI:=([v_k] : (List aM)) }
 some v_x
 else
 some v_x).bind fun j6=>let v_x:=j6
 let v_i:Int:=0
 (ah (fO v_s v_p v_a) ab (v_x,v_i)).bind fun r23 =>
 let v_x:=r23.1
 let v_i:=r23.2
 some v_x
def g8 (v_s:aa) (v_a:aP) (bF:Int) (st:aK×Int) : Option ((aK×Int)⊕((aK×Int))) :=
 let v_x:=st.1
 let v_i:=st.2
 if (decide (v_i < (v_s.aB.length:Int)))=true then
 (aw v_s.aB v_i).bind fun b14=>if (b14.fId==bF)=true then
 (aw v_s.aB v_i).bind fun b15=>(bm v_a.fB 8).bind fun c16=>let v_x:aK:={ v_x with cd:=(i64.wrap ((i64.wrap (b15.cd + 1)) - (i64.wrap (Int.tdiv c16 6)))) }
 let v_i:Int:=(i64.wrap (v_i + 1))
 some (.inl (v_x,v_i))
 else
 let v_i:Int:=(i64.wrap (v_i + 1))
 some (.inl (v_x,v_i))
 else
 some (.inr (v_x,v_i))
def g7 (v_s:aa) (bF:Int) (v_a:aP) (st:aK×Int) : Option ((aK×Int)⊕((aK×Int))) :=
 let v_x:=st.1
 let aI:=st.2
 if (decide (aI < (v_s.ac.length:Int)))=true then
 (aw v_s.ac aI).bind fun b18=>(if (b18.bJ==bF)=true then (bm (i64.wrap (v_a.fC + aI)) 9).bind fun c19=>some (c19==8) else some false).bind fun q20=>if q20=true then
 (aw v_s.ac aI).bind fun b21=>(aU v_x.fY [b21.fId]).bind fun b22=>let v_x:aK:={ v_x with fY:=b22 }
 let aI:Int:=(i64.wrap (aI + 1))
 some (.inl (v_x,aI))
 else
 let aI:Int:=(i64.wrap (aI + 1))
 some (.inl (v_x,aI))
 else
 some (.inr (v_x,aI))
def g9 (v_a:aP) (v_s:aa) : Option (aK) :=
 (bm v_a.fA 6).bind fun c1=>let t2:Int:=c1
 let t3:Int:=(v_s.bN.ak.length:Int)
 let bF:Int:=t2
 let rP:Int:=t3
 (sR v_s.bN).bind fun c4=>let jS:(List ByteArray):=c4
 (bm v_a.fB 4).bind fun c5=>let v_x:aK:=(⟨0,bF,0,(i64.wrap (1 + c5)),⟨#[]⟩,aX.zero,aq.zero,[],[],a7.zero⟩ : aK)
 (bm v_a.ig 16).bind fun c6=>((if (c6==0)=true then some true else some (c6==1))).bind fun q7=>(if q7=true then
 let v_x:aK:={ v_x with ig:=2 }
 (bm v_a.fB rP).bind fun c9=>(bm v_a.fC 3).bind fun c10=>(bm v_a.fD 12).bind fun c11=>(bm v_a.fD 8).bind fun c12=>let v_x:aK:={ v_x with bJ:=(⟨bF,c9,c10,(⟨(i64.wrap (4 + c11)),(i64.wrap (4 + c12))⟩ : az),0,0,false⟩ : aX) }
 some v_x
 else
 ((if (c6==2)=true then some true else if (c6==3)=true then some true else if (c6==4)=true then some true else some (c6==5))).bind fun q13=>if q13=true then
 let v_x:aK:={ v_x with ig:=3 }
 let v_i:Int:=0
 (ah (g8 v_s v_a bF) ab (v_x,v_i)).bind fun r17 =>
 let v_x:=r17.1
 let v_i:=r17.2
 let aI:Int:=0
 (ah (g7 v_s bF v_a) ab (v_x,aI)).bind fun r23 =>
 let v_x:=r23.1
 let aI:=r23.2
 some v_x
 else
 ((if (c6==6)=true then some true else some (c6==7))).bind fun q24=>if q24=true then
 let v_x:aK:={ v_x with ig:=4 }
 (bm v_a.fA 20).bind fun c25=>(bm v_a.fB (jS.length:Int)).bind fun c26=>(aw jS c26).bind fun b27=>(bm v_a.fC 3).bind fun c28=>(bm v_a.fD 3).bind fun c29=>(wq (i64.wrap (Int.tdiv v_a.fD 3))).bind fun c30=>let v_x:aK:={ v_x with bG:=(⟨c25,0,b27,c28,c29,c30,[],0,0,[],[],[],[]⟩ : aq) }
 some v_x
 else
 ((if (c6==8)=true then some true else if (c6==9)=true then some true else some (c6==10))).bind fun q31=>if q31=true then
 (nQ v_a v_s).bind fun c32=>let v_x:aK:=c32
 some v_x
 else
 if (c6==11)=true then
 (bm v_a.fB 2).bind fun c33=>(aw ([6,7] : (List Int)) c33).bind fun b34=>let v_x:aK:={ v_x with ig:=b34 }
 (bm v_a.fA 20).bind fun c35=>let v_x:aK:={ v_x with fId:=c35 }
 some v_x
 else
 ((if (c6==12)=true then some true else some (c6==13))).bind fun q36=>if q36=true then
 let v_x:aK:={ v_x with ig:=8 }
 (bm v_a.fA 5).bind fun c37=>let v_x:aK:={ v_x with fN:=(i64.wrap (1 + c37)) }
 some v_x
 else
 if (c6==14)=true then
 (bm v_a.fD 3).bind fun c38=>(aw ([9,9,10] : (List Int)) c38).bind fun b39=>let v_x:aK:={ v_x with ig:=b39 }
 (bm v_a.fB rP).bind fun c40=>(bm v_a.fC 5).bind fun c41=>(wq v_a.fD).bind fun c42=>let v_x:aK:={ v_x with pR:=(⟨bF,c40,(i64.wrap (v_s.cO + c41)),(i64.wrap (v_s.cO + 20)),c42⟩ : a7) }
 (bm v_a.fC 12).bind fun c43=>let v_x:aK:={ v_x with fN:=(i64.wrap (1 + c43)) }
 some v_x
 else
 if (c6==15)=true then
 (bm v_a.fA 3).bind fun c44=>(aw ([11,1,1] : (List Int)) c44).bind fun b45=>let v_x:aK:={ v_x with ig:=b45 }
 (fQ v_a.fB ([v_a.fC,v_a.fD] : (List Int))).bind fun c46=>(zj c46).bind fun c47=>let v_x:aK:={ v_x with MF:=c47 }
 some v_x
 else
 some v_x).bind fun j8=>let v_x:=j8
 some v_x
def eU (v_x:aH) (st:aa×Int) : Option ((aa×Int)⊕((aa×Int))) :=
 let v_s:=st.1
 let v_i:=st.2
 if (decide (v_i < (v_x.mz.length:Int)))=true then
 (aw v_x.mz v_i).bind fun b6=>(g9 b6 v_s).bind fun c7=>(sJ v_s c7).bind fun c8=>let v_s:aa:=c8.1
 let v_i:Int:=(i64.wrap (v_i + 1))
 some (.inl (v_s,v_i))
 else
 some (.inr (v_s,v_i))
def dU (v_x:aH) : Option (aa) :=
 (KU).bind fun c1=>let v_s:aa:=c1
 (fQ v_x.J7 v_x.fNs).bind fun c2=>(zj c2).bind fun c3=>(sJ v_s (⟨1,0,0,0,c3,aX.zero,aq.zero,[],[],a7.zero⟩ : aK)).bind fun c4=>let v_t:aa:=c4.1
 let v_o:bw:=c4.2
 (if (v_o.aah==0)=true then
 let v_s:aa:=v_t
 some v_s
 else
 some v_s).bind fun j5=>let v_s:=j5
 let v_i:Int:=0
 (ah (eU v_x) ab (v_s,v_i)).bind fun r9 =>
 let v_s:=r9.1
 let v_i:=r9.2
 some v_s
def Jp:Ent:=⟨[.lf (.int .i64),.lf (.sl (.int .i64))],[.ag 5],fun x=>fQ x.1 x.2.1⟩
def CH:Ent:=⟨[.lf (.int .i64),.lf (.int .i64)],[.lf (.int .i64)],fun x=>bm x.1 x.2.1⟩
theorem vI:EOk prog 57 CH:=aF (.s .n (.s .n (.s (.s .n (.j [.leaf 5 (.int .i64)] .n)) .n))) [] [] [] .nil Tryz.mixed Tryz.func57
def vJ:Ent:=⟨[.ag 5],[.lf (.sl (.str))],fun x=>sR x.1⟩
theorem CI:EOk prog 10 vJ:=aF (.s .n (.s .n (.s (.s .n (.s (.lp [.row 3 3 9 1 (.str),.leaf 4 (.int .i64)] 0 false .n) .n)) .n))) [(5,[27,28])] [] [] (.cons BA .nil) Tryz.mixed Tryz.func10
def Jo:Ent:=⟨[.lf (.int .i64)],[.ag 0],fun x=>wq x.1⟩
theorem Jn:EOk prog 58 Jo:=aF .n [] [2] [] (.cons vI .nil) Tryz.mixed Tryz.func58
def ul:Ent:=⟨[.ag 15,.ag 12],[.ag 9],fun x=>nQ x.1 x.2.1⟩
theorem Dh:EOk prog 59 ul:=aF (.s .n (.s .n (.s .n (.s .n (.s .n (.s (.s .n (.j [.box 5 76 9 [(28,1128,3,1,.int .i64)]] (.s (.s .n (.s (.s .n (.j [.box 7 123 1 [],.box 5 76 9 [(28,1128,3,1,.int .i64)]] .n)) (.s (.s .n (.j [.box 7 123 1 [],.box 5 76 9 [(28,1128,3,1,.int .i64)]] .n)) .n))) .n))) (.s (.s .n (.s (.lp [.box 5 76 9 [(28,1128,3,1,.int .i64)],.leaf 8 (.int .i64)] 0 false .n) .n)) .n))))))) [(4,[79,113,114]),(5,[79,113,114]),(7,[79,113,114]),(9,[79,113,114]),(11,[79,113,114]),(16,[79,113,114])] [4] [] (.cons vI (.cons Jn .nil)) Tryz.mixed Tryz.func59
def GQ:Ent:=⟨[.ag 15,.ag 12],[.ag 9],fun x=>g9 x.1 x.2.1⟩
theorem GO (x:ct [.ag 15,.ag 12]) : iZ ⟨prog,[(57,CH),(10,vJ),(58,Jo),(59,ul),(28,Jp),(27,BB)],230,[.ag 9],[.cell 4 76],[(1,[118,119,157,179,212,225]),(2,[118,119,157,179,212,225]),(3,[118,119,157,179,212,225]),(4,[118,119,157,179,212,225]),(8,[118,119,157,179,212,225]),(18,[118,119,157,179,212,225]),(22,[118,119,157,179,212,225]),(27,[118,119,157,179,212,225]),(31,[118,119,157,179,212,225]),(33,[118,119,179,212,225]),(34,[118,119,157,179,212,225]),(38,[118,119,157,179,212,225]),(40,[118,119,157,212,225]),(41,[118,119,157,179,212,225]),(42,[118,119,157,179,212,225]),(44,[118,119,157,179,225]),(45,[118,119,157,179,212])],[4],[]⟩ ((Tryz.f29).body.getD .skip) (.s (.n) (.s (.n) (.s (.n) (.s (.n) (.s (.s (.n) (.s (.s (.s (.n) (.j [.leaf 30 (.bool)] (.n))) (.j [.box 8 76 9 []] (.s (.n) (.s (.s (.n) (.j [.leaf 53 (.bool)] (.n))) (.s (.s (.n) (.s (.s (.n) (.s (.lp [.box 8 76 9 [(28,1188,3,1,.int .i64)],.leaf 9 (.int .i64)] 1 false (.n)) .n)) (.s (.n) (.s (.lp [.box 8 76 9 [(28,1188,3,1,.int .i64)],.leaf 10 (.int .i64)] 3 false (.n)) .n)))) (.s (.s (.n) (.j [.leaf 121 (.bool)] (.n))) (.s (.n) (.s (.s (.n) (.j [.leaf 148 (.bool)] (.n))) (.s (.n) (.s (.n) (.s (.n) (.s (.s (.n) (.j [.leaf 168 (.bool)] (.n))) (.n))))))))))))) .n)) (.n)))))) [.ag 15,.ag 12] x=g9 x.1 x.2.1:=by kernel_rfl
theorem GP (hG:bO prog 28 [.lf (.int .i64),.lf (.sl (.int .i64))] [.ag 5] (fun x=>fQ x.1 x.2.1)) : bO prog 29 [.ag 15,.ag 12] [.ag 9] (fun x=>g9 x.1 x.2.1):=cD (n:=230) (.cons (vI) (.cons (CI) (.cons (Jn) (.cons (Dh) (.cons hG (.cons (Jf) (.nil))))))) Tryz.mixed Tryz.func29 rfl (by kernel_rfl) rfl rfl rfl (GO)
def uj:Ent:=⟨[.ag 16],[.lf (.bool)],fun x=>nP x.1⟩
theorem Dg:EOk prog 7 uj:=aF .n [] [] [] .nil Tryz.mixed Tryz.func7
theorem Au (x:ct [.ag 16]) : iZ ⟨prog,[(25,BC),(28,Jp),(27,BB),(26,Ga),(29,GQ)],44,[.ag 12],[.cell 2 43],[],[2],[]⟩ ((Tryz.f9).body.getD .skip) (.s (.n) (.s (.n) (.s (.n) (.s (.s (.n) (.j [.box 3 43 12 []] (.n))) (.s (.s (.n) (.s (.lp [.box 3 43 12 [],.leaf 6 (.int .i64)] 0 false (.n)) .n)) (.n)))))) [.ag 16] x=dU x.1:=by kernel_rfl
theorem Aw (hG:bO prog 28 [.lf (.int .i64),.lf (.sl (.int .i64))] [.ag 5] (fun x=>fQ x.1 x.2.1)) : bO prog 9 [.ag 16] [.ag 12] (fun x=>dU x.1):=cD (n:=44) (.cons (Ji) (.cons hG (.cons (Jf) (.cons (QB) (.cons (GP hG) (.nil)))))) Tryz.mixed Tryz.func9 rfl (by kernel_rfl) rfl rfl rfl (Au)
theorem Ek {w:World} {B e k n:Nat} {v:Value} {us:List Value} {es:List (List D)} {F:Nat→Prop} (h:w.ownsRow B e k v n us) (hn:n=es.length) (hk:∀ x∈es,x.length=k) (hl:us.length=es.flatten.length) (hF:∀ g,B≤g→g < w.heap.size→F g) (hr:∀ (j:Nat) u d,us[j]? = some u→es.flatten[j]? = some d→ej w F u d) : ej w F v (.sl es):=by
 have h':=h
 rcases h.2 with ⟨rfl,h0⟩ | ⟨g,cap,cur,rfl,hb,hg,hle,hmx,_⟩
 ·have:es = []:=List.eq_nil_of_length_eq_zero (by omega)
  subst this
  exact .sl none 0 0 0 [] (fun _=>undef) rfl (Nat.le_refl _) (by simp [maxLen]) (by simp) (by omega) (fun _=>rfl) (by simp) (by simp)
 ·have hlt:=(Array.getElem?_eq_some_iff.1 hg).1
  refine .sl (some ⟨g,0,none⟩) n cap k es (fun j=>(us[j]?).getD undef) hn hle hmx hk (fun _=>⟨_,rfl,hF g hb hlt⟩) (fun h=>by cases h) (fun a j d ha hj=>?_) (fun j d hj=>?_)
  ·injection ha with ha
   subst ha
   have hj2:j < us.length:=by have:=(zg.1 hj).1; omega
   have hadd:(⟨g,0,none⟩ : Addr).add j=⟨g,j,none⟩:=by unfold Addr.add; split <;> simp_all
   have hc:=h'.cellAt j (by have:=h'.1; omega)
   rw [hadd,hc,zq hj2]
   rfl
  ·have hj2:j < us.length:=by have:=(zg.1 hj).1; omega
   exact hr j _ d (by rw [zq hj2]; rfl) hj
theorem Ih {w:World} {F:Nat→Prop} : ∀ (l:List Tx) (j:Nat) (u:Value) (d:D),(l.map sv)[j]? = some u→(((l.map bT).map sD).flatten)[j]? = some d→ej w F u d
 | [],j,u,d,h,_=>by simp at h
 | x::l,0,u,d,h1,h2=>by
  simp [sD] at h1 h2
  subst h1
  subst h2
  exact .v _ rfl
 | x::l,j + 1,u,d,h1,h2=>Ih l j u d (by simpa using h1) (by simpa [sD] using h2)
theorem I3 {w:World} {F:Nat→Prop} : ∀ (l:List (Int×Int)) (j:Nat) (u:Value) (d:D),(ce l)[j]? = some u→(((l.map gP).map eu.d).flatten)[j]? = some d→ej w F u d
 | [],j,u,d,h,_=>by simp [ce] at h
 | x::l,0,u,d,h1,h2=>by
  simp [ce,eu.d,gP] at h1 h2
  subst h1
  subst h2
  exact .v _ rfl
 | x::l,1,u,d,h1,h2=>by
  simp [ce,eu.d,gP] at h1 h2
  subst h1
  subst h2
  exact .v _ rfl
 | x::l,j + 2,u,d,h1,h2=>I3 l j u d (by simpa [ce] using h1) (by simpa [eu.d] using h2)
theorem M7:∀ l:List (Int×Int),(ce l).length=(((l.map gP).map eu.d).flatten).length
 | []=>rfl
 | x::l=>by
  have:=M7 l
  simp [ce,eu.d] at this ⊢
  omega
theorem RM {w:World} {B:Nat} {F:Nat→Prop} (hF:∀ g,B≤g→g < w.heap.size→F g) : ∀ (qs:List QC) (ds:List QD),qs.length=ds.length→(∀ (k:Nat) (q:QC) (h:k < ds.length),qs[k]? = some q→xa w B q ds[k])→∀ (j:Nat) (u:Value) (d:D),(fT qs)[j]? = some u→(((ds.map gQ).map ax.d).flatten)[j]? = some d→ej w F u d
 | [],_,_,_,j,u,d,h,_=>by simp [fT] at h
 | q::qs,[],hl,_,_,_,_,_,_=>by simp at hl
 | q::qs,x::ds,hl,he,j,u,d,h1,h2=>by
  obtain ⟨p1,p2,p3,p4⟩:=he 0 q (by simp) rfl
  dsimp only [List.getElem_cons_zero] at p1 p2 p3 p4
  match j with
  | 0 =>
   simp [fT,LY,ax.d,gQ] at h1 h2
   subst h1
   subst h2
   have:q.p=bT x.path:=ZI (by rw [p1]; simp [bT])
   rw [this]
   exact .v _ rfl
  | 1 =>
   simp [fT,LY,ax.d,gQ] at h1 h2
   subst h1
   subst h2
   have:=Ek (F:=F) p4 (es:=(x.caps.map gP).map eu.d) (by rw [p3]; simp) (fun y hy=>by obtain ⟨z,_,rfl⟩:=List.mem_map.1 hy; rfl) (M7 _) hF (I3 x.caps)
   simpa using this
  | 2 =>
   simp [fT,LY,ax.d,gQ] at h1 h2
   subst h1
   subst h2
   rw [p2]
   exact .v _ rfl
  | j + 3 =>
   refine RM hF qs ds (by simpa using hl) (fun k q' h hq=>?_) j u d (by simpa [fT,LY] using h1) (by simpa [ax.d] using h2)
   have:=he (k + 1) q' (by simpa using h) (by simpa using hq)
   simpa using this
theorem V0:∀ (qs:List QC) (ds:List QD),qs.length=ds.length→(fT qs).length=(((ds.map gQ).map ax.d).flatten).length
 | [],[],_=>rfl
 | [],_ :: _,h=>by simp at h
 | _ :: _,[],h=>by simp at h
 | q::qs,d::ds,h=>by
  have:=V0 qs ds (by simpa using h)
  simp [fT,LY,ax.d] at this ⊢
  omega
theorem Sm:∀ xs:List Int,(xs.map iD).flatten=xs.map (fun n=>D.v (.int .i64 n))
 | []=>rfl
 | x::xs=>by
  show [D.v (.int .i64 x)] ++ (xs.map iD).flatten = _
  rw [Sm xs]
  rfl
theorem Yv {w:World} {G:Nat→Prop} {v:Value} {xs:List Int} (hG:∀ g,G g→g < w.heap.size) (h:ej w G v (.sl (xs.map iD))) : Rd w v (xs.map (Value.int .i64))∧xs.length≤9223372036854775807:=by
 have hfl:=Sm xs
 cases h with
 | sl A n c k es us hn hc hm hk hA hA0 hcell hrep =>
  have hn2:n=(xs.map (Value.int .i64)).length:=by rw [hn]; simp
  refine ⟨⟨A,c,by rw [hn2],by omega,hm,fun h0=>?_⟩,by have h9:maxLen=9223372036854775807:=(by decide); rw [List.length_map] at hn2; omega⟩
  obtain ⟨a,ha,hGa⟩:=hA (by omega)
  refine ⟨a,ha,hG _ hGa,fun j u hj=>?_⟩
  rw [List.getElem?_map] at hj
  cases hx:xs[j]? with
  | none=>rw [hx] at hj; cases hj
  | some x =>
   rw [hx] at hj
   injection hj with hj
   subst hj
   have hd:(xs.map iD).flatten[j]? = some (.v (.int .i64 x)):=by rw [hfl,List.getElem?_map,hx]; rfl
   have h1:=hcell a j _ ha hd
   have h2:=hrep j _ hd
   rw [h1]
   generalize us j=y at h2
   cases h2 with
   | v y hy=>rfl
theorem Ig:∀ l:List Tx,(l.map sv).length=(((l.map bT).map sD).flatten).length
 | []=>rfl
 | x::l=>by
  simp only [List.map_cons,List.flatten_cons,List.length_append,List.length_cons]
  rw [Ig l]
  show _ = 1 + _
  omega
theorem Vl:bO prog 28 [.lf (.int .i64),.lf (.sl (.int .i64))] [.ag 5] (fun x=>fQ x.1 x.2.1):=by
 rintro ⟨sh,xs,⟨⟩⟩ z hF
 change Int at sh
 change List Int at xs
 refine ⟨fun _=>⟨by kernel_rfl,fun w G vs hG hr=>?_⟩,fun h=>(by cases h)⟩
 have hvl:vs.toList.length=2:=hr.len
 obtain ⟨a,v,hv⟩ : ∃ a v,vs = #[a,v]:=by
  match hv:vs.toList,hvl with
  | [a,v],_=>exact ⟨a,v,by apply Array.ext'; simpa using hv⟩
 subst hv
 have ha:a = .int .i64 sh:=(aJ.vv (hr.rep 0 a _ rfl rfl)).1
 subst ha
 have hd:ej w G v (.sl (xs.map iD)):=by
  have h:=hr.rep 1 v _ rfl rfl
  cases h with
  | d _ _ h=>exact h
 obtain ⟨hrd,hlen⟩:=Yv hG hd
 refine (Vo sh v xs w hrd hlen).mono ?_
 rintro e w' ⟨nl,h1,h2,vl,vq,ds,qs,B,rfl,hB,hl,hq,hgi,hx,he⟩
 have hz:z=gC nl ds:=by
  have:fQ sh xs=some z:=hF
  rw [he] at this
  injection this with this
  exact this.symm
 subst hz
 refine ⟨_,fun g=>G g∨(w.heap.size≤g∧g < w'.heap.size),rfl,hx,fun g hg=>.inl hg,fun g hg=>hg.elim (fun h=>Nat.lt_of_lt_of_le (hG g h) hx.size) (fun h=>h.2),fun g hg=>hg.elim .inl (fun h=>.inr h.1),?_⟩
 have dl:ej w' (fun g=>G g∨(w.heap.size≤g∧g < w'.heap.size)) vl (.sl (((CO nl).map bT).map sD)) :=
  Ek hl (by simp [qS h2]) (fun x hx=>by obtain ⟨y,_,rfl⟩:=List.mem_map.1 hx; rfl) (Ig _) (fun g h3 h4=>.inr ⟨h3,h4⟩) (Ih _)
 have dq:ej w' (fun g=>G g∨(w.heap.size≤g∧g < w'.heap.size)) vq (.sl ((ds.map gQ).map ax.d)) :=
  Ek hq.row (by simp) (fun x hx=>by obtain ⟨y,_,rfl⟩:=List.mem_map.1 hx; rfl) (V0 _ _ hq.len) (fun g h3 h4=>.inr ⟨Nat.le_trans hB h3,h4⟩) (RM (fun g h3 h4=>.inr ⟨Nat.le_trans hB h3,h4⟩) qs ds hq.len hq.each)
 show aJ ρNone dY w' _ _ (.ag [.d (.sl (((CO nl).map bT).map sD)),.d (.sl ((ds.map gQ).map ax.d))])
 refine .ag #[vl,vq] _ rfl (fun x hx=>?_) (fun j x c h3 h4=>?_)
 ·simp at hx
  rcases hx with rfl | rfl
  ·exact dl.one
  ·exact dq.one
 ·match j with
  | 0 =>
   obtain rfl : _ = x:=by simpa using h3
   cases h4
   exact .d _ _ dl
  | 1 =>
   obtain rfl : _ = x:=by simpa using h3
   cases h4
   exact .d _ _ dq
  | j + 2=>simp at h3
noncomputable def XV:Ent:=⟨[.ag 16],[.ag 12],fun x=>dU x.1⟩
theorem XU:bO prog 9 [.ag 16] [.ag 12] (fun x=>dU x.1):=Aw Vl
noncomputable def tY (x:ct [.lf (.int .i64),.lf (.int .i64)]) : Option (bc [.lf (.int .i64)]):=iZ ⟨prog,[],15,[.lf (.int .i64)],[.tmp 4],[],[],[]⟩ ((Tryz.f11).body.getD .skip) (.n) [.lf (.int .i64),.lf (.int .i64)] x
noncomputable def Ll:Ent:=⟨[.lf (.int .i64),.lf (.int .i64)],[.lf (.int .i64)],tY⟩
theorem Lk:bO prog 11 [.lf (.int .i64),.lf (.int .i64)] [.lf (.int .i64)] tY:=cD (n:=15) (.nil) Tryz.mixed Tryz.func11 rfl (by kernel_rfl) rfl rfl rfl (fun _=>rfl)
noncomputable def vK (x:ct []) : Option (bc [.lf (.bool)]):=iZ ⟨prog,[(25,BC),(12,uh),(15,Hw),(18,rL)],37,[.lf (.bool)],[.tmp 0],[],[],[]⟩ ((Tryz.f6).body.getD .skip) (.n) [] x
noncomputable def Ol:Ent:=⟨[],[.lf (.bool)],vK⟩
theorem Oj:bO prog 6 [] [.lf (.bool)] vK:=cD (n:=37) (.cons (Ji) (.cons (ug) (.cons (Hv) (.cons (rJ) (.nil))))) Tryz.mixed Tryz.func6 rfl (by kernel_rfl) rfl rfl rfl (fun _=>rfl)
noncomputable def BR (x:ct [.ag 2]) : Option (bc [.lf (.bool)]):=iZ ⟨prog,[],37,[.lf (.bool)],[.tmp 2],[],[],[]⟩ ((Tryz.f8).body.getD .skip) (.n) [.ag 2] x
noncomputable def Vn:Ent:=⟨[.ag 2],[.lf (.bool)],BR⟩
theorem Vm:bO prog 8 [.ag 2] [.lf (.bool)] BR:=cD (n:=37) (.nil) Tryz.mixed Tryz.func8 rfl (by kernel_rfl) rfl rfl rfl (fun _=>rfl)
noncomputable def nw (x:ct [.ag 16,.ag 2,.lf (.bool),.lf (.int .i64)]) : Option (bc [.lf (.bool)]):=iZ ⟨prog,[(6,Ol),(7,uj),(8,Vn),(9,XV),(10,vJ),(11,Ll),(12,uh),(13,Aj),(14,Gb)],92,[.lf (.bool)],[.tmp 8],[],[],[]⟩ ((Tryz.f3).body.getD .skip) (.n) [.ag 16,.ag 2,.lf (.bool),.lf (.int .i64)] x
theorem BS:bO prog 3 [.ag 16,.ag 2,.lf (.bool),.lf (.int .i64)] [.lf (.bool)] nw:=cD (n:=92) (.cons (Oj) (.cons (Dg) (.cons (Vm) (.cons (XU) (.cons (CI) (.cons (Lk) (.cons (ug) (.cons (Ai) (.cons (QE) (.nil)))))))))) Tryz.mixed Tryz.func3 rfl (by kernel_rfl) rfl rfl rfl (fun _=>rfl)
section
open Go.ChangeShapes Go.WideShapes Go.ChangeAt Go.RowKit Go.Deep
section
variable {H:Type} {enc:TypeId×Value→H} {P:Program} {w:World} {base:Nat} {spare:Nat→Bool} {held:Bool} {r:Reach} {b0:Nat}
end
end
section
open Go.ChangeShapes Go.WideShapes Go.ChangeAt Go.RowKit Go.Deep
instance:Inhabited D:=⟨.v (.int .i64 0)⟩
inductive Fm where
 | int | str | bool | u8
 | sl (es:List Fm)
inductive Shp:Fm→D→Prop
 | int (z:Int) (h:(Lit.int .i64 z).wf=true) : Shp .int (.v (.int .i64 z))
 | str (s:ByteArray) (h:s.size≤maxLen) : Shp .str (.v (.string s))
 | bool (b:Bool) : Shp .bool (.v (.bool b))
 | u8 (z:Int) (h:(Lit.int .u8 z).wf=true) : Shp .u8 (.v (.int .u8 z))
 | sl (ts:List Fm) (es:List (List D)) (hl:∀ e∈es,e.length=ts.length) (h:∀ (e:List D),e∈es→∀ (j:Nat) (T:Fm) (d:D),ts[j]? = some T→e[j]? = some d→Shp T d) (hm:es.length≤maxLen) : Shp (.sl ts) (.sl es)
def qG (P:Program) (t:TypeId) (ts:List Fm) : Prop :=
 ∀ (H:Type) (enc:TypeId×Value→H) (w:World) (base:Nat) (spare:Nat→Bool) (held:Bool) (fuel:Nat) (cs:List Value) (x:DataW H×List MemPlace),DataW.trod enc P w base spare held fuel t cs=some x →
  cs.length=ts.length∧∀ (j:Nat) (T:Fm),ts[j]? = some T→∃ c d,cs[j]? = some c∧ej w (· < w.heap.size) c d∧Shp T d
theorem cr {P:Program} {t:TypeId} (ht:P.underlying t=some (.int .i64)) : qG P t [.int]:=by
 intro H enc w base spare held fuel cs x h
 obtain ⟨z,rfl,_,hz⟩:=DataW.trod_int ht h
 refine ⟨rfl,fun j T hj=>?_⟩
 match j,hj with
 | 0,hj =>
  cases hj
  exact ⟨_,_,rfl,.v _ rfl,.int z hz⟩
theorem Tr {P:Program} {t:TypeId} (ht:P.underlying t=some .string) : qG P t [.str]:=by
 intro H enc w base spare held fuel cs x h
 obtain ⟨z,rfl,_,hz⟩:=DataW.trod_string ht h
 refine ⟨rfl,fun j T hj=>?_⟩
 match j,hj with
 | 0,hj =>
  cases hj
  exact ⟨_,_,rfl,.v _ rfl,.str z hz⟩
theorem lu {P:Program} {t:TypeId} {fs:Array Field} {ts:List Fm} (ht:P.underlying t=some (.struct fs)) (hk:P.cellsOf t=ts.length)
  (hcov:∀ j T,ts[j]? = some T→∃ (i:Nat) (f:Field) (kf:Nat) (us:List Fm),fs[i]? = some f∧f.offset≤j∧j < f.offset + kf∧P.cellsOf f.type=kf∧qG P f.type us∧us[j - f.offset]? = some T) : qG P t ts:=by
 intro H enc w base spare held fuel cs x h
 obtain ⟨xs,n,_,rfl,hl,hlen,hf⟩:=DataW.trod_struct ht h
 refine ⟨by rw [hl,hk],fun j T hj=>?_⟩
 obtain ⟨i,f,kf,us,hi,h1,h2,h3,h4,h5⟩:=hcov j T hj
 have hfi:=hf i f hi
 have hlt:i < xs.length:=by rw [hlen]; exact (Array.getElem?_eq_some_iff.1 hi).1
 rw [zq hlt,h3] at hfi
 obtain ⟨_,hz⟩:=h4 H enc w base spare held n _ _ hfi
 obtain ⟨c,d,hc,hd,hs⟩:=hz (j - f.offset) T h5
 rw [List.getElem?_take_of_lt (by omega),List.getElem?_drop,show f.offset + (j - f.offset)=j by omega] at hc
 exact ⟨c,d,hc,hd,hs⟩
theorem YW {α : Type} (k:Nat) (es:List (List α)) (h:∀ e∈es,e.length=k) : es.flatten.length=es.length * k:=by
 induction es with
 | nil=>simp
 | cons e es ih =>
  rw [List.flatten_cons,List.length_append,ih (fun x hx=>h x (List.mem_cons_of_mem _ hx)),h e List.mem_cons_self,List.length_cons,Nat.add_mul]
  omega
theorem uJ {P:Program} {t e:TypeId} {ts:List Fm} (ht:P.underlying t=some (.slice e)) (hc:P.cellsOf e=ts.length) (hk : 0 < ts.length) (he:qG P e ts) : qG P t [.sl ts]:=by
 intro H enc w base spare held fuel cs x hf
 rcases open_slice ht hf with ⟨rfl,_⟩ | ⟨a,len,cap,m,n,Dz,Pl,rfl,hb,hl,hm,hmm,_,hx⟩
 ·refine ⟨rfl,fun j T hj=>?_⟩
  match j,hj with
  | 0,hj =>
   cases hj
   exact ⟨_,.sl [],rfl,.sl none 0 0 0 [] (fun _=>.int .i64 0) rfl (Nat.le_refl _) (by simp [maxLen]) (by simp) (fun h=>absurd h (by omega)) (fun _=>rfl) (by simp) (by simp),.sl ts [] (by simp) (by simp) (by simp)⟩
 ·have hlm:len≤m:=by rw [hmm]; split <;> omega
  have each:∀ i,i < m→∃ q:Nat→D,∀ j T,ts[j]? = some T→∃ c,w.cell? (a.add (i * ts.length + j))=some c∧ej w (· < w.heap.size) c (q j)∧Shp T (q j):=by
   intro i hi
   obtain ⟨cs',h1,h2⟩:=hx i hi
   rw [hc] at h1
   obtain ⟨_,hlen,hcell⟩:=World.cells?_some h1
   obtain ⟨_,hz⟩:=he _ _ _ _ _ _ _ _ _ h2
   have:∀ j,j < ts.length→∃ d,∀ T,ts[j]? = some T→∃ c,w.cell? (a.add (i * ts.length + j))=some c∧ej w (· < w.heap.size) c d∧Shp T d:=by
    intro j hj
    obtain ⟨c,d,c1,c2,c3⟩:=hz j ts[j] (zq hj)
    refine ⟨d,fun T hT=>⟨c,?_,c2,?_⟩⟩
    ·have c0:=hcell j hj
     rw [Go.Deep.add_add] at c0
     rw [c0,c1]
    ·rw [zq hj] at hT
     cases hT
     exact c3
   obtain ⟨q,hq⟩:=choose_lt this
   exact ⟨q,fun j T hT=>hq j (by rcases Nat.lt_or_ge j ts.length with h | h; exact h; rw [List.getElem?_eq_none h] at hT; cases hT) T hT⟩
  obtain ⟨q,hq⟩:=choose_lt each
  let row (i:Nat) : List D:=(List.range ts.length).map (q i)
  let es:=(List.range len).map row
  have hrow:∀ x∈es,x.length=ts.length:=by
   intro x hx
   obtain ⟨i,_,rfl⟩:=List.mem_map.1 hx
   simp [row]
  have hcell:∀ j d,es.flatten[j]? = some d→∃ c,w.cell? (a.add j)=some c∧ej w (· < w.heap.size) c d:=by
   intro j d hj
   have hlt:j < len * ts.length:=by
    have:=(zg.1 hj).1
    rw [YW ts.length es hrow] at this
    simpa [es] using this
   have hi:j / ts.length < len:=(Nat.div_lt_iff_lt_mul hk).2 hlt
   have hmod:=Nat.mod_lt j hk
   have hdm:j / ts.length * ts.length + j % ts.length=j:=by rw [Nat.mul_comm]; exact Nat.div_add_mod j _
   have hfl:=yP ts.length es hrow (j / ts.length) (row (j / ts.length)) (by simp [es,hi]) (j % ts.length) hmod
   rw [hdm,hj] at hfl
   have hd:d=q (j / ts.length) (j % ts.length):=by simpa [row,hmod] using hfl
   obtain ⟨c,c1,c2,_⟩:=hq (j / ts.length) (by omega) (j % ts.length) _ (zq hmod)
   rw [hdm] at c1
   exact ⟨c,c1,hd ▸ c2⟩
  refine ⟨rfl,fun j T hj=>?_⟩
  match j,hj with
  | 0,hj =>
   cases hj
   refine ⟨_,.sl es,rfl,.sl (some a) len cap ts.length es (fun j=>(w.cell? (a.add j)).getD (.int .i64 0)) (by simp [es]) hl hm hrow (fun hn=>⟨a,rfl,?_⟩) (fun h=>by cases h) (fun a' j d ha hj=>?_) (fun j d hj=>?_),.sl ts es hrow (fun x hx j T d hT hd=>?_) (by simp [es]; omega)⟩
   ·obtain ⟨c,c1,_⟩:=hq 0 (by omega) 0 _ (zq hk)
    have:=World.block_lt_of_cell? w _ c1
    rwa [show (a.add (0 * ts.length + 0)).block=a.block by unfold Addr.add; split <;> rfl] at this
   ·cases ha
    obtain ⟨c,c1,_⟩:=hcell j d hj
    rw [c1]
    rfl
   ·obtain ⟨c,c1,c2⟩:=hcell j d hj
    rw [c1]
    exact c2
   ·obtain ⟨i,hi,rfl⟩:=List.mem_map.1 hx
    have hi:i < len:=List.mem_range.1 hi
    have hjt:j < ts.length:=(zg.1 hT).1
    have hd:d=q i j:=by simpa [row,hjt] using hd.symm
    obtain ⟨c,_,_,c3⟩:=hq i (by omega) j T hT
    exact hd ▸ c3
section
variable {H:Type} {enc:TypeId×Value→H} {P:Program} {w:World} {base:Nat} {spare:Nat→Bool} {held:Bool} {r:Reach} {b0:Nat}
theorem RS {t:TypeId} {fs:Array Field} {ts:List Fm} {v:Value} {d:DataW H} {ps:List MemPlace} (ht:P.underlying t=some (.struct fs)) (ho:qG P t ts) (hv:Value.okWide P w r b0 t v) (h:DataW.Trod enc P w base spare held t v d ps) :
  ∃ ds:List D,ds.length=ts.length∧(∀ (j:Nat) (T:Fm),ts[j]? = some T→∃ e,ds[j]? = some e∧Shp T e)∧aJ ρNone dY w (· < w.heap.size) v (.ag (ds.map .d)):=by
 obtain ⟨cs,rfl,_⟩:=okWide_struct ht hv
 obtain ⟨fuel,hf⟩:=h
 simp only [Value.cells] at hf
 obtain ⟨hl,hz⟩:=ho _ _ _ _ _ _ _ _ _ hf
 have:∀ j,j < ts.length→∃ d,∀ T,ts[j]? = some T→∃ c,cs.toList[j]? = some c∧ej w (· < w.heap.size) c d∧Shp T d:=by
  intro j hj
  obtain ⟨c,d,c1,c2,c3⟩:=hz j ts[j] (zq hj)
  refine ⟨d,fun T hT=>⟨c,c1,c2,?_⟩⟩
  rw [zq hj] at hT
  cases hT
  exact c3
 obtain ⟨q,hq⟩:=choose_lt this
 refine ⟨(List.range ts.length).map q,by simp,fun j T hT=>?_,.ag cs _ (by simp; simpa using hl) (fun x hx=>?_) (fun j x c hx hc=>?_)⟩
 ·have hj:j < ts.length:=(zg.1 hT).1
  obtain ⟨c,_,_,c3⟩:=hq j hj T hT
  exact ⟨q j,by simp [hj],c3⟩
 ·obtain ⟨j,hj,rfl⟩:=List.getElem_of_mem (Array.mem_toList_iff.2 hx)
  have hj':j < ts.length:=by rw [← hl]; exact hj
  obtain ⟨c,c1,c2,_⟩:=hq j hj' _ (zq hj')
  rw [zq hj] at c1
  cases c1
  exact c2.one
 ·have hj:j < ts.length:=by
   have:=(Array.getElem?_eq_some_iff.1 hx).1
   rw [← hl]
   simpa using this
  obtain ⟨c',c1,c2,_⟩:=hq j hj _ (zq hj)
  rw [Array.getElem?_toList,hx] at c1
  cases c1
  have:c = .d (q j):=by simpa [hj] using hc.symm
  subst this
  exact .d _ _ c2
end
theorem RH {α : Type} {f : α→List D} {Q : α→Prop} : ∀ (es:List (List D)),(∀ e∈es,∃ x,e=f x∧Q x)→∃ l:List α,es=l.map f∧∀ x∈l,Q x
 | [],_=>⟨[],rfl,by simp⟩
 | e::es,h=>by
  obtain ⟨x,rfl,hq⟩:=h e List.mem_cons_self
  obtain ⟨l,rfl,hl⟩:=RH es (fun y hy=>h y (List.mem_cons_of_mem _ hy))
  refine ⟨x::l,rfl,?_⟩
  intro y hy
  rcases List.mem_cons.1 hy with rfl | hy
  ·exact hq
  ·exact hl y hy
theorem YA {P:Program} {f:FuncId} {args:List PV} {b:Bool} (h:PC P f args (.d (.v (.bool b)))) (w:World) (vs:Array Value) (hr:cJ ρNone dY w (· < w.heap.size) vs.toList args) :
  Calls P f vs w fun e w'=>e = .returned (.bool b)∧Below w.heap.size w w':=by
 refine (h.2 w _ vs (fun _ h=>h) hr).mono ?_
 rintro e w' ⟨v,F',rfl,hx,_,_,_,hp⟩
 refine ⟨?_,hx⟩
 cases hp with
 | d _ _ h=>cases h with
  | v=>rfl
end
section
open Go.ChangeShapes Go.WideShapes Go.ChangeAt Go.RowKit Go.Deep
theorem dh {d:D} (h:Shp .int d) : ∃ z,d = .v (.int .i64 z)∧(Lit.int .i64 z).wf=true:=by
 cases h with
 | int z h=>exact ⟨z,rfl,h⟩
theorem Yn {d:D} (h:Shp .str d) : ∃ s,d = .v (.string s)∧s.size≤maxLen:=by
 cases h with
 | str z h=>exact ⟨z,rfl,h⟩
def wfI (z:Int) : Prop:=(Lit.int .i64 z).wf=true
theorem ON {α : Type} {f : α→List D} {Q : α→Prop} {ts:List Fm} {d:D} (hf:∀ e:List D,e.length=ts.length→(∀ (j:Nat) (T:Fm),ts[j]? = some T→∃ d,e[j]? = some d∧Shp T d)→∃ x,e=f x∧Q x) (h:Shp (.sl ts) d) : ∃ l:List α,d = .sl (l.map f)∧(∀ z∈l,Q z)∧l.length≤maxLen:=by
 cases h with
 | sl _ es hl h hm =>
  obtain ⟨l,rfl,hq⟩:=RH (f:=f) (Q:=Q) es (fun e he=>hf e (hl e he) fun j T hT=>by
   have hj:j < e.length:=by rw [hl e he]; exact (zg.1 hT).1
   exact ⟨e[j],zq hj,h e he j T _ hT (zq hj)⟩)
  exact ⟨l,rfl,hq,by simpa using hm⟩
theorem Z5 {e:List D} (hl:e.length=1) (h:∀ (j:Nat) (T:Fm),[Fm.int][j]? = some T→∃ d,e[j]? = some d∧Shp T d) : ∃ x:Int,e = [.v (.int .i64 x)]∧wfI x:=by
 match e,hl with
 | [d],_ =>
  obtain ⟨d',hd,s⟩:=h 0 _ rfl
  cases hd
  cases s with
  | int z hz=>exact ⟨z,rfl,hz⟩
theorem pI:qG prog 22 [.sl [.int]]:=uJ Tryz.underlying22 (by kernel_rfl) (by decide) (cr Tryz.underlying3)
theorem uz {d:D} (h:Shp (.sl [.int]) d) : ∃ l:List Int,d = .sl (l.map iD)∧(∀ z∈l,wfI z)∧l.length≤maxLen:=ON (ts:=[.int]) (f:=iD) (Q:=fun z=>wfI z) (fun _ hl h=>Z5 hl h) h
def aP.ok (x:aP) : Prop:=wfI x.ig∧wfI x.fA∧wfI x.fB∧wfI x.fC∧wfI x.fD
theorem CM:qG prog 78 [.int,.int,.int,.int,.int]:=lu Tryz.underlying78 (by kernel_rfl) fun j T hj=>by
 match j,hj with
 | 0,hj=>exact ⟨0,_,1,[.int],rfl,by decide,by decide,by kernel_rfl,(cr Tryz.underlying3),hj⟩
 | 1,hj=>exact ⟨1,_,1,[.int],rfl,by decide,by decide,by kernel_rfl,(cr Tryz.underlying3),hj⟩
 | 2,hj=>exact ⟨2,_,1,[.int],rfl,by decide,by decide,by kernel_rfl,(cr Tryz.underlying3),hj⟩
 | 3,hj=>exact ⟨3,_,1,[.int],rfl,by decide,by decide,by kernel_rfl,(cr Tryz.underlying3),hj⟩
 | 4,hj=>exact ⟨4,_,1,[.int],rfl,by decide,by decide,by kernel_rfl,(cr Tryz.underlying3),hj⟩
theorem JS {e:List D} (hl:e.length=5) (h:∀ (j:Nat) (T:Fm),([.int,.int,.int,.int,.int] : List Fm)[j]? = some T→∃ d,e[j]? = some d∧Shp T d) : ∃ x:aP,e=aP.d x∧x.ok:=by
 match e,hl with
 | [d0,d1,d2,d3,d4],_ =>
  obtain ⟨_,e0,s0⟩:=h 0 _ rfl
  cases e0
  obtain ⟨_,e1,s1⟩:=h 1 _ rfl
  cases e1
  obtain ⟨_,e2,s2⟩:=h 2 _ rfl
  cases e2
  obtain ⟨_,e3,s3⟩:=h 3 _ rfl
  cases e3
  obtain ⟨_,e4,s4⟩:=h 4 _ rfl
  cases e4
  obtain ⟨z0,rfl,k0⟩:=dh s0
  obtain ⟨z1,rfl,k1⟩:=dh s1
  obtain ⟨z2,rfl,k2⟩:=dh s2
  obtain ⟨z3,rfl,k3⟩:=dh s3
  obtain ⟨z4,rfl,k4⟩:=dh s4
  exact ⟨⟨z0,z1,z2,z3,z4⟩,rfl,⟨k0,k1,k2,k3,k4⟩⟩
theorem AU:qG prog 23 [.sl [.int,.int,.int,.int,.int]]:=uJ Tryz.underlying23 (by kernel_rfl) (by decide) CM
theorem D5 {d:D} (h:Shp (.sl [.int,.int,.int,.int,.int]) d) : ∃ l:List aP,d = .sl (l.map aP.d)∧(∀ z∈l,aP.ok z)∧l.length≤maxLen:=ON (ts:=[.int,.int,.int,.int,.int]) (f:=aP.d) (Q:=fun z=>aP.ok z) (fun _ hl h=>JS hl h) h
def aH.ok (x:aH) : Prop:=wfI x.J7∧(∀ z∈x.fNs,wfI z)∧x.fNs.length≤maxLen∧(∀ z∈x.mz,aP.ok z)∧x.mz.length≤maxLen
theorem xt:qG prog 25 [.int,.sl [.int],.sl [.int,.int,.int,.int,.int]]:=lu Tryz.underlying25 (by kernel_rfl) fun j T hj=>by
 match j,hj with
 | 0,hj=>exact ⟨0,_,1,[.int],rfl,by decide,by decide,by kernel_rfl,(cr Tryz.underlying3),hj⟩
 | 1,hj=>exact ⟨1,_,1,[.sl [.int]],rfl,by decide,by decide,by kernel_rfl,pI,hj⟩
 | 2,hj=>exact ⟨2,_,1,[.sl [.int,.int,.int,.int,.int]],rfl,by decide,by decide,by kernel_rfl,AU,hj⟩
theorem CN {e:List D} (hl:e.length=3) (h:∀ (j:Nat) (T:Fm),([.int,.sl [.int],.sl [.int,.int,.int,.int,.int]] : List Fm)[j]? = some T→∃ d,e[j]? = some d∧Shp T d) : ∃ x:aH,e=aH.d x∧x.ok:=by
 match e,hl with
 | [d0,d1,d2],_ =>
  obtain ⟨_,e0,s0⟩:=h 0 _ rfl
  cases e0
  obtain ⟨_,e1,s1⟩:=h 1 _ rfl
  cases e1
  obtain ⟨_,e2,s2⟩:=h 2 _ rfl
  cases e2
  obtain ⟨z0,rfl,k0⟩:=dh s0
  obtain ⟨z1,rfl,k1,m1⟩:=uz s1
  obtain ⟨z2,rfl,k2,m2⟩:=D5 s2
  exact ⟨⟨z0,z1,z2⟩,rfl,⟨k0,k1,m1,k2,m2⟩⟩
def az.ok (x:az) : Prop:=wfI x.bD∧wfI x.be
theorem tj:qG prog 27 [.int,.int]:=lu Tryz.underlying27 (by kernel_rfl) fun j T hj=>by
 match j,hj with
 | 0,hj=>exact ⟨0,_,1,[.int],rfl,by decide,by decide,by kernel_rfl,(cr Tryz.underlying3),hj⟩
 | 1,hj=>exact ⟨1,_,1,[.int],rfl,by decide,by decide,by kernel_rfl,(cr Tryz.underlying3),hj⟩
def aM.ok (x:aM) : Prop:=wfI x.bq∧wfI x.aY∧az.ok x.cF∧wfI x.fZ∧wfI x.bJ∧wfI x.eX∧wfI x.gV
theorem OZ:qG prog 123 [.int,.int,.int,.int,.int,.int,.int,.int]:=lu Tryz.underlying123 (by kernel_rfl) fun j T hj=>by
 match j,hj with
 | 0,hj=>exact ⟨0,_,1,[.int],rfl,by decide,by decide,by kernel_rfl,(cr Tryz.underlying3),hj⟩
 | 1,hj=>exact ⟨1,_,1,[.int],rfl,by decide,by decide,by kernel_rfl,(cr Tryz.underlying3),hj⟩
 | 2,hj=>exact ⟨2,_,2,[.int,.int],rfl,by decide,by decide,by kernel_rfl,tj,hj⟩
 | 3,hj=>exact ⟨2,_,2,[.int,.int],rfl,by decide,by decide,by kernel_rfl,tj,hj⟩
 | 4,hj=>exact ⟨3,_,1,[.int],rfl,by decide,by decide,by kernel_rfl,(cr Tryz.underlying3),hj⟩
 | 5,hj=>exact ⟨4,_,1,[.int],rfl,by decide,by decide,by kernel_rfl,(cr Tryz.underlying3),hj⟩
 | 6,hj=>exact ⟨5,_,1,[.int],rfl,by decide,by decide,by kernel_rfl,(cr Tryz.underlying3),hj⟩
 | 7,hj=>exact ⟨6,_,1,[.int],rfl,by decide,by decide,by kernel_rfl,(cr Tryz.underlying3),hj⟩
theorem YF {e:List D} (hl:e.length=8) (h:∀ (j:Nat) (T:Fm),([.int,.int,.int,.int,.int,.int,.int,.int] : List Fm)[j]? = some T→∃ d,e[j]? = some d∧Shp T d) : ∃ x:aM,e=aM.d x∧x.ok:=by
 match e,hl with
 | [d0,d1,d2,d3,d4,d5,d6,d7],_ =>
  obtain ⟨_,e0,s0⟩:=h 0 _ rfl
  cases e0
  obtain ⟨_,e1,s1⟩:=h 1 _ rfl
  cases e1
  obtain ⟨_,e2,s2⟩:=h 2 _ rfl
  cases e2
  obtain ⟨_,e3,s3⟩:=h 3 _ rfl
  cases e3
  obtain ⟨_,e4,s4⟩:=h 4 _ rfl
  cases e4
  obtain ⟨_,e5,s5⟩:=h 5 _ rfl
  cases e5
  obtain ⟨_,e6,s6⟩:=h 6 _ rfl
  cases e6
  obtain ⟨_,e7,s7⟩:=h 7 _ rfl
  cases e7
  obtain ⟨z0,rfl,k0⟩:=dh s0
  obtain ⟨z1,rfl,k1⟩:=dh s1
  obtain ⟨z2,rfl,k2⟩:=dh s2
  obtain ⟨z3,rfl,k3⟩:=dh s3
  obtain ⟨z4,rfl,k4⟩:=dh s4
  obtain ⟨z5,rfl,k5⟩:=dh s5
  obtain ⟨z6,rfl,k6⟩:=dh s6
  obtain ⟨z7,rfl,k7⟩:=dh s7
  exact ⟨⟨z0,z1,⟨z2,z3⟩,z4,z5,z6,z7⟩,rfl,⟨k0,k1,⟨k2,k3⟩,k4,k5,k6,k7⟩⟩
theorem Ma:qG prog 28 [.sl [.int,.int,.int,.int,.int,.int,.int,.int]]:=uJ Tryz.underlying28 (by kernel_rfl) (by decide) OZ
theorem S5 {d:D} (h:Shp (.sl [.int,.int,.int,.int,.int,.int,.int,.int]) d) : ∃ l:List aM,d = .sl (l.map aM.d)∧(∀ z∈l,aM.ok z)∧l.length≤maxLen:=ON (ts:=[.int,.int,.int,.int,.int,.int,.int,.int]) (f:=aM.d) (Q:=fun z=>aM.ok z) (fun _ hl h=>YF hl h) h
def aq.ok (x:aq) : Prop:=wfI x.fId∧wfI x.da∧x.bC.size≤maxLen∧wfI x.cy∧wfI x.bq∧az.ok x.a8∧(∀ z∈x.bI,aM.ok z)∧x.bI.length≤maxLen∧wfI x.cH∧wfI x.cd∧(∀ z∈x.bP,wfI z)∧x.bP.length≤maxLen∧(∀ z∈x.dr,wfI z)∧x.dr.length≤maxLen∧(∀ z∈x.jO,wfI z)∧x.jO.length≤maxLen∧(∀ z∈x.jW,wfI z)∧x.jW.length≤maxLen
theorem O0:qG prog 30 [.int,.int,.str,.int,.int,.int,.int,.sl [.int,.int,.int,.int,.int,.int,.int,.int],.int,.int,.sl [.int],.sl [.int],.sl [.int],.sl [.int]]:=lu Tryz.underlying30 (by kernel_rfl) fun j T hj=>by
 match j,hj with
 | 0,hj=>exact ⟨0,_,1,[.int],rfl,by decide,by decide,by kernel_rfl,(cr Tryz.underlying3),hj⟩
 | 1,hj=>exact ⟨1,_,1,[.int],rfl,by decide,by decide,by kernel_rfl,(cr Tryz.underlying3),hj⟩
 | 2,hj=>exact ⟨2,_,1,[.str],rfl,by decide,by decide,by kernel_rfl,(Tr Tryz.underlying9),hj⟩
 | 3,hj=>exact ⟨3,_,1,[.int],rfl,by decide,by decide,by kernel_rfl,(cr Tryz.underlying3),hj⟩
 | 4,hj=>exact ⟨4,_,1,[.int],rfl,by decide,by decide,by kernel_rfl,(cr Tryz.underlying3),hj⟩
 | 5,hj=>exact ⟨5,_,2,[.int,.int],rfl,by decide,by decide,by kernel_rfl,tj,hj⟩
 | 6,hj=>exact ⟨5,_,2,[.int,.int],rfl,by decide,by decide,by kernel_rfl,tj,hj⟩
 | 7,hj=>exact ⟨6,_,1,[.sl [.int,.int,.int,.int,.int,.int,.int,.int]],rfl,by decide,by decide,by kernel_rfl,Ma,hj⟩
 | 8,hj=>exact ⟨7,_,1,[.int],rfl,by decide,by decide,by kernel_rfl,(cr Tryz.underlying3),hj⟩
 | 9,hj=>exact ⟨8,_,1,[.int],rfl,by decide,by decide,by kernel_rfl,(cr Tryz.underlying3),hj⟩
 | 10,hj=>exact ⟨9,_,1,[.sl [.int]],rfl,by decide,by decide,by kernel_rfl,pI,hj⟩
 | 11,hj=>exact ⟨10,_,1,[.sl [.int]],rfl,by decide,by decide,by kernel_rfl,pI,hj⟩
 | 12,hj=>exact ⟨11,_,1,[.sl [.int]],rfl,by decide,by decide,by kernel_rfl,pI,hj⟩
 | 13,hj=>exact ⟨12,_,1,[.sl [.int]],rfl,by decide,by decide,by kernel_rfl,pI,hj⟩
theorem YG {e:List D} (hl:e.length=14) (h:∀ (j:Nat) (T:Fm),([.int,.int,.str,.int,.int,.int,.int,.sl [.int,.int,.int,.int,.int,.int,.int,.int],.int,.int,.sl [.int],.sl [.int],.sl [.int],.sl [.int]] : List Fm)[j]? = some T→∃ d,e[j]? = some d∧Shp T d) : ∃ x:aq,e=aq.d x∧x.ok:=by
 match e,hl with
 | [d0,d1,d2,d3,d4,d5,d6,d7,d8,d9,d10,d11,d12,d13],_ =>
  obtain ⟨_,e0,s0⟩:=h 0 _ rfl
  cases e0
  obtain ⟨_,e1,s1⟩:=h 1 _ rfl
  cases e1
  obtain ⟨_,e2,s2⟩:=h 2 _ rfl
  cases e2
  obtain ⟨_,e3,s3⟩:=h 3 _ rfl
  cases e3
  obtain ⟨_,e4,s4⟩:=h 4 _ rfl
  cases e4
  obtain ⟨_,e5,s5⟩:=h 5 _ rfl
  cases e5
  obtain ⟨_,e6,s6⟩:=h 6 _ rfl
  cases e6
  obtain ⟨_,e7,s7⟩:=h 7 _ rfl
  cases e7
  obtain ⟨_,e8,s8⟩:=h 8 _ rfl
  cases e8
  obtain ⟨_,e9,s9⟩:=h 9 _ rfl
  cases e9
  obtain ⟨_,e10,s10⟩:=h 10 _ rfl
  cases e10
  obtain ⟨_,e11,s11⟩:=h 11 _ rfl
  cases e11
  obtain ⟨_,e12,s12⟩:=h 12 _ rfl
  cases e12
  obtain ⟨_,e13,s13⟩:=h 13 _ rfl
  cases e13
  obtain ⟨z0,rfl,k0⟩:=dh s0
  obtain ⟨z1,rfl,k1⟩:=dh s1
  obtain ⟨z2,rfl,k2⟩:=Yn s2
  obtain ⟨z3,rfl,k3⟩:=dh s3
  obtain ⟨z4,rfl,k4⟩:=dh s4
  obtain ⟨z5,rfl,k5⟩:=dh s5
  obtain ⟨z6,rfl,k6⟩:=dh s6
  obtain ⟨z7,rfl,k7,m7⟩:=S5 s7
  obtain ⟨z8,rfl,k8⟩:=dh s8
  obtain ⟨z9,rfl,k9⟩:=dh s9
  obtain ⟨z10,rfl,k10,m10⟩:=uz s10
  obtain ⟨z11,rfl,k11,m11⟩:=uz s11
  obtain ⟨z12,rfl,k12,m12⟩:=uz s12
  obtain ⟨z13,rfl,k13,m13⟩:=uz s13
  exact ⟨⟨z0,z1,z2,z3,z4,⟨z5,z6⟩,z7,z8,z9,z10,z11,z12,z13⟩,rfl,⟨k0,k1,k2,k3,k4,⟨k5,k6⟩,k7,m7,k8,k9,k10,m10,k11,m11,k12,m12,k13,m13⟩⟩
end
theorem fW {α S τ : Type} (l:List α) (mk:Int→S) {f:S→Option (S⊕τ)} {r : τ} (hl:l.length≤1000000)
  (hstep:∀ (k:Nat) (x : α),l[k]? = some x→k < l.length→x∈l→f (mk (k:Int))=some (.inl (mk ((k + 1:Nat) : Int)))) (hend:f (mk (l.length:Int))=some (.inr r)) : ah f ab (mk 0)=some r:=by
 rw [ay l (σ:=Unit) (fun _ k=>mk k) (fun _ _=>some (.inl ())) (fun _=>r) (an hl) (fun k _ x hx=>by rw [hstep k x hx (zg.1 hx).1 (List.mem_of_getElem? hx)]; rfl) (fun _=>hend) ()]
 rw [td (fun _ _=>())]
theorem qT (l:List Int) (hl:l.length≤1000000) : qg l l=some true:=by
 unfold qg
 simp only [bne_self_eq_false,zf,if_false]
 rw [fW l (fun k=>k) (r:=.inl (l.length:Int)) hl (fun k x hx hk _=>by
  unfold qf
  simp only [bM hx,if_true,aD hx,zb,bne_self_eq_false,zf,if_false,a6 hk hl]) (by unfold qf; simp only [bE,zf,if_false])]
 rfl
structure SzL (a:aq) : Prop where
 queue:a.bC.size≤1000000
 asks:a.bI.length≤1000000
 grants:a.bP.length≤1000000
 kills:a.dr.length≤1000000
 told:a.jO.length≤1000000
 lost:a.jW.length≤1000000
theorem SzA.shorts {B:Nat} {a:aq} (h:SzA B a) (hB:B≤1000000) : SzL a:=⟨h.queue.1,Nat.le_trans h.asks hB,Nat.le_trans h.grants hB,Nat.le_trans h.kills hB,Nat.le_trans h.told hB,Nat.le_trans h.lost hB⟩
theorem PI (a:aq) (h:SzL a) : DJ a a=some true:=by
 unfold DJ
 have h1:a.bI.length≤1000000:=h.asks
 simp only [bne_self_eq_false,BEq.rfl,Bool.and_self,Bool.not_true,zf,if_false,zb]
 rw [fW a.bI (fun k=>k) (r:=.inl (a.bI.length:Int)) h1 (fun k x hx hk _=>by
  unfold rC
  simp only [bM hx,if_true,aD hx,zb,BEq.rfl,Bool.and_self,Bool.not_true,zf,if_false,a6 hk h1]) (by unfold rC; simp only [bE,zf,if_false])]
 simp only [zb,qT _ h.grants,qT _ h.kills,qT _ h.told,qT _ h.lost,if_true]
theorem PA (c:av) (h:SzC c) : DI c c=some true:=by
 unfold DI
 have h1:c.ak.length≤1000000:=Nat.le_trans h.labels (by decide)
 have h2:c.ae.length≤1000000:=Nat.le_trans h.queues (by decide)
 simp only [bne_self_eq_false,zf,if_false,zb]
 rw [fW c.ak (fun k=>k) (r:=.inl (c.ak.length:Int)) h1 (fun k x hx hk _=>by
  unfold rA
  simp only [bM hx,if_true,aD hx,zb,BEq.rfl,Bool.not_true,zf,if_false,a6 hk h1]) (by unfold rA; simp only [bE,zf,if_false])]
 simp only [zb]
 rw [fW c.ae (fun k=>k) (r:=.inl (c.ae.length:Int)) h2 (fun k x hx hk hm=>by
  have h3:x.bu.length≤1000000:=Nat.le_trans (h.caps x hm) (by decide)
  unfold rz
  simp only [bM hx,if_true,aD hx,zb,BEq.rfl,bne_self_eq_false,Bool.not_true,zf,if_false,a6 hk h2]
  rw [fW x.bu (fun k=>k) (r:=.inl (x.bu.length:Int)) h3 (fun k y hy hk _=>by
   unfold ry
   simp only [bM hy,if_true,aD hy,zb,BEq.rfl,Bool.and_self,Bool.not_true,zf,if_false,a6 hk h3]) (by unfold ry; simp only [bE,zf,if_false])]
  rfl) (by unfold rz; simp only [bE,zf,if_false])]
 rfl
structure KH (s:aa) : Prop where
 conf:SzC s.bN
 nodes:s.aB.length≤1000000
 apps:s.aj.length≤1000000
 conts:s.ac.length≤1000000
 slots:s.aQ.length≤1000000
 plans:s.bl.length≤1000000
 app:∀ a∈s.aj,SzL a
 lab:∀ x∈s.bN.ak,x.size≤1000000
theorem SzS.short {B:Nat} {s:aa} (h:SzS B s) (hB:B≤1000000) : KH s:=⟨h.conf.sz,Nat.le_trans h.nodes.1 hB,Nat.le_trans h.apps hB,Nat.le_trans h.conts hB,Nat.le_trans h.slots hB,Nat.le_trans h.plans hB,fun a ha=>(h.app a ha).shorts hB,h.conf.lsz⟩
theorem VS (s:aa) (h:KH s) : vk s s=some true:=by
 unfold vk
 simp only [PA _ h.conf,zb,bne_self_eq_false,Bool.not_true,zf,if_false]
 rw [fW s.aB (fun k=>(true,k)) (r:=(true,(s.aB.length:Int))) h.nodes (fun k x hx hk _=>by
  unfold qn
  simp only [bM hx,if_true,aD hx,zb,BEq.rfl,Bool.and_self,a6 hk h.nodes]) (by unfold qn; simp only [bE,zf,if_false])]
 simp only [zb]
 rw [fW s.aj (fun k=>(true,k)) (r:=(true,(s.aj.length:Int))) h.apps (fun k x hx hk hm=>by
  unfold qm
  simp only [bM hx,if_true,aD hx,zb,PI x (h.app x hm),a6 hk h.apps]) (by unfold qm; simp only [bE,zf,if_false])]
 simp only [zb]
 rw [fW s.ac (fun k=>(true,k)) (r:=(true,(s.ac.length:Int))) h.conts (fun k x hx hk _=>by
  unfold ql
  simp only [bM hx,if_true,aD hx,zb,BEq.rfl,Bool.and_self,a6 hk h.conts]) (by unfold ql; simp only [bE,zf,if_false])]
 simp only [zb]
 rw [fW s.aQ (fun k=>(true,k)) (r:=(true,(s.aQ.length:Int))) h.slots (fun k x hx hk _=>by
  unfold qk
  simp only [bM hx,if_true,aD hx,zb,BEq.rfl,Bool.and_self,a6 hk h.slots]) (by unfold qk; simp only [bE,zf,if_false])]
 simp only [zb]
 rw [fW s.bl (fun k=>(true,k)) (r:=(true,(s.bl.length:Int))) h.plans (fun k x hx hk _=>by
  unfold qh
  simp only [bM hx,if_true,aD hx,zb,BEq.rfl,Bool.and_self,a6 hk h.plans]) (by unfold qh; simp only [bE,zf,if_false])]
 rfl
theorem abq {α : Type} (lo hi:List α) (z n : α) (hl:lo.length + hi.length≤900000) :
  (Option.bind (mkO z (i64.wrap (i64.wrap ((lo.length:Int) + 1) + (hi.length:Int)))) fun xs=>Option.bind (u4 xs 0 xs.length lo) fun zs=>Option.bind (aw zs (lo.length:Int)) fun _=>Option.bind (vwO (zs.set ((lo.length:Int)).toNat n).length (i64.wrap ((lo.length:Int) + 1)) ((zs.set ((lo.length:Int)).toNat n).length:Int)) fun _=>Option.bind (u4 (zs.set ((lo.length:Int)).toNat n) (i64.wrap ((lo.length:Int) + 1)).toNat (((zs.set ((lo.length:Int)).toNat n).length:Int)).toNat hi) fun r=>some r)=some (lo++n::hi):=by
 have e1:i64.wrap ((lo.length:Int) + 1)=((lo.length + 1:Nat) : Int):=by rw [IntKind.wrap_i64]; omega
 have e2:i64.wrap (((lo.length + 1:Nat) : Int) + (hi.length:Int))=((lo.length + 1 + hi.length:Nat) : Int):=by rw [IntKind.wrap_i64]; omega
 rw [e1,e2]
 have e3:mkO z ((lo.length + 1 + hi.length:Nat) : Int)=some (List.replicate (lo.length + 1 + hi.length) z):=by
  unfold mkO
  rw [if_pos ⟨by omega,by omega⟩,zt]
 rw [e3]
 simp only [zb]
 have e4:u4 (List.replicate (lo.length + 1 + hi.length) z) 0 (List.replicate (lo.length + 1 + hi.length) z).length lo=some (lo++List.replicate (1 + hi.length) z):=by
  unfold u4
  rw [if_pos ⟨by omega,Nat.le_refl _⟩]
  unfold lm
  simp only [List.length_replicate,Nat.sub_zero]
  rw [List.take_of_length_le (show lo.length≤lo.length + 1 + hi.length by omega)]
  simp only [List.take_zero,List.nil_append,Nat.zero_add,List.drop_replicate]
  rw [show lo.length + 1 + hi.length - lo.length=1 + hi.length by omega]
 rw [e4]
 simp only [zb]
 have e5:(lo++List.replicate (1 + hi.length) z)[lo.length]? = some z:=by
  rw [List.getElem?_append_right (Nat.le_refl _),Nat.sub_self,Nat.add_comm 1]
  rfl
 rw [aD e5]
 simp only [zb,zt]
 have e6:(lo++List.replicate (1 + hi.length) z).set lo.length n=lo++n::List.replicate hi.length z:=by
  rw [List.set_append_right _ _ (Nat.le_refl _),Nat.sub_self,Nat.add_comm 1]
  rfl
 rw [e6]
 have e7:(lo++n::List.replicate hi.length z).length=lo.length + 1 + hi.length:=by simp; omega
 rw [e7]
 have e8:vwO (lo.length + 1 + hi.length) ((lo.length + 1:Nat) : Int) ((lo.length + 1 + hi.length:Nat) : Int)=some ():=by
  unfold vwO
  rw [if_pos ⟨by omega,by omega,by omega,by omega⟩]
 rw [e8]
 simp only [zb]
 unfold u4
 rw [if_pos ⟨by omega,by rw [e7]; exact Nat.le_refl _⟩]
 unfold lm
 have h1:(lo++n::List.replicate hi.length z).take (lo.length + 1)=lo ++ [n]:=by
  rw [List.take_append,List.take_of_length_le (Nat.le_succ _)]
  simp
 have h2:lo.length + 1 + hi.length - (lo.length + 1)=hi.length:=by omega
 rw [h1,h2,List.take_of_length_le (Nat.le_refl _)]
 have h3:(lo++n::List.replicate hi.length z).drop (lo.length + 1 + hi.length) = []:=List.drop_of_length_le (by rw [e7]; exact Nat.le_refl _)
 rw [h3]
 simp
theorem Ub {α : Type} (l:List α) (f : α→Option α) (hf:∀ x∈l,f x=some x) (hl:l.length≤1000000) :
  ah (fun st:List α×List α×Int=>if decide (st.2.2 < (l.length:Int))=true then Option.bind (aw st.1 st.2.2) fun x=>Option.bind (f x) fun y=>Option.bind (aw st.1 st.2.2) fun _=>some (.inl (st.1.set st.2.2.toNat y,st.1.set st.2.2.toNat y,i64.wrap (st.2.2 + 1))) else some (.inr (st.1,st.1,st.2.2))) ab (l,l,0)=some (l,l,(l.length:Int)):=by
 rw [fW l (fun k=>(l,l,k)) (r:=(l,l,(l.length:Int))) hl (fun k x hx hk hm=>by
  have e:l.set k x=l:=by
   obtain ⟨h1,h2⟩:=zg.1 hx
   rw [← h2]
   exact List.set_getElem_self h1
  simp only [bM hx,if_true,aD hx,zb,hf x hm,zt,e,a6 hk hl]) (by simp only [bE,zf,if_false])]
def OC (x:ByteArray) : Option ByteArray:=if x.size≤1000000000 then some x else none
theorem Dk {x:ByteArray} (h:x.size≤1000000) : OC x=some x:=by unfold OC; rw [if_pos (by omega)]
def kA {α : Type} (xs:List α) : Option ((Unit×Unit)×List α):=Option.bind (FF xs) fun z=>some (((),()),z)
theorem ep {α : Type} {xs:List α} (h:xs.length≤1000000) : kA xs=some (((),()),xs):=by unfold kA FF; rw [if_pos h]; rfl
noncomputable def J5 (a:aq) : Option aq:=rH (a,())
theorem WR (a:aq) : J5 a=Option.bind (OC a.bC) fun q=>Option.bind (kA a.bI) fun r1=>Option.bind (kA a.bP) fun r2=>Option.bind (kA a.dr) fun r3=>Option.bind (kA a.jO) fun r4=>Option.bind (kA a.jW) fun r5=>some ⟨a.fId,a.da,q,a.cy,a.bq,a.a8,r1.2,a.cH,a.cd,r2.2,r3.2,r4.2,r5.2⟩:=by kernel_rfl
theorem Ir {a:aq} (h:SzL a) : J5 a=some a:=by
 rw [WR,Dk h.queue,ep h.asks,ep h.grants,ep h.kills,ep h.told,ep h.lost]
 rfl
def Sv {α : Type} (f : α→Option α) (l:List α) (st:List α×List α×Int) : Option ((List α×List α×Int)⊕(List α×List α×Int)):=if decide (st.2.2 < (l.length:Int))=true then Option.bind (aw st.1 st.2.2) fun x=>Option.bind (f x) fun y=>Option.bind (aw st.1 st.2.2) fun _=>some (.inl (st.1.set st.2.2.toNat y,st.1.set st.2.2.toNat y,i64.wrap (st.2.2 + 1))) else some (.inr (st.1,st.1,st.2.2))
theorem Fs {α : Type} {f : α→Option α} {l:List α} (hf:∀ x∈l,f x=some x) (hl:l.length≤1000000) : ah (Sv f l) ab (l,l,0)=some (l,l,(l.length:Int)):=Ub l f hf hl
noncomputable def J4 (l:List aq) : Option ((Unit×Unit×Unit)×List aq):=oK (l,(((),()),()))
theorem TV (l:List aq) : J4 l=Option.bind (kA l) fun r=>Option.bind (ah (Sv J5 r.2) ab (r.2,r.2,0)) fun st=>some (((),(),()),st.1):=by kernel_rfl
theorem Pm {l:List aq} (hl:l.length≤1000000) (h:∀ a∈l,SzL a) : J4 l=some (((),(),()),l):=by
 rw [TV,ep hl]
 simp only [zb]
 rw [Fs (fun a ha=>Ir (h a ha)) hl]
 rfl
noncomputable def Sh (l:List ByteArray) : Option (List ByteArray):=oI (l,(((),()),()))
theorem TT (l:List ByteArray) : Sh l=Option.bind (kA l) fun r=>Option.bind (ah (Sv OC r.2) ab (r.2,r.2,0)) fun st=>some st.1:=by kernel_rfl
noncomputable def Pk (q:ax) : Option ax:=oH (q,())
theorem WO (q:ax) : Pk q=Option.bind (OC q.aC) fun p=>Option.bind (kA q.bu) fun r=>some ⟨p,r.2,q.cy⟩:=by kernel_rfl
noncomputable def Si (l:List ax) : Option (List ax):=oJ (l,(((),()),()))
theorem TU (l:List ax) : Si l=Option.bind (kA l) fun r=>Option.bind (ah (Sv Pk r.2) ab (r.2,r.2,0)) fun st=>some st.1:=by kernel_rfl
noncomputable def Pn (c:av) : Option av:=qD (c,())
theorem WP (c:av) : Pn c=Option.bind (Sh c.ak) fun l=>Option.bind (Si c.ae) fun q=>some ⟨l,q⟩:=by kernel_rfl
theorem TW {c:av} (h:SzC c) (hl:∀ x∈c.ak,x.size≤1000000) : Pn c=some c:=by
 have h1:c.ak.length≤1000000:=Nat.le_trans h.labels (by decide)
 have h2:c.ae.length≤1000000:=Nat.le_trans h.queues (by decide)
 have hq:∀ q∈c.ae,Pk q=some q:=fun q hq=>by
  rw [WO,Dk (h.paths q hq),ep (Nat.le_trans (h.caps q hq) (by decide))]
  rfl
 rw [WP,TT,TU,ep h1,ep h2]
 simp only [zb]
 rw [Fs (fun x hx=>Dk (hl x hx)) h1]
 simp only [zb]
 rw [Fs hq h2]
 rfl
noncomputable def Pj (s:aa) : Option ((Unit×Unit)×aa):=oL (s,())
theorem WN (s:aa) : Pj s=Option.bind (Pn s.bN) fun c=>Option.bind (kA s.aB) fun r1=>Option.bind (J4 s.aj) fun r2=>Option.bind (kA s.ac) fun r3=>Option.bind (kA s.aQ) fun r4=>Option.bind (kA s.bl) fun r5=>some (((),()),⟨c,r1.2,r2.2,r3.2,r4.2,r5.2,s.cO,s.pT,s.sq⟩):=by kernel_rfl
theorem TS {s:aa} (h:KH s) : Pj s=some (((),()),s):=by
 rw [WN,TW h.conf h.lab,ep h.nodes,Pm h.apps h.app,ep h.conts,ep h.slots,ep h.plans]
 rfl
def TJ {α : Type} (p : α→Bool) (l:List α) : Option Int:=Option.bind (ah (fun st:Int×Int=>if decide (st.2 < (l.length:Int))=true then Option.bind (aw l st.2) fun x=>if p x=true then some (.inr (.inr st.2)) else some (.inl (st.1,i64.wrap (st.2 + 1))) else some (.inr (.inl (st.1,st.2)))) ab ((0:Int),(0:Int))) fun o:(Int×Int)⊕Int=>match o with | .inl _=>some (-1) | .inr v=>some v
theorem J3 {α : Type} (p : α→Bool) (l:List α) (hl:l.length≤1000000) : (∃ i,∃ h:i < l.length,TJ p l=some (i:Int)∧p l[i] = true∧∀ j (hj:j < i),p l[j] = false)∨(TJ p l=some (-1)∧∀ x∈l,p x=false):=by
 have hp:∃ r,ah (fun st:Int×Int=>if decide (st.2 < (l.length:Int))=true then Option.bind (aw l st.2) fun x=>if p x=true then some (.inr (.inr st.2)) else some (.inl (st.1,i64.wrap (st.2 + 1))) else some (.inr (.inl (st.1,st.2)))) ab ((0:Int),(0:Int))=some r∧((∃ i,∃ h:i < l.length,(r:(Int×Int)⊕Int) = .inr (i:Int)∧p l[i] = true∧∀ j (hj:j < i),p l[j] = false)∨((∃ q,r = .inl q)∧∀ x∈l,p x=false)):=by
  refine aL (fun st=>∃ k:Nat,st.2=(k:Int)∧k≤l.length∧∀ j (hj:j < l.length),j < k→p l[j] = false) (fun st=>l.length - st.2.toNat) _ (fun st ⟨k,h1,h2,h3⟩=>?_) ab _ ⟨0,rfl,Nat.zero_le _,fun j _ h=>by omega⟩ (by have:=an hl; show l.length - (0:Int).toNat < ab; omega)
  simp only [h1]
  rcases Nat.lt_or_ge k l.length with hlt | hge
  ·have d1:decide ((k:Int) < (l.length:Int))=true:=by simpa using hlt
   rw [if_pos d1,aD (zq hlt)]
   simp only [zb]
   cases hpk:p l[k] with
   | true =>
    rw [if_pos rfl]
    exact .inr ⟨_,rfl,.inl ⟨k,hlt,rfl,hpk,fun j hj=>h3 j (by omega) hj⟩⟩
   | false =>
    rw [if_neg (by decide),a6 hlt hl]
    refine .inl ⟨_,rfl,⟨k + 1,rfl,hlt,fun j hj hjk=>?_⟩,by simp only [zt]; omega⟩
    rcases Nat.lt_or_ge j k with h | h
    ·exact h3 j hj h
    ·obtain rfl:j=k:=by omega
     exact hpk
  ·have d1:decide ((k:Int) < (l.length:Int))=false:=by simp; omega
   rw [if_neg (by rw [d1]; decide)]
   refine .inr ⟨_,rfl,.inr ⟨⟨_,rfl⟩,fun x hx=>?_⟩⟩
   obtain ⟨j,hj,rfl⟩:=List.getElem_of_mem hx
   exact h3 j hj (by omega)
 obtain ⟨r,h1,h2⟩:=hp
 unfold TJ
 rw [h1]
 rcases h2 with ⟨i,h,rfl,h3,h4⟩ | ⟨⟨q,rfl⟩,h3⟩
 ·exact .inl ⟨i,h,rfl,h3,h4⟩
 ·exact .inr ⟨rfl,h3⟩
theorem aaS {α : Type} (l:List α) (z a : α) (k:Nat) (hk:k≤l.length) (hl:l.length≤900000) :
  (Option.bind (mkO z (i64.wrap ((l.length:Int) + 1))) fun xs=>Option.bind (hiO l (k:Int)) fun lo=>Option.bind (u4 xs 0 xs.length lo) fun zs=>Option.bind (aw zs (k:Int)) fun _=>Option.bind (vwO (zs.set ((k:Int)).toNat a).length (i64.wrap ((k:Int) + 1)) ((zs.set ((k:Int)).toNat a).length:Int)) fun _=>Option.bind (loO l (k:Int)) fun hi=>Option.bind (u4 (zs.set ((k:Int)).toNat a) (i64.wrap ((k:Int) + 1)).toNat (((zs.set ((k:Int)).toNat a).length:Int)).toNat hi) fun r=>some r)=some (l.take k++a::l.drop k):=by
 have h:=abq (l.take k) (l.drop k) z a (by simp; omega)
 have e0:(l.take k).length=k:=by simp; omega
 have e1:(l.drop k).length=l.length - k:=by simp
 rw [e0,e1] at h
 have e2:i64.wrap (i64.wrap ((k:Int) + 1) + ((l.length - k:Nat) : Int))=i64.wrap ((l.length:Int) + 1):=by rw [IntKind.wrap_i64,IntKind.wrap_i64,IntKind.wrap_i64]; omega
 rw [e2] at h
 rw [mS hk,jQ hk]
 exact h
theorem OS {α : Type} (key : α→Int) (l:List α) (a : α) (h:∀ x∈l,key x≠key a) : l.take (l.takeWhile fun x=>decide (key x < key a)).length++a::l.drop (l.takeWhile fun x=>decide (key x < key a)).length=dn key l a:=by
 unfold dn
 cases hq:l[(l.takeWhile fun x=>decide (key x < key a)).length]? with
 | none=>rfl
 | some x =>
  have d:(key x==key a)=false:=by
   have:=h x (List.mem_of_getElem? hq)
   simpa using this
  simp only [d,zf,if_false]
def eH (v_s:aa) (v_c:av) (st:Unit) (v_i:Int) (x_:ByteArray) : Option ((Unit)⊕((Int)⊕(aa×bw))) :=
 (aw v_c.ak v_i).bind fun b9=>if (!(b9.toList==x_.toList))=true then
 (dP v_s 14).bind fun c10=>some (.inr (.inr c10))
 else
 some (.inl ())
theorem wD (v_s:aa) (v_c:av) (a_:Unit) (hl:v_s.bN.ak.length≤1000000) : ah (jB v_s v_c) ab (0)=nT (eH v_s v_c) (fun a_=>(.inl ((v_s.bN.ak.length:Int)))) a_ 0 v_s.bN.ak :=
 fh v_s.bN.ak (S:=Int) (fun a_ k_=>(k_)) (eH v_s v_c) (fun a_=>(.inl ((v_s.bN.ak.length:Int)))) (an hl) (fun k a x hx=>by
  unfold jB eH; exact bK)
  (fun a=>by unfold jB; exact cI) a_
def eG (v_s:aa) (v_c:av) (st:Unit) (x_:aq) : Option ((Unit)⊕((Int)⊕(aa×bw))) :=
 (dG x_).bind fun c17=>(if c17=true then (jx v_c x_.bC).bind fun c18=>some (!c18) else some false).bind fun q19=>if q19=true then
 (dP v_s 14).bind fun c20=>some (.inr (.inr c20))
 else
 some (.inl ())
theorem wC (v_s:aa) (v_c:av) (a_:Unit) (hl:v_s.aj.length≤1000000) : ah (jA v_s v_c) ab (0)=bh (eG v_s v_c) (fun a_=>(.inl ((v_s.aj.length:Int)))) a_ v_s.aj :=
 ay v_s.aj (S:=Int) (fun a_ k_=>(k_)) (eG v_s v_c) (fun a_=>(.inl ((v_s.aj.length:Int)))) (an hl) (fun k a x hx=>by
  unfold jA eG; exact bK)
  (fun a=>by unfold jA; exact cI) a_
def jf (v_s:aa) (cu:Int) (st:(List Int)) (x_:am) : Option (((List Int))⊕(((List Int)×Int))) :=
 let v_l:=st
 if (x_.bJ==cu)=true then
 (aU v_l [x_.fId]).bind fun b4=>let v_l:(List Int):=b4
 some (.inl v_l)
 else
 some (.inl v_l)
theorem CW (v_s:aa) (cu:Int) (a_:(List Int)) (hl:v_s.ac.length≤1000000) : ah (pf v_s cu) ab (a_,(0))=bh (jf v_s cu) (fun a_=>(a_,((v_s.ac.length:Int)))) a_ v_s.ac :=
 ay v_s.ac (S:=(List Int)×Int) (fun a_ k_=>(a_,(k_))) (jf v_s cu) (fun a_=>(a_,((v_s.ac.length:Int)))) (an hl) (fun k a x hx=>by
  unfold pf jf; exact bK)
  (fun a=>by unfold pf; exact cI) a_
def gp (v_x:aK) (v_t:aa) (st:(List Int)) (x_:Int) : Option (((List Int))⊕(((List Int)×Int))) :=
 let cj:=st
 (eS v_t x_).bind fun c11=>let v_c:am:=c11.1
 let yo:Bool:=c11.2
 (if yo=true then some (v_c.bJ==v_x.fId) else some false).bind fun q12=>if q12=true then
 (aU cj [v_c.fId]).bind fun b13=>let cj:(List Int):=b13
 some (.inl cj)
 else
 some (.inl cj)
theorem zB (v_x:aK) (v_t:aa) (a_:(List Int)) (hl:v_x.fY.length≤1000000) : ah (lM v_x v_t) ab (a_,(0))=bh (gp v_x v_t) (fun a_=>(a_,((v_x.fY.length:Int)))) a_ v_x.fY :=
 ay v_x.fY (S:=(List Int)×Int) (fun a_ k_=>(a_,(k_))) (gp v_x v_t) (fun a_=>(a_,((v_x.fY.length:Int)))) (an hl) (fun k a x hx=>by
  unfold lM gp; exact bK)
  (fun a=>by unfold lM; exact cI) a_
def fo (cj:(List Int)) (v_s:aa) (st:(List am)) (x_:Int) : Option (((List am))⊕(((List am)×Int))) :=
 let v_l:=st
 (eS v_s x_).bind fun c4=>let v_c:am:=c4.1
 let bS:Bool:=c4.2
 if bS=true then
 (aU v_l [v_c]).bind fun b5=>let v_l:(List am):=b5
 some (.inl v_l)
 else
 some (.inl v_l)
theorem xU (cj:(List Int)) (v_s:aa) (a_:(List am)) (hl:cj.length≤1000000) : ah (ke cj v_s) ab (a_,(0))=bh (fo cj v_s) (fun a_=>(a_,((cj.length:Int)))) a_ cj :=
 ay cj (S:=(List am)×Int) (fun a_ k_=>(a_,(k_))) (fo cj v_s) (fun a_=>(a_,((cj.length:Int)))) (an hl) (fun k a x hx=>by
  unfold ke fo; exact bK)
  (fun a=>by unfold ke; exact cI) a_
def dZ (v_s:aa) (fc:Int) (st:(List Int)) (x_:am) : Option (((List Int))⊕(((List Int)×Int))) :=
 let v_l:=st
 (if (x_.bG==fc)=true then some (x_.ju != 0) else some false).bind fun q6=>if q6=true then
 (aU v_l [x_.fId]).bind fun b7=>let v_l:(List Int):=b7
 some (.inl v_l)
 else
 some (.inl v_l)
theorem vi (v_s:aa) (fc:Int) (a_:(List Int)) (hl:v_s.ac.length≤1000000) : ah (iT v_s fc) ab (a_,(0))=bh (dZ v_s fc) (fun a_=>(a_,((v_s.ac.length:Int)))) a_ v_s.ac :=
 ay v_s.ac (S:=(List Int)×Int) (fun a_ k_=>(a_,(k_))) (dZ v_s fc) (fun a_=>(a_,((v_s.ac.length:Int)))) (an hl) (fun k a x hx=>by
  unfold iT dZ; exact bK)
  (fun a=>by unfold iT; exact cI) a_
def fm (kv:(List aM)) (v_s:aa) (st:(List aM)) (x_:aM) : Option (((List aM))⊕(((List aM)×Int)⊕((List aM)×Int))) :=
 let v_l:=st
 (pX x_ (v_s.bN.ak.length:Int)).bind fun c5=>let v_e:Int:=c5
 if (v_e != 0)=true then
 some (.inr (.inr ([],v_e)))
 else
 (FS v_l x_).bind fun c6=>let v_l:(List aM):=c6.1
 let v_e:Int:=c6.2
 if (v_e != 0)=true then
 some (.inr (.inr ([],v_e)))
 else
 some (.inl v_l)
theorem xS (kv:(List aM)) (v_s:aa) (a_:(List aM)) (hl:kv.length≤1000000) : ah (ka kv v_s) ab (a_,(0))=bh (fm kv v_s) (fun a_=>(.inl (a_,((kv.length:Int))))) a_ kv :=
 ay kv (S:=(List aM)×Int) (fun a_ k_=>(a_,(k_))) (fm kv v_s) (fun a_=>(.inl (a_,((kv.length:Int))))) (an hl) (fun k a x hx=>by
  unfold ka fm; exact bK)
  (fun a=>by unfold ka; exact cI) a_
def eF (v_x:aK) (st:aa×aq) (x_:Int) : Option ((aa×aq)⊕((aa×aq×Int))) :=
 let v_s:=st.1
 let v_a:=st.2
 (eS v_s x_).bind fun c17=>let v_c:am:=c17.1
 let yo:Bool:=c17.2
 (if yo=true then some (v_c.bG==v_a.fId) else some false).bind fun q18=>(if q18=true then some (!v_c.a8) else some false).bind fun q19=>if q19=true then
 (qz v_s v_c.fId).bind fun c20=>let v_s:aa:=c20
 (jn v_a.bP v_c.fId).bind fun c21=>let v_a:aq:={ v_a with bP:=c21.1 }
 some (.inl (v_s,v_a))
 else
 some (.inl (v_s,v_a))
theorem wB (v_x:aK) (a_:aa×aq) (hl:v_x.fY.length≤1000000) : ah (jz v_x) ab (a_.1,a_.2,(0))=bh (eF v_x) (fun a_=>(a_.1,a_.2,((v_x.fY.length:Int)))) a_ v_x.fY :=
 ay v_x.fY (S:=aa×aq×Int) (fun a_ k_=>(a_.1,a_.2,(k_))) (eF v_x) (fun a_=>(a_.1,a_.2,((v_x.fY.length:Int)))) (an hl) (fun k a x hx=>by
  unfold jz eF; exact bK)
  (fun a=>by unfold jz; exact cI) a_
def gm (v_s:aa) (fc:Int) (st:Unit) (x_:am) : Option ((Unit)⊕((Int)⊕(Int))) :=
 (if (x_.bG==fc)=true then some x_.a8 else some false).bind fun q5=>if q5=true then
 some (.inr (.inr x_.fId))
 else
 some (.inl ())
theorem zA (v_s:aa) (fc:Int) (a_:Unit) (hl:v_s.ac.length≤1000000) : ah (lL v_s fc) ab (0)=bh (gm v_s fc) (fun a_=>(.inl ((v_s.ac.length:Int)))) a_ v_s.ac :=
 ay v_s.ac (S:=Int) (fun a_ k_=>(k_)) (gm v_s fc) (fun a_=>(.inl ((v_s.ac.length:Int)))) (an hl) (fun k a x hx=>by
  unfold lL gm; exact bK)
  (fun a=>by unfold lL; exact cI) a_
def gj (v_l:(List Int)) (st:aa) (x_:Int) : Option ((aa)⊕((aa×Int))) :=
 let v_s:=st
 (y9 v_s x_).bind fun c12=>(fI c12 x_).bind fun c13=>let v_s:aa:=c13
 (xT v_s x_).bind fun c14=>(jo v_s c14).bind fun c15=>let v_s:aa:=c15
 some (.inl v_s)
theorem zw (v_l:(List Int)) (a_:aa) (hl:v_l.length≤1000000) : ah (lK v_l) ab (a_,(0))=bh (gj v_l) (fun a_=>(a_,((v_l.length:Int)))) a_ v_l :=
 ay v_l (S:=aa×Int) (fun a_ k_=>(a_,(k_))) (gj v_l) (fun a_=>(a_,((v_l.length:Int)))) (an hl) (fun k a x hx=>by
  unfold lK gj; exact bK)
  (fun a=>by unfold lK; exact cI) a_
def gh (v_l:(List Int)) (st:aa) (x_:Int) : Option ((aa)⊕((aa×Int))) :=
 let v_s:=st
 (vj v_s x_).bind fun c17=>(jo v_s ([c17] : (List Int))).bind fun c18=>let v_s:aa:=c18
 some (.inl v_s)
theorem zv (v_l:(List Int)) (a_:aa) (hl:v_l.length≤1000000) : ah (lJ v_l) ab (a_,(0))=bh (gh v_l) (fun a_=>(a_,((v_l.length:Int)))) a_ v_l :=
 ay v_l (S:=aa×Int) (fun a_ k_=>(a_,(k_))) (gh v_l) (fun a_=>(a_,((v_l.length:Int)))) (an hl) (fun k a x hx=>by
  unfold lJ gh; exact bK)
  (fun a=>by unfold lJ; exact cI) a_
def gg (v_s:aa) (st:(List a7)) (x_:a7) : Option (((List a7))⊕(((List a7)×Int))) :=
 let yl:=st
 if (decide (x_.jR > v_s.cO))=true then
 (aU yl [x_]).bind fun b21=>let yl:(List a7):=b21
 some (.inl yl)
 else
 some (.inl yl)
theorem zu (v_s:aa) (a_:(List a7)) (hl:v_s.bl.length≤1000000) : ah (lI v_s) ab (a_,(0))=bh (gg v_s) (fun a_=>(a_,((v_s.bl.length:Int)))) a_ v_s.bl :=
 ay v_s.bl (S:=(List a7)×Int) (fun a_ k_=>(a_,(k_))) (gg v_s) (fun a_=>(a_,((v_s.bl.length:Int)))) (an hl) (fun k a x hx=>by
  unfold lI gg; exact bK)
  (fun a=>by unfold lI; exact cI) a_
def jh (v_l:(List a7)) (af:Int) (v_t:Int) (st:az) (x_:a7) : Option ((az)⊕((az×Int))) :=
 let v_v:=st
 (if (x_.aY==af)=true then some (decide (x_.n6≤v_t)) else some false).bind fun q8=>(if q8=true then some (decide (v_t < x_.jR)) else some false).bind fun q9=>if q9=true then
 (di v_v x_.iR).bind fun c10=>let v_v:az:=c10
 some (.inl v_v)
 else
 some (.inl v_v)
theorem CY (v_l:(List a7)) (af:Int) (v_t:Int) (a_:az) (hl:v_l.length≤1000000) : ah (ph v_l af v_t) ab (a_,(0))=bh (jh v_l af v_t) (fun a_=>(a_,((v_l.length:Int)))) a_ v_l :=
 ay v_l (S:=az×Int) (fun a_ k_=>(a_,(k_))) (jh v_l af v_t) (fun a_=>(a_,((v_l.length:Int)))) (an hl) (fun k a x hx=>by
  unfold ph jh; exact bK)
  (fun a=>by unfold ph; exact cI) a_
def gy (v_l:(List a7)) (v_t:Int) (gR:Int) (v_p:a7) (fK:az) (st:Unit) (x_:a7) : Option ((Unit)⊕((Int)⊕(Bool))) :=
 let v_u:Int:=x_.n6
 (if (decide (v_u > v_t))=true then some (decide ((i64.wrap (v_u - v_t)) < gR)) else some false).bind fun q10=>(if q10=true then (vt v_l v_p.aY v_u).bind fun c11=>(di c11 v_p.iR).bind fun c12=>(fM c12 fK).bind fun c13=>some (!c13) else some false).bind fun q14=>if q14=true then
 some (.inr (.inr false))
 else
 some (.inl ())
theorem zL (v_l:(List a7)) (v_t:Int) (gR:Int) (v_p:a7) (fK:az) (a_:Unit) (hl:v_l.length≤1000000) : ah (lW v_l v_t gR v_p fK) ab (0)=bh (gy v_l v_t gR v_p fK) (fun a_=>(.inl ((v_l.length:Int)))) a_ v_l :=
 ay v_l (S:=Int) (fun a_ k_=>(k_)) (gy v_l v_t gR v_p fK) (fun a_=>(.inl ((v_l.length:Int)))) (an hl) (fun k a x hx=>by
  unfold lW gy; exact bK)
  (fun a=>by unfold lW; exact cI) a_
def it (v_s:aa) (v_p:a7) (st:Int) (v_i:Int) (x_:a7) : Option ((Int)⊕((Int×Int)⊕(aa×Int×Int))) :=
 let v_k:=st
 if (x_.fId==v_p.fId)=true then
 some (.inr (.inr (v_s,0,7)))
 else
 if (decide (x_.fId < v_p.fId))=true then
 let v_k:Int:=(i64.wrap (v_i + 1))
 some (.inl v_k)
 else
 some (.inl v_k)
theorem BE (v_s:aa) (v_p:a7) (a_:Int) (hl:v_s.bl.length≤1000000) : ah (nM v_s v_p) ab (a_,(0))=nT (it v_s v_p) (fun a_=>(.inl (a_,((v_s.bl.length:Int))))) a_ 0 v_s.bl :=
 fh v_s.bl (S:=Int×Int) (fun a_ k_=>(a_,(k_))) (it v_s v_p) (fun a_=>(.inl (a_,((v_s.bl.length:Int))))) (an hl) (fun k a x hx=>by
  unfold nM it; exact bK)
  (fun a=>by unfold nM; exact cI) a_
def gz (v_s:aa) (bF:Int) (st:(List a7)) (x_:a7) : Option (((List a7))⊕(((List a7)×Int))) :=
 let v_l:=st
 if (x_.fId != bF)=true then
 (aU v_l [x_]).bind fun b4=>let v_l:(List a7):=b4
 some (.inl v_l)
 else
 some (.inl v_l)
theorem zM (v_s:aa) (bF:Int) (a_:(List a7)) (hl:v_s.bl.length≤1000000) : ah (lX v_s bF) ab (a_,(0))=bh (gz v_s bF) (fun a_=>(a_,((v_s.bl.length:Int)))) a_ v_s.bl :=
 ay v_s.bl (S:=(List a7)×Int) (fun a_ k_=>(a_,(k_))) (gz v_s bF) (fun a_=>(a_,((v_s.bl.length:Int)))) (an hl) (fun k a x hx=>by
  unfold lX gz; exact bK)
  (fun a=>by unfold lX; exact cI) a_
theorem U9 (l:List a7) (k t:Int) (hl:l.length≤1000000) : ∃ r,vt l k t=some r:=by
 unfold vt
 dsimp only
 rw [CY l k t _ hl]
 obtain ⟨r,e1,_⟩:=aR (g:=jh l k t) (fin:=fun b=>(b,(l.length:Int))) (fun _ _=>True) (fun _=>True) l 0 (⟨0,0⟩ : az) (fun j b x hx _=>by
  unfold jh
  simp only [eE,zb,du]
  split <;> exact ⟨_,rfl,fun _ _=>trivial,fun _ _=>trivial⟩) (fun _ _=>trivial) trivial
 rw [e1]
 exact ⟨_,rfl⟩
def AtV (l:List a7) (k t:Int) : az:=(vt l k t).getD ⟨0,0⟩
theorem Jk (l:List a7) (k t:Int) (hl:l.length≤1000000) : vt l k t=some (AtV l k t):=by
 obtain ⟨r,e⟩:=U9 l k t hl
 unfold AtV
 rw [e]
 rfl
theorem NS (n:Int) : vp n=some (decide (n≥0)&&decide (n≤1073741824)):=by unfold vp; simp only [du,zb]
def ZE (l:List a7) (v:az) (p:a7) (t n:Int) : Bool:=(sM l v p t n).getD false
theorem NT (l:List a7) (v:az) (p:a7) (t n:Int) (hl:l.length≤1000000) : sM l v p t n=some (ZE l v p t n):=by
 have:∃ r,sM l v p t n=some r:=by
  unfold sM
  simp only [Jk l _ _ hl,eE,kF,zb]
  split
  ·exact ⟨_,rfl⟩
  rw [zL l t n p v () hl]
  obtain ⟨r,e1,_⟩:=aR (g:=gy l t n p v) (fin:=fun _=>(.inl (l.length:Int))) (fun _ _=>True) (fun _=>True) l 0 () (fun j b x hx _=>by
   unfold gy
   simp only [Jk l _ _ hl,eE,kF,zb,du]
   split <;> exact ⟨_,rfl,fun _ _=>trivial,fun _ _=>trivial⟩) (fun _ _=>trivial) trivial
  rw [e1]
  cases r <;> exact ⟨_,rfl⟩
 obtain ⟨r,e⟩:=this
 unfold ZE
 rw [e]
 rfl
theorem K5 (l:List a7) (v:az) (p:a7) (n:Int) (hl:l.length≤1000000) : ∃ r,wj l v p n=some r:=by
 unfold wj
 simp only [NS,zb,orB]
 split
 ·exact ⟨_,rfl⟩
 have hw:∀ k:Int,-1≤k→k≤1000000000→i64.wrap (k + 1)=k + 1:=fun k h1 h2=>Hy (by omega) (by omega)
 obtain ⟨r,e1,_⟩:=aL (f:=oG l p n v) (fun st=>-1≤st.2∧st.2≤(l.length:Int)) (fun st=>((l.length:Int) - st.2).toNat) (fun _=>True) (fun st ⟨h1,h2⟩=>by
  unfold oG
  by_cases hlt:st.2 < (l.length:Int)
  ·have hn:((l.length:Int) - (st.2 + 1)).toNat < ((l.length:Int) - st.2).toNat:=by omega
   simp only [hlt,decide_true,if_true,NT l _ _ _ _ hl,du,orB,zb,hw _ h1 (by omega)]
   by_cases h0:st.2≥0
   ·obtain ⟨x,hx,_⟩:=Mt h0 hlt
    simp only [h0,decide_true,if_true,hx,zb]
    split <;> exact .inl ⟨_,rfl,⟨by show -1≤st.2 + 1; omega,by show st.2 + 1≤_; omega⟩,hn⟩
   ·simp only [h0,decide_false,zf,if_false,zb]
    split <;> exact .inl ⟨_,rfl,⟨by show -1≤st.2 + 1; omega,by show st.2 + 1≤_; omega⟩,hn⟩
  ·simp only [hlt,decide_false,zf,if_false]
   exact .inr ⟨_,rfl,trivial⟩) ab (-1,-1) ⟨by simp,by show (-1:Int)≤_; omega⟩ (by show ((l.length:Int) - (-1)).toNat < ab; unfold ab; omega)
 rw [e1]
 simp only [zb]
 split <;> exact ⟨_,rfl⟩
theorem SzS.plan {B:Nat} {s:aa} (h:SzS B s) {l:List a7} (hl:l.length≤B) : SzS B { s with bl:=l } := ⟨h.conf,h.nodes,h.apps,h.conts,h.slots,hl,h.app⟩
theorem QY {B:Nat} {s:aa} (h:SzS B s) (hB:B + 1≤1000000) (p:a7) (n:Int) : ∃ r,zN s p n=some r∧SzS (B + 1) r.1∧r.1.ac=s.ac∧r.1.aj=s.aj:=by
 have k1:=h.plans; have k2:=h.nodes.1
 have hm:=h.mono (Nat.le_succ B)
 unfold zN
 simp only [zb,orB]
 split
 ·exact ⟨_,rfl,hm,rfl,rfl⟩
 rw [BE s p 0 (by omega)]
 obtain ⟨r,e1,e2⟩:=mJ (g:=it s p) (fin:=fun b=>(.inl (b,(s.bl.length:Int)))) (fun j b=>∃ K:Nat,b=(K:Int)∧K≤j) (fun r=>match r with | .inl m=>∃ K:Nat,m.1=(K:Int)∧K≤s.bl.length | .inr m=>m.1=s) s.bl 0 0 (fun j b x hx ⟨K,hK,hj⟩=>by
  have hj2:=(zg.1 hx).1
  unfold it
  dsimp only
  split
  ·exact ⟨_,rfl,fun a' e=>(by cases e),fun r e=>(by injection e with e; subst e; rfl)⟩
  split
  ·refine ⟨_,rfl,fun a' e=>?_,fun r e=>by cases e⟩
   injection e with e
   subst e
   exact ⟨0 + j + 1,a6 (by omega : 0 + j < 1000000) (Nat.le_refl _),Nat.le_refl _⟩
  ·refine ⟨_,rfl,fun a' e=>?_,fun r e=>by cases e⟩
   injection e with e
   subst e
   exact ⟨K,hK,by omega⟩) (fun b ⟨K,hK,hj⟩=>⟨K,hK,by omega⟩) ⟨0,rfl,Nat.le_refl _⟩
 rw [e1]
 simp only [zb]
 cases r with
 | inr m=>exact ⟨_,rfl,by rw [show m.1=s from e2]; exact hm,by rw [show m.1=s from e2],by rw [show m.1=s from e2]⟩
 | inl m =>
  obtain ⟨K,hK,hK2⟩:=e2
  obtain ⟨c,hc⟩:=K5 s.bl (vb s p.aY) p n (by omega)
  simp only [hK,n8 s _ (Nat.le_trans k2 (by omega)),hc,zb]
  split
  ·exact ⟨_,rfl,hm,rfl,rfl⟩
  split
  ·exact ⟨_,rfl,hm,rfl,rfl⟩
  split
  ·exact ⟨_,rfl,hm,rfl,rfl⟩
  rw [mS hK2]
  simp only [zb]
  rw [aE (by simp; omega)]
  simp only [zb]
  rw [aE (by simp; omega)]
  simp only [zb]
  rw [jQ hK2]
  simp only [zb]
  rw [aE (by simp; omega)]
  exact ⟨_,rfl,hm.plan (by simp; omega),rfl,rfl⟩
theorem NW {B:Nat} {s:aa} (h:SzS B s) (hB:B≤1000000) (id:Int) : ∃ r,vr s id=some r∧SzS B r.1∧r.1.ac=s.ac∧r.1.aj=s.aj:=by
 have k1:=h.plans
 unfold vr
 dsimp only
 have e:gz s id=fun acc x=>if (x.fId != id)=true then (aU acc [id' x]).map (fun a=>(.inl a:List a7⊕(List a7×Int))) else some (.inl acc):=by
  funext acc x
  unfold gz
  dsimp only [id']
  split
  ·cases aU acc [x] <;> rfl
  ·rfl
 rw [zM s id [] (by omega),e,cg (fun c:a7=>c.fId != id) id' _ s.bl [] (by simp; omega)]
 simp only [zb,List.nil_append,yH]
 split
 ·exact ⟨_,rfl,h,rfl,rfl⟩
 ·exact ⟨_,rfl,h.plan (Nat.le_trans (List.length_filter_le _ _) k1),rfl,rfl⟩
theorem kG (s:aa) (e:Int) : dP s e=some (s,⟨e,[],[],[],0⟩):=rfl
theorem OkS.node {M:Nat} {s:aa} (h:OkS M s) {l:List aX} (hl:l.length≤s.aB.length + 1) (hs:kW aX.fId l) (hn:∀ n∈l,(0≤n.cH∧n.cH≤1000000000)∧0≤n.cd) : OkS (M + 1) { s with aB:=l } := by
 obtain ⟨⟨B,h1,h2⟩,h3⟩:=h
 have k:=h1.mono (Nat.le_succ B)
 have k1:=h1.nodes
 exact ⟨⟨B + 1,⟨k.conf,⟨by show l.length≤B + 1; omega,hs,k1.2.2.1,hn⟩,k.apps,k.conts,k.slots,k.plans,k.app⟩,by show B + 1 + s.ac.length≤_; omega⟩,h3⟩
theorem OkS.nodeIn {M:Nat} {s:aa} (h:OkS M s) {n:aX} (hi:tr s n.fId=true) (hn:(0≤n.cH∧n.cH≤1000000000)∧0≤n.cd) : OkS M { s with aB:=dn aX.fId s.aB n } := by
 obtain ⟨⟨B,h1,h2⟩,h3⟩:=h
 have k1:=h1.nodes
 unfold tr at hi
 rw [List.any_eq_true] at hi
 obtain ⟨x,hx,hxe⟩:=hi
 have hlen:=rl aX.fId n s.aB k1.2.1 ⟨x,hx,by simpa using hxe⟩
 exact ⟨⟨B,⟨h1.conf,⟨by show (dn _ _ _).length≤B; omega,i7 _ _ _ k1.2.1,k1.2.2.1,fun y hy=>by rcases pM hy with rfl | hy; exact hn; exact k1.2.2.2 y hy⟩,h1.apps,h1.conts,h1.slots,h1.plans,h1.app⟩,h2⟩,h3⟩
theorem OkS.small {M:Nat} {s:aa} (h:OkS M s) : s.aB.length≤M∧s.aj.length≤M∧s.ac.length≤M∧s.aQ.length≤M∧s.bl.length≤M:=⟨h.sz.nodes.1,h.sz.apps,h.sz.conts,h.sz.slots,h.sz.plans⟩
theorem Mr {s:aa} {id:Int} (h:tr s id=true) : (eW s id).fId=id:=by
 unfold tr at h
 rw [List.any_eq_true] at h
 obtain ⟨x,hx,e⟩:=h
 unfold eW
 cases hf:s.aB.find? fun c=>c.fId==id with
 | none=>have:=List.find?_eq_none.1 hf x hx; exact absurd e (by simpa using this)
 | some a=>simpa using List.find?_some hf
theorem VR {M:Nat} {s:aa} (h:OkS M s) {id:Int} : (0≤(eW s id).cH∧(eW s id).cH≤1000000000)∧0≤(eW s id).cd:=by
 unfold eW
 cases hf:s.aB.find? fun c=>c.fId==id with
 | none=>exact ⟨⟨Int.le_refl _,by decide⟩,Int.le_refl _⟩
 | some a=>exact h.sz.nodes.2.2.2 a (List.mem_of_find?_eq_some hf)
theorem Z1 {M:Nat} {s:aa} (h:OkS M s) (n:aX) : OkS (M + 1) (Ys s n).1:=by
 unfold Ys
 split
 ·exact h.mono (Nat.le_succ _)
 split
 ·exact h.mono (Nat.le_succ _)
 split
 ·exact h.mono (Nat.le_succ _)
 ·exact h.node (Ed _ _ _) (i7 _ _ _ h.sz.nodes.2.1) (fun y hy=>by rcases pM hy with rfl | hy; exact ⟨h.sz.nodes.2.2.1,Int.le_refl _⟩; exact h.sz.nodes.2.2.2 y hy)
theorem Zp {M:Nat} {s:aa} (h:OkS M s) (id b:Int) : OkS M (Nc s id b).1:=by
 unfold Nc
 split
 ·exact h
 split
 ·exact h
 split
 ·exact h
 split
 ·exact h
 split
 ·exact h
 ·rename_i hu _ hb _ _
  have hu:tr s id=true:=by simpa using hu
  exact h.nodeIn (n:={ eW s id with cH:=s.cO,cd:=b }) (by show tr s (eW s id).fId=true; rw [Mr hu]; exact hu) ⟨h.sz.nodes.2.2.1,by simpa using hb⟩
theorem Y7 {M:Nat} {s:aa} (h:OkS M s) (id:Int) : OkS M (Sw s id):=by
 unfold Sw
 split
 ·rename_i hu
  exact h.nodeIn (n:={ eW s id with fUp:=false }) (by show tr s (eW s id).fId=true; rw [Mr hu]; exact hu) (VR h)
 ·exact h
theorem OkS.fewer {M:Nat} {s:aa} (h:OkS M s) {c:List am} {l:List bz} (hc:c.length≤s.ac.length) (hl:l.length≤s.aQ.length) : OkS M { s with ac:=c,aQ:=l } := by
 obtain ⟨⟨B,h1,h2⟩,h3⟩:=h
 exact ⟨⟨B,h1.fewer hc hl,by show B + c.length≤M; omega⟩,h3⟩
theorem OkS.put {M:Nat} {s:aa} (h:OkS M s) {a:aq} {k:Nat} (ha:∀ B,SzS B s→SzA (B + k) a) : OkS (M + k + 1) { s with aj:=dn aq.fId s.aj a } := by
 obtain ⟨⟨B,h1,h2⟩,h3⟩:=h
 have k1:=(h1.mono (Nat.le_add_right B k)).put ((ha B h1).mono (Nat.le_succ _))
 exact ⟨⟨B + k + 1,k1,by show B + k + 1 + s.ac.length≤_; omega⟩,i7 _ _ _ h3⟩
theorem OkS.now {M:Nat} {s:aa} (h:OkS M s) {n:Int} (hn : 0≤n∧n≤1000000000) : OkS M { s with cO:=n } := by
 obtain ⟨⟨B,h1,h2⟩,h3⟩:=h
 exact ⟨⟨B,⟨h1.conf,⟨h1.nodes.1,h1.nodes.2.1,hn,h1.nodes.2.2.2⟩,h1.apps,h1.conts,h1.slots,h1.plans,h1.app⟩,h2⟩,h3⟩
theorem OkS.epoch {M:Nat} {s:aa} (h:OkS M s) (n k:Int) : OkS M { s with pT:=n,sq:=k } := by
 obtain ⟨⟨B,h1,h2⟩,h3⟩:=h
 exact ⟨⟨B,⟨h1.conf,h1.nodes,h1.apps,h1.conts,h1.slots,h1.plans,h1.app⟩,h2⟩,h3⟩
theorem OkS.newConf {M:Nat} {s:aa} (h:OkS M s) {c:av} (hc:Az c) : OkS M { s with bN:=c } := by
 obtain ⟨⟨B,h1,h2⟩,h3⟩:=h
 exact ⟨⟨B,⟨hc,h1.nodes,h1.apps,h1.conts,h1.slots,h1.plans,h1.app⟩,h2⟩,h3⟩
theorem OkS.plans {M:Nat} {s:aa} (h:OkS M s) {l:List a7} (hl:l.length≤s.bl.length) : OkS M { s with bl:=l } := by
 obtain ⟨⟨B,h1,h2⟩,h3⟩:=h
 exact ⟨⟨B,h1.plan (Nat.le_trans hl h1.plans),h2⟩,h3⟩
theorem OkS.lose {M:Nat} {s:aa} (h:OkS M s) (ids:List Int) (hI:ids.length≤1000000) (hM:M + 1≤1000000) : ∃ r,jo s ids=some r∧OkS M r:=by
 obtain ⟨r,h1,h2,h3,_⟩:=Gx h.m h.srt ids hI hM
 exact ⟨r,h1,h2,h3⟩
theorem OkS.r14 {M:Nat} {s:aa} (h:OkS M s) (hM:M + 100≤1000000) (id:Int) : ∃ r,qy s id=some r∧OkS (M + 40) r.1:=by
 obtain ⟨⟨B,h1,h2⟩,h3⟩:=h
 obtain ⟨r,r1,r2,_⟩:=N5 h1 h3 (by omega) id
 have r4:=Gl r1
 exact ⟨r,r1,⟨B + 24 + 2,r2.1,by omega⟩,r2.2⟩
theorem Ue {M:Nat} {s:aa} (h:OkS M s) (hM:M≤1000000) (text:ByteArray) : ∃ r,tQ s text=some r∧OkS M r.1:=by
 obtain ⟨p,p1,p2⟩:=Nx text
 have k1:=h.small
 have kc:=h.sz.conf.sz.labels
 unfold tQ
 simp only [p1,zb]
 have hchk:∃ e,(if (p.2==0)=true then Option.bind (vf p.1) fun c3=>some c3 else some p.2)=some e∧(e=0→Az p.1):=by
  split
  ·obtain ⟨c,c1,c2⟩:=Nr p2
   rw [c1]
   exact ⟨c,rfl,fun e=>(c2 e).form⟩
  ·rename_i hne
   exact ⟨_,rfl,fun e=>absurd (by rw [e]; rfl) hne⟩
 obtain ⟨e,e1,e2⟩:=hchk
 rw [e1]
 simp only [zb,kG]
 split
 ·exact ⟨_,rfl,h⟩
 rename_i hz
 have hf:=e2 (by simpa using hz)
 split
 ·exact ⟨_,rfl,h⟩
 rename_i hlab
 have hlab:s.bN.ak.length≤p.1.ak.length:=by have:=of_decide_eq_false (by simpa using hlab:decide ((p.1.ak.length:Int) < (s.bN.ak.length:Int))=false); omega
 rw [wD s p.1 () (by omega)]
 obtain ⟨r,r1,r2⟩:=mJ (g:=eH s p.1) (fin:=fun _=>(.inl (s.bN.ak.length:Int))) (fun _ _=>True) (fun r=>∀ m,r = .inr m→OkS M m.1) s.bN.ak 0 () (fun j a x hx _=>by
  have hj:=(zg.1 hx).1
  unfold eH
  simp only [Nat.zero_add,aD (zq (show j < p.1.ak.length by omega)),zb,kG]
  split
  ·exact ⟨_,rfl,fun a' e=>(by cases e),fun r e m em=>(by injection e with e; subst e; injection em with em; subst em; exact h)⟩
  ·exact ⟨_,rfl,fun a' e=>trivial,fun r e=>(by cases e)⟩) (fun b _ m em=>by cases em) trivial
 rw [r1]
 simp only [zb]
 cases r with
 | inr m=>exact ⟨m,rfl,r2 m rfl⟩
 | inl m =>
  dsimp only
  rw [wC s p.1 () (by omega)]
  obtain ⟨q,q1,q2⟩:=aR (g:=eG s p.1) (fin:=fun _=>(.inl (s.aj.length:Int))) (fun _ _=>True) (fun r=>∀ m,r = .inr m→OkS M m.1) s.aj 0 () (fun j a x hx _=>by
   unfold eG
   simp only [dF,p5 _ _ hf.sz,zb,kG,du]
   split
   ·exact ⟨_,rfl,fun a' e=>(by cases e),fun r e m em=>(by injection e with e; subst e; injection em with em; subst em; exact h)⟩
   ·exact ⟨_,rfl,fun a' e=>trivial,fun r e=>(by cases e)⟩) (fun b _ m em=>by cases em) trivial
  rw [q1]
  simp only [zb]
  cases q with
  | inr m=>exact ⟨m,rfl,q2 m rfl⟩
  | inl m=>exact ⟨_,rfl,h.newConf hf⟩
theorem We (s:aa) (n:Int) (hl:s.ac.length≤1000000) : ∃ r,xT s n=some r∧r.length≤s.ac.length:=by
 unfold xT
 dsimp only
 rw [CW s n [] hl]
 obtain ⟨r,r1,r2⟩:=aR (g:=jf s n) (fin:=fun b=>(b,(s.ac.length:Int))) (fun k b=>b.length≤k) (fun r=>r.1.length≤s.ac.length) s.ac 0 [] (fun j b x hx hb=>by
  have hj:=(zg.1 hx).1
  unfold jf
  dsimp only
  split
  ·rw [aE (by simp; omega)]
   exact ⟨_,rfl,fun a' e=>(by injection e with e; subst e; simp; omega),fun r e=>(by cases e)⟩
  ·exact ⟨_,rfl,fun a' e=>(by injection e with e; subst e; omega),fun r e=>(by cases e)⟩) (fun b hb=>(by simpa using hb)) (by simp)
 rw [r1]
 exact ⟨_,rfl,r2⟩
theorem Es (s:aa) (n:Int) (hl:s.ac.length≤1000000) : ∃ r,od s n=some r:=by
 unfold od
 dsimp only
 rw [vi s n [] hl]
 obtain ⟨r,r1,r2⟩:=aR (g:=dZ s n) (fin:=fun b=>(b,(s.ac.length:Int))) (fun k b=>b.length≤k) (fun _=>True) s.ac 0 [] (fun j b x hx hb=>by
  have hj:=(zg.1 hx).1
  unfold dZ
  simp only [du,zb]
  split
  ·rw [aE (by simp; omega)]
   exact ⟨_,rfl,fun a' e=>(by injection e with e; subst e; simp; omega),fun r e=>(by cases e)⟩
  ·exact ⟨_,rfl,fun a' e=>(by injection e with e; subst e; omega),fun r e=>(by cases e)⟩) (fun b hb=>trivial) (by simp)
 rw [r1]
 exact ⟨_,rfl⟩
theorem M6 (ids:List Int) (s:aa) (hl:s.ac.length≤1000000) (hi:ids.length≤1000000) : ∃ r,sI s ids=some r:=by
 unfold sI
 dsimp only
 rw [xU ids s [] hi]
 obtain ⟨r,r1,r2⟩:=aR (g:=fo ids s) (fin:=fun b=>(b,(ids.length:Int))) (fun k b=>b.length≤k) (fun _=>True) ids 0 [] (fun j b x hx hb=>by
  have hj:=(zg.1 hx).1
  unfold fo
  simp only [kR s x hl,zb]
  split
  ·rw [aE (by simp; omega)]
   exact ⟨_,rfl,fun a' e=>(by injection e with e; subst e; simp; omega),fun r e=>(by cases e)⟩
  ·exact ⟨_,rfl,fun a' e=>(by injection e with e; subst e; omega),fun r e=>(by cases e)⟩) (fun b hb=>trivial) (by simp)
 rw [r1]
 exact ⟨_,rfl⟩
theorem VD (s:aa) (l more:List aM) (hl:l.length≤100000) (hm:more.length≤1000000) : ∃ r,wg s l more=some r∧r.1.length≤l.length + 8:=by
 unfold wg
 dsimp only
 rw [xS more s l hm]
 obtain ⟨r,r1,r2⟩:=aR (g:=fm more s) (fin:=fun b=>(.inl (b,(more.length:Int)))) (fun _ b=>b.length≤l.length + 8∧b.length≤100000) (fun r=>(∀ m,r = .inl m→m.1.length≤l.length + 8)∧∀ m,r = .inr m→m.1.length≤l.length + 8) more 0 l (fun j b x hx hb=>by
  unfold fm
  simp only [Ni,zb]
  split
  ·exact ⟨_,rfl,fun a' e=>(by cases e),fun r e=>(by injection e with e; subst e; exact ⟨fun m em=>(by cases em),fun m em=>(by injection em with em; subst em; exact Nat.zero_le _)⟩)⟩
  obtain ⟨t,t1,t2⟩:=Us b x hb.2
  simp only [t1,zb]
  split
  ·exact ⟨_,rfl,fun a' e=>(by cases e),fun r e=>(by injection e with e; subst e; exact ⟨fun m em=>(by cases em),fun m em=>(by injection em with em; subst em; exact Nat.zero_le _)⟩)⟩
  ·exact ⟨_,rfl,fun a' e=>(by injection e with e; subst e; exact ⟨by omega,by omega⟩),fun r e=>(by cases e)⟩) (fun b hb=>⟨fun m em=>(by injection em with em; subst em; exact hb.1),fun m em=>(by cases em)⟩) ⟨by omega,hl⟩
 rw [r1]
 simp only [zb]
 cases r with
 | inr m=>exact ⟨_,rfl,r2.2 _ rfl⟩
 | inl m=>exact ⟨_,rfl,r2.1 m rfl⟩
theorem Zm (s:aa) (n:Int) (hl:s.ac.length≤1000000) : ∃ r,vj s n=some r:=by
 unfold vj
 dsimp only
 rw [zA s n () hl]
 obtain ⟨r,r1,r2⟩:=aR (g:=gm s n) (fin:=fun _=>(.inl (s.ac.length:Int))) (fun _ _=>True) (fun _=>True) s.ac 0 () (fun j b x hx hb=>by
  unfold gm
  simp only [du,zb]
  split
  ·exact ⟨_,rfl,fun a' e=>trivial,fun r e=>trivial⟩
  ·exact ⟨_,rfl,fun a' e=>trivial,fun r e=>trivial⟩) (fun b hb=>trivial) trivial
 rw [r1]
 simp only [zb]
 cases r <;> exact ⟨_,rfl⟩
theorem Md {M:Nat} {s:aa} (h:OkS M s) (hM:M + 100≤1000000) (x:aK) (hx:x.fY.length≤1000000) : ∃ r,zC s x=some r∧OkS (M + 40) r.1:=by
 have k1:=h.small
 unfold zC
 simp only [na s _ (show s.aB.length≤1000000 by omega),zb,du]
 obtain ⟨o,o1,_⟩:=We s x.fId (by omega)
 split
 ·rw [o1]
  exact ⟨_,rfl,h.mono (by omega)⟩
 rw [P0 s _ _ (by omega)]
 simp only [zb,kG]
 split
 ·exact ⟨_,rfl,h.mono (by omega)⟩
 have hb:=Zp h x.fId x.cd
 generalize (Nc s x.fId x.cd).1=t at hb
 have k2:=hb.small
 rw [zB x t [] hx]
 obtain ⟨r,r1,r2⟩:=aR (g:=gp x t) (fin:=fun b=>(b,(x.fY.length:Int))) (fun k b=>b.length≤k) (fun r=>r.1.length≤x.fY.length) x.fY 0 [] (fun j b y hy hb=>by
  have hj:=(zg.1 hy).1
  unfold gp
  simp only [kR t y (show t.ac.length≤1000000 by omega),zb,du]
  split
  ·rw [aE (by simp; omega)]
   exact ⟨_,rfl,fun a' e=>(by injection e with e; subst e; simp; omega),fun r e=>(by cases e)⟩
  ·exact ⟨_,rfl,fun a' e=>(by injection e with e; subst e; omega),fun r e=>(by cases e)⟩) (fun b hb=>(by simpa using hb)) (by simp)
 rw [r1]
 simp only [zb]
 obtain ⟨a,a1,a2⟩:=hb.lose r.1 (by omega) (by omega)
 obtain ⟨c,c1,c2⟩:=a2.r14 (by omega) x.fId
 have k3:=c2.small
 obtain ⟨o,o1,_⟩:=We c.1 x.fId (by omega)
 simp only [a1,c1,o1,zb]
 exact ⟨_,rfl,c2⟩
theorem mX {α : Type} (p : α→Bool) (l:List α) : (l.filter p).length≤l.length:=List.length_filter_le _ _
theorem Tu {M:Nat} {s:aa} (h:OkS M s) (hM:M + 100≤100000) (x:aK) (hx:x.fY.length≤1000000) (ha:x.bI.length≤1000000) : ∃ r,tP s x=some r∧OkS (M + 10) r.1:=by
 have k1:=h.small
 unfold tP
 simp only [dH s _ (show s.aj.length≤1000000 by omega),zb,kG]
 have stay:OkS (M + 10) s:=h.mono (by omega)
 split
 ·exact ⟨_,rfl,stay⟩
 split
 ·exact ⟨_,rfl,stay⟩
 split
 ·exact ⟨_,rfl,stay⟩
 have hA:=h.sz.get x.fId
 obtain ⟨n,hn⟩:=Es s (bV s x.fId).fId (by omega)
 have q1:=hA.told; have q2:=hA.lost; have q3:=hA.asks; have q4:=hA.grants; have q5:=hA.kills
 split
 ·obtain ⟨c,hc⟩:=M6 (bV s x.fId).jO s (by omega) (by omega)
  simp only [hc,hn,zb]
  rw [aE (by simp; omega)]
  exact ⟨_,rfl,stay⟩
 split
 ·exact ⟨_,rfl,stay⟩
 obtain ⟨w,w1,w2⟩:=VD s (bV s x.fId).bI x.bI (by omega) ha
 simp only [w1,zb]
 split
 ·exact ⟨_,rfl,stay⟩
 rw [wB x (s,bV s x.fId) hx]
 obtain ⟨r,r1,l,g,r2,r3,r4,r5⟩:=aR (g:=eF x) (fin:=fun b=>(b.1,b.2,(x.fY.length:Int))) (fun _ b=>∃ (l:List am) (g:List Int),b.1 = { s with ac:=l } ∧ l.length≤s.ac.length∧b.2 = { bV s x.fId with bP:=g } ∧ g.length≤(bV s x.fId).bP.length) (fun r=>∃ (l:List am) (g:List Int),r.1 = { s with ac:=l } ∧ l.length≤s.ac.length∧r.2.1 = { bV s x.fId with bP:=g } ∧ g.length≤(bV s x.fId).bP.length) x.fY 0 (s,bV s x.fId) (fun j b y hy ⟨l,g,b1,b2,b3,b4⟩=>by
  obtain ⟨bs,ba⟩:=b
  dsimp only at b1 b3
  subst b1
  subst b3
  unfold eF
  dsimp only
  rw [kR { s with ac:=l } y (show l.length≤1000000 by omega)]
  simp only [zb,du]
  split
  ·rw [CF { s with ac:=l } _ (show l.length≤1000000 by omega),vD g _ (by omega)]
   simp only [zb]
   exact ⟨_,rfl,fun a' e=>(by injection e with e; subst e; exact ⟨_,_,rfl,Nat.le_trans (mX _ _) b2,rfl,Nat.le_trans (mX _ _) b4⟩),fun r e=>(by cases e)⟩
  ·exact ⟨_,rfl,fun a' e=>(by injection e with e; subst e; exact ⟨l,g,rfl,b2,rfl,b4⟩),fun r e=>(by cases e)⟩) (fun b hb=>hb) ⟨s.ac,(bV s x.fId).bP,rfl,Nat.le_refl _,rfl,Nat.le_refl _⟩
 rw [r1]
 obtain ⟨rs,ra,ri⟩:=r
 dsimp only at r2 r4
 subst r2
 subst r4
 have ht:OkS M { s with ac:=l } := h.fewer (c:=l) (l:=s.aQ) r3 (Nat.le_refl _)
 simp only [zb]
 obtain ⟨c,hc⟩:=M6 g { s with ac:=l } (show l.length≤1000000 by omega) (by omega)
 obtain ⟨n,hn⟩:=Es { s with ac:=l } (bV s x.fId).fId (show l.length≤1000000 by omega)
 simp only [hc,hn,zb]
 rw [aE (by simp; omega)]
 simp only [zb]
 rw [gZ { s with ac:=l } _ (by show s.aj.length + 1≤_; omega)]
 refine ⟨_,rfl,OkS.mono (ht.put (k:=8) (fun B hB=>?_)) (by omega)⟩
 have hb:SzA B (bV s x.fId):=hB.get x.fId
 have p1:=hb.asks; have p2:=hb.grants; have p3:=hb.kills
 exact ⟨⟨hb.queue.1,hB.nodes.2.2.1⟩,by show w.1.length≤_; omega,Nat.zero_le _,Nat.zero_le _,by show g.length≤_; omega,by show (bV s x.fId).dr.length≤_; omega⟩
theorem W3 {M:Nat} {s:aa} (h:OkS M s) (hM:M + 100≤100000) (id st:Int) : ∃ r,zy s id st=some r∧OkS (M + 10) r.1:=by
 have k1:=h.small
 unfold zy
 simp only [dH s _ (show s.aj.length≤1000000 by omega),zb,kG,dF]
 split
 ·exact ⟨_,rfl,h.mono (by omega)⟩
 split
 ·exact ⟨_,rfl,h.mono (by omega)⟩
 unfold Li
 simp only [dH s id (show s.aj.length≤1000000 by omega),zb,dF,orB]
 split
 ·exact ⟨_,rfl,h.mono (by omega)⟩
 ·rw [gZ s _ (by omega)]
  simp only [zb]
  rw [CC _ _ (by show s.ac.length≤_; omega) (by show s.aQ.length≤_; omega)]
  have ht:=h.put (k:=0) (a:={ bV s id with da:=st,bI:=[],bP:=[],dr:=[],jO:=[],jW:=[] }) (fun B hB=>⟨(hB.get id).queue,Nat.zero_le _,Nat.zero_le _,Nat.zero_le _,Nat.zero_le _,Nat.zero_le _⟩)
  exact ⟨_,rfl,(ht.fewer (c:=s.ac.filter fun c=>!(c.bG==id)) (l:=s.aQ.filter fun c=>c.bG != id) (mX _ _) (mX _ _)).mono (by omega)⟩
theorem Po (s:aa) (hl:s.aj.length≤1000000) : ∃ l,nj s=some { s with aj:=l } ∧ l.Sublist s.aj:=by
 unfold nj
 dsimp only
 rw [oS s (false,[]) hl]
 obtain ⟨r,h1,h2⟩:=aR (g:=cE s) (fin:=fun b=>(b.1,b.2,(s.aj.length:Int))) (fun k b=>b.2.length≤k∧b.2.Sublist (s.aj.take k)) (fun r=>r.2.1.Sublist s.aj) s.aj 0 (false,[]) (fun j b x hx ⟨hb,hm⟩=>by
  have hj:=(zg.1 hx).1
  have hmono:∀ {l:List aq},l.Sublist (s.aj.take (0 + j))→l.Sublist (s.aj.take (0 + j + 1)):=fun hk=>hk.trans (List.take_sublist_take_left (by omega))
  unfold cE
  simp only [dF,du,zb]
  split
  ·exact ⟨_,rfl,fun a' e=>(by injection e with e; subst e; exact ⟨by show b.2.length≤_; omega,hmono hm⟩),fun r e=>(by cases e)⟩
  ·rw [aE (by simp; omega)]
   refine ⟨_,rfl,fun a' e=>?_,fun r e=>(by cases e)⟩
   injection e with e
   subst e
   refine ⟨by simp; omega,?_⟩
   show (b.2 ++ [x]).Sublist _
   rw [List.take_add_one,show s.aj[0 + j]? = some x by rw [Nat.zero_add]; exact hx]
   exact hm.append (List.Sublist.refl _)) (fun b ⟨hb,hm⟩=>by simpa using hm) ⟨by simp,by simp⟩
 rw [h1]
 exact ⟨_,rfl,h2⟩
theorem OkS.apps {M:Nat} {s:aa} (h:OkS M s) {l:List aq} (hl:l.Sublist s.aj) : OkS M { s with aj:=l } := by
 obtain ⟨⟨B,h1,h2⟩,h3⟩:=h
 exact ⟨⟨B,⟨h1.conf,h1.nodes,Nat.le_trans hl.length_le h1.apps,h1.conts,h1.slots,h1.plans,fun x hx=>h1.app x (hl.subset hx)⟩,h2⟩,List.Pairwise.sublist hl h3⟩
theorem HI {M:Nat} {s:aa} (h:OkS M s) (hM:M + 100≤100000) (a:aq) (hq:a.bC.size≤1000000) : ∃ r,kI s a=some r∧OkS (M + 10) r.1:=by
 have k1:=h.small
 have stay:OkS (M + 10) s:=h.mono (by omega)
 unfold kI
 simp only [CD,orB,zb,dH s _ (show s.aj.length≤1000000 by omega),p5 _ _ h.sz.conf.sz]
 split
 ·exact ⟨_,rfl,stay⟩
 split
 ·exact ⟨_,rfl,stay⟩
 rw [oT s 0 (by omega)]
 obtain ⟨r,hr,_⟩:=aR (g:=cU s) (fin:=fun b=>(b,(s.aj.length:Int))) (fun _ _=>True) (fun _=>True) s.aj 0 0 (fun j b x hx _=>by
  unfold cU
  simp only [dF,zb,sZ]
  exact ⟨_,rfl,fun _ _=>trivial,fun _ _=>trivial⟩) (fun _ _=>trivial) trivial
 rw [hr]
 simp only [zb]
 split
 ·exact ⟨_,rfl,stay⟩
 split
 ·exact ⟨_,rfl,stay⟩
 obtain ⟨l,hl,hl1⟩:=Po s (by omega)
 have fin:∀ t:aa,OkS M t→∃ r,Option.bind (pA a) (fun c17=>Option.bind (eT t ⟨a.fId,1,a.bC,a.cy,a.bq,a.a8,c17,t.cO,0,[],[],[],[]⟩) fun c18=>some (c18,(0:Int)))=some r∧OkS (M + 10) r.1:=by
  intro t ht
  have h5:=ht.small
  rw [tT]
  simp only [zb]
  rw [gZ t _ (by omega)]
  exact ⟨_,rfl,(ht.put (k:=1) (a:=⟨a.fId,1,a.bC,a.cy,a.bq,a.a8,[⟨0,0,a.a8,1,-1,-1,0⟩],t.cO,0,[],[],[],[]⟩) fun B hB=>⟨⟨hq,hB.nodes.2.2.1⟩,by simp,Nat.zero_le _,Nat.zero_le _,Nat.zero_le _,Nat.zero_le _⟩).mono (by omega)⟩
 split
 ·rw [hl]
  simp only [zb]
  exact fin { s with aj:=l } (h.apps hl1)
 ·exact fin s h
theorem OkS.noSlot {M:Nat} {s:aa} (h:OkS M s) (hM:M≤1000000) (n:Int) : ∃ r,fI s n=some r∧OkS M r:=by
 have k1:=h.small
 exact ⟨_,wW s n (by omega),h.fewer (c:=s.ac) (Nat.le_refl _) (mX _ _)⟩
theorem Yj {M:Nat} {s:aa} (h:OkS M s) (hM:M + 100≤100000) (n:Int) : ∃ r,zx s n=some r∧OkS (M + 10) r.1:=by
 have k1:=h.small
 have stay:OkS (M + 10) s:=h.mono (by omega)
 unfold zx
 simp only [orB,zb,kG]
 split
 ·exact ⟨_,rfl,stay⟩
 split
 ·exact ⟨_,rfl,stay⟩
 rename_i hq1 hq2
 have hq1 : 1≤n∧n≤100:=by
  have h9:(decide (n < 1)||decide (n > 100))=false:=by simpa using hq1
  simp at h9
  omega
 have hnow:=h.sz.nodes.2.2.1
 have hq2:i64.wrap (s.cO + n)=s.cO + n∧s.cO + n≤1000000000:=by
  have e:i64.wrap (s.cO + n)=s.cO + n:=by rw [IntKind.wrap_i64]; omega
  have h9 : ¬ (i64.wrap (s.cO + n) > 1000000000):=fun h=>hq2 (by simpa using h)
  exact ⟨e,by omega⟩
 have h1:=h.now (n:=i64.wrap (s.cO + n)) (by rw [hq2.1]; omega)
 have hconts:({ s with cO:=i64.wrap (s.cO + n) } : aa).ac.length≤M:=h1.small.2.2.1
 generalize ({ s with cO:=i64.wrap (s.cO + n) } : aa)=t at h1
 have k2:=h1.small
 rw [KL t (by omega)]
 simp only [zb]
 have hl:((t.aB.filter fun b=>b.fUp&&decide (i64.wrap (t.cO - b.cH)≥10)).map aX.fId).length≤1000000:=by
  rw [List.length_map]
  exact Nat.le_trans (mX _ _) (by omega)
 generalize ((t.aB.filter fun b=>b.fUp&&decide (i64.wrap (t.cO - b.cH)≥10)).map aX.fId)=l at hl
 rw [zw l t hl]
 obtain ⟨r,r1,r2⟩:=aR (g:=gj l) (fin:=fun b=>(b,(l.length:Int))) (fun _ b=>OkS M b) (fun r=>OkS M r.1) l 0 t (fun j b y hy hb=>by
  have k3:=hb.small
  unfold gj
  dsimp only
  rw [PZ b y (by omega)]
  simp only [zb]
  obtain ⟨c,c1,c2⟩:=(Y7 hb y).noSlot (by omega) y
  have k4:=c2.small
  obtain ⟨o,o1,o2⟩:=We c y (by omega)
  obtain ⟨z,z1,z2⟩:=c2.lose o (by omega) (by omega)
  simp only [c1,o1,z1,zb]
  exact ⟨_,rfl,fun a' e=>(by injection e with e; subst e; exact z2),fun r e=>(by cases e)⟩) (fun b hb=>hb) h1
 rw [r1]
 simp only [zb]
 have k5:=r2.small
 rw [Hq r.1 (by omega)]
 simp only [zb]
 have hl2:((r.1.aj.filter fun b=>b.da==2&&decide (i64.wrap (r.1.cO - b.cH)≥15)).map aq.fId).length≤1000000:=by
  rw [List.length_map]
  exact Nat.le_trans (mX _ _) (by omega)
 generalize ((r.1.aj.filter fun b=>b.da==2&&decide (i64.wrap (r.1.cO - b.cH)≥15)).map aq.fId)=l2 at hl2
 rw [zv l2 r.1 hl2]
 obtain ⟨q,q1,q2⟩:=aR (g:=gh l2) (fin:=fun b=>(b,(l2.length:Int))) (fun _ b=>OkS M b) (fun r=>OkS M r.1) l2 0 r.1 (fun j b y hy hb=>by
  have k3:=hb.small
  unfold gh
  dsimp only
  obtain ⟨c,c1⟩:=Zm b y (by omega)
  obtain ⟨z,z1,z2⟩:=hb.lose [c] (by simp) (by omega)
  simp only [c1,z1,zb]
  exact ⟨_,rfl,fun a' e=>(by injection e with e; subst e; exact z2),fun r e=>(by cases e)⟩) (fun b hb=>hb) r2
 rw [q1]
 simp only [zb]
 have k6:=q2.small
 rw [zu q.1 [] (by omega)]
 obtain ⟨p,p1,p2⟩:=aR (g:=gg q.1) (fin:=fun b=>(b,(q.1.bl.length:Int))) (fun k b=>b.length≤k) (fun r=>r.1.length≤q.1.bl.length) q.1.bl 0 [] (fun j b y hy hb=>by
  have hj:=(zg.1 hy).1
  unfold gg
  dsimp only
  split
  ·rw [aE (by simp; omega)]
   exact ⟨_,rfl,fun a' e=>(by injection e with e; subst e; simp; omega),fun r e=>(by cases e)⟩
  ·exact ⟨_,rfl,fun a' e=>(by injection e with e; subst e; omega),fun r e=>(by cases e)⟩) (fun b hb=>(by simpa using hb)) (by simp)
 rw [p1]
 simp only [zb]
 obtain ⟨z,z1,z2,z3⟩:=K2 (q2.plans p2) (by omega)
 have k7:=z2.small
 simp only [z1,zb]
 rw [Cs s z.1 (by omega) (by omega)]
 exact ⟨_,rfl,z2.mono (by omega)⟩
theorem aas {M:Nat} {s:aa} (h:OkS M s) (hM:M + 100≤100000) (p:a7) (n:Int) : ∃ r,zN s p n=some r∧OkS (M + 10) r.1:=by
 obtain ⟨⟨B,h1,h2⟩,h3⟩:=h
 obtain ⟨r,r1,r2,r3,r4⟩:=QY h1 (by omega) p n
 exact ⟨r,r1,⟨B + 1,r2,by rw [r3]; omega⟩,by rw [r4]; exact h3⟩
theorem Y6 {M:Nat} {s:aa} (h:OkS M s) (hM:M + 100≤100000) (id:Int) : ∃ r,vr s id=some r∧OkS (M + 10) r.1:=by
 obtain ⟨⟨B,h1,h2⟩,h3⟩:=h
 obtain ⟨r,r1,r2,r3,r4⟩:=NW h1 (by omega) id
 exact ⟨r,r1,⟨B,r2,by rw [r3]; omega⟩,by rw [r4]; exact h3⟩
structure InP (x:aK) : Prop where
 ids:x.fY.length≤1000000
 asks:x.bI.length≤1000000
 queue:x.bG.bC.size≤1000000
theorem ou {α : Type} {c:Prop} [Decidable c] {a b:Option α} {Q : α→Prop} (h1:∃ r,a=some r∧Q r) (h2:∃ r,b=some r∧Q r) : ∃ r,(if c then a else b)=some r∧Q r:=by
 by_cases h:c
 ·rw [if_pos h]; exact h1
 ·rw [if_neg h]; exact h2
theorem SK {M:Nat} {s:aa} (h:OkS M s) (hM:M + 100≤100000) {x:aK} (hx:InP x) : ∃ r,sJ s x=some r∧OkS (M + 40) r.1:=by
 have k1:=h.small
 have up:∀ {o:Option (aa×bw)},(∃ r,o=some r∧OkS (M + 10) r.1)→∃ r,(Option.bind o fun c=>some c)=some r∧OkS (M + 40) r.1:=fun ⟨r,e,hr⟩=>by
  rw [e]
  exact ⟨r,rfl,hr.mono (by omega)⟩
 unfold sJ
 refine ou ?_ ?_
 ·obtain ⟨r,r1,r2⟩:=Ue h (by omega) x.MF
  exact up ⟨r,r1,r2.mono (by omega)⟩
 refine ou ?_ ?_
 ·rw [FU s _ (by omega)]
  exact ⟨_,rfl,(Z1 h x.bJ).mono (by omega)⟩
 refine ou ?_ ?_
 ·obtain ⟨r,r1,r2⟩:=Md h (by omega) x hx.ids
  rw [r1]
  exact ⟨_,rfl,r2⟩
 refine ou ?_ ?_
 ·obtain ⟨r,r1,r2⟩:=HI h hM x.bG hx.queue
  rw [r1]
  exact ⟨_,rfl,r2.mono (by omega)⟩
 refine ou ?_ ?_
 ·exact up (Tu h hM x hx.ids hx.asks)
 refine ou ?_ ?_
 ·exact up (W3 h hM x.fId 3)
 refine ou ?_ ?_
 ·exact up (W3 h hM x.fId 4)
 refine ou ?_ ?_
 ·exact up (Yj h hM x.fN)
 refine ou ?_ ?_
 ·obtain ⟨r,r1,r2⟩:=aas h hM x.pR x.fN
  rw [r1]
  exact ⟨_,rfl,r2.mono (by omega)⟩
 refine ou ?_ ?_
 ·obtain ⟨r,r1,r2⟩:=Y6 h hM x.fId
  rw [r1]
  exact ⟨_,rfl,r2.mono (by omega)⟩
 refine ou ?_ ?_
 ·refine ou ?_ ?_
  ·exact ⟨_,rfl,h.mono (by omega)⟩
  ·exact ⟨_,rfl,(h.epoch (i64.wrap (s.pT + 1)) 0).mono (by omega)⟩
 ·exact ⟨_,rfl,h.mono (by omega)⟩
def Eu:aa:=⟨⟨[⟨#[]⟩],[⟨⟨#[114,111,111,116]⟩,[⟨10000,10000⟩],10000⟩]⟩,[],[],[],[],[],0,0,0⟩
theorem QF:KU=some Eu:=rfl
theorem Yq:zc ⟨#[114,111,111,116]⟩=some [⟨#[114,111,111,116]⟩]:=by kernel_rfl
theorem RX:OkS 1 Eu:=by
 refine ⟨⟨0,⟨⟨⟨by decide,by decide,?_,?_⟩,?_,?_,⟨by decide,?_⟩,by decide,?_,?_⟩,⟨by decide,List.Pairwise.nil,by decide,fun n hn=>by cases hn⟩,by decide,by decide,by decide,by decide,?_⟩,by decide⟩,List.Pairwise.nil⟩
 ·intro q hq; simp only [Eu,List.mem_singleton] at hq; subst hq; decide
 ·intro q hq; simp only [Eu,List.mem_singleton] at hq; subst hq; decide
 ·intro q hq; simp only [Eu,List.mem_singleton] at hq; subst hq; rfl
 ·intro q hq r hr x hx
  simp only [Eu,List.mem_singleton] at hq
  subst hq
  rw [Yq] at hr
  injection hr with hr
  subst hr
  simp only [List.mem_singleton] at hx
  subst hx
  exact Dv (c:=Eu.bN) (q:=⟨⟨#[114,111,111,116]⟩,[⟨10000,10000⟩],10000⟩) (by simp [Eu])
 ·intro q hq; simp only [Eu,List.mem_singleton] at hq; subst hq; show dA 6 _≤4; rw [show dA 6 ⟨#[114,111,111,116]⟩=1 by kernel_rfl]; decide
 ·exact ⟨⟨⟨#[114,111,111,116]⟩,[⟨10000,10000⟩],10000⟩,by simp [Eu],by kernel_rfl⟩
 ·intro x hx; simp only [Eu,List.mem_singleton] at hx; subst hx; decide
 ·intro a ha; cases ha
def fv (v_c:av) (st:(List ByteArray)) (x_:ax) : Option (((List ByteArray))⊕(((List ByteArray)×Int))) :=
 let v_l:=st
 (jx v_c x_.aC).bind fun c5=>if c5=true then
 (aU v_l [x_.aC]).bind fun b6=>let v_l:(List ByteArray):=b6
 some (.inl v_l)
 else
 some (.inl v_l)
theorem yf (v_c:av) (a_:(List ByteArray)) (hl:v_c.ae.length≤1000000) : ah (kt v_c) ab (a_,(0))=bh (fv v_c) (fun a_=>(a_,((v_c.ae.length:Int)))) a_ v_c.ae :=
 ay v_c.ae (S:=(List ByteArray)×Int) (fun a_ k_=>(a_,(k_))) (fv v_c) (fun a_=>(a_,((v_c.ae.length:Int)))) (an hl) (fun k a x hx=>by
  unfold kt fv; exact bK)
  (fun a=>by unfold kt; exact cI) a_
def dm (v_s:aa) (v_p:aq) (v_a:aP) (st:aK) (v_i:Int) (x_:am) : Option ((aK)⊕((aK×Int))) :=
 let v_x:=st
 (if (x_.bG==v_p.fId)=true then (bm (i64.wrap (v_a.fD + v_i)) 11).bind fun c23=>some (c23==10) else some false).bind fun q24=>if q24=true then
 (aU v_x.fY [x_.fId]).bind fun b25=>let v_x:aK:={ v_x with fY:=b25 }
 some (.inl v_x)
 else
 some (.inl v_x)
theorem tV (v_s:aa) (v_p:aq) (v_a:aP) (a_:aK) (hl:v_s.ac.length≤1000000) : ah (fO v_s v_p v_a) ab (a_,(0))=nT (dm v_s v_p v_a) (fun a_=>(a_,((v_s.ac.length:Int)))) a_ 0 v_s.ac :=
 fh v_s.ac (S:=aK×Int) (fun a_ k_=>(a_,(k_))) (dm v_s v_p v_a) (fun a_=>(a_,((v_s.ac.length:Int)))) (an hl) (fun k a x hx=>by
  unfold fO dm; exact bK)
  (fun a=>by unfold fO; exact cI) a_
def dJ (v_s:aa) (v_a:aP) (bF:Int) (st:aK) (x_:aX) : Option ((aK)⊕((aK×Int))) :=
 let v_x:=st
 if (x_.fId==bF)=true then
 (bm v_a.fB 8).bind fun c17=>let v_x:aK:={ v_x with cd:=(i64.wrap ((i64.wrap (x_.cd + 1)) - (i64.wrap (Int.tdiv c17 6)))) }
 some (.inl v_x)
 else
 some (.inl v_x)
theorem uq (v_s:aa) (v_a:aP) (bF:Int) (a_:aK) (hl:v_s.aB.length≤1000000) : ah (g8 v_s v_a bF) ab (a_,(0))=bh (dJ v_s v_a bF) (fun a_=>(a_,((v_s.aB.length:Int)))) a_ v_s.aB :=
 ay v_s.aB (S:=aK×Int) (fun a_ k_=>(a_,(k_))) (dJ v_s v_a bF) (fun a_=>(a_,((v_s.aB.length:Int)))) (an hl) (fun k a x hx=>by
  unfold g8 dJ; exact bK)
  (fun a=>by unfold g8; exact cI) a_
def dI (v_s:aa) (bF:Int) (v_a:aP) (st:aK) (aI:Int) (x_:am) : Option ((aK)⊕((aK×Int))) :=
 let v_x:=st
 (if (x_.bJ==bF)=true then (bm (i64.wrap (v_a.fC + aI)) 9).bind fun c23=>some (c23==8) else some false).bind fun q24=>if q24=true then
 (aU v_x.fY [x_.fId]).bind fun b25=>let v_x:aK:={ v_x with fY:=b25 }
 some (.inl v_x)
 else
 some (.inl v_x)
theorem uo (v_s:aa) (bF:Int) (v_a:aP) (a_:aK) (hl:v_s.ac.length≤1000000) : ah (g7 v_s bF v_a) ab (a_,(0))=nT (dI v_s bF v_a) (fun a_=>(a_,((v_s.ac.length:Int)))) a_ 0 v_s.ac :=
 fh v_s.ac (S:=aK×Int) (fun a_ k_=>(a_,(k_))) (dI v_s bF v_a) (fun a_=>(a_,((v_s.ac.length:Int)))) (an hl) (fun k a x hx=>by
  unfold g7 dI; exact bK)
  (fun a=>by unfold g7; exact cI) a_
def cZ (v_x:aH) (st:aa) (x_:aP) : Option ((aa)⊕((aa×Int))) :=
 let v_s:=st
 (g9 x_ v_s).bind fun c9=>(sJ v_s c9).bind fun c10=>let v_s:aa:=c10.1
 some (.inl v_s)
theorem rM (v_x:aH) (a_:aa) (hl:v_x.mz.length≤1000000) : ah (eU v_x) ab (a_,(0))=bh (cZ v_x) (fun a_=>(a_,((v_x.mz.length:Int)))) a_ v_x.mz :=
 ay v_x.mz (S:=aa×Int) (fun a_ k_=>(a_,(k_))) (cZ v_x) (fun a_=>(a_,((v_x.mz.length:Int)))) (an hl) (fun k a x hx=>by
  unfold eU cZ; exact bK)
  (fun a=>by unfold eU; exact cI) a_
theorem aV (a:Int) {n:Int} (h0 : 0 < n) (h1:n≤1000000000) : Ok (bm a n) (fun k=>0≤k∧k < n):=by
 unfold bm CL
 rw [if_neg (by omega)]
 have h:=Dj (a:=a) h0
 simp only [zb]
 refine Ok.bind (P:=fun k=>0≤k∧k < n) (Ok.ite (fun hc=>?_) fun hc=>?_) fun r hr=>Ok.pure hr
 ·have:=zd hc
  refine Ok.pure ?_
  rw [IntKind.wrap_i64]; omega
 ·have:=of_decide_eq_false (by simpa using hc:decide (a.tmod n < 0)=false)
  exact Ok.pure (by omega)
theorem ye (n:Int) : Ok (wq n) (fun _=>True):=by
 unfold wq
 exact Ok.bind (aV _ (by omega) (by omega)) fun k hk=>Ok.bind (jt hk.1 hk.2) fun b _=>Ok.pure trivial
theorem Ax {c:av} (h:Az c) : Ok (sR c) (fun l=>0 < l.length∧l.length≤1000∧∀ x∈l,x.size≤1000000):=by
 have hq:=h.sz.queues
 unfold sR
 dsimp only
 have e:fv c=fun acc x=>if wQ c x.aC=true then (aU acc [x.aC]).map (fun a=>(.inl a:List ByteArray⊕(List ByteArray×Int))) else some (.inl acc):=by
  funext acc x
  unfold fv
  simp only [p5 _ _ h.sz,zb]
  split
  ·cases aU acc [x.aC] <;> rfl
  ·rfl
 rw [yf c [] (by omega),e,cg (fun q:ax=>wQ c q.aC) ax.aC _ c.ae [] (by simp; omega)]
 simp only [zb,List.nil_append]
 refine Ok.pure ⟨?_,?_,fun x hx=>?_⟩
 ·obtain ⟨q,hq,hl⟩:=h.leaf
  rw [List.length_map]
  exact List.length_pos_of_mem (List.mem_filter.2 ⟨hq,hl⟩)
 ·rw [List.length_map]
  exact Nat.le_trans (List.length_filter_le _ _) hq
 ·obtain ⟨q,hq,rfl⟩:=List.mem_map.1 hx
  exact h.sz.paths q (List.mem_filter.1 hq).1
theorem Lj {M:Nat} {s:aa} (h:OkS M s) (hM:M≤100000) (a:aP) : Ok (nQ a s) InP:=by
 have k1:=h.small
 have hlab:=h.sz.conf.lab1
 have hlab2:=h.sz.conf.sz.labels
 unfold nQ
 dsimp only
 refine Ok.ite (fun _=>Ok.pure ⟨by simp,by simp,by decide⟩) fun hc=>?_
 have hn:(s.aj.length:Int)≠0:=fun e=>hc (by rw [e]; rfl)
 refine Ok.bind (aV _ (by omega) (by omega)) fun w hw=>Ok.bind (jt hw.1 hw.2) fun p _=>Ok.bind (aV _ (by omega) (by omega)) fun u _=>?_
 refine Ok.bind (P:=fun x:aK=>x.fY = []∧x.bI.length≤1∧x.bG.bC.size=0) (Ok.ite (fun _=>?_) fun _=>Ok.pure ⟨rfl,by simp,rfl⟩) fun x ⟨x1,x2,x3⟩=>?_
 ·refine Ok.bind (aV _ (by omega) (by omega)) fun c7 _=>Ok.bind (aV _ (by omega) (by omega)) fun c8 _=>Ok.bind (ye _) fun c9 _=>Ok.bind (aV _ (by omega) (by omega)) fun c10 _=>?_
  refine Ok.bind (P:=fun j:aM×aK=>j.2.fY = []∧j.2.bG.bC.size=0) (Ok.ite (fun _=>Ok.bind (aV _ (by omega) (by omega)) fun _ _=>Ok.pure ⟨rfl,rfl⟩) fun _=>Ok.pure ⟨rfl,rfl⟩) fun j1 ⟨j2,j3⟩=>?_
  refine Ok.bind (P:=fun j:aM×aK=>j.2.fY = []∧j.2.bG.bC.size=0) (Ok.ite (fun _=>Ok.bind (aV _ (by omega) (by omega)) fun _ _=>Ok.bind (aV _ (by omega) (by omega)) fun _ _=>Ok.pure ⟨j2,j3⟩) fun _=>Ok.pure ⟨j2,j3⟩) fun j4 ⟨j5,j6⟩=>Ok.pure ⟨j5,by simp,j6⟩
 ·rw [tV s p a x (by omega)]
  refine Ok.bind (uA (g:=dm s p a) (fin:=fun a_=>(a_,((s.ac.length:Int)))) (fun k b=>b.fY.length≤k∧b.bI.length≤1∧b.bG.bC.size=0) s.ac x (fun j b y hy ⟨b1,b2,b3⟩=>?_) ⟨by rw [x1]; simp,x2,x3⟩) fun r ⟨q,e,q1,q2,q3⟩=>?_
  ·have hj:=(zg.1 hy).1
   unfold dm
   dsimp only
   refine Ok.bind (P:=fun _=>True) (Ok.ite (fun _=>Ok.bind (aV _ (by omega) (by omega)) fun _ _=>Ok.pure trivial) fun _=>Ok.pure trivial) fun t _=>Ok.ite (fun _=>?_) fun _=>Ok.pure ⟨_,rfl,by omega,b2,b3⟩
   rw [aE (by simp; omega)]
   exact Ok.pure ⟨_,rfl,by simp; omega,b2,b3⟩
  ·subst e
   exact Ok.pure ⟨by dsimp only; omega,by dsimp only; omega,by dsimp only; omega⟩
theorem Oi {M:Nat} {s:aa} (h:OkS M s) (hM:M≤100000) (a:aP) : Ok (g9 a s) InP:=by
 have k1:=h.small
 have hlab:=h.sz.conf.lab1
 have hlab2:=h.sz.conf.sz.labels
 have orOk:∀ {c:Prop} [Decidable c] {d:Bool},Ok (if c then some true else some d) (fun _=>True):=fun {c} _ {d} => Ok.ite (fun _=>Ok.pure trivial) fun _=>Ok.pure trivial
 have hx0:∀ k id b n t nd ap pl,ap.bC.size≤1000000→InP (⟨k,id,b,n,t,nd,ap,[],[],pl⟩ : aK):=fun k id b n t nd ap pl hq=>⟨by simp,by simp,hq⟩
 unfold g9
 dsimp only
 refine Ok.bind (aV _ (by omega) (by omega)) fun c1 _=>Ok.bind (Ax h.sz.conf) fun lv ⟨l1,l2,l3⟩=>Ok.bind (aV _ (by omega) (by omega)) fun c5 _=>Ok.bind (aV _ (by omega) (by omega)) fun c6 _=>Ok.bind orOk fun q7 _=>?_
 refine Ok.bind (P:=InP) (Ok.ite (fun _=>?_) fun _=>?_) fun r hr=>Ok.pure hr
 ·exact Ok.bind (aV _ (by omega) (by omega)) fun _ _=>Ok.bind (aV _ (by omega) (by omega)) fun _ _=>Ok.bind (aV _ (by omega) (by omega)) fun _ _=>Ok.bind (aV _ (by omega) (by omega)) fun _ _=>Ok.pure (hx0 _ _ _ _ _ _ _ _ (by decide))
 refine Ok.bind (P:=fun _=>True) (Ok.ite (fun _=>Ok.pure trivial) fun _=>Ok.ite (fun _=>Ok.pure trivial) fun _=>orOk) fun q13 _=>Ok.ite (fun _=>?_) fun _=>?_
 ·rw [uq s a c1 _ (by omega)]
  refine Ok.bind (D7 (g:=dJ s a c1) (fin:=fun a_=>(a_,((s.aB.length:Int)))) (fun k b=>b.fY = []∧b.bI = []∧b.bG.bC.size=0) s.aB _ (fun j b y hy ⟨b1,b2,b3⟩=>?_) ⟨rfl,rfl,rfl⟩) fun r ⟨q,e,q1,q2,q3⟩=>?_
  ·unfold dJ
   dsimp only
   exact Ok.ite (fun _=>Ok.bind (aV _ (by omega) (by omega)) fun _ _=>Ok.pure ⟨_,rfl,b1,b2,b3⟩) fun _=>Ok.pure ⟨_,rfl,b1,b2,b3⟩
  subst e
  dsimp only
  rw [uo s c1 a q (by omega)]
  refine Ok.bind (uA (g:=dI s c1 a) (fin:=fun a_=>(a_,((s.ac.length:Int)))) (fun k b=>b.fY.length≤k∧b.bI = []∧b.bG.bC.size=0) s.ac q (fun j b y hy ⟨b1,b2,b3⟩=>?_) ⟨by rw [q1]; simp,q2,q3⟩) fun r ⟨q,e,q1,q2,q3⟩=>?_
  ·have hj:=(zg.1 hy).1
   unfold dI
   dsimp only
   refine Ok.bind (P:=fun _=>True) (Ok.ite (fun _=>Ok.bind (aV _ (by omega) (by omega)) fun _ _=>Ok.pure trivial) fun _=>Ok.pure trivial) fun t _=>Ok.ite (fun _=>?_) fun _=>Ok.pure ⟨_,rfl,by omega,b2,b3⟩
   rw [aE (by simp; omega)]
   exact Ok.pure ⟨_,rfl,by simp; omega,b2,b3⟩
  ·subst e
   exact Ok.pure ⟨by dsimp only; omega,by dsimp only; rw [q2]; simp,by dsimp only; omega⟩
 refine Ok.bind orOk fun q24 _=>Ok.ite (fun _=>?_) fun _=>?_
 ·exact Ok.bind (aV _ (by omega) (by omega)) fun _ _=>Ok.bind (aV _ (by omega) (by omega)) fun w hw=>Ok.bind (jt hw.1 hw.2) fun b hb=>Ok.bind (aV _ (by omega) (by omega)) fun _ _=>Ok.bind (aV _ (by omega) (by omega)) fun _ _=>Ok.bind (ye _) fun _ _=>Ok.pure (hx0 _ _ _ _ _ _ _ _ (l3 b hb))
 refine Ok.bind (P:=fun _=>True) (Ok.ite (fun _=>Ok.pure trivial) fun _=>orOk) fun q31 _=>Ok.ite (fun _=>?_) fun _=>?_
 ·exact Ok.bind (Lj h hM a) fun x hx=>Ok.pure hx
 refine Ok.ite (fun _=>?_) fun _=>?_
 ·exact Ok.bind (aV _ (by omega) (by omega)) fun w hw=>Ok.bind (jt hw.1 hw.2) fun _ _=>Ok.bind (aV _ (by omega) (by omega)) fun _ _=>Ok.pure (hx0 _ _ _ _ _ _ _ _ (by decide))
 refine Ok.bind orOk fun q36 _=>Ok.ite (fun _=>?_) fun _=>?_
 ·exact Ok.bind (aV _ (by omega) (by omega)) fun _ _=>Ok.pure (hx0 _ _ _ _ _ _ _ _ (by decide))
 refine Ok.ite (fun _=>?_) fun _=>?_
 ·exact Ok.bind (aV _ (by omega) (by omega)) fun w hw=>Ok.bind (jt hw.1 hw.2) fun _ _=>Ok.bind (aV _ (by omega) (by omega)) fun _ _=>Ok.bind (aV _ (by omega) (by omega)) fun _ _=>Ok.bind (ye _) fun _ _=>Ok.bind (aV _ (by omega) (by omega)) fun _ _=>Ok.pure (hx0 _ _ _ _ _ _ _ _ (by decide))
 refine Ok.ite (fun _=>?_) fun _=>?_
 ·refine Ok.bind (aV _ (by omega) (by omega)) fun w hw=>Ok.bind (jt hw.1 hw.2) fun _ _=>Ok.bind (GR _ _) fun c hc=>?_
  obtain ⟨t,ht⟩:=F6 hc
  exact Ok.bind (P:=fun _=>True) ⟨t,ht,trivial⟩ fun _ _=>Ok.pure (hx0 _ _ _ _ _ _ _ _ (by decide))
 ·exact Ok.pure (hx0 _ _ _ _ _ _ _ _ (by decide))
theorem XC (x:aH) (hx:x.mz.length≤80) : Ok (dU x) (OkS 10000):=by
 unfold dU
 rw [QF]
 simp only [zb]
 refine Ok.bind (GR _ _) fun c hc=>?_
 obtain ⟨t,ht⟩:=F6 hc
 refine Ok.bind (P:=fun _=>True) ⟨t,ht,trivial⟩ fun t _=>Ok.bind (P:=fun r:aa×bw=>OkS 41 r.1) (SK (M:=1) (x:=⟨1,0,0,0,t,aX.zero,aq.zero,[],[],a7.zero⟩) RX (by omega) ⟨by simp,by simp,Nat.zero_le _⟩) fun r hr=>?_
 refine Ok.bind (P:=OkS 41) (Ok.ite (fun _=>Ok.pure hr) fun _=>Ok.pure (RX.mono (by omega))) fun s hs=>?_
 rw [rM x s (by omega)]
 refine Ok.bind (D7 (g:=cZ x) (fin:=fun a_=>(a_,((x.mz.length:Int)))) (fun k b=>OkS (41 + 40 * k) b) x.mz s (fun j b y hy hb=>?_) hs) fun r ⟨q,e,hq⟩=>?_
 ·have hj:=(zg.1 hy).1
  unfold cZ
  dsimp only
  exact Ok.bind (Oi hb (by omega) y) fun i hi=>Ok.bind (SK hb (by omega) hi) fun r hr=>Ok.pure ⟨_,rfl,hr.mono (by omega)⟩
 ·subst e
  exact Ok.pure (hq.mono (by omega))
noncomputable def R5 (a:aq) : Option Bool:=rK (a,())
theorem YN (a:aq) : R5 a=Option.bind (if (a.da==1)=true then some true else some (a.da==2)) fun q=>some q:=by kernel_rfl
theorem Mh (a:aq) : R5 a=some (dX a):=by
 rw [YN]
 unfold dX
 cases a.da==1 <;> rfl
noncomputable def Sc (l:List aq) (id:Int) : Option Int:=qE (l,(id,()))
theorem TG (l:List aq) (id:Int) : Sc l id=Option.bind (TJ (fun x:aq=>x.fId==id) l) fun r=>some r:=by kernel_rfl
theorem WI {s:aa} {id:Int} {i:Nat} (h:i < s.aj.length) (h2:(s.aj[i].fId==id)=true) (h3:∀ j (hj:j < i),(s.aj[j].fId==id)=false) : bV s id=s.aj[i]∧EK s id=true:=by
 have hf:s.aj.find? (fun c=>c.fId==id)=some s.aj[i]:=by
  rw [List.find?_eq_some_iff_getElem]
  exact ⟨h2,i,h,rfl,fun j hj=>by rw [h3 j hj]; rfl⟩
 unfold bV EK
 rw [hf]
 exact ⟨rfl,List.any_eq_true.2 ⟨_,List.getElem_mem h,h2⟩⟩
theorem WG {s:aa} {id:Int} (h:∀ x∈s.aj,(x.fId==id)=false) : bV s id=aq.zero∧EK s id=false:=by
 have hf:s.aj.find? (fun c=>c.fId==id)=none:=by
  rw [List.find?_eq_none]
  intro x hx
  simp [h x hx]
 unfold bV EK
 rw [hf]
 refine ⟨rfl,?_⟩
 rw [List.any_eq_false]
 intro x hx
 simp [h x hx]
def EJ (p:ByteArray) (r:Int) : Prop:=(r = -1∧∀ j,j < p.size→((p.data[j]!).toNat:Int)≠46)∨(∃ i:Nat,i < p.size∧r=i∧((p.data[i]!).toNat:Int)=46∧∀ j,i < j→j < p.size→((p.data[j]!).toNat:Int)≠46)
theorem Pa {p:ByteArray} {r q:Int} (h:EJ p r) (k:EJ p q) : r=q:=by
 rcases h with ⟨rfl,h⟩ | ⟨i,h1,rfl,h2,h3⟩
 ·rcases k with ⟨rfl,_⟩ | ⟨j,k1,rfl,k2,_⟩
  ·rfl
  ·exact absurd k2 (h j k1)
 ·rcases k with ⟨rfl,k⟩ | ⟨j,k1,rfl,k2,k3⟩
  ·exact absurd h2 (k i h1)
  ·rcases Nat.lt_trichotomy i j with e | e | e
   ·exact absurd k2 (h3 j e k1)
   ·rw [e]
   ·exact absurd h2 (k3 i e h1)
theorem VX {p:ByteArray} {m:Nat} (h:m < p.size) : jT p (m:Int)=some ((p.data[m]!).toNat:Int):=by
 unfold jT
 have h':m < p.data.size:=h
 rw [if_pos (Int.natCast_nonneg m),zt,Array.getElem?_toList,Array.getElem?_eq_getElem h',getElem!_pos p.data m h']
 rfl
theorem Um (p:ByteArray) (hp:p.size≤1000000) : Ok (ah (eD p) ab ((p.size:Int) - 1)) (EJ p):=by
 refine aL (fun st=>∃ k:Nat,st=(k:Int) - 1∧k≤p.size∧∀ j,k≤j→j < p.size→((p.data[j]!).toNat:Int)≠46) (fun st=>(st + 1).toNat) (EJ p) (fun st ⟨k,h1,h2,h3⟩=>?_) ab _ ⟨p.size,rfl,Nat.le_refl _,fun j h1 h2=>by omega⟩ (by have:=an hp; omega)
 subst h1
 unfold eD
 dsimp only
 cases k with
 | zero =>
  have d:decide (((0:Nat) : Int) - 1≥0)=false:=by decide
  simp only [d,zf,if_false,zb]
  exact .inr ⟨_,rfl,.inl ⟨rfl,fun j hj=>h3 j (Nat.zero_le _) hj⟩⟩
 | succ m =>
  have d:decide (((m + 1:Nat) : Int) - 1≥0)=true:=decide_eq_true (by omega)
  have e:((m + 1:Nat) : Int) - 1=(m:Int):=by omega
  have w:i64.wrap ((m:Int) - 1)=(m:Int) - 1:=by rw [IntKind.wrap_i64]; omega
  simp only [d,if_true,e,VX (show m < p.size by omega),zb,w]
  by_cases hc:((p.data[m]!).toNat:Int)=46
  ·have d2:(((p.data[m]!).toNat:Int) != 46)=false:=by simpa using hc
   rw [d2]
   exact .inr ⟨_,rfl,.inr ⟨m,by omega,rfl,hc,fun j hj hjs=>h3 j (by omega) hjs⟩⟩
  ·have d2:(((p.data[m]!).toNat:Int) != 46)=true:=by simpa using hc
   rw [d2]
   refine .inl ⟨_,rfl,⟨m,rfl,by omega,fun j hj hjs=>?_⟩,by omega⟩
   rcases Nat.lt_or_ge m j with e | e
   ·exact h3 j (by omega) hjs
   ·obtain rfl:j=m:=by omega
    exact hc
noncomputable def PM (p:ByteArray) : Option ByteArray:=qC (p,())
theorem XA (p:ByteArray) : PM p=Option.bind (Ie p ⟨#[46]⟩) fun r=>Option.bind (GX p (if r > 0 then r else 0)) fun z=>some z:=by kernel_rfl
theorem Wt {p:ByteArray} (hp:p.size≤1000000) : Ie p ⟨#[46]⟩=some (Lib.lastIndexByte p 46):=by
 unfold Ie
 rw [dif_pos ⟨rfl,by omega⟩]
 rfl
theorem aaE (p:ByteArray) : GX p 0=some ⟨#[]⟩:=by
 unfold GX
 rw [if_pos ⟨Int.le_refl _,Nat.zero_le _⟩]
 congr 1
 apply ByteArray.ext
 apply Array.ext'
 simp
theorem Ul {p:ByteArray} (hp:p.size≤1000000) : PM p=some (eh p):=by
 rw [← (mZ hp).1,XA,Wt hp]
 unfold dE
 have w:i64.wrap ((p.size:Int) - 1)=(p.size:Int) - 1:=by rw [IntKind.wrap_i64]; omega
 dsimp only
 rw [w]
 obtain ⟨r,r1,r2⟩:=Um p hp
 have hl:EJ p (Lib.lastIndexByte p 46):=Lib.lastIdx_spec p 46 p.size
 rw [r1,Pa hl r2]
 simp only [zb]
 rcases Int.lt_trichotomy r 0 with h | h | h
 ·have d1:decide (r < 0)=true:=by simpa using h
  rw [d1,if_neg (by omega),aaE]
  rfl
 ·subst h
  rw [if_neg (by omega),aaE]
  rfl
 ·have d1:decide (r < 0)=false:=by simp; omega
  rw [d1,if_pos h]
  rfl
theorem HU {α σ τ : Type} {g h : σ→α→Option (σ⊕τ)} {fin : σ→τ} : ∀ (l:List α) (a : σ),(∀ a,∀ x∈l,g a x=h a x)→bh g fin a l=bh h fin a l
 | [],_,_=>rfl
 | x::l,a,e=>by
  simp only [bh,e a x List.mem_cons_self]
  cases h a x with
  | none=>rfl
  | some o =>
   cases o with
   | inl a'=>exact HU l a' fun b y hy=>e b y (List.mem_cons_of_mem _ hy)
   | inr r=>rfl
def JZ (p:ByteArray) (q:ax) : Bool:=!(p.toList==(⟨#[]⟩ : ByteArray).toList)&&((eh q.aC).toList==p.toList)
theorem P8 (c:av) (p:ByteArray) (h:SzC c) : ei c p=some ((c.ae.filter (JZ p)).map ax.aC):=by
 have hq:c.ae.length≤1000000:=Nat.le_trans h.queues (by decide)
 unfold ei
 dsimp only
 rw [gf c p [] hq]
 rw [HU (h:=fun acc x=>if JZ p x=true then (aU acc [x.aC]).map (fun a=>(.inl a:List ByteArray⊕(List ByteArray×Int))) else some (.inl acc)) _ _ fun a x hx=>?_]
 ·rw [cg (JZ p) ax.aC _ c.ae [] (by simpa using hq)]
  rfl
 ·unfold co JZ
  dsimp only
  rw [(mZ (h.paths x hx)).1]
  simp only [zb,du]
  split
  ·cases aU a [x.aC] <;> rfl
  ·rfl
noncomputable def J1 (q:ax) (p:ByteArray) : Option Bool:=qA (q,(p,()))
theorem Wz (q:ax) (p:ByteArray) : J1 q p=Option.bind (if (!(p.toList==(⟨#[]⟩ : ByteArray).toList))=true then Option.bind (PM q.aC) fun r=>some (r.toList==p.toList) else some false) fun b=>some b:=by kernel_rfl
theorem TD {q:ax} (p:ByteArray) (h:q.aC.size≤1000000) : J1 q p=some (JZ p q):=by
 rw [Wz,Ul h]
 unfold JZ
 simp only [zb,du]
noncomputable def Ww (c:av) (p:ByteArray) : Option (List ByteArray):=rF (c,(p,()))
theorem YR (c:av) (p:ByteArray) : Ww c p=Option.bind (ah (fun st:List ByteArray×Int=>if decide (st.2 < (c.ae.length:Int))=true then Option.bind (aw c.ae st.2) fun x=>Option.bind (J1 x p) fun r=>if r=true then Option.bind (OC x.aC) fun t=>Option.bind (aU st.1 [t]) fun zs=>some (.inl (zs,i64.wrap (st.2 + 1))) else some (.inl (st.1,i64.wrap (st.2 + 1))) else some (.inr (st.1,st.2))) ab (([] : List ByteArray),(0:Int))) fun st=>some st.1:=by kernel_rfl
theorem Wv (c:av) (p:ByteArray) (h:SzC c) : Ww c p=some ((c.ae.filter (JZ p)).map ax.aC):=by
 have hq:c.ae.length≤1000000:=Nat.le_trans h.queues (by decide)
 rw [YR]
 have hl:=ay c.ae (S:=List ByteArray×Int) (τ:=List ByteArray×Int) (f:=fun st:List ByteArray×Int=>if decide (st.2 < (c.ae.length:Int))=true then Option.bind (aw c.ae st.2) fun x=>Option.bind (J1 x p) fun r=>if r=true then Option.bind (OC x.aC) fun t=>Option.bind (aU st.1 [t]) fun zs=>some (.inl (zs,i64.wrap (st.2 + 1))) else some (.inl (st.1,i64.wrap (st.2 + 1))) else some (.inr (st.1,st.2))) (fun a k=>(a,k)) (fun acc x=>if JZ p x=true then (aU acc [x.aC]).map (fun a=>(.inl a:List ByteArray⊕(List ByteArray×Int))) else some (.inl acc)) (fun a=>(a,(c.ae.length:Int))) (an hq) (fun k a x hk0=>by
  have hk:=(zg.1 hk0).1
  have hm:=h.paths x (List.mem_of_getElem? hk0)
  simp only [bM hk0,if_true,aD hk0,zb,a6 hk hq,TD p hm,Dk hm]
  split
  ·cases aU a [x.aC] <;> rfl
  ·rfl) (fun a=>by simp only [bE,zf,if_false]) ([] : List ByteArray)
 rw [show (([] : List ByteArray),(0:Int))=(fun (a_:List ByteArray) (k_:Int)=>(a_,k_)) [] 0 from rfl,hl,cg (JZ p) ax.aC _ c.ae [] (by simpa using hq)]
 rfl
noncomputable def Sb (c:av) (p:ByteArray) : Option Int:=qB (c,(p,()))
theorem TF (c:av) (p:ByteArray) : Sb c p=Option.bind (TJ (fun q:ax=>q.aC.toList==p.toList) c.ae) fun r=>some r:=by kernel_rfl
noncomputable def Wr (c:av) (p:ByteArray) : Option Bool:=rD (c,(p,()))
theorem YQ (c:av) (p:ByteArray) : Wr c p=Option.bind (Sb c p) fun r=>Option.bind (if decide (r≥0)=true then Option.bind (Ww c p) fun l=>some ((l.length:Int)==0) else some false) fun q=>some q:=by kernel_rfl
theorem Wq (c:av) (p:ByteArray) (h:SzC c) : Wr c p=some (wQ c p):=by
 have hq:c.ae.length≤1000000:=Nat.le_trans h.queues (by decide)
 rw [← p5 c p h,YQ,TF]
 unfold jx
 rw [kE c p h,P8 c p h,Wv c p h]
 rcases J3 (fun q:ax=>q.aC.toList==p.toList) c.ae hq with ⟨i,hi,g1,g2,_⟩ | ⟨g1,g2⟩
 ·have hu:isQ c p=true:=List.any_eq_true.2 ⟨_,List.getElem_mem hi,g2⟩
  have d:decide ((i:Int)≥0)=true:=by simp
  rw [g1,hu]
  simp only [zb,d,if_true]
 ·have hu:isQ c p=false:=by
   unfold isQ
   rw [List.any_eq_false]
   intro x hx
   simp [g2 x hx]
  have d:decide ((-1:Int)≥0)=false:=by decide
  rw [g1,hu]
  simp only [zb,d,zf,if_false]
noncomputable def nR (a n:Int) : Option Int:=tY (a,(n,()))
noncomputable def R9:Option Bool:=vK ()
theorem O9:R9=some true:=by kernel_rfl
theorem Oo (a n:Int) : nR a n=Option.bind (CL a n) fun q=>if decide (q < 0)=true then some (i64.wrap (q + n)) else some q:=by kernel_rfl
theorem kK (a:Int) {n:Int} (h0 : 0 < n) (h1:n≤1000000000) : Ok (nR a n) (fun k=>0≤k∧k < n):=by
 rw [Oo]
 unfold CL
 rw [if_neg (by omega)]
 have h:=Dj (a:=a) h0
 simp only [zb]
 refine Ok.ite (fun hc=>?_) fun hc=>?_
 ·have:=zd hc
  refine Ok.pure ?_
  rw [IntKind.wrap_i64]; omega
 ·have:=of_decide_eq_false (by simpa using hc:decide (a.tmod n < 0)=false)
  exact Ok.pure (by omega)
noncomputable def WW (a:aq) : Option Bool:=BR (a,())
theorem YY (a:aq) : WW a=Option.bind (if decide ((a.bI.length:Int)≤20)=true then some (decide ((a.bP.length:Int)≤50)) else some false) fun q=>Option.bind (if q=true then some (decide ((a.dr.length:Int)≤50)) else some false) fun q=>Option.bind (if q=true then some (decide ((a.jO.length:Int)≤50)) else some false) fun q=>Option.bind (if q=true then some (decide ((a.jW.length:Int)≤50)) else some false) fun q=>Option.bind (if q=true then some (decide ((a.bC.size:Int)≤60)) else some false) fun q=>some q:=by kernel_rfl
theorem WV (a:aq) : WW a=some (decide ((a.bI.length:Int)≤20)&&decide ((a.bP.length:Int)≤50)&&decide ((a.dr.length:Int)≤50)&&decide ((a.jO.length:Int)≤50)&&decide ((a.jW.length:Int)≤50)&&decide ((a.bC.size:Int)≤60)):=by
 rw [YY]
 simp only [du,zb]
theorem WU {a:aq} (h:(decide ((a.bI.length:Int)≤20)&&decide ((a.bP.length:Int)≤50)&&decide ((a.dr.length:Int)≤50)&&decide ((a.jO.length:Int)≤50)&&decide ((a.jW.length:Int)≤50)&&decide ((a.bC.size:Int)≤60))=true) : SzL a:=by
 simp only [Bool.and_eq_true,decide_eq_true_eq] at h
 exact ⟨by omega,by omega,by omega,by omega,by omega,by omega⟩
theorem aaf (x:aH) : nP x=some (decide ((x.fNs.length:Int)≤30)&&decide ((x.mz.length:Int)≤80)):=by
 unfold nP
 simp only [du,zb]
noncomputable def mB (a l m:Int) : Option Bool:=oM (a,(l,(m,())))
theorem Lu (a l m:Int) : mB a l m=Option.bind (if decide (l≤a)=true then some (decide (a≤m)) else some false) fun q=>some q:=by kernel_rfl
theorem Jr (a l m:Int) : mB a l m=some (decide (l≤a)&&decide (a≤m)):=by
 rw [Lu]
 simp only [du,zb]
noncomputable def FO (a:aq) : Option Bool:=nv (a,())
theorem PD (a:aq) : FO a=Option.bind (mB a.fId 0 9999) fun r=>Option.bind (if r=true then Option.bind (mB a.cy 0 99) fun r=>some r else some false) fun q=>Option.bind (if q=true then Option.bind (mB a.bq 0 9) fun r=>some r else some false) fun q=>Option.bind (if q=true then Option.bind (mB a.a8.bD 1 1073741824) fun r=>some r else some false) fun q=>Option.bind (if q=true then Option.bind (mB a.a8.be 1 1073741824) fun r=>some r else some false) fun q=>some q:=by kernel_rfl
def KB (a:aq) : Bool:=((((decide (0≤a.fId)&&decide (a.fId≤9999))&&(decide (0≤a.cy)&&decide (a.cy≤99)))&&(decide (0≤a.bq)&&decide (a.bq≤9)))&&(decide (1≤a.a8.bD)&&decide (a.a8.bD≤1073741824)))&&(decide (1≤a.a8.be)&&decide (a.a8.be≤1073741824))
theorem Nb (a:aq) : FO a=some (KB a):=by
 rw [PD]
 simp only [Jr,du,zb]
 rfl
noncomputable def Pz (l:List aq) : Option Int:=kJ (l,())
theorem Xf (l:List aq) : Pz l=Option.bind (ah (fun st:Int×Int=>if decide (st.2 < (l.length:Int))=true then Option.bind (aw l st.2) fun x=>Option.bind (R5 x) fun r=>if r=true then some (.inl (i64.wrap (st.1 + 1),i64.wrap (st.2 + 1))) else some (.inl (st.1,i64.wrap (st.2 + 1))) else some (.inr (st.1,st.2))) ab ((0:Int),(0:Int))) fun st=>some st.1:=by kernel_rfl
theorem xN:∀ (l:List aq) (k:Nat),k + l.length≤1000000→l.foldl (fun (a:Int) x=>if dX x=true then i64.wrap (a + 1) else a) (k:Int)=((k + (l.filter dX).length:Nat) : Int)
 | [],_,_=>rfl
 | x::l,k,h=>by
  simp only [List.length_cons] at h
  rw [List.foldl_cons,List.filter_cons]
  cases dX x with
  | true =>
   have e:i64.wrap ((k:Int) + 1)=((k + 1:Nat) : Int):=by rw [IntKind.wrap_i64]; omega
   simp only [if_true,e,List.length_cons]
   rw [xN l (k + 1) (by omega)]
   congr 1
   omega
  | false =>
   simp only [zf,if_false]
   exact xN l k (by omega)
theorem FA (l:List aq) (hl:l.length≤1000000) (fin:Int→Int×Int) : bh (fun (a:Int) x=>some (.inl (if dX x=true then i64.wrap (a + 1) else a))) fin 0 l=some (fin (((l.filter dX).length:Nat) : Int)):=by
 rw [td (fun (a:Int) x=>if dX x=true then i64.wrap (a + 1) else a) fin l 0]
 have h:=xN l 0 (by omega)
 rw [show ((0:Nat) : Int)=0 from rfl] at h
 rw [h,Nat.zero_add]
theorem Ud {l:List aq} (hl:l.length≤1000000) : Pz l=some (((l.filter dX).length:Nat) : Int):=by
 rw [Xf]
 simp only [Mh,zb]
 have h:=ay l (S:=Int×Int) (τ:=Int×Int) (f:=fun st:Int×Int=>if decide (st.2 < (l.length:Int))=true then Option.bind (aw l st.2) fun x=>if dX x=true then some (.inl (i64.wrap (st.1 + 1),i64.wrap (st.2 + 1))) else some (.inl (st.1,i64.wrap (st.2 + 1))) else some (.inr (st.1,st.2))) (fun a k=>(a,k)) (fun (a:Int) x=>some (.inl (if dX x=true then i64.wrap (a + 1) else a))) (fun a=>(a,(l.length:Int))) (an hl) (fun k a x hk0=>by
  have hk:=(zg.1 hk0).1
  simp only [bM hk0,if_true,aD hk0,zb,a6 hk hl]
  cases dX x <;> rfl) (fun a=>by simp only [bE,zf,if_false]) (0:Int)
 rw [show ((0:Int),(0:Int))=(fun (a_:Int) (k_:Int)=>(a_,k_)) 0 0 from rfl,h,FA l hl]
 rfl
theorem Uc (s:aa) (hl:s.aj.length≤1000000) : ah (gJ s) ab ((0:Int),(0:Int))=some ((((s.aj.filter dX).length:Nat) : Int),(s.aj.length:Int)):=by
 have e:cU s=fun (a:Int) x=>some (.inl (if dX x=true then i64.wrap (a + 1) else a)):=by
  funext a x
  unfold cU
  simp only [dF,zb]
  cases dX x <;> rfl
 rw [oT s 0 hl,e,FA s.aj hl]
theorem IC {α : Type} (p : α→Bool) : ∀ (l:List α) (i:Nat) (h:i < l.length),(∀ j (hj:j < i),p l[j] = false)→p l[i] = true→l.take i++l.drop (i + 1)=l.eraseP p
 | [],_,h,_,_=>by simp at h
 | x::l,0,_,_,hp=>by
  have hx:p x=true:=hp
  simp [List.eraseP_cons,hx]
 | x::l,i + 1,h,h1,hp=>by
  have hx:p x=false:=h1 0 (by omega)
  have hr:=IC p l i (by simpa using h) (fun j hj=>h1 (j + 1) (by omega)) hp
  simp [List.eraseP_cons,hx,← hr]
theorem tt (s:aa) : ∀ (l:List aq) (d:Bool) (acc:List aq),acc.length + l.length≤1000000→bh (cE s) (fun b=>(b.1,b.2,(s.aj.length:Int))) (d,acc) l=some (d||l.any (fun a=>!dX a),acc++(if d=true then l else l.eraseP (fun a=>!dX a)),(s.aj.length:Int))
 | [],d,acc,_=>by
  cases d <;> simp [bh]
 | x::l,d,acc,h=>by
  simp only [List.length_cons] at h
  have g:cE s (d,acc) x=if (!d && !dX x)=true then some (.inl (true,acc)) else some (.inl (d,acc ++ [x])):=by
   unfold cE
   dsimp only
   rw [aE (show acc.length + [x].length≤1000000 by simp; omega)]
   simp only [dF,du,zb]
  simp only [bh,g]
  cases d with
  | true =>
   simp only [Bool.not_true,Bool.false_and,zf,if_false]
   rw [tt s l true (acc ++ [x]) (by simp; omega)]
   simp
  | false =>
   cases hx:dX x with
   | true =>
    simp only [Bool.not_true,Bool.and_false,zf,if_false]
    rw [tt s l false (acc ++ [x]) (by simp; omega)]
    simp [List.eraseP_cons,hx]
   | false =>
    simp only [Bool.not_false,Bool.and_self,if_true]
    rw [tt s l true acc (by omega)]
    simp [List.eraseP_cons,hx]
theorem TX (s:aa) (hl:s.aj.length≤1000000) : nj s=some { s with aj:=s.aj.eraseP fun a=>!dX a } := by
 unfold nj
 dsimp only
 rw [oS s (false,[]) hl,tt s s.aj false [] (by simpa using hl)]
 simp
noncomputable def Mb (a:aq) : Option Bool:=nr (a,())
theorem O3 (a:aq) : Mb a=Option.bind (R5 a) fun r=>some (!r):=by kernel_rfl
noncomputable def Pd (l:List aq) : Option Int:=vF (l,(((),()),()))
theorem WB (l:List aq) : Pd l=Option.bind (ah (fun st:Int×Int=>if decide (st.2 < (l.length:Int))=true then Option.bind (aw l st.2) fun x=>Option.bind (Mb x) fun r=>if r=true then some (.inr (.inr st.2)) else some (.inl (st.1,i64.wrap (st.2 + 1))) else some (.inr (.inl (st.1,st.2)))) ab ((0:Int),(0:Int))) fun o:(Int×Int)⊕Int=>match o with | .inl _=>some (-1) | .inr v=>some v:=by kernel_rfl
theorem TH (l:List aq) : Pd l=TJ (fun a=>!dX a) l:=by
 rw [WB]
 simp only [O3,Mh,zb]
 rfl
noncomputable def vM (l:List aq) : Option ((Unit×Unit)×List aq):=mn (l,())
theorem BT (l:List aq) : vM l=if decide ((l.length:Int) < 16)=true then some (((),()),l) else Option.bind (Pd l) fun r=>Option.bind (Option.bind (Xc l r (i64.wrap (r + 1))) fun z=>some ((((),(),(),()) : Unit×Unit×Unit×Unit),z)) fun z=>some (((),()),z.2):=by kernel_rfl
theorem Js {l:List aq} (h:l.length < 16) : vM l=some (((),()),l):=by
 have d:decide ((l.length:Int) < 16)=true:=decide_eq_true (by omega)
 rw [BT,d,if_pos rfl]
theorem Jt {l:List aq} (h : 16≤l.length) (hl:l.length≤1000000) (hc:(l.filter dX).length < 16) : vM l=some (((),()),l.eraseP fun a=>!dX a):=by
 have d:decide ((l.length:Int) < 16)=false:=decide_eq_false (by omega)
 rw [BT,d,if_neg (by decide),TH]
 rcases J3 (fun a=>!dX a) l hl with ⟨i,hi,g1,g2,g3⟩ | ⟨_,g2⟩
 ·have e:i64.wrap ((i:Int) + 1)=((i + 1:Nat) : Int):=by rw [IntKind.wrap_i64]; omega
  rw [g1]
  simp only [zb,e]
  unfold Xc
  rw [if_pos ⟨by omega,by omega,by omega⟩,zt,zt,IC (fun a:aq=>!dX a) l i hi g3 g2]
  rfl
 ·have:l.filter dX=l:=by
   rw [List.filter_eq_self]
   intro x hx
   have:=g2 x hx
   simpa using this
  rw [this] at hc
  omega
noncomputable def Lw (a:aq) (now:Int) : Option aq:=nq (a,(now,()))
def VE (a:aq) (now:Int) : aq:=⟨a.fId,1,a.bC,a.cy,a.bq,a.a8,[⟨0,0,a.a8,1,-1,-1,0⟩],now,0,[],[],[],[]⟩
theorem Lv (a:aq) (now:Int) : Lw a now=some (VE a now):=by kernel_rfl
noncomputable def EL (l:List aq) (a:aq) : Option ((Unit×Unit×Unit)×List aq):=nu (l,(a,()))
theorem Pc (l:List aq) (a:aq) : EL l a=Option.bind (ah (fun st:Int=>Option.bind (if decide (st < (l.length:Int))=true then Option.bind (aw l st) fun x=>some (decide (x.fId < a.fId)) else some false) fun q=>if q=true then some (.inl (i64.wrap (st + 1))) else some (.inr st)) ab 0) fun k =>
  Option.bind (mkO (⟨0,0,⟨#[]⟩,0,0,⟨0,0⟩,[],0,0,[],[],[],[]⟩ : aq) (i64.wrap ((l.length:Int) + 1))) fun xs=>Option.bind (vwO l.length 0 k) fun _=>Option.bind (u4 xs 0 xs.length ((l.drop (Int.toNat 0)).take (k.toNat - Int.toNat 0))) fun zs=>Option.bind (aw zs k) fun _=>Option.bind (vwO (zs.set k.toNat a).length (i64.wrap (k + 1)) ((zs.set k.toNat a).length:Int)) fun _=>Option.bind (vwO l.length k (l.length:Int)) fun _=>Option.bind (u4 (zs.set k.toNat a) (i64.wrap (k + 1)).toNat (((zs.set k.toNat a).length:Int)).toNat ((l.drop k.toNat).take (((l.length:Int)).toNat - k.toNat))) fun r=>some (((),(),()),r):=by kernel_rfl
theorem Cb {l:List aq} {a:aq} (hl:l.length≤900000) (h:∀ x∈l,x.fId≠a.fId) : EL l a=some (((),(),()),dn aq.fId l a):=by
 rw [Pc,xy l (fun x=>decide (x.fId < a.fId)) (an (by omega)) (fun k x hx=>by
  have hk:=(zg.1 hx).1
  simp only [bM hx,if_true,aD hx,zb,a6 hk (show l.length≤1000000 by omega)]) (by simp only [bE,zf,if_false,zb])]
 simp only [zb]
 rw [← OS aq.fId l a h]
 have hk:=oX (fun x:aq=>decide (x.fId < a.fId)) l
 generalize (l.takeWhile fun x=>decide (x.fId < a.fId)).length=k at *
 have v1:vwO l.length 0 (k:Int)=some ():=by
  unfold vwO
  rw [if_pos ⟨by omega,by omega,by omega,by omega⟩]
 have v2:vwO l.length (k:Int) (l.length:Int)=some ():=by
  unfold vwO
  rw [if_pos ⟨by omega,by omega,by omega,by omega⟩]
 have t1:(l.drop (Int.toNat 0)).take ((k:Int).toNat - Int.toNat 0)=l.take k:=by simp
 have t2:(l.drop (k:Int).toNat).take (((l.length:Int)).toNat - (k:Int).toNat)=l.drop k:=by
  rw [zt,zt,List.take_of_length_le (by simp)]
 rw [t2,v1,v2,t1]
 have g:=aaS l (⟨0,0,⟨#[]⟩,0,0,⟨0,0⟩,[],0,0,[],[],[],[]⟩ : aq) a k hk hl
 rw [mS hk,jQ hk] at g
 simp only [zb] at g
 have g2:=congrArg (Option.map (fun r=>((((),(),()) : Unit×Unit×Unit),r))) g
 simp only [Option.map_bind,Function.comp_def,Option.map_some] at g2
 simp only [zb]
 exact g2
noncomputable def SE (s:aa) (a:aq) : Option Int:=qF (s,(a,()))
theorem Uh (s:aa) (a:aq) : SE s a=Option.bind (FO a) fun r=>if (!r)=true then some 1 else Option.bind (Sc s.aj a.fId) fun r=>if decide (r≥0)=true then some 7 else Option.bind (Pz s.aj) fun r=>if decide (r≥16)=true then some 4 else Option.bind (Wr s.bN a.bC) fun r=>if (!r)=true then some 19 else some 0:=by kernel_rfl
noncomputable def D1 (s:aa) (a:aq) : Option (aa×Int):=oN (s,(a,()))
theorem Oy (s:aa) (a:aq) : D1 s a=Option.bind (Pj s) fun r=>Option.bind (SE s a) fun e=>if (e==0)=true then Option.bind (vM r.2.aj) fun r2=>Option.bind (J5 a) fun r3=>Option.bind (Lw r3 s.cO) fun r4=>Option.bind (EL r2.2 r4) fun r5=>some ({ r.2 with aj:=r5.2 },e) else some (r.2,e):=by kernel_rfl
theorem aaq (a:aq) : (decide (a.fId < 0)||decide (a.fId > 9999)||decide (a.cy < 0)||decide (a.cy > 99)||decide (a.bq < 0)||decide (a.bq > 9) || !(decide (a.a8.bD≥1)&&decide (a.a8.bD≤1073741824)) || !(decide (a.a8.be≥1)&&decide (a.a8.be≤1073741824))) = !KB a:=by
 unfold KB
 rw [Bool.eq_iff_iff]
 simp
 omega
theorem LI {s:aa} {a:aq} (hs:KH s) (hl:s.aj.length≤900000) (ha:SzL a) : ∃ r,D1 s a=some r∧kI s a=some r∧(r.2=0∨r.1=s):=by
 have hl':s.aj.length≤1000000:=by omega
 rw [Oy,TS hs,Uh,Nb,TG]
 unfold kI
 simp only [CD,orB,zb,dH s a.fId hl',p5 _ _ hs.conf,Wq _ _ hs.conf,Ud hl',Uc s hl',aaq]
 cases KB a with
 | false=>exact ⟨(s,1),rfl,rfl,.inr rfl⟩
 | true =>
  simp only [Bool.not_true,zf,if_false]
  rcases J3 (fun x:aq=>x.fId==a.fId) s.aj hl' with ⟨i,hi,g1,g2,g3⟩ | ⟨g1,g2⟩
  ·have d:decide ((i:Int)≥0)=true:=by simp
   rw [g1,(WI hi g2 g3).2]
   simp only [zb,d,if_true]
   exact ⟨(s,7),rfl,rfl,.inr rfl⟩
  ·have d:decide ((-1:Int)≥0)=false:=by decide
   rw [g1,(WG g2).2]
   simp only [zb,d,zf,if_false]
   have hn:∀ x∈s.aj,x.fId≠a.fId:=fun x hx=>by simpa using g2 x hx
   cases hc:decide ((((s.aj.filter dX).length:Nat) : Int)≥16) with
   | true=>exact ⟨(s,4),rfl,rfl,.inr rfl⟩
   | false =>
    have hc':(s.aj.filter dX).length < 16:=by have:=of_decide_eq_false hc; omega
    simp only [zf,if_false]
    cases wQ s.bN a.bC with
    | false=>exact ⟨(s,19),rfl,rfl,.inr rfl⟩
    | true =>
     simp only [Bool.not_true,zf,if_false,zb,Ir ha,Lv,tT,BEq.rfl,if_true]
     rcases Nat.lt_or_ge s.aj.length 16 with h16 | h16
     ·have d2:decide ((s.aj.length:Int)≥16)=false:=decide_eq_false (by omega)
      simp only [d2,zf,if_false,zb]
      rw [Js h16,gZ s _ (by omega)]
      simp only [zb]
      rw [Cb (a:=VE a s.cO) hl hn]
      exact ⟨_,rfl,rfl,.inl rfl⟩
     ·have d2:decide ((s.aj.length:Int)≥16)=true:=decide_eq_true (by omega)
      have he:(s.aj.eraseP fun a=>!dX a).length≤s.aj.length:=List.length_eraseP_le
      simp only [d2,if_true,TX s hl',zb]
      rw [Jt h16 hl' hc',gZ { s with aj:=s.aj.eraseP fun a=>!dX a } _ (by show (s.aj.eraseP _).length + 1≤_; omega)]
      simp only [zb]
      rw [Cb (a:=VE a s.cO) (by omega) (fun x hx=>hn x (List.mem_of_mem_eraseP hx))]
      exact ⟨_,rfl,rfl,.inl rfl⟩
noncomputable def Kw (s:aa) (a:aq) : Option Bool:=Option.bind (D1 s a) fun r=>Option.bind (kI s a) fun q=>Option.bind (if (r.2==q.2)=true then Option.bind (vk r.1 q.1) fun b=>some b else some false) fun b=>Option.bind (if b=true then Option.bind (if (r.2==0)=true then some true else Option.bind (vk r.1 s) fun b=>some b) fun q=>some q else some false) fun b=>some b
theorem Oz (x:aH) (a:aq) (good:Bool) (at_:Int) : nw (x,(a,(good,(at_,()))))=Option.bind R9 fun r=>if (!r)=true then some false else Option.bind (nP x) fun r=>Option.bind (if (!r)=true then some true else Option.bind (WW a) fun r=>some (!r)) fun q=>if q=true then some true else Option.bind (dU x) fun s=>if good=true then Option.bind (sR s.bN) fun l=>Option.bind (nR a.fId 30) fun r2=>Option.bind (nR a.cy 100) fun r3=>Option.bind (nR a.bq 10) fun r4=>Option.bind (nR at_ (l.length:Int)) fun r5=>Option.bind (aw l r5) fun p=>Option.bind (nR a.a8.bD 50) fun r6=>Option.bind (nR a.a8.be 50) fun r7=>Kw s { a with fId:=r2,bC:=p,cy:=r3,bq:=r4,a8:=⟨i64.wrap (1 + r6),i64.wrap (1 + r7)⟩ } else Kw s a:=by kernel_rfl
theorem IZ {M:Nat} {s:aa} (h:OkS M s) (hM:M + 100≤100000) {a:aq} (ha:SzL a) : Kw s a=some true:=by
 have hs:=h.sz.short (show M≤1000000 by omega)
 obtain ⟨r,h1,h2,h3⟩:=LI hs (by have:=h.sz.apps; omega) ha
 obtain ⟨r',k1,k2⟩:=HI h hM a ha.queue
 obtain rfl:r=r':=Option.some.inj (h2.symm.trans k1)
 have hr:=k2.sz.short (show M + 10≤1000000 by omega)
 unfold Kw
 rw [h1,h2]
 simp only [zb,BEq.rfl,if_true,VS _ hr]
 rcases h3 with h3 | h3
 ·rw [h3]
  rfl
 ·rw [h3,VS _ hs]
  cases (r.2==0) <;> rfl
theorem AppsSubmit.plain (a0:aH) (_k0:aH.ok a0) (a1:aq) (_k1:aq.ok a1) (a2:Bool) (a3:Int) (_k3:wfI a3) : nw (a0,(a1,(a2,(a3,()))))=some true:=by
 rw [Oz,O9,aaf,WV]
 simp only [zb,Bool.not_true,zf,if_false]
 cases hf:(decide ((a0.fNs.length:Int)≤30)&&decide ((a0.mz.length:Int)≤80)) with
 | false=>rfl
 | true =>
  simp only [Bool.not_true,zf,if_false,zb]
  cases hg:(decide ((a1.bI.length:Int)≤20)&&decide ((a1.bP.length:Int)≤50)&&decide ((a1.dr.length:Int)≤50)&&decide ((a1.jO.length:Int)≤50)&&decide ((a1.jW.length:Int)≤50)&&decide ((a1.bC.size:Int)≤60)) with
  | false=>rfl
  | true =>
   have ha:=WU hg
   simp only [Bool.not_true,zf,if_false]
   rw [Bool.and_eq_true] at hf
   have hacts:a0.mz.length≤80:=by have:=zd hf.2; omega
   obtain ⟨s,h1,h2⟩:=XC a0 hacts
   rw [h1]
   simp only [zb]
   cases a2 with
   | false=>exact IZ h2 (by decide) ha
   | true =>
    simp only [if_true]
    obtain ⟨l,e1,e2,e3,e4⟩:=Ax h2.sz.conf
    obtain ⟨r2,f2,_⟩:=kK a1.fId (n:=30) (by decide) (by decide)
    obtain ⟨r3,f3,_⟩:=kK a1.cy (n:=100) (by decide) (by decide)
    obtain ⟨r4,f4,_⟩:=kK a1.bq (n:=10) (by decide) (by decide)
    obtain ⟨r5,f5,f6⟩:=kK a3 (n:=(l.length:Int)) (by omega) (by omega)
    obtain ⟨p,p1,p2⟩:=jt f6.1 f6.2
    obtain ⟨r6,f7,_⟩:=kK a1.a8.bD (n:=50) (by decide) (by decide)
    obtain ⟨r7,f8,_⟩:=kK a1.a8.be (n:=50) (by decide) (by decide)
    rw [e1]
    simp only [zb]
    rw [f2,f3,f4]
    simp only [zb]
    rw [f5]
    simp only [zb]
    rw [p1,f7,f8]
    simp only [zb]
    exact IZ h2 (by decide) ⟨e4 p p2,ha.asks,ha.grants,ha.kills,ha.told,ha.lost⟩
section
set_option maxHeartbeats 0
theorem sW:∀ (w r:List Char),(∀ c∈w,c≠' ')→wordsSigns (w ++ ' ' :: r)=w::wordsSigns r
 | [],r,_=>by simp [wordsSigns]
 | c::w,r,h=>by
  have h1:c≠' ':=h c (List.mem_cons_self ..)
  have h2:=sW w r (fun d hd=>h d (List.mem_cons_of_mem _ hd))
  rw [List.cons_append,wordsSigns.eq_3 _ _ (fun e=>h1 e),h2]
theorem Fy (R:List (List Char)) : stripLifts liftWords (['c','u','t'] :: R)=([],['c','u','t'] :: R):=by kernel_rfl
theorem Wk (P:Program) {R:List (List Char)} (h:behindMainWord (wordsSigns P.initOrder.toList) = ['c','u','t'] :: R) : P.make=some .cut:=by
 unfold Program.make
 rw [h]
 rfl
theorem WC (P:Program) {R:List (List Char)} (h:behindMainWord (wordsSigns P.initOrder.toList) = ['c','u','t'] :: R) : P.headLifts = []:=by
 unfold Program.headLifts
 rw [h,Fy]
 rfl
theorem Tw (P:Program) {R:List (List Char)} (h:behindMainWord (wordsSigns P.initOrder.toList) = ['c','u','t'] :: R) : P.liftsFinal=false:=by
 unfold Program.liftsFinal
 rw [h,WC P h]
 rfl
theorem T0 (P:Program) {R:List (List Char)} (h:behindMainWord (wordsSigns P.initOrder.toList) = ['c','u','t'] :: R) (h1:P.laysLater=false) (h2:P.bearsReflect=false) (h3:P.doorFits [] = true) : P.mayEnter=true:=by
 unfold Program.mayEnter
 rw [h]
 dsimp only
 rw [Fy,h1,h2]
 dsimp only
 rw [h3]
 rfl
theorem Y8 (P:Program) (h:P.doorRows = []) : P.doorFits [] = true:=by
 unfold Program.doorFits
 rw [h]
 rfl
theorem io:prog.initOrder = "harness ecb36c0af394d46bca573ace7f10ef24f6dfa040f45835f5fd4445f34a207c8c cut at dispatch/dispatchlaw10.AppsSubmit dispatch/dispatchlaw10.AppsAsks dispatch/dispatchlaw10.AppsQueue" := by kernel_rfl
theorem ioL:prog.initOrder.toList = ['h','a','r','n','e','s','s'] ++ ' ' :: (['e','c','b','3','6','c','0','a','f','3','9','4','d','4','6','b','c','a','5','7','3','a','c','e','7','f','1','0','e','f','2','4','f','6','d','f','a','0','4','0','f','4','5','8','3','5','f','5','f','d','4','4','4','5','f','3','4','a','2','0','7','c','8','c'] ++ ' ' :: (['c','u','t'] ++ ' ' :: ['a','t',' ','d','i','s','p','a','t','c','h','/','d','i','s','p','a','t','c','h','l','a','w','1','0','.','A','p','p','s','S','u','b','m','i','t',' ','d','i','s','p','a','t','c','h','/','d','i','s','p','a','t','c','h','l','a','w','1','0','.','A','p','p','s','A','s','k','s',' ','d','i','s','p','a','t','c','h','/','d','i','s','p','a','t','c','h','l','a','w','1','0','.','A','p','p','s','Q','u','e','u','e'])):=by rw [io]; exact String.toList_ofList
theorem ioW:∃ R,wordsSigns prog.initOrder.toList = ['h','a','r','n','e','s','s'] :: ['e','c','b','3','6','c','0','a','f','3','9','4','d','4','6','b','c','a','5','7','3','a','c','e','7','f','1','0','e','f','2','4','f','6','d','f','a','0','4','0','f','4','5','8','3','5','f','5','f','d','4','4','4','5','f','3','4','a','2','0','7','c','8','c'] :: ['c','u','t'] :: R:=by
 rw [ioL,sW _ _ (by decide),sW _ _ (by decide),sW _ _ (by decide)]
 exact ⟨_,rfl⟩
theorem ioB:∃ R,behindMainWord (wordsSigns prog.initOrder.toList) = ['c','u','t'] :: R:=by
 obtain ⟨R,h⟩:=ioW
 rw [h]
 exact ⟨R,by kernel_rfl⟩
theorem aaQ:prog.laysLater=false:=by kernel_rfl
theorem aa4:prog.bearsReflect=false:=by kernel_rfl
theorem aaZ:prog.doorRows = []:=by kernel_rfl
theorem aaj:prog.mayEnter=true:=by
 obtain ⟨R,h⟩:=ioB
 exact T0 _ h aaQ aa4 (Y8 _ aaZ)
theorem aaO:prog.liftsFinal=false:=by
 obtain ⟨R,h⟩:=ioB
 exact Tw _ h
theorem aaL:prog.make=some .cut:=by
 obtain ⟨R,h⟩:=ioB
 exact Wk _ h
end
end Go.Proofs.YtmjkjaahbgikjaaGreat
