/- My texts, in one. -/
import Derived.Test.YtkmpjphbkhpgbaaZC
set_option linter.all false
set_option maxRecDepth 100000
set_option maxHeartbeats 4000000
namespace Go.Proofs.Ytkmpjphbkhpgbaa
open Go.RowKit
open IntKind (i64)
open Go.Proofs.Try (prog)
def SmP (l:List ab) : Prop:=l.length≤12∧∀ o∈l,(0≤o.am.aL∧o.am.aL≤1073741824∧0≤o.am.an∧o.am.an≤1073741824)∧-1000000000≤o.ae∧o.ae≤1000000000∧-1000000000≤o.ah∧o.ah≤1000000000
theorem oG (k u s:Int) : ∀ (l:List ab) (v v':ao) (B:Int),0≤v.aL→v.aL≤v'.aL→v'.aL≤B→0≤v.an→v.an≤v'.an→v'.an≤B→B + l.length * 1073741824≤4611686018427387904 →
  (∀ o∈l,(0≤o.am.aL∧o.am.aL≤1073741824∧0≤o.am.an∧o.am.an≤1073741824)∧(br o k u=true→br o k s=true)) →
  0≤(l.foldl (fun v o=>if br o k u=true then dU v o.am else v) v).aL∧(l.foldl (fun v o=>if br o k u=true then dU v o.am else v) v).aL≤(l.foldl (fun v o=>if br o k s=true then dU v o.am else v) v').aL∧(l.foldl (fun v o=>if br o k s=true then dU v o.am else v) v').aL≤B + l.length * 1073741824 ∧
  0≤(l.foldl (fun v o=>if br o k u=true then dU v o.am else v) v).an∧(l.foldl (fun v o=>if br o k u=true then dU v o.am else v) v).an≤(l.foldl (fun v o=>if br o k s=true then dU v o.am else v) v').an∧(l.foldl (fun v o=>if br o k s=true then dU v o.am else v) v').an≤B + l.length * 1073741824
 | [],v,v',B,h1,h2,h3,h4,h5,h6,_,_=>by
  simp only [List.foldl_nil,List.length_nil]
  omega
 | o::l,v,v',B,h1,h2,h3,h4,h5,h6,hB,h=>by
  obtain ⟨⟨n1,n2,n3,n4⟩,hi⟩:=h o List.mem_cons_self
  rw [List.length_cons] at hB
  have hl : 0≤(l.length:Int):=Int.natCast_nonneg _
  have w:∀ (a b:Int),0≤a→a≤B→0≤b→b≤1073741824→i64.wrap (a + b)=a + b:=fun a b q1 q2 q3 q4=>bG (by omega) (by omega)
  simp only [List.foldl_cons]
  have key:∀ (x x':ao),0≤x.aL→x.aL≤x'.aL→x'.aL≤B + 1073741824→0≤x.an→x.an≤x'.an→x'.an≤B + 1073741824→_:=fun x x' g1 g2 g3 g4 g5 g6=>oG k u s l x x' (B + 1073741824) g1 g2 g3 g4 g5 g6 (by omega) (fun o ho=>h o (List.mem_cons_of_mem _ ho))
  have e:B + ((o::l).length:Int) * 1073741824=B + 1073741824 + (l.length:Int) * 1073741824:=by rw [List.length_cons]; omega
  rw [e]
  cases hu:br o k u with
  | true =>
   rw [hi hu]
   simp only [if_true]
   exact key _ _ (by show 0≤i64.wrap _; rw [w _ _ h1 (by omega) n1 n2]; omega) (by show i64.wrap _≤i64.wrap _; rw [w _ _ h1 (by omega) n1 n2,w _ _ (by omega) h3 n1 n2]; omega) (by show i64.wrap _≤_; rw [w _ _ (by omega) h3 n1 n2]; omega)
    (by show 0≤i64.wrap _; rw [w _ _ h4 (by omega) n3 n4]; omega) (by show i64.wrap _≤i64.wrap _; rw [w _ _ h4 (by omega) n3 n4,w _ _ (by omega) h6 n3 n4]; omega) (by show i64.wrap _≤_; rw [w _ _ (by omega) h6 n3 n4]; omega)
  | false =>
   simp only [zf,if_false]
   cases hs:br o k s with
   | true =>
    simp only [if_true]
    exact key _ _ h1 (by show _≤i64.wrap _; rw [w _ _ (by omega) h3 n1 n2]; omega) (by show i64.wrap _≤_; rw [w _ _ (by omega) h3 n1 n2]; omega) h4 (by show _≤i64.wrap _; rw [w _ _ (by omega) h6 n3 n4]; omega) (by show i64.wrap _≤_; rw [w _ _ (by omega) h6 n3 n4]; omega)
   | false =>
    simp only [zf,if_false]
    exact key _ _ h1 h2 (by omega) h4 h5 (by omega)
theorem wJ {l:List ab} (hl:SmP l) (v:ao) {p:ab} (hp : 0≤p.am.aL∧p.am.aL≤1073741824∧0≤p.am.an∧p.am.an≤1073741824) {u s:Int} (h:∀ o∈l,br o p.aw u=true→br o p.aw s=true) (hs:frV l v p s=true) : frV l v p u=true:=by
 have hlen:=hl.1
 have:=oG p.aw u s l ⟨0,0⟩ ⟨0,0⟩ 0 (by simp) (by simp) (by simp) (by simp) (by simp) (by simp) (by omega) (fun o ho=>⟨(hl.2 o ho).1,h o ho⟩)
 obtain ⟨a1,a2,a3,a4,a5,a6⟩:=this
 have e:∀ t,atV l p.aw t=l.foldl (fun v o=>if br o p.aw t=true then dU v o.am else v) ⟨0,0⟩:=fun t=>rfl
 rw [← e u] at a1 a2 a4 a5
 rw [← e s] at a2 a3 a5 a6
 unfold frV jU dU at hs ⊢
 simp only [Bool.and_eq_true,decide_eq_true_eq] at hs ⊢
 rw [bG (by omega) (by omega),bG (by omega) (by omega)] at hs ⊢
 omega
theorem qZ {l:List ab} (hl:SmP l) (v:ao) {p:ab} (hp : 0≤p.am.aL∧p.am.aL≤1073741824∧0≤p.am.an∧p.am.an≤1073741824) {u s:Int} (hs:frV l v p s=true) (hu:frV l v p u=false) : ∃ o∈l,br o p.aw u=true∧br o p.aw s=false:=by
 apply Classical.byContradiction
 intro hn
 have:=wJ hl v hp (u:=u) (s:=s) (fun o ho h=>by
  cases h2:br o p.aw s with
  | true=>rfl
  | false=>exact absurd ⟨o,ho,h,h2⟩ hn) hs
 rw [hu] at this
 cases this
theorem vD {o:ab} {k t:Int} (h1:br o k (t + 1)=true) (h2:br o k t=false) : o.ae=t + 1:=by
 unfold br at h1 h2
 simp only [Bool.and_eq_true,Bool.and_eq_false_iff,decide_eq_true_eq,decide_eq_false_iff_not] at h1 h2
 rcases h2 with (h2 | h2) | h2
 ·rw [h1.1.1] at h2; cases h2
 ·omega
 ·omega
theorem yx {o:ab} {k t:Int} (h1:br o k (t - 1)=true) (h2:br o k t=false) : o.ah=t:=by
 unfold br at h1 h2
 simp only [Bool.and_eq_true,Bool.and_eq_false_iff,decide_eq_true_eq,decide_eq_false_iff_not] at h1 h2
 rcases h2 with (h2 | h2) | h2
 ·rw [h1.1.1] at h2; cases h2
 ·omega
 ·omega
def wN (l:List ab) (v:ao) (p:ab) (t n:Int) : Bool:=frV l v p t && !(l.any fun o=>(decide (o.ae > t)&&decide (i64.wrap (o.ae - t) < n)) && !frV l v p o.ae)
theorem rf (l:List ab) (v:ao) (p:ab) (t n:Int) (hl:l.length≤1000000) : j9 l v p t n=some (wN l v p t n):=by
 unfold j9
 simp only [td l _ _ hl,R1_Plus_is,gr,zb]
 change (if (!frV l v p t)=true then _ else _) = _
 unfold wN
 cases h0:frV l v p t with
 | false=>rfl
 | true =>
  rw [if_neg (by decide)]
  rw [j8 l t n p v () hl,show bF l t n p v=(fun (_:Unit) x=>if ((decide (x.ae > t)&&decide (i64.wrap (x.ae - t) < n)) && !frV l v p x.ae)=true then some (.inr ((fun _=>(.inr false:Int⊕Bool)) x)) else some (.inl ())) from by
   funext _ x
   unfold bF
   simp only [td l _ _ hl,R1_Plus_is,gr,zb,nU]
   rfl,mo]
  simp only [zb,Bool.true_and]
  cases hf:l.find? (fun x=>(decide (x.ae > t)&&decide (i64.wrap (x.ae - t) < n)) && !frV l v p x.ae) with
  | none =>
   have:(l.any fun o=>(decide (o.ae > t)&&decide (i64.wrap (o.ae - t) < n)) && !frV l v p o.ae)=false:=by
    rw [List.any_eq_false]
    exact fun x hx=>(List.find?_eq_none.1 hf) x hx
   rw [this]; rfl
  | some x =>
   have h9:=List.find?_some hf
   have:(l.any fun o=>(decide (o.ae > t)&&decide (i64.wrap (o.ae - t) < n)) && !frV l v p o.ae)=true:=List.any_eq_true.2 ⟨x,List.mem_of_find?_eq_some hf,h9⟩
   rw [this]; rfl
theorem rg {l:List ab} (hl:SmP l) (v:ao) {p:ab} (hp : 0≤p.am.aL∧p.am.aL≤1073741824∧0≤p.am.an∧p.am.an≤1073741824) {t n:Int} (h0 : 0≤t) (h1:t≤1000000) (hn : 1≤n) : wN l v p t n=true↔∀ u,t≤u→u < t + n→frV l v p u=true:=by
 unfold wN
 rw [Bool.and_eq_true]
 constructor
 ·rintro ⟨ht,ha⟩
  have ha:∀ o∈l,o.ae > t→o.ae - t < n→frV l v p o.ae=true:=fun o ho q1 q2=>by
   cases hf:frV l v p o.ae with
   | true=>rfl
   | false =>
    have hb:=hl.2 o ho
    have:(l.any fun o=>(decide (o.ae > t)&&decide (i64.wrap (o.ae - t) < n)) && !frV l v p o.ae)=true:=List.any_eq_true.2 ⟨o,ho,by rw [hf,bG (by omega) (by omega),decide_eq_true q1,decide_eq_true q2]; rfl⟩
    rw [this] at ha
    cases ha
  have key:∀ k:Nat,(k:Int) < n→frV l v p (t + k)=true:=by
   intro k
   induction k with
   | zero=>intro _; simpa using ht
   | succ k ih =>
    intro hk
    have h3:=ih (by omega)
    cases hf:frV l v p (t + ((k + 1:Nat) : Int)) with
    | true=>rfl
    | false =>
     rw [show t + ((k + 1:Nat) : Int)=(t + k) + 1 by omega] at hf
     obtain ⟨o,ho,q1,q2⟩:=qZ hl v hp h3 hf
     have e:=vD q1 q2
     have:=ha o ho (by omega) (by omega)
     rw [e,hf] at this
     cases this
  intro u q1 q2
  have:=key (u - t).toNat (by omega)
  rwa [show t + (((u - t).toNat:Nat) : Int)=u by omega] at this
 ·intro h
  refine ⟨h t (Int.le_refl _) (by omega),?_⟩
  rw [Bool.not_eq_true',List.any_eq_false]
  intro o ho hx
  have hb:=hl.2 o ho
  simp only [Bool.and_eq_true,decide_eq_true_eq,Bool.not_eq_true'] at hx
  obtain ⟨⟨q1,q2⟩,q3⟩:=hx
  rw [bG (by omega) (by omega)] at q2
  rw [h o.ae (by omega) (by omega)] at q3
  cases q3
theorem tH {l:List ab} (hl:SmP l) (v:ao) {p:ab} (hp : 0≤p.am.aL∧p.am.aL≤1073741824∧0≤p.am.an∧p.am.an≤1073741824) {n:Int} (hn : 1≤n) : ∀ (m:Nat) (t:Int),(t - p.ae).toNat=m→OkT (frV l v p) p.ae p.ah n t→∃ c∈p.ae::l.map (·.ah),OkT (frV l v p) p.ae p.ah n c∧c≤t
 | 0,t,hm,h=>by
  have:=h.1
  obtain rfl:t=p.ae:=by omega
  exact ⟨_,List.mem_cons_self,h,Int.le_refl _⟩
 | m + 1,t,hm,h=>by
  cases hf:frV l v p (t - 1) with
  | true =>
   obtain ⟨c,h1,h2,h3⟩:=tH hl v hp hn m (t - 1) (by omega) ⟨by omega,by have:=h.2.1; omega,fun u q1 q2=>by
    rcases Int.lt_or_le u t with q | q
    ·obtain rfl:u=t - 1:=by omega
     exact hf
    ·exact h.2.2 u q (by omega)⟩
   exact ⟨c,h1,h2,by omega⟩
  | false =>
   obtain ⟨o,ho,q1,q2⟩:=qZ hl v hp (h.2.2 t (Int.le_refl _) (by omega)) hf
   have e:=yx q1 q2
   exact ⟨t,List.mem_cons_of_mem _ (List.mem_map.2 ⟨o,ho,e⟩),h,Int.le_refl _⟩
theorem nS (p:ab) (n:Int) : ((((((decide (n < 1)||decide (n > 1000))||decide (p.ae < 0))||decide (p.ae > 1000000))||decide (p.ah < 0))||decide (p.ah > 1000000)) || !(decide (p.am.aL≥0)&&decide (p.am.aL≤1073741824)))=true∨(!(decide (p.am.an≥0)&&decide (p.am.an≤1073741824)))=true↔cS p n=false:=by
 unfold cS lA
 simp only [Bool.or_eq_true,Bool.not_eq_true',Bool.and_eq_false_iff,decide_eq_true_eq,decide_eq_false_iff_not]
 omega
theorem uU (l:List ab) (v:ao) (p:ab) (n:Int) (hl:SmP l) : ∃ r,ed l v p n=some r∧PlS l v p n r:=by
 have hlen:=hl.1
 unfold ed
 simp only [rV,zb,orB]
 cases hb:cS p n with
 | false =>
  rw [if_pos (by rw [Bool.or_eq_true]; exact (nS p n).2 hb)]
  exact ⟨_,rfl,.inl ⟨hb,rfl⟩⟩
 | true =>
  rw [if_neg (by rw [Bool.or_eq_true]; intro h; rw [(nS p n).1 h] at hb; cases hb)]
  obtain ⟨n1,n2,f1,f2,u1,u2,hp⟩:=lv hb
  have hw:∀ k:Int,-1≤k→k≤1000000000→i64.wrap (k + 1)=k + 1:=fun k h1 h2=>bG (by omega) (by omega)
  obtain ⟨r,e1,e2⟩:=bu (f:=dG l p n v) (fun st=>-1≤st.2∧st.2≤(l.length:Int)∧(0≤st.1→OkT (frV l v p) p.ae p.ah n st.1)∧(0≤st.2→OkT (frV l v p) p.ae p.ah n p.ae→0≤st.1∧st.1≤p.ae)∧(∀ (j:Nat) o,(j:Int) < st.2→l[j]? = some o→OkT (frV l v p) p.ae p.ah n o.ah→0≤st.1∧st.1≤o.ah))
   (fun st=>((l.length:Int) - st.2).toNat) (fun r=>(0≤r.1→OkT (frV l v p) p.ae p.ah n r.1)∧(OkT (frV l v p) p.ae p.ah n p.ae→0≤r.1∧r.1≤p.ae)∧(∀ o∈l,OkT (frV l v p) p.ae p.ah n o.ah→0≤r.1∧r.1≤o.ah)) (fun st ⟨h1,h2,h3,h4,h5⟩=>by
   unfold dG
   by_cases hlt:st.2 < (l.length:Int)
   ·have hmu:((l.length:Int) - (st.2 + 1)).toNat < ((l.length:Int) - st.2).toNat:=by omega
    have step:∀ t:Int,-1000000000≤t→t≤1000000000→(∀ b:Int×Int,b.2=st.2 + 1→(0≤b.1→OkT (frV l v p) p.ae p.ah n b.1)→(OkT (frV l v p) p.ae p.ah n t→0≤b.1∧b.1≤t)→(∀ c,0≤st.1∧st.1≤c→OkT (frV l v p) p.ae p.ah n c→0≤b.1∧b.1≤c)→(-1≤b.2∧b.2≤(l.length:Int)∧(0≤b.1→OkT (frV l v p) p.ae p.ah n b.1)∧(0≤b.2→OkT (frV l v p) p.ae p.ah n p.ae→0≤b.1∧b.1≤p.ae)∧(∀ (j:Nat) o,(j:Int) < b.2→l[j]? = some o→OkT (frV l v p) p.ae p.ah n o.ah→0≤b.1∧b.1≤o.ah))) →
      (∃ s',(if ((((decide (t≥p.ae)&&decide (t≤1000000))&&decide (i64.wrap (t + n)≤p.ah))&&(decide (st.1 < 0)||decide (t < st.1)))&&wN l v p t n)=true then some (.inl (t,st.2 + 1)) else some (.inl (st.1,st.2 + 1)) : Option ((Int×Int)⊕(Int×Int)))=some (.inl s')∧(-1≤s'.2∧s'.2≤(l.length:Int)∧(0≤s'.1→OkT (frV l v p) p.ae p.ah n s'.1)∧(0≤s'.2→OkT (frV l v p) p.ae p.ah n p.ae→0≤s'.1∧s'.1≤p.ae)∧(∀ (j:Nat) o,(j:Int) < s'.2→l[j]? = some o→OkT (frV l v p) p.ae p.ah n o.ah→0≤s'.1∧s'.1≤o.ah))∧((l.length:Int) - s'.2).toNat < ((l.length:Int) - st.2).toNat):=by
     intro t t1 t2 hnext
     split
     ·rename_i hc
      simp only [Bool.and_eq_true,Bool.or_eq_true,decide_eq_true_eq] at hc
      obtain ⟨⟨⟨⟨c1,c2⟩,c3⟩,c4⟩,c5⟩:=hc
      rw [bG (by omega) (by omega)] at c3
      have hok:OkT (frV l v p) p.ae p.ah n t:=⟨c1,c3,(rg hl v hp (by omega) c2 n1).1 c5⟩
      refine ⟨_,rfl,hnext (t,st.2 + 1) rfl (fun _=>hok) (fun _=>⟨by show 0≤t; omega,Int.le_refl _⟩) (fun c ⟨q1,q2⟩ _=>⟨by show 0≤t; omega,by show t≤c; omega⟩),hmu⟩
     ·rename_i hc
      refine ⟨_,rfl,hnext (st.1,st.2 + 1) rfl h3 (fun hok=>?_) (fun c q _=>q),hmu⟩
      have c1:=hok.1
      have c3:=hok.2.1
      have c5:=(rg hl v hp (by omega) (by omega) n1).2 hok.2.2
      apply Classical.byContradiction
      intro hn
      apply hc
      simp only [Bool.and_eq_true,Bool.or_eq_true,decide_eq_true_eq]
      rw [bG (by omega) (by omega)]
      exact ⟨⟨⟨⟨c1,by omega⟩,c3⟩,by simp only [] at hn; omega⟩,c5⟩
    by_cases h0:st.2≥0
    ·obtain ⟨k,hk⟩:=Int.eq_ofNat_of_zero_le h0
     have hk':k < l.length:=by omega
     have hx:=zq hk'
     have hbd:=hl.2 _ (List.getElem_mem hk')
     have hi:cp l st.2=some l[k]:=by rw [hk]; exact cN hx
     simp only [hlt,h0,decide_true,if_true,hi,rf l _ _ _ _ (Nat.le_trans hlen (by decide)),nU,orB,zb,hw _ h1 (by omega)]
     refine .inl (step l[k].ah (by omega) (by omega) fun b hb2 g1 g2 g3=>⟨by omega,by omega,g1,fun _ hok=>g3 _ (h4 h0 hok) hok,fun j o hj ho hok=>?_⟩)
     by_cases hjk:j=k
     ·subst hjk
      rw [hx] at ho
      injection ho with ho
      subst ho
      exact g2 hok
     ·exact g3 _ (h5 j o (by omega) ho hok) hok
    ·simp only [hlt,h0,decide_true,if_true,decide_false,zf,if_false,rf l _ _ _ _ (Nat.le_trans hlen (by decide)),nU,orB,zb,hw _ h1 (by omega)]
     refine .inl (step p.ae (by omega) (by omega) fun b hb2 g1 g2 g3=>⟨by omega,by omega,g1,fun _ hok=>g2 hok,fun j o hj ho hok=>by omega⟩)
   ·simp only [hlt,decide_false,zf,if_false]
    refine .inr ⟨_,rfl,h3,fun hok=>h4 (by omega) hok,fun o ho hok=>?_⟩
    obtain ⟨j,hj,rfl⟩:=List.getElem_of_mem ho
    exact h5 j _ (by omega) (zq hj) hok) ar (-1,-1) ⟨by simp,by show (-1:Int)≤_; omega,fun h=>by simp at h,fun h=>by simp at h,fun j o hj=>by simp only [] at hj; omega⟩ (by show ((l.length:Int) - (-1)).toNat < ar; unfold ar; omega)
  rw [e1]
  simp only [zb]
  obtain ⟨g1,g2,g3⟩:=e2
  have hleast:∀ t,OkT (frV l v p) p.ae p.ah n t→0≤r.1∧r.1≤t:=fun t ht=>by
   obtain ⟨c,hc,hok,hct⟩:=tH hl v hp n1 _ t rfl ht
   have : 0≤r.1∧r.1≤c:=by
    rcases List.mem_cons.1 hc with e | e
    ·subst e; exact g2 hok
    ·obtain ⟨o,ho,rfl⟩:=List.mem_map.1 e
     exact g3 o ho hok
   exact ⟨this.1,Int.le_trans this.2 hct⟩
  split
  ·rename_i hd
   have hd:r.1 < 0:=zd hd
   exact ⟨_,rfl,.inr ⟨hb,.inr ⟨rfl,fun t ht=>by have:=(hleast t ht).1; omega⟩⟩⟩
  ·rename_i hd
   have hd : ¬ r.1 < 0:=fun e=>hd (decide_eq_true e)
   exact ⟨_,rfl,.inr ⟨hb,.inl ⟨r.1,rfl,g1 (by omega),fun t ht=>(hleast t ht).2⟩⟩⟩
noncomputable def aQ (a n:Int) : Option Int:=gu (a,(n,()))
noncomputable def ji (p:ab) : Option ab:=jx (p,())
noncomputable def jQ:Option Bool:=im ()
theorem sa (a n:Int) : aQ a n=Option.bind (xH a n) fun q=>if decide (q < 0)=true then some (i64.wrap (q + n)) else some q:=by kernel_rfl
theorem aF {a n:Int} (h0 : 0 < n) (h1:n≤1000000) : ∃ r:Int,aQ a n=some r∧0≤r∧r < n:=by
 have hlt:=Int.tmod_lt_of_pos a h0
 have hgt:=Int.lt_tmod_of_pos a h0
 rw [sa]
 unfold xH
 rw [if_neg (by omega)]
 simp only [zb]
 split
 ·rename_i h
  have h:=zd h
  exact ⟨_,rfl,by rw [IntKind.wrap_i64]; omega,by rw [IntKind.wrap_i64]; omega⟩
 ·rename_i h
  have h : ¬ Int.tmod a n < 0:=fun e=>h (by simpa using e)
  exact ⟨_,rfl,by omega,by omega⟩
theorem wG (p:ab) : ji p=Option.bind (aQ p.fId 20) fun r=>Option.bind (aQ p.aw 2) fun r1=>Option.bind (aQ p.ae 40) fun r2=>Option.bind (aQ p.ah 60) fun r3=>Option.bind (aQ p.am.aL 6) fun r4=>Option.bind (aQ p.am.an 6) fun r5=>some ⟨r,r1,r2,r3,⟨r4,r5⟩⟩:=by kernel_rfl
def xz (q:ab) : Prop:=0≤q.fId∧q.fId < 20∧0≤q.aw∧q.aw < 2∧0≤q.ae∧q.ae < 40∧0≤q.ah∧q.ah < 60∧0≤q.am.aL∧q.am.aL < 6∧0≤q.am.an∧q.am.an < 6
theorem kC (p:ab) : ∃ q,ji p=some q∧xz q:=by
 obtain ⟨a,a1,a2,a3⟩:=aF (a:=p.fId) (n:=20) (by omega) (by omega)
 obtain ⟨b,b1,b2,b3⟩:=aF (a:=p.aw) (n:=2) (by omega) (by omega)
 obtain ⟨c,c1,c2,c3⟩:=aF (a:=p.ae) (n:=40) (by omega) (by omega)
 obtain ⟨d,d1,d2,d3⟩:=aF (a:=p.ah) (n:=60) (by omega) (by omega)
 obtain ⟨e,e1,e2,e3⟩:=aF (a:=p.am.aL) (n:=6) (by omega) (by omega)
 obtain ⟨f,f1,f2,f3⟩:=aF (a:=p.am.an) (n:=6) (by omega) (by omega)
 rw [wG,a1,b1,c1,d1,e1,f1]
 exact ⟨_,rfl,a2,a3,b2,b3,c2,c3,d2,d3,e2,e3,f2,f3⟩
theorem iu {l:List ab} {v:ao} {p:ab} {n:Int} {r:Int×Int} (hl:l.length≤100000) (h:PlS l v p n r) : cK l v p n=some r:=by
 obtain ⟨r',h1,h2⟩:=ko l v p n hl
 rw [h1,PlS.unique h2 h]
theorem u7:jQ=Option.bind (cK [⟨0,0,0,7,⟨4,4⟩⟩] ⟨4,4⟩ ⟨0,0,0,100,⟨4,4⟩⟩ 5) fun r=>Option.bind (if (r.2==0)=true then some (r.1==7) else some false) fun q=>some q:=by kernel_rfl
theorem jd:jQ=some true:=by
 have hf:∀ u,frV [⟨0,0,0,7,⟨4,4⟩⟩] ⟨4,4⟩ ⟨0,0,0,100,⟨4,4⟩⟩ u = !(decide (0≤u)&&decide (u < 7)):=fun u=>by
  unfold frV atV br
  simp only [List.foldl_cons,List.foldl_nil]
  cases decide (0≤u) <;> cases decide (u < 7) <;> rfl
 rw [u7,iu (r:=(7,0)) (by simp) (.inr ⟨by decide,.inl ⟨7,rfl,⟨by decide,by decide,fun u h1 h2=>?_⟩,fun t ht=>?_⟩⟩)]
 ·rfl
 ·rw [hf]
  have:decide (u < 7)=false:=by simp; omega
  rw [this,Bool.and_false]; rfl
 ·have h1 : 0≤t:=ht.1
  have:=ht.2.2 t (Int.le_refl _) (by omega)
  rw [hf] at this
  simp only [Bool.not_eq_true',Bool.and_eq_false_iff,decide_eq_false_iff_not] at this
  omega
theorem SmP.of {l:List ab} (h1:l.length≤12) (h2:∀ o∈l,xz o) : SmP l:=⟨h1,fun o ho=>by
 obtain ⟨q1,q2,q3,q4,q5,q6,q7,q8,q9,q10,q11,q12⟩:=h2 o ho
 omega⟩
theorem v7 (l:List ab) (tot:ao) (p:ab) (long t:Int) : dq (l,(tot,(p,(long,(t,())))))=Option.bind jQ fun r=>if (!r)=true then some false else if decide ((l.length:Int) > 12)=true then some true else Option.bind (aN (fun st:List ab×Int=>if decide (st.2 < (l.length:Int))=true then Option.bind (cp l st.2) fun x=>Option.bind (ji x) fun r=>Option.bind (fI st.1 [r]) fun zs=>some (.inl (zs,i64.wrap (st.2 + 1))) else some (.inr (st.1,st.2))) ar (([] : List ab),(0:Int))) fun st:List ab×Int=>Option.bind (aQ tot.aL 12) fun r=>Option.bind (aQ tot.an 12) fun r1=>Option.bind (cK st.1 ⟨r,r1⟩ p long) fun r2=>Option.bind (ed st.1 ⟨r,r1⟩ p long) fun r3=>Option.bind (if (r2.1 != r3.1)=true then some true else some (r2.2 != r3.2)) fun q=>if q=true then some false else Option.bind (ji p) fun r4=>Option.bind (aQ long 20) fun r5=>Option.bind (cK st.1 ⟨r,r1⟩ ⟨r4.fId,r4.aw,r4.ae,i64.wrap (r4.ah + 40),r4.am⟩ (i64.wrap (1 + r5))) fun r6=>Option.bind (aQ long 20) fun r7=>Option.bind (ed st.1 ⟨r,r1⟩ ⟨r4.fId,r4.aw,r4.ae,i64.wrap (r4.ah + 40),r4.am⟩ (i64.wrap (1 + r7))) fun r8=>Option.bind (if (r6.1==r8.1)=true then some (r6.2==r8.2) else some false) fun q=>Option.bind (if q=true then Option.bind (atP st.1 0 t) fun a=>Option.bind (ic st.1 0 t) fun b=>some (a.aL==b.aL&&a.an==b.an) else some false) fun q=>Option.bind (if q=true then Option.bind (aQ t 60) fun c=>Option.bind (atP st.1 1 c) fun a=>Option.bind (aQ t 60) fun c=>Option.bind (ic st.1 1 c) fun b=>some (a.aL==b.aL&&a.an==b.an) else some false) fun q=>some q:=by kernel_rfl
theorem sQ (l:List ab) (hl:l.length≤12) : ∃ st,aN (fun st:List ab×Int=>if decide (st.2 < (l.length:Int))=true then Option.bind (cp l st.2) fun x=>Option.bind (ji x) fun r=>Option.bind (fI st.1 [r]) fun zs=>(some (.inl (zs,i64.wrap (st.2 + 1))) : Option ((List ab×Int)⊕(List ab×Int))) else some (.inr (st.1,st.2))) ar (([] : List ab),(0:Int))=some st∧SmP st.1:=by
 obtain ⟨r,h1,h2⟩:=bu (f:=fun st:List ab×Int=>if decide (st.2 < (l.length:Int))=true then Option.bind (cp l st.2) fun x=>Option.bind (ji x) fun r=>Option.bind (fI st.1 [r]) fun zs=>(some (.inl (zs,i64.wrap (st.2 + 1))) : Option ((List ab×Int)⊕(List ab×Int))) else some (.inr (st.1,st.2)))
  (fun st=>∃ k:Nat,st.2=(k:Int)∧k≤l.length∧st.1.length=k∧∀ o∈st.1,xz o) (fun st=>l.length - st.2.toNat) (fun r=>SmP r.1) (fun st ⟨k,e1,e2,e3,e4⟩=>by
   simp only [e1]
   rcases Nat.lt_or_ge k l.length with hlt | hge
   ·have d1:decide ((k:Int) < (l.length:Int))=true:=by simpa using hlt
    obtain ⟨q,q1,q2⟩:=kC l[k]
    rw [if_pos d1,cN (zq hlt)]
    simp only [zb,q1]
    rw [j7 (by rw [e3,List.length_singleton]; omega)]
    simp only [zb]
    rw [eL hlt (by omega)]
    refine .inl ⟨_,rfl,⟨k + 1,rfl,hlt,by simp [e3],fun o ho=>?_⟩,by simp only [zt]; omega⟩
    rcases List.mem_append.1 ho with h | h
    ·exact e4 o h
    ·rw [List.mem_singleton.1 h]; exact q2
   ·have d1:decide ((k:Int) < (l.length:Int))=false:=by simp; omega
    rw [if_neg (by rw [d1]; decide)]
    exact .inr ⟨_,rfl,SmP.of (by show st.1.length≤12; omega) e4⟩) ar ([],0) ⟨0,rfl,Nat.zero_le _,rfl,fun o h=>by cases h⟩ (by have:=di (n:=l.length) (by omega); show l.length - (0:Int).toNat < ar; omega)
 exact ⟨r,h1,h2⟩
theorem mz {l:List ab} (hl:SmP l) (v:ao) (p:ab) (n:Int) : ∃ r,cK l v p n=some r∧ed l v p n=some r:=by
 have hlen:=hl.1
 obtain ⟨r,h1,h2⟩:=ko l v p n (by omega)
 obtain ⟨r',h1',h2'⟩:=uU l v p n hl
 exact ⟨r,h1,by rw [h1',PlS.unique h2' h2]⟩
theorem PlanPlaces.plain (a0:(List ab)) (_k0:(∀ z∈a0,ab.ok z)∧a0.length≤maxLen) (a1:ao) (_k1:ao.ok a1) (a2:ab) (_k2:ab.ok a2) (a3:Int) (_k3:wfI a3) (a4:Int) (_k4:wfI a4) : dq (a0,(a1,(a2,(a3,(a4,())))))=some true:=by
 rw [v7,jd]
 simp only [zb,Bool.not_true,zf,if_false]
 split
 ·rfl
 rename_i hd
 have hl:a0.length≤12:=by
  apply Classical.byContradiction
  intro h
  exact hd (decide_eq_true (by omega))
 obtain ⟨st,e1,hs⟩:=sQ a0 hl
 have hst:=hs.1
 rw [e1]
 simp only [zb]
 obtain ⟨m,m1,m2,m3⟩:=aF (a:=a1.aL) (n:=12) (by omega) (by omega)
 obtain ⟨c,c1,c2,c3⟩:=aF (a:=a1.an) (n:=12) (by omega) (by omega)
 obtain ⟨g,g1,g2⟩:=kC a2
 obtain ⟨w,w1,w2,w3⟩:=aF (a:=a3) (n:=20) (by omega) (by omega)
 obtain ⟨y,y1,y2,y3⟩:=aF (a:=a4) (n:=60) (by omega) (by omega)
 obtain ⟨r,p1,p2⟩:=mz hs ⟨m,c⟩ a2 a3
 obtain ⟨r',p1',p2'⟩:=mz hs ⟨m,c⟩ ⟨g.fId,g.aw,g.ae,i64.wrap (g.ah + 40),g.am⟩ (i64.wrap (1 + w))
 have hb:∀ x:Int,(x != x)=false:=fun x=>by simp
 have hb':∀ x:Int,(x==x)=true:=fun x=>by simp
 simp only [m1,c1,g1,w1,y1,p1,p2,p1',p2',zb,hb,hb',zf,if_false,if_true,qd _ _ _ (show st.1.length≤1000000 by omega),td _ _ _ (show st.1.length≤1000000 by omega),Bool.and_self]
 rfl
section
set_option maxHeartbeats 0
theorem fM:∀ (w r:List Char),(∀ c∈w,c≠(Char.ofNat 32))→wordsSigns (w++(Char.ofNat 32)::r)=w::wordsSigns r
 | [],r,_=>by simp [wordsSigns]
 | c::w,r,h=>by
  have h1:c≠(Char.ofNat 32):=h c (List.mem_cons_self ..)
  have h2:=fM w r (fun d hd=>h d (List.mem_cons_of_mem _ hd))
  rw [List.cons_append,wordsSigns.eq_3 _ _ (fun e=>h1 e),h2]
theorem nG (R:List (List Char)) : stripLifts liftWords ([(Char.ofNat 99),(Char.ofNat 117),(Char.ofNat 116)] :: R)=([],[(Char.ofNat 99),(Char.ofNat 117),(Char.ofNat 116)] :: R):=by kernel_rfl
theorem wt (P:Program) {R:List (List Char)} (h:behindMainWord (wordsSigns P.initOrder.toList) = [(Char.ofNat 99),(Char.ofNat 117),(Char.ofNat 116)] :: R) : P.make=some .cut:=by
 unfold Program.make
 rw [h]
 rfl
theorem wE (P:Program) {R:List (List Char)} (h:behindMainWord (wordsSigns P.initOrder.toList) = [(Char.ofNat 99),(Char.ofNat 117),(Char.ofNat 116)] :: R) : P.headLifts = []:=by
 unfold Program.headLifts
 rw [h,nG]
 rfl
theorem uZ (P:Program) {R:List (List Char)} (h:behindMainWord (wordsSigns P.initOrder.toList) = [(Char.ofNat 99),(Char.ofNat 117),(Char.ofNat 116)] :: R) : P.liftsFinal=false:=by
 unfold Program.liftsFinal
 rw [h,wE P h]
 rfl
theorem vh (P:Program) {R:List (List Char)} (h:behindMainWord (wordsSigns P.initOrder.toList) = [(Char.ofNat 99),(Char.ofNat 117),(Char.ofNat 116)] :: R) (h1:P.laysLater=false) (h2:P.bearsReflect=false) (h3:P.doorFits [] = true) : P.mayEnter=true:=by
 unfold Program.mayEnter
 rw [h]
 dsimp only
 rw [nG,h1,h2]
 dsimp only
 rw [h3]
 rfl
theorem yj (P:Program) (h:P.doorRows = []) : P.doorFits [] = true:=by
 unfold Program.doorFits
 rw [h]
 rfl
theorem io:prog.initOrder=(String.ofList [Char.ofNat 104,Char.ofNat 97,Char.ofNat 114,Char.ofNat 110,Char.ofNat 101,Char.ofNat 115,Char.ofNat 115,Char.ofNat 32,Char.ofNat 56,Char.ofNat 102,Char.ofNat 56,Char.ofNat 97,Char.ofNat 54,Char.ofNat 54,Char.ofNat 52,Char.ofNat 99,Char.ofNat 99,Char.ofNat 57,Char.ofNat 57,Char.ofNat 98,Char.ofNat 97,Char.ofNat 54,Char.ofNat 102,Char.ofNat 97,Char.ofNat 48,Char.ofNat 53,Char.ofNat 101,Char.ofNat 53,Char.ofNat 56,Char.ofNat 97,Char.ofNat 97,Char.ofNat 48,Char.ofNat 56,Char.ofNat 54,Char.ofNat 99,Char.ofNat 49,Char.ofNat 55,Char.ofNat 98,Char.ofNat 97,Char.ofNat 52,Char.ofNat 101,Char.ofNat 53,Char.ofNat 51,Char.ofNat 48,Char.ofNat 100,Char.ofNat 51,Char.ofNat 50,Char.ofNat 102,Char.ofNat 49,Char.ofNat 99,Char.ofNat 57,Char.ofNat 55,Char.ofNat 48,Char.ofNat 51,Char.ofNat 50,Char.ofNat 54,Char.ofNat 102,Char.ofNat 51,Char.ofNat 99,Char.ofNat 49,Char.ofNat 54,Char.ofNat 54,Char.ofNat 98,Char.ofNat 51,Char.ofNat 98,Char.ofNat 99,Char.ofNat 48,Char.ofNat 97,Char.ofNat 99,Char.ofNat 55,Char.ofNat 56,Char.ofNat 52,Char.ofNat 32,Char.ofNat 99,Char.ofNat 117,Char.ofNat 116,Char.ofNat 32,Char.ofNat 97,Char.ofNat 116,Char.ofNat 32,Char.ofNat 100,Char.ofNat 105,Char.ofNat 115,Char.ofNat 112,Char.ofNat 97,Char.ofNat 116,Char.ofNat 99,Char.ofNat 104,Char.ofNat 47,Char.ofNat 100,Char.ofNat 105,Char.ofNat 115,Char.ofNat 112,Char.ofNat 97,Char.ofNat 116,Char.ofNat 99,Char.ofNat 104,Char.ofNat 108,Char.ofNat 97,Char.ofNat 119,Char.ofNat 49,Char.ofNat 53,Char.ofNat 46,Char.ofNat 80,Char.ofNat 108,Char.ofNat 97,Char.ofNat 110,Char.ofNat 80,Char.ofNat 108,Char.ofNat 97,Char.ofNat 99,Char.ofNat 101,Char.ofNat 115,Char.ofNat 32,Char.ofNat 100,Char.ofNat 105,Char.ofNat 115,Char.ofNat 112,Char.ofNat 97,Char.ofNat 116,Char.ofNat 99,Char.ofNat 104,Char.ofNat 47,Char.ofNat 100,Char.ofNat 105,Char.ofNat 115,Char.ofNat 112,Char.ofNat 97,Char.ofNat 116,Char.ofNat 99,Char.ofNat 104,Char.ofNat 108,Char.ofNat 97,Char.ofNat 119,Char.ofNat 49,Char.ofNat 53,Char.ofNat 46,Char.ofNat 80,Char.ofNat 108,Char.ofNat 97,Char.ofNat 110,Char.ofNat 70,Char.ofNat 105,Char.ofNat 116,Char.ofNat 115,Char.ofNat 32,Char.ofNat 100,Char.ofNat 105,Char.ofNat 115,Char.ofNat 112,Char.ofNat 97,Char.ofNat 116,Char.ofNat 99,Char.ofNat 104,Char.ofNat 47,Char.ofNat 100,Char.ofNat 105,Char.ofNat 115,Char.ofNat 112,Char.ofNat 97,Char.ofNat 116,Char.ofNat 99,Char.ofNat 104,Char.ofNat 108,Char.ofNat 97,Char.ofNat 119,Char.ofNat 49,Char.ofNat 53,Char.ofNat 46,Char.ofNat 80,Char.ofNat 108,Char.ofNat 97,Char.ofNat 110,Char.ofNat 71,Char.ofNat 97,Char.ofNat 112,Char.ofNat 115,Char.ofNat 32,Char.ofNat 100,Char.ofNat 105,Char.ofNat 115,Char.ofNat 112,Char.ofNat 97,Char.ofNat 116,Char.ofNat 99,Char.ofNat 104,Char.ofNat 47,Char.ofNat 100,Char.ofNat 105,Char.ofNat 115,Char.ofNat 112,Char.ofNat 97,Char.ofNat 116,Char.ofNat 99,Char.ofNat 104,Char.ofNat 108,Char.ofNat 97,Char.ofNat 119,Char.ofNat 49,Char.ofNat 53,Char.ofNat 46,Char.ofNat 80,Char.ofNat 108,Char.ofNat 97,Char.ofNat 110,Char.ofNat 75,Char.ofNat 101,Char.ofNat 101,Char.ofNat 112,Char.ofNat 115,Char.ofNat 32,Char.ofNat 100,Char.ofNat 105,Char.ofNat 115,Char.ofNat 112,Char.ofNat 97,Char.ofNat 116,Char.ofNat 99,Char.ofNat 104,Char.ofNat 47,Char.ofNat 100,Char.ofNat 105,Char.ofNat 115,Char.ofNat 112,Char.ofNat 97,Char.ofNat 116,Char.ofNat 99,Char.ofNat 104,Char.ofNat 108,Char.ofNat 97,Char.ofNat 119,Char.ofNat 49,Char.ofNat 53,Char.ofNat 46,Char.ofNat 80,Char.ofNat 108,Char.ofNat 97,Char.ofNat 110,Char.ofNat 68,Char.ofNat 114,Char.ofNat 111,Char.ofNat 112,Char.ofNat 115,Char.ofNat 32,Char.ofNat 100,Char.ofNat 105,Char.ofNat 115,Char.ofNat 112,Char.ofNat 97,Char.ofNat 116,Char.ofNat 99,Char.ofNat 104,Char.ofNat 47,Char.ofNat 100,Char.ofNat 105,Char.ofNat 115,Char.ofNat 112,Char.ofNat 97,Char.ofNat 116,Char.ofNat 99,Char.ofNat 104,Char.ofNat 108,Char.ofNat 97,Char.ofNat 119,Char.ofNat 49,Char.ofNat 53,Char.ofNat 46,Char.ofNat 80,Char.ofNat 108,Char.ofNat 97,Char.ofNat 110,Char.ofNat 77,Char.ofNat 97,Char.ofNat 110,Char.ofNat 121]):=by kernel_rfl
theorem ioL:prog.initOrder.toList = [(Char.ofNat 104),(Char.ofNat 97),(Char.ofNat 114),(Char.ofNat 110),(Char.ofNat 101),(Char.ofNat 115),(Char.ofNat 115)] ++ (Char.ofNat 32)::([(Char.ofNat 56),(Char.ofNat 102),(Char.ofNat 56),(Char.ofNat 97),(Char.ofNat 54),(Char.ofNat 54),(Char.ofNat 52),(Char.ofNat 99),(Char.ofNat 99),(Char.ofNat 57),(Char.ofNat 57),(Char.ofNat 98),(Char.ofNat 97),(Char.ofNat 54),(Char.ofNat 102),(Char.ofNat 97),(Char.ofNat 48),(Char.ofNat 53),(Char.ofNat 101),(Char.ofNat 53),(Char.ofNat 56),(Char.ofNat 97),(Char.ofNat 97),(Char.ofNat 48),(Char.ofNat 56),(Char.ofNat 54),(Char.ofNat 99),(Char.ofNat 49),(Char.ofNat 55),(Char.ofNat 98),(Char.ofNat 97),(Char.ofNat 52),(Char.ofNat 101),(Char.ofNat 53),(Char.ofNat 51),(Char.ofNat 48),(Char.ofNat 100),(Char.ofNat 51),(Char.ofNat 50),(Char.ofNat 102),(Char.ofNat 49),(Char.ofNat 99),(Char.ofNat 57),(Char.ofNat 55),(Char.ofNat 48),(Char.ofNat 51),(Char.ofNat 50),(Char.ofNat 54),(Char.ofNat 102),(Char.ofNat 51),(Char.ofNat 99),(Char.ofNat 49),(Char.ofNat 54),(Char.ofNat 54),(Char.ofNat 98),(Char.ofNat 51),(Char.ofNat 98),(Char.ofNat 99),(Char.ofNat 48),(Char.ofNat 97),(Char.ofNat 99),(Char.ofNat 55),(Char.ofNat 56),(Char.ofNat 52)] ++ (Char.ofNat 32)::([(Char.ofNat 99),(Char.ofNat 117),(Char.ofNat 116)] ++ (Char.ofNat 32) :: [(Char.ofNat 97),(Char.ofNat 116),(Char.ofNat 32),(Char.ofNat 100),(Char.ofNat 105),(Char.ofNat 115),(Char.ofNat 112),(Char.ofNat 97),(Char.ofNat 116),(Char.ofNat 99),(Char.ofNat 104),(Char.ofNat 47),(Char.ofNat 100),(Char.ofNat 105),(Char.ofNat 115),(Char.ofNat 112),(Char.ofNat 97),(Char.ofNat 116),(Char.ofNat 99),(Char.ofNat 104),(Char.ofNat 108),(Char.ofNat 97),(Char.ofNat 119),(Char.ofNat 49),(Char.ofNat 53),(Char.ofNat 46),(Char.ofNat 80),(Char.ofNat 108),(Char.ofNat 97),(Char.ofNat 110),(Char.ofNat 80),(Char.ofNat 108),(Char.ofNat 97),(Char.ofNat 99),(Char.ofNat 101),(Char.ofNat 115),(Char.ofNat 32),(Char.ofNat 100),(Char.ofNat 105),(Char.ofNat 115),(Char.ofNat 112),(Char.ofNat 97),(Char.ofNat 116),(Char.ofNat 99),(Char.ofNat 104),(Char.ofNat 47),(Char.ofNat 100),(Char.ofNat 105),(Char.ofNat 115),(Char.ofNat 112),(Char.ofNat 97),(Char.ofNat 116),(Char.ofNat 99),(Char.ofNat 104),(Char.ofNat 108),(Char.ofNat 97),(Char.ofNat 119),(Char.ofNat 49),(Char.ofNat 53),(Char.ofNat 46),(Char.ofNat 80),(Char.ofNat 108),(Char.ofNat 97),(Char.ofNat 110),(Char.ofNat 70),(Char.ofNat 105),(Char.ofNat 116),(Char.ofNat 115),(Char.ofNat 32),(Char.ofNat 100),(Char.ofNat 105),(Char.ofNat 115),(Char.ofNat 112),(Char.ofNat 97),(Char.ofNat 116),(Char.ofNat 99),(Char.ofNat 104),(Char.ofNat 47),(Char.ofNat 100),(Char.ofNat 105),(Char.ofNat 115),(Char.ofNat 112),(Char.ofNat 97),(Char.ofNat 116),(Char.ofNat 99),(Char.ofNat 104),(Char.ofNat 108),(Char.ofNat 97),(Char.ofNat 119),(Char.ofNat 49),(Char.ofNat 53),(Char.ofNat 46),(Char.ofNat 80),(Char.ofNat 108),(Char.ofNat 97),(Char.ofNat 110),(Char.ofNat 71),(Char.ofNat 97),(Char.ofNat 112),(Char.ofNat 115),(Char.ofNat 32),(Char.ofNat 100),(Char.ofNat 105),(Char.ofNat 115),(Char.ofNat 112),(Char.ofNat 97),(Char.ofNat 116),(Char.ofNat 99),(Char.ofNat 104),(Char.ofNat 47),(Char.ofNat 100),(Char.ofNat 105),(Char.ofNat 115),(Char.ofNat 112),(Char.ofNat 97),(Char.ofNat 116),(Char.ofNat 99),(Char.ofNat 104),(Char.ofNat 108),(Char.ofNat 97),(Char.ofNat 119),(Char.ofNat 49),(Char.ofNat 53),(Char.ofNat 46),(Char.ofNat 80),(Char.ofNat 108),(Char.ofNat 97),(Char.ofNat 110),(Char.ofNat 75),(Char.ofNat 101),(Char.ofNat 101),(Char.ofNat 112),(Char.ofNat 115),(Char.ofNat 32),(Char.ofNat 100),(Char.ofNat 105),(Char.ofNat 115),(Char.ofNat 112),(Char.ofNat 97),(Char.ofNat 116),(Char.ofNat 99),(Char.ofNat 104),(Char.ofNat 47),(Char.ofNat 100),(Char.ofNat 105),(Char.ofNat 115),(Char.ofNat 112),(Char.ofNat 97),(Char.ofNat 116),(Char.ofNat 99),(Char.ofNat 104),(Char.ofNat 108),(Char.ofNat 97),(Char.ofNat 119),(Char.ofNat 49),(Char.ofNat 53),(Char.ofNat 46),(Char.ofNat 80),(Char.ofNat 108),(Char.ofNat 97),(Char.ofNat 110),(Char.ofNat 68),(Char.ofNat 114),(Char.ofNat 111),(Char.ofNat 112),(Char.ofNat 115),(Char.ofNat 32),(Char.ofNat 100),(Char.ofNat 105),(Char.ofNat 115),(Char.ofNat 112),(Char.ofNat 97),(Char.ofNat 116),(Char.ofNat 99),(Char.ofNat 104),(Char.ofNat 47),(Char.ofNat 100),(Char.ofNat 105),(Char.ofNat 115),(Char.ofNat 112),(Char.ofNat 97),(Char.ofNat 116),(Char.ofNat 99),(Char.ofNat 104),(Char.ofNat 108),(Char.ofNat 97),(Char.ofNat 119),(Char.ofNat 49),(Char.ofNat 53),(Char.ofNat 46),(Char.ofNat 80),(Char.ofNat 108),(Char.ofNat 97),(Char.ofNat 110),(Char.ofNat 77),(Char.ofNat 97),(Char.ofNat 110),(Char.ofNat 121)])):=by rw [io]; exact String.toList_ofList
theorem ioW:∃ R,wordsSigns prog.initOrder.toList = [(Char.ofNat 104),(Char.ofNat 97),(Char.ofNat 114),(Char.ofNat 110),(Char.ofNat 101),(Char.ofNat 115),(Char.ofNat 115)] :: [(Char.ofNat 56),(Char.ofNat 102),(Char.ofNat 56),(Char.ofNat 97),(Char.ofNat 54),(Char.ofNat 54),(Char.ofNat 52),(Char.ofNat 99),(Char.ofNat 99),(Char.ofNat 57),(Char.ofNat 57),(Char.ofNat 98),(Char.ofNat 97),(Char.ofNat 54),(Char.ofNat 102),(Char.ofNat 97),(Char.ofNat 48),(Char.ofNat 53),(Char.ofNat 101),(Char.ofNat 53),(Char.ofNat 56),(Char.ofNat 97),(Char.ofNat 97),(Char.ofNat 48),(Char.ofNat 56),(Char.ofNat 54),(Char.ofNat 99),(Char.ofNat 49),(Char.ofNat 55),(Char.ofNat 98),(Char.ofNat 97),(Char.ofNat 52),(Char.ofNat 101),(Char.ofNat 53),(Char.ofNat 51),(Char.ofNat 48),(Char.ofNat 100),(Char.ofNat 51),(Char.ofNat 50),(Char.ofNat 102),(Char.ofNat 49),(Char.ofNat 99),(Char.ofNat 57),(Char.ofNat 55),(Char.ofNat 48),(Char.ofNat 51),(Char.ofNat 50),(Char.ofNat 54),(Char.ofNat 102),(Char.ofNat 51),(Char.ofNat 99),(Char.ofNat 49),(Char.ofNat 54),(Char.ofNat 54),(Char.ofNat 98),(Char.ofNat 51),(Char.ofNat 98),(Char.ofNat 99),(Char.ofNat 48),(Char.ofNat 97),(Char.ofNat 99),(Char.ofNat 55),(Char.ofNat 56),(Char.ofNat 52)] :: [(Char.ofNat 99),(Char.ofNat 117),(Char.ofNat 116)] :: R:=by
 rw [ioL,fM _ _ (by decide),fM _ _ (by decide),fM _ _ (by decide)]
 exact ⟨_,rfl⟩
theorem ioB:∃ R,behindMainWord (wordsSigns prog.initOrder.toList) = [(Char.ofNat 99),(Char.ofNat 117),(Char.ofNat 116)] :: R:=by
 obtain ⟨R,h⟩:=ioW
 rw [h]
 exact ⟨R,by kernel_rfl⟩
theorem zQ:prog.laysLater=false:=by kernel_rfl
theorem Af:prog.bearsReflect=false:=by kernel_rfl
theorem Aa:prog.doorRows = []:=by kernel_rfl
theorem sU:prog.mayEnter=true:=by
 obtain ⟨R,h⟩:=ioB
 exact vh _ h zQ Af (yj _ Aa)
theorem wy:prog.liftsFinal=false:=by
 obtain ⟨R,h⟩:=ioB
 exact uZ _ h
theorem wq:prog.make=some .cut:=by
 obtain ⟨R,h⟩:=ioB
 exact wt _ h
end
def inF (x:List ab) (p:ab) (v:ao) (e:Int) (st:Bool×Int) : Option ((Bool×Int)⊕(Bool×Int)):=Option.bind (if decide (st.2 < e)=true then some st.1 else some false) fun q=>if q=true then Option.bind (atPx x st.2) fun a=>Option.bind (dV a p.am) fun b=>Option.bind (du b v) fun c=>some (.inl (c,i64.wrap (st.2 + 1))) else some (.inr (st.1,st.2))
 where atPx (x:List ab) (u:Int) : Option ao:=some (atV x 0 u)
theorem zn (x:List ab) (p:ab) (v:ao) (hp:p.aw=0) (a n:Int) (h0 : 0≤a) (h1:a≤1000) (hn : 0≤n) (hn2:n≤1000) : ∃ r,aN (inF x p v (a + n)) ar (true,a)=some r∧(r.1=true→∀ u,a≤u→u < a + n→frV x v p u=true):=by
 obtain ⟨r,e1,e2⟩:=bu (f:=inF x p v (a + n)) (fun st=>a≤st.2∧st.2≤a + n∧(st.1=true→∀ u,a≤u→u < st.2→frV x v p u=true)) (fun st=>(a + n - st.2).toNat) (fun r=>r.1=true→∀ u,a≤u→u < a + n→frV x v p u=true) (fun st ⟨g1,g2,g3⟩=>by
  unfold inF inF.atPx
  by_cases hlt:st.2 < a + n
  ·simp only [decide_eq_true hlt,if_true,zb,R1_Plus_is,gr]
   cases hb:st.1 with
   | true =>
    rw [if_pos rfl,bG (by omega) (by omega)]
    refine .inl ⟨_,rfl,⟨by show a≤st.2 + 1; omega,by show st.2 + 1≤_; omega,fun hc u q1 q2=>?_⟩,by show (a + n - (st.2 + 1)).toNat < _; omega⟩
    rcases Int.lt_or_le u st.2 with q | q
    ·exact g3 hb u q1 q
    ·have q2:u < st.2 + 1:=q2
     obtain rfl:u=st.2:=by omega
     unfold frV
     rw [hp]
     exact hc
   | false =>
    rw [if_neg (by decide)]
    exact .inr ⟨_,rfl,fun h=>by cases h⟩
  ·rw [show decide (st.2 < a + n)=false from decide_eq_false hlt]
   simp only [zf,if_false,zb]
   exact .inr ⟨_,rfl,fun hc u q1 q2=>g3 hc u q1 (by omega)⟩) ar (true,a) ⟨Int.le_refl _,by show a≤a + n; omega,fun _ u q1 q2=>by simp only [] at q2; omega⟩ (by show (a + n - a).toNat < ar; unfold ar; omega)
 exact ⟨r,e1,e2⟩
def wm (x:List ab) (p:ab) (v:ao) (n t:Int) (s:Int) : Option (Int⊕(Int⊕Bool)):=if decide (s < t)=true then Option.bind (aN (inF x p v (i64.wrap (s + n))) ar (true,s)) fun st=>if st.1=true then some (.inr (.inr false)) else some (.inl (i64.wrap (s + 1))) else some (.inr (.inl s))
theorem xS (x:List ab) (p:ab) (v:ao) (hp:p.aw=0) (n t:Int) (hn : 1≤n) (hn2:n≤100) (h0 : 0≤p.ae) (ht:p.ae≤t) (ht2:t + n≤p.ah) (hu:p.ah≤900) (hl:∀ t',OkT (frV x v p) p.ae p.ah n t'→t≤t') : ∃ q,aN (wm x p v n t) ar p.ae=some (.inl q):=by
 obtain ⟨r,e1,e2⟩:=bu (f:=wm x p v n t) (fun s=>p.ae≤s∧s≤t) (fun s=>(t - s).toNat) (fun r=>∃ q,r = .inl q) (fun s ⟨g1,g2⟩=>by
  unfold wm
  by_cases hlt:s < t
  ·rw [if_pos (decide_eq_true hlt),bG (by omega) (by omega)]
   obtain ⟨r,k1,k2⟩:=zn x p v hp s n (by omega) (by omega) (by omega) (by omega)
   rw [k1]
   simp only [zb]
   cases hb:r.1 with
   | true =>
    have:=hl s ⟨g1,by omega,k2 hb⟩
    omega
   | false =>
    rw [if_neg (by decide),bG (by omega) (by omega)]
    exact .inl ⟨_,rfl,⟨by omega,by omega⟩,by omega⟩
  ·rw [if_neg (by simpa using hlt)]
   exact .inr ⟨_,rfl,_,rfl⟩) ar p.ae ⟨Int.le_refl _,ht⟩ (by show (t - p.ae).toNat < ar; unfold ar; omega)
 obtain ⟨q,rfl⟩:=e2
 exact ⟨q,e1⟩
noncomputable def sI (l:List ab) (ls:List Int) (r r1:Int) (st:List ab×Int) : Option ((List ab×Int)⊕((List ab×Int)⊕Bool)):=Option.bind (if decide (st.2 < (l.length:Int))=true then some (decide (st.2 < (ls.length:Int))) else some false) fun q=>Option.bind (if q=true then some (decide (st.2 < 10)) else some false) fun q=>if q=true then Option.bind (cp l st.2) fun x1=>Option.bind (ji x1) fun r2=>Option.bind (cp ls st.2) fun x=>Option.bind (aQ x 15) fun r3=>Option.bind (cK st.1 ⟨i64.wrap (1 + r),i64.wrap (1 + r1)⟩ ⟨r2.fId,0,r2.ae,i64.wrap (r2.ah + 20),r2.am⟩ (i64.wrap (1 + r3))) fun r4=>if (r4.2 != 0)=true then (if (r4.2 != 16)=true then some (.inr (.inr false)) else some (.inl (st.1,i64.wrap (st.2 + 1)))) else Option.bind (if decide (r4.1 < r2.ae)=true then some true else some (decide (i64.wrap (r4.1 + i64.wrap (1 + r3)) > i64.wrap (r2.ah + 20)))) fun q=>if q=true then some (.inr (.inr false)) else Option.bind (aN (midX st.1 ⟨r2.fId,0,r2.ae,i64.wrap (r2.ah + 20),r2.am⟩ ⟨i64.wrap (1 + r),i64.wrap (1 + r1)⟩ (i64.wrap (1 + r3)) r4.1) ar r2.ae) fun o=>match o with | .inl _=>Option.bind (fI st.1 [⟨st.2,0,r4.1,i64.wrap (r4.1 + i64.wrap (1 + r3)),r2.am⟩]) fun zs=>some (.inl (zs,i64.wrap (st.2 + 1))) | .inr v=>some (.inr (.inr v)) else some (.inr (.inl (st.1,st.2)))
 where
 inX (x:List ab) (p:ab) (v:ao) (e:Int) (st:Bool×Int) : Option ((Bool×Int)⊕(Bool×Int)):=Option.bind (if decide (st.2 < e)=true then some st.1 else some false) fun q=>if q=true then Option.bind (atP x 0 st.2) fun a=>Option.bind (dV a p.am) fun b=>Option.bind (du b v) fun c=>some (.inl (c,i64.wrap (st.2 + 1))) else some (.inr (st.1,st.2))
 midX (x:List ab) (p:ab) (v:ao) (n t:Int) (s:Int) : Option (Int⊕(Int⊕Bool)):=if decide (s < t)=true then Option.bind (aN (inX x p v (i64.wrap (s + n))) ar (true,s)) fun st=>if st.1=true then some (.inr (.inr false)) else some (.inl (i64.wrap (s + 1))) else some (.inr (.inl s))
theorem xR (x:List ab) (p:ab) (v:ao) (n t:Int) (hx:x.length≤1000000) : sI.midX x p v n t=wm x p v n t:=by
 funext s
 unfold sI.midX wm
 have:∀ e,sI.inX x p v e=inF x p v e:=fun e=>by
  funext st
  unfold sI.inX inF inF.atPx
  rw [qd x 0 st.2 hx]
 rw [this]
theorem zr (l:List ab) (ls:List Int) (tot:ao) : eG (l,(ls,(tot,())))=Option.bind jQ fun r=>if (!r)=true then some false else Option.bind (aQ tot.aL 10) fun r=>Option.bind (aQ tot.an 10) fun r1=>Option.bind (aN (sI l ls r r1) ar (([] : List ab),(0:Int))) fun o=>match o with | .inl val=>Option.bind (aN (fun s:Int=>if decide (s < 110)=true then Option.bind (atP val.1 0 s) fun a=>Option.bind (du a ⟨i64.wrap (1 + r),i64.wrap (1 + r1)⟩) fun c=>if (!c)=true then (some (.inr (.inr false)) : Option (Int⊕(Int⊕Bool))) else some (.inl (i64.wrap (s + 1))) else some (.inr (.inl s))) ar (0:Int)) fun o=>(match o with | .inl _=>some true | .inr v=>some v) | .inr v=>some v:=by kernel_rfl
theorem xt (x:List ab) (q:ab) (k t:Int) : atV (x ++ [q]) k t=if br q k t=true then dU (atV x k t) q.am else atV x k t:=by
 unfold atV
 rw [List.foldl_append]
 rfl
theorem PlanFits.plain (a0:(List ab)) (_k0:(∀ z∈a0,ab.ok z)∧a0.length≤maxLen) (a1:(List Int)) (_k1:(∀ z∈a1,wfI z)∧a1.length≤maxLen) (a2:ao) (_k2:ao.ok a2) : eG (a0,(a1,(a2,())))=some true:=by
 rw [zr,jd]
 obtain ⟨m,m1,m2,m3⟩:=aF (a:=a2.aL) (n:=10) (by omega) (by omega)
 obtain ⟨c,c1,c2,c3⟩:=aF (a:=a2.an) (n:=10) (by omega) (by omega)
 simp only [zb,Bool.not_true,zf,if_false,m1,c1]
 obtain ⟨v,hv⟩ : ∃ v:ao,v=⟨i64.wrap (1 + m),i64.wrap (1 + c)⟩:=⟨_,rfl⟩
 have hv2:v=⟨1 + m,1 + c⟩:=by rw [hv,bG (by omega) (by omega),bG (by omega) (by omega)]
 obtain ⟨r,e1,e2⟩:=bu (f:=sI a0 a1 m c) (fun st=>∃ k:Nat,st.2=(k:Int)∧k≤10∧st.1.length≤k∧∀ t,jU (atV st.1 0 t) v=true) (fun st=>10 - st.2.toNat) (fun r=>∃ val:List ab×Int,r = .inl val∧val.1.length≤10∧∀ t,jU (atV val.1 0 t) v=true) (fun st ⟨k,g1,g2,g3,g4⟩=>by
  unfold sI
  rw [← hv]
  simp only [g1]
  have fin:∃ r,(some (.inr (.inl (st.1,(k:Int)))) : Option ((List ab×Int)⊕((List ab×Int)⊕Bool)))=some (.inr r)∧∃ val:List ab×Int,r = .inl val∧val.1.length≤10∧∀ t,jU (atV val.1 0 t) v=true:=⟨_,rfl,_,rfl,by show st.1.length≤10; omega,g4⟩
  by_cases hk0:(k:Int) < (a0.length:Int)
  ·by_cases hk1:(k:Int) < (a1.length:Int)
   ·by_cases hk2:(k:Int) < 10
    ·have h0:k < a0.length:=by omega
     have h1:k < a1.length:=by omega
     have hkk:k < 10:=by omega
     obtain ⟨g,q1,q2⟩:=kC a0[k]
     obtain ⟨w,w1,w2,w3⟩:=aF (a:=a1[k]) (n:=15) (by omega) (by omega)
     obtain ⟨gi1,gi2,gl1,gl2,gf1,gf2,gu1,gu2,gn⟩:=q2
     simp only [decide_eq_true hk0,decide_eq_true hk1,decide_eq_true hk2,if_true,zb,cN (zq h0),cN (zq h1),q1,w1]
     have ew:i64.wrap (1 + w)=1 + w:=bG (by omega) (by omega)
     have eu:i64.wrap (g.ah + 20)=g.ah + 20:=bG (by omega) (by omega)
     have ek:i64.wrap ((k:Int) + 1)=((k + 1:Nat) : Int):=eL hkk (by omega)
     rw [ew,eu,ek]
     obtain ⟨p,hp⟩ : ∃ p:ab,p=⟨g.fId,0,g.ae,g.ah + 20,g.am⟩:=⟨_,rfl⟩
     have pl:p.aw=0:=by rw [hp]
     have pf:p.ae=g.ae:=by rw [hp]
     have pu:p.ah=g.ah + 20:=by rw [hp]
     have pn:p.am=g.am:=by rw [hp]
     obtain ⟨r,r1,r2⟩:=ko st.1 v p (1 + w) (by omega)
     rw [← hp,r1]
     simp only [zb]
     have hmu : 10 - (((k + 1:Nat) : Int)).toNat < 10 - ((k:Nat) : Int).toNat:=by simp only [zt]; omega
     rcases r2 with ⟨hb,_⟩ | ⟨hb,⟨t,rfl,⟨t1,t2,t3⟩,t4⟩ | ⟨rfl,_⟩⟩
     ·exfalso
      unfold cS lA at hb
      simp only [Bool.and_eq_false_iff,decide_eq_false_iff_not,pf,pu,pn] at hb
      omega
     ·have d0:((0:Int) != 0)=false:=rfl
      have hts:t≤100:=by omega
      have et:i64.wrap (t + (1 + w))=t + (1 + w):=bG (by omega) (by omega)
      rw [if_neg (by rw [d0]; decide),et]
      have d1:decide (t < g.ae)=false:=by simp; omega
      have d2:decide (t + (1 + w) > g.ah + 20)=false:=by simp; omega
      simp only [d1,d2,zf,if_false,zb]
      rw [xR _ _ _ _ _ (by omega),← pf]
      obtain ⟨q,hq⟩:=xS st.1 p v pl (1 + w) t (by omega) (by omega) (by omega) (by omega) (by omega) (by omega) t4
      rw [hq]
      simp only [zb]
      rw [j7 (by rw [List.length_singleton]; omega)]
      refine .inl ⟨_,rfl,⟨k + 1,rfl,by omega,by simp; omega,fun u=>?_⟩,hmu⟩
      rw [xt]
      split
      ·rename_i ha
       unfold br at ha
       simp only [Bool.and_eq_true,decide_eq_true_eq] at ha
       have:=t3 u ha.1.2 ha.2
       unfold frV at this
       rw [pl,pn] at this
       exact this
      ·exact g4 u
     ·have d0:((16:Int) != 0)=true:=rfl
      have d1:((16:Int) != 16)=false:=rfl
      rw [if_pos d0,if_neg (by rw [d1]; decide)]
      exact .inl ⟨_,rfl,⟨k + 1,rfl,by omega,by show st.1.length≤k + 1; omega,g4⟩,hmu⟩
    ·simp only [decide_eq_true hk0,decide_eq_true hk1,decide_eq_false hk2,if_true,zb,zf,if_false]
     exact .inr fin
   ·simp only [decide_eq_true hk0,decide_eq_false hk1,if_true,zb,zf,if_false]
    exact .inr fin
  ·simp only [decide_eq_false hk0,zb,zf,if_false]
   exact .inr fin) ar ([],0) ⟨0,rfl,by omega,Nat.le_refl _,fun t=>by
    rw [hv2]
    unfold jU atV
    simp only [List.foldl_nil,Bool.and_eq_true]
    exact ⟨decide_eq_true (by omega),decide_eq_true (by omega)⟩⟩ (by show 10 - (0:Int).toNat < ar; unfold ar; omega)
 rw [e1]
 obtain ⟨val,rfl,hl,hf⟩:=e2
 simp only [zb]
 rw [← hv]
 obtain ⟨r,e3,q,rfl⟩:=bu (f:=fun s:Int=>if decide (s < 110)=true then Option.bind (atP val.1 0 s) fun a=>Option.bind (du a v) fun c=>if (!c)=true then (some (.inr (.inr false)) : Option (Int⊕(Int⊕Bool))) else some (.inl (i64.wrap (s + 1))) else some (.inr (.inl s))) (fun s=>0≤s∧s≤110) (fun s=>(110 - s).toNat) (fun r=>∃ q,r = .inl q) (fun s ⟨g1,g2⟩=>by
  by_cases hlt:s < 110
  ·rw [if_pos (decide_eq_true hlt),qd _ _ _ (by omega)]
   simp only [zb,gr,hf s,Bool.not_true,zf,if_false]
   rw [bG (by omega) (by omega)]
   exact .inl ⟨_,rfl,⟨by omega,by omega⟩,by omega⟩
  ·rw [if_neg (by simpa using hlt)]
   exact .inr ⟨_,rfl,_,rfl⟩) ar 0 ⟨by omega,by omega⟩ (by show (110 - (0:Int)).toNat < ar; unfold ar; omega)
 rw [e3]
 rfl
noncomputable def zp (gs:List Int) (r:Int) (st:List ab×Int×Int×Int) : Option ((List ab×Int×Int×Int)⊕(List ab×Int×Int×Int)):=Option.bind (if decide (st.2.2.2 < (gs.length:Int))=true then some (decide (st.2.2.2 < 8)) else some false) fun q=>if q=true then Option.bind (cp gs st.2.2.2) fun x=>Option.bind (aQ x 12) fun r1=>Option.bind (if decide (r1≥i64.wrap (1 + r))=true then some (decide (st.2.2.1 < 0)) else some false) fun q=>if q=true then Option.bind (fI st.1 [⟨st.2.2.2,0,i64.wrap (st.2.1 + r1),i64.wrap (i64.wrap (st.2.1 + r1) + 3),⟨3,3⟩⟩]) fun zs=>some (.inl (zs,i64.wrap (i64.wrap (st.2.1 + r1) + 3),st.2.1,i64.wrap (st.2.2.2 + 1))) else Option.bind (fI st.1 [⟨st.2.2.2,0,i64.wrap (st.2.1 + r1),i64.wrap (i64.wrap (st.2.1 + r1) + 3),⟨3,3⟩⟩]) fun zs=>some (.inl (zs,i64.wrap (i64.wrap (st.2.1 + r1) + 3),st.2.2.1,i64.wrap (st.2.2.2 + 1))) else some (.inr (st.1,st.2.1,st.2.2.1,st.2.2.2))
noncomputable def ye (x:List ab) (n w:Int) : Option Bool:=Option.bind (cK x ⟨3,3⟩ ⟨0,0,0,200,⟨1,1⟩⟩ n) fun r1=>Option.bind (cK x ⟨3,3⟩ ⟨0,0,0,i64.wrap (i64.wrap (w + n) - 1),⟨3,3⟩⟩ n) fun r2=>Option.bind (cK x ⟨3,3⟩ ⟨0,0,0,i64.wrap (w + n),⟨3,3⟩⟩ n) fun r=>Option.bind (if (r1.2==0)=true then some (r1.1==w) else some false) fun q=>Option.bind (if q=true then some (r2.2==16) else some false) fun q=>Option.bind (if q=true then some (r.2==0) else some false) fun q=>Option.bind (if q=true then some (r.1==w) else some false) fun q=>some q
theorem zo (gs:List Int) (long:Int) : eF (gs,(long,()))=Option.bind jQ fun r=>if (!r)=true then some false else Option.bind (aQ long 12) fun r=>Option.bind (aN (zp gs r) ar (([] : List ab),(0:Int),(-1:Int),(0:Int))) fun st:List ab×Int×Int×Int=>if decide (st.2.2.1 < 0)=true then ye st.1 (i64.wrap (1 + r)) st.2.1 else ye st.1 (i64.wrap (1 + r)) st.2.2.1:=by kernel_rfl
theorem vz (x:List ab) (q:ab) (k t:Int) : atV (x ++ [q]) k t=if br q k t=true then dU (atV x k t) q.am else atV x k t:=by
 unfold atV
 rw [List.foldl_append]
 rfl
def Al (x:List ab) (t:Int) : Prop:=(∀ u,atV x 0 u=⟨0,0⟩∨atV x 0 u=⟨3,3⟩)∧∀ u,t≤u→atV x 0 u=⟨0,0⟩
def xA (x:List ab) (n w:Int) : Prop:=0≤w∧(∀ u,w≤u→u < w + n→atV x 0 u=⟨0,0⟩)∧∀ s,0≤s→s < w→∃ u,s≤u∧u < s + n∧atV x 0 u=⟨3,3⟩
theorem tZ {x:List ab} {m u:Int} {p:ab} (hl:p.aw=0) (hn:p.am=⟨m,m⟩) (h1 : 1≤m) (h2:m≤3) (h:atV x 0 u=⟨0,0⟩) : frV x ⟨3,3⟩ p u=true:=by
 unfold frV
 rw [hl,hn,h]
 unfold dU jU
 simp only [Int.zero_add]
 rw [bG (by omega) (by omega)]
 simp only [Bool.and_self,decide_eq_true_eq]
 exact h2
theorem ya {x:List ab} {m u:Int} {p:ab} (hl:p.aw=0) (hn:p.am=⟨m,m⟩) (h1 : 1≤m) (h2:m≤3) (h:atV x 0 u=⟨3,3⟩) : frV x ⟨3,3⟩ p u=false:=by
 unfold frV
 rw [hl,hn,h]
 unfold dU jU
 rw [bG (by simp only []; omega) (by simp only []; omega)]
 simp only [Bool.and_self,decide_eq_false_iff_not]
 omega
theorem ug {x:List ab} {n w:Int} (hx:x.length≤8) (hn : 1≤n) (hn2:n≤12) (hw:xA x n w) (hw2:w≤150) : ye x n w=some true:=by
 obtain ⟨h0,h1,h2⟩:=hw
 have ok:∀ (m b t:Int) (id:Int),1≤m→m≤3→OkT (frV x ⟨3,3⟩ ⟨id,0,0,b,⟨m,m⟩⟩) 0 b n t→w≤t:=fun m b t id q1 q2 ht=>by
  rcases Int.lt_or_le t w with q | q
  ·obtain ⟨u,u1,u2,u3⟩:=h2 t ht.1 q
   have:=ht.2.2 u u1 u2
   rw [ya (m:=m) rfl rfl q1 q2 u3] at this
   cases this
  ·exact q
 have e1:i64.wrap (w + n)=w + n:=bG (by omega) (by omega)
 have e2:i64.wrap (w + n - 1)=w + n - 1:=bG (by omega) (by omega)
 have p1:cK x ⟨3,3⟩ ⟨0,0,0,200,⟨1,1⟩⟩ n=some (w,0):=iu (by omega) (.inr ⟨by unfold cS lA; simp only [Bool.and_eq_true,decide_eq_true_eq]; omega,.inl ⟨w,rfl,⟨h0,by show w + n≤200; omega,fun u u1 u2=>tZ (m:=1) rfl rfl (by omega) (by omega) (h1 u u1 u2)⟩,fun t ht=>ok 1 200 t 0 (by omega) (by omega) ht⟩⟩)
 have p3:cK x ⟨3,3⟩ ⟨0,0,0,w + n,⟨3,3⟩⟩ n=some (w,0):=iu (by omega) (.inr ⟨by unfold cS lA; simp only [Bool.and_eq_true,decide_eq_true_eq]; omega,.inl ⟨w,rfl,⟨h0,Int.le_refl _,fun u u1 u2=>tZ (m:=3) rfl rfl (by omega) (by omega) (h1 u u1 u2)⟩,fun t ht=>ok 3 (w + n) t 0 (by omega) (by omega) ht⟩⟩)
 have p2:cK x ⟨3,3⟩ ⟨0,0,0,w + n - 1,⟨3,3⟩⟩ n=some (0,16):=iu (by omega) (.inr ⟨by unfold cS lA; simp only [Bool.and_eq_true,decide_eq_true_eq]; omega,.inr ⟨rfl,fun t ht=>by
  have k1:=ok 3 (w + n - 1) t 0 (by omega) (by omega) ht
  have k2:t + n≤w + n - 1:=ht.2.1
  omega⟩⟩)
 unfold ye
 rw [e1,e2,p1,p2,p3]
 have b0:((0:Int)==0)=true:=rfl
 have b1:((16:Int)==16)=true:=rfl
 have b2:(w==w)=true:=by simp
 simp only [zb,b0,b1,b2,if_true]
theorem PlanGaps.plain (a0:(List Int)) (_k0:(∀ z∈a0,wfI z)∧a0.length≤maxLen) (a1:Int) (_k1:wfI a1) : eF (a0,(a1,()))=some true:=by
 rw [zo,jd]
 obtain ⟨m,m1,m2,m3⟩:=aF (a:=a1) (n:=12) (by omega) (by omega)
 simp only [zb,Bool.not_true,zf,if_false,m1]
 have en:i64.wrap (1 + m)=1 + m:=bG (by omega) (by omega)
 obtain ⟨n,hn⟩ : ∃ n,n=1 + m:=⟨_,rfl⟩
 obtain ⟨r,e1,e2,e3,e4⟩:=bu (f:=zp a0 m) (fun st=>∃ k:Nat,st.2.2.2=(k:Int)∧k≤8∧st.1.length≤k∧0≤st.2.1∧st.2.1≤14 * (k:Int)∧Al st.1 st.2.1 ∧
   ((st.2.2.1 < 0∧∀ s,0≤s→s < st.2.1→∃ u,s≤u∧u < s + n∧u < st.2.1∧atV st.1 0 u=⟨3,3⟩)∨(0≤st.2.2.1∧st.2.2.1 + n≤st.2.1∧(∀ u,st.2.2.1≤u→u < st.2.2.1 + n→atV st.1 0 u=⟨0,0⟩)∧∀ s,0≤s→s < st.2.2.1→∃ u,s≤u∧u < s + n∧u < st.2.1∧atV st.1 0 u=⟨3,3⟩)))
  (fun st=>8 - st.2.2.2.toNat) (fun st=>st.1.length≤8∧(st.2.2.1 < 0→st.2.1≤150∧xA st.1 n st.2.1)∧(0≤st.2.2.1→st.2.2.1≤150∧xA st.1 n st.2.2.1)) (fun st ⟨k,g1,g2,g3,g4,g5,⟨g6,g7⟩,g8⟩=>by
  have fin:st.1.length≤8∧(st.2.2.1 < 0→st.2.1≤150∧xA st.1 n st.2.1)∧(0≤st.2.2.1→st.2.2.1≤150∧xA st.1 n st.2.2.1):=by
   refine ⟨by omega,fun hw=>⟨by omega,g4,fun u u1 _=>g7 u u1,fun s s1 s2=>?_⟩,fun hw=>?_⟩
   ·rcases g8 with ⟨_,g8⟩ | ⟨g8,_⟩
    ·obtain ⟨u,u1,u2,_,u3⟩:=g8 s s1 s2
     exact ⟨u,u1,u2,u3⟩
    ·omega
   ·rcases g8 with ⟨g8,_⟩ | ⟨_,g9,g10,g11⟩
    ·omega
    ·refine ⟨by omega,hw,g10,fun s s1 s2=>?_⟩
     obtain ⟨u,u1,u2,_,u3⟩:=g11 s s1 s2
     exact ⟨u,u1,u2,u3⟩
  unfold zp
  simp only [g1]
  by_cases hk0:(k:Int) < (a0.length:Int)
  ·by_cases hk2:(k:Int) < 8
   ·have h0:k < a0.length:=by omega
    have hkk:k < 8:=by omega
    obtain ⟨g,q1,q2,q3⟩:=aF (a:=a0[k]) (n:=12) (by omega) (by omega)
    have ea:i64.wrap (st.2.1 + g)=st.2.1 + g:=bG (by omega) (by omega)
    have eb:i64.wrap (st.2.1 + g + 3)=st.2.1 + g + 3:=bG (by omega) (by omega)
    have ek:i64.wrap ((k:Int) + 1)=((k + 1:Nat) : Int):=eL hkk (by omega)
    simp only [decide_eq_true hk0,decide_eq_true hk2,if_true,zb,cN (zq h0),q1,en,ea,eb,ek]
    rw [j7 (by rw [List.length_singleton]; omega)]
    simp only [zb]
    rw [← hn]
    have hmu : 8 - (((k + 1:Nat) : Int)).toNat < 8 - ((k:Nat) : Int).toNat:=by simp only [zt]; omega
    obtain ⟨y,hy⟩ : ∃ y:List ab,y=st.1 ++ [⟨(k:Int),0,st.2.1 + g,st.2.1 + g + 3,⟨3,3⟩⟩]:=⟨_,rfl⟩
    rw [← hy]
    have ylen:y.length≤k + 1:=by rw [hy]; simp; omega
    have yat:∀ u,atV y 0 u=if st.2.1 + g≤u∧u < st.2.1 + g + 3 then ⟨3,3⟩ else atV st.1 0 u:=fun u=>by
     rw [hy,vz]
     by_cases hu:st.2.1 + g≤u∧u < st.2.1 + g + 3
     ·rw [if_pos hu,if_pos (by unfold br; simp only [BEq.rfl,Bool.true_and,Bool.and_eq_true,decide_eq_true_eq]; exact hu),g7 u (by omega)]
      rfl
     ·rw [if_neg hu,if_neg (by unfold br; simp only [BEq.rfl,Bool.true_and,Bool.and_eq_true,decide_eq_true_eq]; exact hu)]
    have yold:∀ u,u < st.2.1→atV y 0 u=atV st.1 0 u:=fun u hu=>by rw [yat,if_neg (by omega)]
    have yA:Al y (st.2.1 + g + 3):=⟨fun u=>by
     rw [yat]
     split
     ·exact .inr rfl
     ·exact g6 u,fun u hu=>by rw [yat,if_neg (by omega)]; exact g7 u (by omega)⟩
    have keepW:(0≤st.2.2.1∧st.2.2.1 + n≤st.2.1∧(∀ u,st.2.2.1≤u→u < st.2.2.1 + n→atV st.1 0 u=⟨0,0⟩)∧∀ s,0≤s→s < st.2.2.1→∃ u,s≤u∧u < s + n∧u < st.2.1∧atV st.1 0 u=⟨3,3⟩)→(0≤st.2.2.1∧st.2.2.1 + n≤st.2.1 + g + 3∧(∀ u,st.2.2.1≤u→u < st.2.2.1 + n→atV y 0 u=⟨0,0⟩)∧∀ s,0≤s→s < st.2.2.1→∃ u,s≤u∧u < s + n∧u < st.2.1 + g + 3∧atV y 0 u=⟨3,3⟩):=fun ⟨w1,w2,w3,w4⟩=>⟨w1,by omega,fun u u1 u2=>by rw [yold u (by omega)]; exact w3 u u1 u2,fun s s1 s2=>by
     obtain ⟨u,u1,u2,u3,u4⟩:=w4 s s1 s2
     exact ⟨u,u1,u2,by omega,by rw [yold u u3]; exact u4⟩⟩
    have n1 : 1≤n:=by omega
    by_cases hg:g≥n
    ·by_cases hw:st.2.2.1 < 0
     ·simp only [decide_eq_true hg,decide_eq_true hw,if_true,zb]
      rcases g8 with ⟨_,g8⟩ | ⟨g8,_⟩
      ·refine .inl ⟨_,rfl,⟨k + 1,rfl,by omega,ylen,by show 0≤st.2.1 + g + 3; omega,by show st.2.1 + g + 3≤_; omega,yA,.inr ⟨g4,by show st.2.1 + n≤st.2.1 + g + 3; omega,fun u u1 u2=>?_,fun s s1 s2=>?_⟩⟩,hmu⟩
       ·have u1:st.2.1≤u:=u1
        have u2:u < st.2.1 + n:=u2
        show atV y 0 u = _
        rw [yat,if_neg (by omega)]
        exact g7 u u1
       ·obtain ⟨u,u1,u2,u3,u4⟩:=g8 s s1 s2
        exact ⟨u,u1,u2,by show u < st.2.1 + g + 3; omega,by show atV y 0 u = _; rw [yold u u3]; exact u4⟩
      ·omega
     ·simp only [decide_eq_true hg,decide_eq_false hw,if_true,zb,zf,if_false]
      rcases g8 with ⟨g8,_⟩ | g8
      ·omega
      ·exact .inl ⟨_,rfl,⟨k + 1,rfl,by omega,ylen,by show 0≤st.2.1 + g + 3; omega,by show st.2.1 + g + 3≤_; omega,yA,.inr (keepW g8)⟩,hmu⟩
    ·simp only [decide_eq_false hg,zb,zf,if_false]
     rcases g8 with ⟨hw,g8⟩ | g8
     ·refine .inl ⟨_,rfl,⟨k + 1,rfl,by omega,ylen,by show 0≤st.2.1 + g + 3; omega,by show st.2.1 + g + 3≤_; omega,yA,.inl ⟨hw,fun s s1 s2=>?_⟩⟩,hmu⟩
      have s2:s < st.2.1 + g + 3:=s2
      show ∃ u,s≤u∧u < s + n∧u < st.2.1 + g + 3∧atV y 0 u = _
      rcases Int.lt_or_le s st.2.1 with q | q
      ·obtain ⟨u,u1,u2,u3,u4⟩:=g8 s s1 q
       exact ⟨u,u1,u2,by omega,by rw [yold u u3]; exact u4⟩
      ·rcases Int.lt_or_le s (st.2.1 + g) with q2 | q2
       ·exact ⟨st.2.1 + g,by omega,by omega,by omega,by rw [yat,if_pos (by omega)]⟩
       ·exact ⟨s,Int.le_refl _,by omega,s2,by rw [yat,if_pos ⟨q2,s2⟩]⟩
     ·exact .inl ⟨_,rfl,⟨k + 1,rfl,by omega,ylen,by show 0≤st.2.1 + g + 3; omega,by show st.2.1 + g + 3≤_; omega,yA,.inr (keepW g8)⟩,hmu⟩
   ·simp only [decide_eq_true hk0,decide_eq_false hk2,if_true,zb,zf,if_false]
    exact .inr ⟨_,rfl,fin⟩
  ·simp only [decide_eq_false hk0,zb,zf,if_false]
   exact .inr ⟨_,rfl,fin⟩) ar ([],0,-1,0) ⟨0,rfl,by omega,Nat.le_refl _,Int.le_refl _,by show (0:Int)≤14 * ((0:Nat) : Int); omega,⟨fun u=>.inl rfl,fun u _=>rfl⟩,.inl ⟨by show (-1:Int) < 0; omega,fun s s1 s2=>by simp only [] at s2; omega⟩⟩ (by show 8 - (0:Int).toNat < ar; unfold ar; omega)
 rw [e1]
 simp only [zb,en]
 rw [← hn]
 by_cases hw:r.2.2.1 < 0
 ·rw [if_pos (decide_eq_true hw)]
  exact ug e2 (by omega) (by omega) (e3 hw).2 (e3 hw).1
 ·rw [if_neg (by simpa using hw)]
  exact ug e2 (by omega) (by omega) (e4 (by omega)).2 (e4 (by omega)).1
end Go.Proofs.Ytkmpjphbkhpgbaa
