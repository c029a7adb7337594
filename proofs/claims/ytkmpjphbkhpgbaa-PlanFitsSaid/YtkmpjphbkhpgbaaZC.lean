/- My texts, in one. -/
import Derived.Test.YtkmpjphbkhpgbaaZB
set_option linter.all false
set_option maxRecDepth 100000
set_option maxHeartbeats 4000000
namespace Go.Proofs.Ytkmpjphbkhpgbaa
open Go.RowKit
open IntKind (i64)
open Go.Proofs.Try (prog)
section
variable {B B':List (Nat×Option aj)} {s:SS} {p:PS} {P:Program} {ρ : Type}
theorem fm (ks:List Nat) : ∀ (cs:List SV) (j:Nat),(gy ks cs)[j]? = (cs[j]?).map (stV ks)
 | [],j=>by simp [gy]
 | c::cs,0=>by simp [gy]
 | c::cs,j + 1=>by simpa [gy] using fm ks cs j
theorem ei (ks:List Nat) : ∀ cs:List SV,(gy ks cs).length=cs.length
 | []=>rfl
 | c::cs=>by simp [gy,ei ks cs]
theorem sM (ks:List Nat) : ∀ (l:List (Nat×SV)) (i:Nat),lkV (uD ks l) i=stV ks (lkV l i)
 | [],_=>rfl
 | (j,v)::l,i=>by simp only [uD,aO,sM ks l i]; split <;> rfl
def zH (ks:List Nat) : aj→aj
 | .st ty cs=>.st ty (gy ks cs)
 | b=>b
theorem gS (ks:List Nat) : ∀ (l:List (Nat×Option aj)) (i:Nat),lkB (i1 ks l) i=(lkB l i).map (zH ks)
 | [],_=>rfl
 | (j,none)::l,i=>by simp only [i1,ac,gS ks l i]; split <;> rfl
 | (j,some (.st ty cs))::l,i=>by simp only [i1,ac,gS ks l i]; split <;> rfl
 | (j,some (.rw e k ty xs pins))::l,i=>by simp only [i1,ac,gS ks l i]; split <;> rfl
structure zF (ks:List Nat) (B B':List (Nat×Option aj)) : Prop where
 rw:∀ t,af ks t=false→∀ e k ty xs pins,lkB B t=some (.rw e k ty xs pins)→∃ e' k' ty' xs' pins',lkB B' t=some (.rw e' k' ty' xs' pins')∧xs'.length=xs.length∧∀ p pin,lkP pins p=some pin→∃ pin',lkP pins' p=some pin'∧pin'.i=pin.i
 st:∀ t ty cs,lkB B t=some (.st ty cs)→∃ ty' cs',lkB B' t=some (.st ty' cs')
theorem al.st {ks:List Nat} {v:SV} {q:PV} (h:al B v q) (hB:zF ks B B') : al B' (stV ks v) q:=by
 induction h with
 | junk q=>exact .junk q
 | d c y h=>exact .d c y h
 | ag cs qs hl hr ih =>
  refine .ag _ qs (by rw [ei]; exact hl) (fun j c q h1 h2=>?_)
  rw [fm,zm] at h1
  obtain ⟨c',h3,rfl⟩:=h1
  exact ih j c' q h3 h2
 | tup cs qs hl hr ih =>
  refine .tup _ qs (by rw [ei]; exact hl) (fun j c q h1 h2=>?_)
  rw [fm,zm] at h1
  obtain ⟨c',h3,rfl⟩:=h1
  exact ih j c' q h3 h2
 | ptr t' o ty cs hb=>obtain ⟨ty',cs',h1⟩:=hB.st t' ty cs hb; exact .ptr t' o ty' cs' h1
 | row t' n e k ty xs pins hb hn =>
  simp only [stV]
  split
  ·exact .junk _
  ·rename_i h
   obtain ⟨e',k',ty',xs',pins',h1,h2,h3⟩:=hB.rw t' h e k ty xs pins hb
   exact .row t' n e' k' ty' xs' pins' h1 (h2.trans hn)
 | re t' p o n i e k ty xs pins pin hb hn hp hi =>
  simp only [stV]
  split
  ·exact .junk _
  ·rename_i h
   obtain ⟨e',k',ty',xs',pins',h1,h2,h3⟩:=hB.rw t' h e k ty xs pins hb
   obtain ⟨pin',h4,h5⟩:=h3 p pin hp
   exact .re t' p o n i e' k' ty' xs' pins' pin' h1 (h2.trans hn) h4 (by rw [h5]; exact hi)
 | vw t' lo hi n e k ty xs pins hb hn=>
  simp only [stV]
  split
  ·exact .junk _
  ·rename_i h
   obtain ⟨e',k',ty',xs',pins',h1,h2,h3⟩:=hB.rw t' h e k ty xs pins hb
   exact .vw t' lo hi n e' k' ty' xs' pins' h1 (h2.trans hn)
 | fe cs ds h hn=>exact .fe cs ds h hn
 | fn f ps qs ps' qs' hl hr hl2 hr2 ih ih2 =>
  refine .fn f _ _ ps' qs' (by rw [ei]; exact hl) (fun j c q h1 h2=>?_) (by rw [ei]; exact hl2) (fun j c q h1 h2=>?_)
  ·rw [fm,zm] at h1
   obtain ⟨c',h3,rfl⟩:=h1
   exact ih j c' q h3 h2
  ·rw [fm,zm] at h1
   obtain ⟨c',h3,rfl⟩:=h1
   exact ih2 j c' q h3 h2
theorem aA.st {ks:List Nat} {cs:List SV} {qs:List PV} (h:aA B cs qs) (hB:zF ks B B') : aA B' (gy ks cs) qs :=
 ⟨by rw [ei]; exact h.len,fun j c q h1 h2=>by
  rw [fm,zm] at h1
  obtain ⟨c',h3,rfl⟩:=h1
  exact (h.rep j c' q h3 h2).st hB⟩
mutual
theorem tu {pr ks:List Nat} (hk:∀ t,af ks t=true→af pr t=false) : ∀ v:SV,cI pr v=true→stV ks v=v
 | .junk,_=>rfl
 | .d _,_=>rfl
 | .fe _,_=>rfl
 | .ptr _ _,_=>rfl
 | .row t,h=>by
  have h:af pr t=true:=h
  simp only [stV]
  split
  ·rename_i h1; rw [hk t h1] at h; cases h
  ·rfl
 | .re _ _ _,h=>by cases h
 | .vw _ _ _,h=>by cases h
 | .ag cs,h=>by simp only [stV]; rw [gB hk cs h]
 | .tup cs,h=>by simp only [stV]; rw [gB hk cs h]
 | .fn f ps qs,h=>by
  have h:(bj pr ps&&bj pr qs)=true:=h
  rw [Bool.and_eq_true] at h
  simp only [stV]; rw [gB hk ps h.1,gB hk qs h.2]
theorem gB {pr ks:List Nat} (hk:∀ t,af ks t=true→af pr t=false) : ∀ cs:List SV,bj pr cs=true→gy ks cs=cs
 | [],_=>rfl
 | c::cs,h=>by
  simp only [bj,Bool.and_eq_true] at h
  simp only [gy]
  rw [tu hk c h.1,gB hk cs h.2]
end
mutual
theorem vO {ks:List Nat} : ∀ v:SV,ep v=true→stV ks v=v
 | .junk,_=>rfl
 | .d _,_=>rfl
 | .fe _,_=>rfl
 | .ptr _ _,_=>rfl
 | .row _,h=>by cases h
 | .re _ _ _,h=>by cases h
 | .vw _ _ _,h=>by cases h
 | .ag cs,h=>by simp only [stV]; rw [d7 cs h]
 | .tup cs,h=>by simp only [stV]; rw [d7 cs h]
 | .fn f ps qs,h=>by
  have h:(match aH ps with | true=>aH qs | false=>false)=true:=h
  split at h
  ·rename_i h1; simp only [stV]; rw [d7 ps h1,d7 qs h]
  ·cases h
theorem d7 {ks:List Nat} : ∀ cs:List SV,aH cs=true→gy ks cs=cs
 | [],_=>rfl
 | c::cs,h=>by
  simp only [aH] at h
  split at h
  ·rename_i h1
   simp only [gy]
   rw [vO c h1,d7 cs h]
  ·cases h
end
inductive UAl (G:List Nat) (B':List (Nat×Option aj)) : List (Nat×Option aj)→BU→Prop
 | nil:UAl G B' [] []
 | cons (t:Nat) (sb:Option aj) (b:Box) (us:List (Nat×Option aj)) (u:BU) (h1:∀ x,sb=some x→cZ B' true (some x) (some b)) (h2:sb=none→af G t=true) (h:UAl G B' us u) : UAl G B' ((t,sb)::us) ((t,b)::u)
variable {G:List Nat}
theorem UAl.app {us us':List (Nat×Option aj)} {u u':BU} (h:UAl G B' us u) (h':UAl G B' us' u') : UAl G B' (us++us') (u++u'):=by
 induction h with
 | nil=>exact h'
 | cons t sb b us u h1 h2 h ih=>exact .cons t sb b _ _ h1 h2 ih
theorem bq:∀ {us:List (Nat×Option aj)} {t:Nat},t∈idU us↔∃ sb,(t,sb)∈us
 | [],t=>by simp [idU]
 | (i,b)::us,t=>by
  simp only [idU,List.mem_cons,Prod.mk.injEq]
  constructor
  ·rintro (rfl | h)
   ·exact ⟨b,.inl ⟨rfl,rfl⟩⟩
   ·obtain ⟨sb,h⟩:=bq.1 h; exact ⟨sb,.inr h⟩
  ·rintro ⟨sb,⟨rfl,_⟩ | h⟩
   ·exact .inl rfl
   ·exact .inr (bq.2 ⟨sb,h⟩)
theorem yV {us:List (Nat×Option aj)} {u:BU} (h:UAl G B' us u) (l:List (Nat×Option aj)) (t:Nat) :
  (t∈idU us∧∃ sb b,lkB (us++l) t=sb∧lkU u t=some b∧(∀ x,sb=some x→cZ B' true (some x) (some b))∧(sb=none→af G t=true))∨(t ∉ idU us∧lkB (us++l) t=lkB l t∧lkU u t=none):=by
 induction h with
 | nil=>exact .inr ⟨by simp [idU],rfl,rfl⟩
 | cons i sb b us u h1 h2 h ih =>
  by_cases hi:t=i
  ·subst hi
   refine .inl ⟨by simp [idU],sb,b,?_,?_,h1,h2⟩
   ·rw [List.cons_append,ac,if_pos rfl]
   ·simp [lkU]
  ·rcases ih with ⟨m1,sb',b',m2,m3,m4⟩ | ⟨m1,m2,m3⟩
   ·refine .inl ⟨by simp [idU,m1],sb',b',?_,?_,m4⟩
    ·rw [List.cons_append,ac,if_neg hi]; exact m2
    ·simp only [lkU,if_neg hi]; exact m3
   ·refine .inr ⟨by simp [idU,m1,hi],?_,?_⟩
    ·rw [List.cons_append,ac,if_neg hi]; exact m2
    ·simp only [lkU,if_neg hi]; exact m3
theorem bn:∀ {l:List Nat} {i:Nat},af l i=true↔i∈l
 | [],i=>by simp [af]
 | j::l,i=>by
  simp only [af,aP,List.mem_cons]
  by_cases h:i=j
  ·simp [h]
  ·simp only [h,decide_false,false_or]; exact bn
theorem mM {l:List Nat} {i:Nat} : af l i=false↔i ∉ l:=by rw [← bn]; simp
theorem dz:∀ {l:List Nat},i9 l=true→l.Nodup
 | [],_=>List.nodup_nil
 | a::l,h=>by
  simp only [i9] at h
  split at h
  ·cases h
  ·rename_i h1
   exact List.nodup_cons.2 ⟨mM.1 h1,dz h⟩
theorem fh:∀ {l m:List Nat},sk l m=true→∀ x∈l,x∈m
 | [],_,_,x,hx=>by cases hx
 | a::l,m,h,x,hx=>by
  simp only [sk] at h
  split at h
  ·rename_i h1
   rcases List.mem_cons.1 hx with rfl | hx
   ·exact bn.1 h1
   ·exact fh h x hx
  ·cases h
theorem mG:∀ {l:List Nat},tI s l=true→∀ i∈l,af s.pr i=false
 | [],_,i,hi=>by cases hi
 | a::l,h,i,hi=>by
  simp only [tI] at h
  split at h
  ·cases h
  ·rename_i h1
   rcases List.mem_cons.1 hi with rfl | hi
   ·exact h1
   ·exact mG h i hi
theorem mH:∀ {l:List Nat},tJ s l=true→∀ i∈l,pF s i=true∧lkB s.bx i=none∧i < 1000000
 | [],_,i,hi=>by cases hi
 | a::l,h,i,hi=>by
  simp only [tJ] at h
  split at h
  ·rename_i h1 h2 h3
   rcases List.mem_cons.1 hi with rfl | hi
   ·exact ⟨h1,h2,Nat.le_of_ble_eq_true h3⟩
   ·exact mH h i hi
  ·cases h
theorem mI:∀ {us:List (Nat×Option aj)},tK s us=true→∀ t sb,(t,sb)∈us→∀ ty cs,lkB s.bx t=some (.st ty cs)→∃ cs',sb=some (.st ty cs')∧cs'.length=cs.length
 | [],_,t,sb,h,_,_,_=>by cases h
 | (i,b)::us,h,t,sb,hm,ty,cs,hl=>by
  simp only [tK,Bool.and_eq_true] at h
  rcases List.mem_cons.1 hm with e | hm
  ·injection e with e1 e2
   subst e1 e2
   have h1:=h.1
   rw [hl] at h1
   simp only at h1
   split at h1
   ·rename_i ty' cs'
    rw [Bool.and_eq_true,Nat.beq_eq] at h1
    have:=zd h1.1
    subst this
    exact ⟨cs',rfl,h1.2.symm⟩
   ·cases h1
  ·exact mI h.2 t sb hm ty cs hl
mutual
theorem o4 (b:Nat→Option Box) : ∀ q:PV,clean q=true→asData b q=jL q
 | .junk,_=>rfl
 | .d _,_=>rfl
 | .fe _,_=>rfl
 | .ptr _ _,h=>by cases h
 | .row _ _,h=>by cases h
 | .re _ _ _ _,h=>by cases h
 | .vw _ _ _ _,h=>by cases h
 | .ag cs,h=>by simp only [asData,jL]; rw [eB b cs h]
 | .tup cs,h=>by simp only [asData,jL]; rw [eB b cs h]
 | .fn f ps qs,h=>by
  have h:(aU ps&&aU qs)=true:=h
  rw [Bool.and_eq_true] at h
  simp only [asData,jL]; rw [eB b ps h.1,eB b qs h.2]
theorem eB (b:Nat→Option Box) : ∀ cs:List PV,aU cs=true→av b cs=bH cs
 | [],_=>rfl
 | c::cs,h=>by
  simp only [aU,Bool.and_eq_true] at h
  simp only [av,bH]; rw [o4 b c h.1,eB b cs h.2]
end
theorem jv (hs:Sim s p) {rows:List (Nat×Nat×Nat×Nat×Ty)} : ∀ {cs:List SV} {qs:List PV} {ds:List SD} {j:Nat},aA s.bx cs qs→cellsOf s rows j cs=some ds →
  bH qs=ce rows j (ds.map SD.toD)∧∀ t Bx,(t,Bx)∈aR rows j (ds.map SD.toD)→p.b t=some Bx
 | [],qs,ds,j,hv,h=>by
  rcases hv.cases with ⟨_,rfl⟩ | ⟨_,_,_,_,h1,_⟩
  ·injection h with h; subst h; exact ⟨rfl,fun _ _ h=>by cases h⟩
  ·cases h1
 | c::cs,qs,ds,j,hv,h=>by
  rcases hv.cases with ⟨h1,_⟩ | ⟨c',q,cs',qs',h1,rfl,h2,h3⟩
  ·cases h1
  ·injection h1 with e1 e2
   subst e1 e2
   simp only [cellsOf] at h
   split at h
   ·rename_i R e k t hf
    split at h
    ·rename_i R' e' k' t' xs pins hb
     split at h
     ·rename_i hty _
      obtain ⟨m1,h⟩:=aa h
      obtain ⟨m2,h⟩:=aa h
      obtain ⟨m3,h⟩:=aa h
      split at h
      ·rename_i r hr
       injection h with h
       subst h hty
       rw [Nat.beq_eq] at m1
       have m2:=zd m2
       have m3:=zd m3
       subst m1 m2 m3
       obtain ⟨k1,k2⟩:=jv hs h3 hr
       have hbx:=hs.bx R'
       rw [hb] at hbx
       cases h2 with
       | row _ n e2 k2' ty2 xs2 pins2 hb2 hn =>
        rw [hb] at hb2
        injection hb2 with hb2
        injection hb2 with q1 q2 q3 q4 q5
        subst q3
        have q4:=eq_of_heq q4
        subst q4
        refine ⟨?_,?_⟩
        ·simp only [bH,jL,List.map_cons,ce,hf,SD.toD,k1]
         simp [j2,hn]
        ·intro t Bx hm
         simp only [List.map_cons,aR,hf,SD.toD,List.mem_cons,Prod.mk.injEq] at hm
         rcases hm with ⟨rfl,rfl⟩ | hm
         ·exact hbx.1
         ·exact k2 t Bx hm
      ·cases h
     ·cases h
    ·cases h
   ·rename_i hf
    split at h
    ·rename_i x r hr
     injection h with h
     subst h
     obtain ⟨k1,k2⟩:=jv hs h3 hr
     cases h2 with
     | d _ y hy =>
      refine ⟨?_,?_⟩
      ·simp only [bH,jL,List.map_cons,ce,hf,k1,hy.nrm]
      ·intro t Bx hm
       simp only [List.map_cons,aR,hf] at hm
       exact k2 t Bx hm
    ·cases h
theorem k8:∀ {rows:List (Nat×Nat×Nat×Ty)} {cs:List SV} {is:List Nat},lQ rows cs=some is→is.length=rows.length
 | [],_,is,h=>by injection h with h; subst h; rfl
 | (j,e)::rows,cs,is,h=>by
  simp only [lQ] at h
  split at h
  ·rename_i R is' _ h1
   injection h with h
   subst h
   simp [k8 h1]
  ·cases h
theorem nD (hs:Sim s p) {rows:List (Nat×Nat×Nat×Ty)} {n:Nat} {cs:List SV} {qs:List PV} {x:ST n} {is:List Nat} (hv:aA s.bx cs qs) (h:rF s rows n cs=some (x,is)) :
  is.length=rows.length∧bH qs=ce (fL rows is) 0 (stD n x)∧∀ t Bx,(t,Bx)∈aR (fL rows is) 0 (stD n x)→p.b t=some Bx:=by
 unfold rF at h
 split at h
 ·rename_i is' hi
  split at h
  ·rename_i ds hd
   split at h
   ·rename_i x' hx
    injection h with h
    injection h with e1 e2
    subst e1 e2
    rw [← kc hx]
    exact ⟨k8 hi,jv hs hv hd⟩
   ·cases h
  ·cases h
 ·cases h
structure Ak (p:PS) (pt:PT) (q:PV) (x:pt.den) (is:List Nat) : Prop where
 len:is.length=pt.nI
 v:jL q=(toI pt is x).1
 b:∀ t Bx,(t,Bx)∈(toI pt is x).2→∃ B',p.b t=some B'∧lD B' = Bx
theorem kN (hs:Sim s p) {e k:Nat} {t:Ty} {v:SV} {q:PV} {xs:List t.den} {is:List Nat} (hv:al s.bx v q) (h:gp s e k t v=some (xs,is)) : ∃ i,is = [i]∧q = .row i xs.length∧p.b i=some (rwU e k t xs)∧∃ e' k' t' xs' pins,lkB s.bx i=some (.rw e' k' t' xs' pins)∧xs'.length=xs.length:=by
 unfold gp at h
 split at h
 ·rename_i i
  split at h
  ·rename_i e' k' t' xs' pins hb
   split at h
   ·rename_i hty _
    obtain ⟨m2,h⟩:=aa h
    obtain ⟨m3,h⟩:=aa h
    injection h with h
    injection h with e1 e2
    subst e1 e2 hty
    have m2:=zd m2
    have m3:=zd m3
    subst m2 m3
    have hbx:=hs.bx i
    rw [hb] at hbx
    cases hv with
    | row _ n e2 k2' ty2 xs2 pins2 hb2 hn =>
     rw [hb] at hb2
     injection hb2 with hb2
     injection hb2 with q1 q2 q3 q4 q5
     subst q3
     have q4:=eq_of_heq q4
     subst q4
     exact ⟨i,rfl,by rw [← hn]; rfl,hbx.1,_,_,_,_,_,hb,rfl⟩
   ·cases h
  ·cases h
 ·cases h
theorem ym (hs:Sim s p) {pt:PT} {v:SV} {q:PV} {x:pt.den} {is:List Nat} (hv:al s.bx v q) (h:rH s pt v=some (x,is)) : is = []∧jL q=eh pt x:=by
 unfold rH at h
 obtain ⟨h1,h⟩:=aa h
 split at h
 ·rename_i x' hx
  injection h with h
  injection h with e1 e2
  subst e1 e2
  obtain ⟨k1,k2⟩:=(l3 hs hv hx).2 h1
  exact ⟨rfl,by rw [← o4 bg q k1]; exact k2⟩
 ·cases h
theorem pX (hs:Sim s p) : ∀ {pt:PT} {v:SV} {q:PV} {x:pt.den} {is:List Nat},al s.bx v q→s7 s pt v=some (x,is)→Ak p pt q x is:=by
 intro pt v q x is hv h
 have plain:∀ {pt:PT} {x:pt.den},pt.nI=0→(toI pt [] x)=(eh pt x,[])→rH s pt v=some (x,is)→Ak p pt q x is:=fun {pt x} h0 h1 h=>by
  obtain ⟨rfl,h2⟩:=ym hs hv h
  exact ⟨h0.symm,by rw [h1]; exact h2,by rw [h1]; exact fun _ _ h=>by cases h⟩
 have row:∀ {e k:Nat} {t:Ty} {xs:List t.den},gp s e k t v=some (xs,is)→is.length=1∧∃ i,is = [i]∧q = .row i xs.length∧p.b i=some (rwU e k t xs):=fun {e k t xs} h=>by
  obtain ⟨i,rfl,h1,h2,_⟩:=kN hs hv h
  exact ⟨rfl,i,rfl,h1,h2⟩
 cases pt with
 | lf t=>exact plain rfl rfl h
 | ag i=>exact plain rfl rfl h
 | pl t=>exact plain rfl rfl h
 | ps i=>exact plain rfl rfl h
 | fn f a b=>exact plain rfl rfl h
 | io l=>exact be (x:=(x,is)) h
 | own e k t =>
  obtain ⟨h1,i,rfl,h2,h3⟩:=row (xs:=x) h
  refine ⟨h1,by rw [h2]; rfl,fun t' Bx hm=>?_⟩
  simp only [toI,List.mem_cons,List.not_mem_nil,or_false,Prod.mk.injEq] at hm
  obtain ⟨rfl,rfl⟩:=hm
  exact ⟨_,h3,rfl⟩
 | mv e k t =>
  obtain ⟨h1,i,rfl,h2,h3⟩:=row (xs:=x) h
  refine ⟨h1,by rw [h2]; rfl,fun t' Bx hm=>?_⟩
  simp only [toI,List.mem_cons,List.not_mem_nil,or_false,Prod.mk.injEq] at hm
  obtain ⟨rfl,rfl⟩:=hm
  exact ⟨_,h3,rfl⟩
 | bx ty n rows =>
  replace h:rL s ty n rows v=some (x,is):=h
  unfold rL at h
  split at h
  ·rename_i i
   split at h
   ·rename_i ty' cs hb
    obtain ⟨m1,h⟩:=aa h
    have m1:=zd m1
    subst m1
    split at h
    ·rename_i x' is' hd
     injection h with h
     injection h with e1 e2
     subst e1 e2
     have hbx:=hs.bx i
     rw [hb] at hbx
     obtain ⟨qs,k1,k2⟩:=hbx
     obtain ⟨k3,k4,k5⟩:=nD hs k2 hd
     cases hv with
     | ptr _ _ _ _ _ =>
      refine ⟨by simp [k3,PT.nI],rfl,fun t' Bx hm=>?_⟩
      simp only [toI,List.mem_cons,Prod.mk.injEq] at hm
      rcases hm with ⟨rfl,rfl⟩ | hm
      ·exact ⟨_,k1,by rw [lD,k4]⟩
      ·have:=k5 t' Bx hm
       refine ⟨Bx,this,?_⟩
       have:∀ {rows:List (Nat×Nat×Nat×Nat×Ty)} {ds:List D} {j:Nat},(t',Bx)∈aR rows j ds→lD Bx=Bx:=by
        intro rows ds
        induction ds with
        | nil=>intro j h; cases h
        | cons d ds ih =>
         intro j h
         simp only [aR] at h
         split at h
         ·split at h
          ·rcases List.mem_cons.1 h with e | h
           ·injection e with _ e; subst e; rfl
           ·exact ih h
          ·exact ih h
         ·exact ih h
       exact this hm
    ·cases h
   ·cases h
  ·cases h
 | agr n rows =>
  replace h:s8 s n rows v=some (x,is):=h
  unfold s8 at h
  split at h
  ·rename_i cs
   obtain ⟨qs,rfl,hq⟩:=l8 hv
   obtain ⟨k3,k4,k5⟩:=nD hs hq h
   refine ⟨k3,by simp only [jL,toI,k4],fun t' Bx hm=>?_⟩
   have:=k5 t' Bx hm
   refine ⟨Bx,this,?_⟩
   have:∀ {rows:List (Nat×Nat×Nat×Nat×Ty)} {ds:List D} {j:Nat},(t',Bx)∈aR rows j ds→lD Bx=Bx:=by
    intro rows ds
    induction ds with
    | nil=>intro j h; cases h
    | cons d ds ih =>
     intro j h
     simp only [aR] at h
     split at h
     ·split at h
      ·rcases List.mem_cons.1 h with e | h
       ·injection e with _ e; subst e; rfl
       ·exact ih h
      ·exact ih h
     ·exact ih h
   exact this hm
  ·cases h
theorem rI (hs:Sim s p) : ∀ {ps:List PT} {vs:List SV} {qs:List PV} {x:bT ps} {iss:List (List Nat)},aA s.bx vs qs→oY s ps vs=some (x,iss) →
  fT ps iss∧bH qs=(fQ ps iss x).1∧∀ t Bx,(t,Bx)∈(fQ ps iss x).2→∃ B',p.b t=some B'∧lD B' = Bx
 | [],[],qs,x,iss,hv,h=>by
  rcases hv.cases with ⟨_,rfl⟩ | ⟨_,_,_,_,h1,_⟩
  ·injection h with h
   injection h with _ h
   subst h
   exact ⟨trivial,rfl,fun _ _ h=>by cases h⟩
  ·cases h1
 | [],_ :: _,_,_,_,_,h=>by cases h
 | _ :: _,[],_,_,_,_,h=>by cases h
 | pt::ps,v::vs,qs,x,iss,hv,h=>by
  rcases hv.cases with ⟨h1,_⟩ | ⟨v',q,vs',qs',h1,rfl,h2,h3⟩
  ·cases h1
  ·injection h1 with e1 e2
   subst e1 e2
   simp only [oY] at h
   split at h
   ·rename_i y is ys iss' m1 m2
    injection h with h
    injection h with e1 e2
    subst e1 e2
    obtain ⟨k1,k2,k3⟩:=pX hs h2 m1
    obtain ⟨k4,k5,k6⟩:=rI hs h3 m2
    refine ⟨⟨k1,k4⟩,by simp only [bH,fQ,k2,k5],fun t Bx hm=>?_⟩
    simp only [fQ,List.mem_append] at hm
    rcases hm with hm | hm
    ·exact k3 t Bx hm
    ·exact k6 t Bx hm
   ·cases h
end
section
variable {B B':List (Nat×Option aj)} {s:SS} {p:PS} {P:Program} {ρ : Type} {G:List Nat} {sc:List Nat}
def jw (B':List (Nat×Option aj)) (bx:List (Nat×Option aj)) : Prop:=∀ t x,(t,some x)∈bx→lkB B' t=some x
theorem jw.app {a b:List (Nat×Option aj)} (h:jw B' (a++b)) : jw B' a∧jw B' b:=⟨fun t x hm=>h t x (List.mem_append_left _ hm),fun t x hm=>h t x (List.mem_append_right _ hm)⟩
theorem sB {rows:List (Nat×Nat×Nat×Nat×Ty)} : ∀ {cs:List SD} {j:Nat} {vs:List SV} {bx:List (Nat×Option aj)},bB rows j cs [] = some (vs,bx)→(∀ c∈cs,c≠.nl) →
  UAl G B' bx (aR rows j (cs.map SD.toD))∧(jw B' bx→aA B' vs (ce rows j (cs.map SD.toD)))
 | [],j,vs,bx,h,_=>by
  simp only [bB] at h
  injection h with h
  injection h with e1 e2
  subst e1 e2
  exact ⟨.nil,fun _=>.nil⟩
 | c::cs,j,vs,bx,h,hn=>by
  simp only [bB] at h
  have hn':=fun c' hc=>hn c' (List.mem_cons_of_mem _ hc)
  split at h
  ·rename_i R e k t hf
   split at h
   ·rename_i xs vs' bx' hx hr
    injection h with h
    injection h with e1 e2
    subst e1 e2
    obtain ⟨k1,k2⟩:=sB hr hn'
    have hD:c.toD = .sl ((show List t.den from xs).map (az t)):=by
     rw [← lZ hx]; rfl
    simp only [List.map_cons,aR,ce,hf,hD]
    refine ⟨.cons R _ _ _ _ (fun x hx=>?_) (fun h=>by cases h) k1,fun hs=>.cons ?_ (k2 fun t x hm=>hs t x (List.mem_cons_of_mem _ hm))⟩
    ·injection hx with hx
     subst hx
     exact ⟨rfl,fun p pin h=>by cases h⟩
    ·exact .row R _ e k t xs [] (hs R _ List.mem_cons_self) (show List.length (show List t.den from xs) = _ from (List.length_map _).symm)
   ·cases h
  ·rename_i hf
   split at h
   ·rename_i vs' bx' hr
    injection h with h
    injection h with e1 e2
    subst e1 e2
    obtain ⟨k1,k2⟩:=sB hr hn'
    simp only [List.map_cons,aR,ce,hf]
    exact ⟨k1,fun hs=>.cons (.d _ _ (qi.of (hn c List.mem_cons_self))) (k2 hs)⟩
   ·cases h
theorem nk {rows:List (Nat×Nat×Nat×Ty)} {is:List Nat} {n:Nat} {x:ST n} {vs:List SV} {bx:List (Nat×Option aj)} (h:rr rows is n x=some (vs,bx)) :
  UAl G B' bx (aR (fL rows is) 0 (stD n x))∧(jw B' bx→aA B' vs (ce (fL rows is) 0 (stD n x))):=by
 rw [← gC n x]
 exact sB h (i0 n x)
theorem oO {e k:Nat} {t:Ty} (xs:List t.den) {is:List Nat} {v:SV} {bx:List (Nat×Option aj)} (h:(match is with | [i]=>some (SV.row i,[(i,some (aj.rw e k t xs []))]) | _=>none)=some (v,bx)) (hs:jw B' bx) :
  ∃ i,is = [i]∧v = .row i∧UAl G B' bx [(i,rwU e k t xs)]∧al B' v (.row i xs.length):=by
 split at h
 ·rename_i i
  injection h with h
  injection h with e1 e2
  subst e1 e2
  exact ⟨i,rfl,rfl,.cons i _ _ _ _ (fun x hx=>by injection hx with hx; subst hx; exact ⟨rfl,fun p pin h=>by cases h⟩) (fun h=>by cases h) .nil,.row i _ e k t xs [] (hs i _ List.mem_cons_self) rfl⟩
 ·cases h
theorem pR {pt:PT} {is:List Nat} {x:pt.den} {v:SV} {bx:List (Nat×Option aj)} (hp:(pt.isM||uS pt)=true) (h:rv pt is x=some (v,bx)) (hs:jw B' bx) :
  UAl G B' bx (toI pt is x).2∧al B' v (toI pt is x).1:=by
 have plain:∀ {pt:PT} {x:pt.den},pt.isM=false→(pt.isM||uS pt)=true→(toI pt is x)=(eh pt x,[])→v=vi pt x→bx = []→UAl G B' bx (toI pt is x).2∧al B' v (toI pt is x).1:=fun {pt x} h1 h2 h3 h4 h5=>by
  subst h4 h5
  rw [h1,Bool.false_or] at h2
  rw [h3]
  exact ⟨.nil,jY pt x h2⟩
 cases pt with
 | lf t=>injection h with h; injection h with e1 e2; exact plain rfl hp rfl e1.symm e2.symm
 | ag t=>injection h with h; injection h with e1 e2; exact plain rfl hp rfl e1.symm e2.symm
 | pl t=>injection h with h; injection h with e1 e2; exact plain rfl hp rfl e1.symm e2.symm
 | ps t=>injection h with h; injection h with e1 e2; exact plain rfl hp rfl e1.symm e2.symm
 | fn f a b=>injection h with h; injection h with e1 e2; exact plain rfl hp rfl e1.symm e2.symm
 | io l=>cases h
 | own e k t=>obtain ⟨i,rfl,rfl,k1,k2⟩:=oO (G:=G) (B':=B') (show List t.den from x) h hs; exact ⟨k1,k2⟩
 | mv e k t=>obtain ⟨i,rfl,rfl,k1,k2⟩:=oO (G:=G) (B':=B') (show List t.den from x) h hs; exact ⟨k1,k2⟩
 | bx ty n rows =>
  simp only [rv] at h
  split at h
  ·rename_i i is'
   split at h
   ·rename_i vs bx' he
    injection h with h
    injection h with e1 e2
    subst e1 e2
    obtain ⟨k1,k2⟩:=nk (G:=G) (B':=B') he
    have hc:=k2 fun t x hm=>hs t x (List.mem_cons_of_mem _ hm)
    exact ⟨.cons i _ _ _ _ (fun x hx=>by injection hx with hx; subst hx; exact ⟨_,rfl,hc⟩) (fun h=>by cases h) k1,.ptr i 0 _ _ (hs i _ List.mem_cons_self)⟩
   ·cases h
  ·cases h
 | agr n rows =>
  simp only [rv] at h
  split at h
  ·rename_i vs bx' he
   injection h with h
   injection h with e1 e2
   subst e1 e2
   obtain ⟨k1,k2⟩:=nk (G:=G) (B':=B') he
   have hc:=k2 hs
   exact ⟨k1,.ag _ _ hc.len hc.rep⟩
  ·cases h
theorem oP:∀ {rs:List PT} {jss:List (List Nat)} {r:au rs} {vs:List SV} {bs:List (Nat×Option aj)},gK rs=true→pQ rs jss r=some (vs,bs)→jw B' bs→UAl G B' bs (eg rs jss r).2∧aA B' vs (eg rs jss r).1
 | [],[],r,vs,bs,_,h,_=>by
  have h:some (([] : List SV),([] : List (Nat×Option aj)))=some (vs,bs):=h
  injection h with h
  injection h with e1 e2
  subst e1 e2
  exact ⟨.nil,.nil⟩
 | [],_ :: _,r,vs,bs,_,h,_=>by cases h
 | [pt],[],r,vs,bs,_,h,_=>by cases h
 | [pt],[is],r,vs,bs,hp,h,hs=>by
  have h:(match rv pt is r with | some (v,b)=>some ([v],b) | none=>none)=some (vs,bs):=h
  simp only [gK] at hp
  split at hp
  ·rename_i hp1
   split at h
   ·rename_i v b he
    injection h with h
    injection h with e1 e2
    subst e1 e2
    obtain ⟨k1,k2⟩:=pR (G:=G) (B':=B') hp1 he hs
    exact ⟨k1,.cons k2 .nil⟩
   ·cases h
  ·cases hp
 | [pt],_ :: _ :: _,r,vs,bs,_,h,_=>by cases h
 | pt::q::l,[],r,vs,bs,_,h,_=>by cases h
 | pt::q::l,is::iss,r,vs,bs,hp,h,hs=>by
  have h:(match rv pt is r.1,pQ (q::l) iss r.2 with | some (v,b),some (vs,bs)=>some (v::vs,b++bs) | _,_=>none)=some (vs,bs):=h
  rw [gK] at hp
  split at hp
  ·rename_i hp1
   split at h
   ·rename_i v b vs' bs' he hr
    injection h with h
    injection h with e1 e2
    subst e1 e2
    obtain ⟨s1,s2⟩:=hs.app
    obtain ⟨k1,k2⟩:=pR (G:=G) (B':=B') hp1 he s1
    obtain ⟨k3,k4⟩:=oP hp hr s2
    exact ⟨k1.app k3,.cons k2 k4⟩
   ·cases h
  ·cases hp
theorem wj {vs:List SV} {qs:List PV} (h:aA B vs qs) : al B (wk vs) (sJ qs):=by
 match vs,qs,h with
 | [],[],h=>exact .tup _ _ rfl (fun j c q h1=>by simp at h1)
 | [v],[q],h=>exact h.head
 | v::v' :: vs,q::q' :: qs,h=>exact .tup _ _ h.len h.rep
 | [],_ :: _,h=>have:=h.len; simp at this
 | _ :: _,[],h=>have:=h.len; simp at this
 | [_],_ :: _ :: _,h=>have:=h.len; simp at this
 | _ :: _ :: _,[_],h=>have:=h.len; simp at this
def kR (s:SS) (ks js:List Nat) (t:Nat) (sb:Option aj) : Prop :=
 af ks t=true∨t∈js∨(∃ ty cs,lkB s.bx t=some (.st ty cs))∨∃ e k ty xs pins e' k' ty' xs',lkB s.bx t=some (.rw e k ty xs pins)∧sb=some (.rw e' k' ty' xs' (iL pins))∧xs'.length=xs.length
theorem l5:∀ {rows:List (Nat×Nat×Nat×Ty)} {is:List Nat} {j R e k:Nat} {t:Ty},jV (fL rows is) j=some (R,e,k,t)→R∈is
 | [],is,j,R,e,k,t,h=>by cases is <;> cases h
 | (j0,e0,k0,t0)::rows,[],j,R,e,k,t,h=>by cases h
 | (j0,e0,k0,t0)::rows,R0::is,j,R,e,k,t,h=>by
  simp only [fL,jV] at h
  split at h
  ·injection h with h
   injection h with h _
   subst h
   exact List.mem_cons_self
  ·exact List.mem_cons_of_mem _ (l5 h)
theorem pA {rows:List (Nat×Nat×Nat×Ty)} {is:List Nat} : ∀ {cs:List SD} {j:Nat} {vs:List SV} {bx:List (Nat×Option aj)},bB (fL rows is) j cs [] = some (vs,bx)→∀ t sb,(t,sb)∈bx→t∈is
 | [],j,vs,bx,h,t,sb,hm=>by
  simp only [bB] at h
  injection h with h
  injection h with e1 e2
  subst e1 e2
  cases hm
 | c::cs,j,vs,bx,h,t,sb,hm=>by
  simp only [bB] at h
  split at h
  ·rename_i R e k t' hf
   split at h
   ·rename_i xs vs' bx' hx hr
    injection h with h
    injection h with e1 e2
    subst e1 e2
    rcases List.mem_cons.1 hm with e | hm
    ·injection e with e _
     subst e
     exact l5 hf
    ·exact pA hr t sb hm
   ·cases h
  ·split at h
   ·rename_i vs' bx' hr
    injection h with h
    injection h with e1 e2
    subst e1 e2
    exact pA hr t sb hm
   ·cases h
theorem yf (hs:Sim s p) {pt:PT} {b:IB} {is js:List Nat} {x:pt.den} {o:b.den} {v:SV} {q:PV} {m:MU} (hv:al s.bx v q) (hd:s7 s pt v=some (x,is)) (hl:zP pt b x o) (h:zw s pt b is js o=some m) (hsn:jw B' m.us) :
  (UAl G B' m.us (toO pt b is js x o)∧m.gs=qX pt is∧∀ i∈m.gs,af m.ks i=true)∧∀ t sb,(t,sb)∈m.us→kR s m.ks js t sb:=by
 have nil:some (⟨[],[],[]⟩ : MU)=some m→toO pt b is js x o = []→qX pt is = []→(UAl G B' m.us (toO pt b is js x o)∧m.gs=qX pt is∧∀ i∈m.gs,af m.ks i=true)∧∀ t sb,(t,sb)∈m.us→kR s m.ks js t sb:=fun h1 h2 h3=>by
  injection h1 with h1
  subst h1
  rw [h2,h3]
  exact ⟨⟨.nil,rfl,fun _ h=>by cases h⟩,fun t sb h=>by cases h⟩
 cases pt with
 | lf t=>cases b with
  | no=>exact nil h rfl rfl
  | _=>cases h
 | ag t=>cases b with
  | no=>exact nil h rfl rfl
  | _=>cases h
 | pl t=>cases b with
  | no=>exact nil h rfl rfl
  | _=>cases h
 | ps t=>cases b with
  | no=>exact nil h rfl rfl
  | _=>cases h
 | fn f a c=>cases b with
  | no=>exact nil h rfl rfl
  | _=>cases h
 | io l=>cases b <;> cases h
 | agr n rows=>cases b <;> cases h
 | own e k t=>cases b with
  | no=>cases h
  | bx=>cases h
  | own e' k' t' =>
   obtain ⟨i,rfl,h1,h2,e2,k2,t2,xs2,pins,h3,h4⟩:=kN hs hv (show gp s e k t v=some (x,is) from hd)
   have h:some (⟨[],[(i,some (.rw e' k' t' o (pC s i)))],[]⟩ : MU)=some m:=h
   injection h with h
   subst h
   have hp:pC s i=iL pins:=by unfold pC; rw [h3]
   rw [hp]
   have hl:(show List t'.den from o).length=(show List t.den from x).length:=hl
   refine ⟨⟨.cons i _ _ _ _ (fun y hy=>?_) (fun h=>by cases h) .nil,rfl,fun _ h=>by cases h⟩,fun t sb hm=>?_⟩
   ·injection hy with hy
    subst hy
    refine ⟨rfl,fun pp pin hpin=>?_⟩
    rw [dj,zm] at hpin
    obtain ⟨pin0,h5,rfl⟩:=hpin
    have hbx:=hs.bx i
    rw [h3] at hbx
    obtain ⟨h6,_⟩:=hbx.2 pp pin0 h5
    exact ⟨by show pin0.i.toNat < (show List t'.den from o).length; rw [hl]; show _ < List.length _; rw [← h4]; exact h6,fun cs h=>by cases h⟩
   ·simp only [List.mem_cons,List.not_mem_nil,or_false,Prod.mk.injEq] at hm
    obtain ⟨rfl,rfl⟩:=hm
    exact .inr (.inr (.inr ⟨_,_,_,_,_,_,_,_,_,h3,rfl,by show (show List t'.den from o).length = _; rw [hl]; exact h4.symm⟩))
 | mv e k t=>cases b with
  | own=>cases h
  | bx=>cases h
  | no =>
   obtain ⟨i,rfl,_⟩:=kN hs hv (show gp s e k t v=some (x,is) from hd)
   have h:some (⟨[i],[],[i]⟩ : MU)=some m:=h
   injection h with h
   subst h
   exact ⟨⟨.nil,rfl,fun j hj=>bn.2 hj⟩,fun t sb hm=>by cases hm⟩
 | bx ty n rows=>cases b with
  | own=>cases h
  | no=>cases h
  | bx ty' n' rows' =>
   have hb:∃ i is' cs ty0,is=i::is'∧lkB s.bx i=some (.st ty0 cs):=by
    replace hd:rL s ty n rows v=some (x,is):=hd
    clear h
    unfold rL at hd
    split at hd
    ·rename_i i
     split at hd
     ·rename_i ty0 cs hb
      obtain ⟨_,hd⟩:=aa hd
      split at hd
      ·injection hd with hd
       injection hd with _ hd
       exact ⟨i,_,cs,ty0,hd.symm,hb⟩
      ·cases hd
     ·cases hd
    ·cases hd
   obtain ⟨i,is',cs,ty0,rfl,hb⟩:=hb
   have h:(match rr rows' js n' o with | some (vs,bx)=>some (⟨is',(i,some (.st ty' vs))::bx,is'⟩ : MU) | none=>none)=some m:=h
   split at h
   ·rename_i vs bx he
    injection h with h
    subst h
    obtain ⟨k1,k2⟩:=nk (G:=G) (B':=B') he
    have hc:=k2 fun t x hm=>hsn t x (List.mem_cons_of_mem _ hm)
    refine ⟨⟨.cons i _ _ _ _ (fun x hx=>by injection hx with hx; subst hx; exact ⟨_,rfl,hc⟩) (fun h=>by cases h) k1,rfl,fun j hj=>bn.2 hj⟩,fun t sb hm=>?_⟩
    rcases List.mem_cons.1 hm with e | hm
    ·injection e with e1 e2
     subst e1 e2
     exact .inr (.inr (.inl ⟨_,_,hb⟩))
    ·exact .inr (.inl (pA he t sb hm))
   ·cases h
theorem kR.more {ks ks' js js':List Nat} {t:Nat} {sb:Option aj} (h:kR s ks js t sb) (hk:∀ t,af ks t=true→af ks' t=true) (hj:∀ t∈js,t∈js') : kR s ks' js' t sb:=by
 rcases h with h | h | h
 ·exact .inl (hk t h)
 ·exact .inr (.inl (hj t h))
 ·exact .inr (.inr h)
theorem rt (hs:Sim s p) : ∀ {ps:List PT} {ls:List IB} {iss kss:List (List Nat)} {x:bT ps} {o:lC ls} {vs:List SV} {qs:List PV} {m:MU},aA s.bx vs qs→oY s ps vs=some (x,iss)→wz ps ls x o→ul s ps ls iss kss o=some m→jw B' m.us →
  (UAl G B' m.us (vM ps ls iss kss x o)∧m.gs=tV ps iss∧∀ i∈m.gs,af m.ks i=true)∧∀ t sb,(t,sb)∈m.us→kR s m.ks (bf kss) t sb
 | [],[],[],[],x,o,vs,qs,m,_,_,_,h,_=>by
  have h:some (⟨[],[],[]⟩ : MU)=some m:=h
  injection h with h
  subst h
  exact ⟨⟨.nil,rfl,fun _ h=>by cases h⟩,fun t sb h=>by cases h⟩
 | [],[],[],_ :: _,x,o,vs,qs,m,_,_,_,h,_=>by cases h
 | [],[],_ :: _,_,x,o,vs,qs,m,_,_,_,h,_=>by cases h
 | [],_ :: _,_,_,x,o,vs,qs,m,_,_,_,h,_=>by cases h
 | _ :: _,[],_,_,x,o,vs,qs,m,_,_,_,h,_=>by cases h
 | _ :: _,_ :: _,[],_,x,o,vs,qs,m,_,_,_,h,_=>by cases h
 | _ :: _,_ :: _,_ :: _,[],x,o,vs,qs,m,_,_,_,h,_=>by cases h
 | pt::ps,b::ls,is::iss,js::kss,x,o,vs,qs,m,hv,hd,hl,h,hsn=>by
  have h:(match zw s pt b is js o.1,ul s ps ls iss kss o.2 with | some m,some m'=>some (m.app m') | _,_=>none)=some m:=h
  cases vs with
  | nil=>cases hd
  | cons v vs =>
  rcases hv.cases with ⟨h1,_⟩ | ⟨v',q,vs',qs',h1,rfl,h2,h3⟩
  ·cases h1
  ·injection h1 with e1 e2
   subst e1 e2
   simp only [oY] at hd
   split at hd
   ·rename_i y is1 ys iss1 m1 m2
    injection hd with hd
    injection hd with e1 e2
    injection e2 with e2 e3
    subst e1 e2 e3
    split at h
    ·rename_i ma mb ha hb
     injection h with h
     subst h
     have hsn:jw B' (ma.us++mb.us):=hsn
     obtain ⟨s1,s2⟩:=hsn.app
     obtain ⟨⟨k1,g1,g2⟩,k2⟩:=yf hs h2 m1 hl.1 ha s1
     obtain ⟨⟨k3,g3,g4⟩,k4⟩:=rt hs h3 m2 hl.2 hb s2
     refine ⟨⟨k1.app k3,by show ma.gs++mb.gs = _; rw [g1,g3]; rfl,fun i hi=>?_⟩,fun t sb hm=>?_⟩
     ·have hi:i∈ma.gs++mb.gs:=hi
      rcases List.mem_append.1 hi with hi | hi
      ·exact bn.2 (List.mem_append_left _ (bn.1 (g2 i hi)))
      ·exact bn.2 (List.mem_append_right _ (bn.1 (g4 i hi)))
     have hm:(t,sb)∈ma.us++mb.us:=hm
     rcases List.mem_append.1 hm with hm | hm
     ·exact (k2 t sb hm).more (fun t ht=>bn.2 (List.mem_append_left _ (bn.1 ht))) fun t ht=>List.mem_append_left _ ht
     ·exact (k4 t sb hm).more (fun t ht=>bn.2 (List.mem_append_right _ (bn.1 ht))) fun t ht=>List.mem_append_right _ ht
    ·cases h
   ·cases hd
theorem qV (l:BU) : ∀ (is:List Nat),(∀ i∈is,af G i=true)→UAl G B' (cO is) (qW l is)
 | [],_=>.nil
 | a::is,hg=>.cons a _ _ _ _ (fun y hy=>by cases hy) (fun _=>hg a List.mem_cons_self) (qV l is fun i hi=>hg i (List.mem_cons_of_mem _ hi))
theorem fw:∀ {is:List Nat} {t:Nat} {sb:Option aj},(t,sb)∈cO is→t∈is∧sb=none
 | [],t,sb,h=>by cases h
 | a::is,t,sb,h=>by
  rcases List.mem_cons.1 h with e | h
  ·injection e with e1 e2; subst e1 e2; exact ⟨List.mem_cons_self,rfl⟩
  ·obtain ⟨h1,h2⟩:=fw h; exact ⟨List.mem_cons_of_mem _ h1,h2⟩
theorem oD:∀ {is:List Nat} {t:Nat},t∈is→(t,none)∈cO is
 | a::is,t,h=>by
  rcases List.mem_cons.1 h with rfl | h
  ·exact List.mem_cons_self
  ·exact List.mem_cons_of_mem _ (oD h)
theorem ru:∀ {ps:List PT} {iss:List (List Nat)} {x:bT ps} {vs:List SV} {bs:List (Nat×Option aj)},gK ps=true→um ps iss x=some (vs,bs)→jw B' bs→UAl G B' bs (fQ ps iss x).2∧aA B' vs (fQ ps iss x).1
 | [],[],x,vs,bs,_,h,_=>by
  injection h with h
  injection h with e1 e2
  subst e1 e2
  exact ⟨.nil,.nil⟩
 | [],_ :: _,x,vs,bs,_,h,_=>by cases h
 | _ :: _,[],x,vs,bs,_,h,_=>by cases h
 | pt::ps,is::iss,x,vs,bs,hp,h,hs=>by
  simp only [um] at h
  simp only [gK] at hp
  split at hp
  ·rename_i hp1
   split at h
   ·rename_i v b vs' bs' he hr
    injection h with h
    injection h with e1 e2
    subst e1 e2
    obtain ⟨s1,s2⟩:=hs.app
    obtain ⟨k1,k2⟩:=pR (G:=G) (B':=B') hp1 he s1
    obtain ⟨k3,k4⟩:=ru hp hr s2
    exact ⟨k1.app k3,.cons k2 k4⟩
   ·cases h
  ·cases hp
theorem UAl.dom {us:List (Nat×Option aj)} {u:BU} (h:UAl G B' us u) : xa u=idU us:=by
 induction h with
 | nil=>rfl
 | cons t sb b us u h1 h2 h ih=>simp only [xa,idU,ih]
theorem px:∀ {l l':List (Nat×Option aj)},(idU l).Nodup→jw (l++l') l
 | [],_,_,t,x,hm=>by cases hm
 | (i,b)::l,l',hn,t,x,hm=>by
  rw [show idU ((i,b)::l)=i::idU l from rfl,List.nodup_cons] at hn
  rw [List.cons_append,ac]
  rcases List.mem_cons.1 hm with e | hm
  ·injection e with e1 e2
   subst e1 e2
   rw [if_pos rfl]
  ·rw [if_neg (fun (e:t=i)=>hn.1 (by rw [← e]; exact bq.2 ⟨_,hm⟩))]
   exact px hn.2 t x hm
end
section
variable {B B':List (Nat×Option aj)} {s:SS} {p:PS} {P:Program} {ρ : Type} {G:List Nat} {sc:List Nat}
theorem oo:∀ (rs:List PT) (base:Nat),fT rs (dF base rs)
 | [],_=>trivial
 | p::l,base=>⟨List.length_range',oo l _⟩
theorem kZ:∀ (ls:List IB) (base:Nat),jD ls (gO base ls)
 | [],_=>trivial
 | p::l,base=>⟨List.length_range',kZ l _⟩
theorem tS:∀ {l:BU} {t:Nat} {B:Box},lkU l t=some B→(t,B)∈l
 | [],t,B,h=>by cases h
 | (j,C)::l,t,B,h=>by
  simp only [lkU] at h
  split at h
  ·rename_i e; subst e; injection h with h; subst h; exact List.mem_cons_self
  ·exact List.mem_cons_of_mem _ (tS h)
theorem mu {rows:List (Nat×Nat×Nat×Ty)} {is:List Nat} : ∀ {ds:List D} {j t:Nat} {Bx:Box},(t,Bx)∈aR (fL rows is) j ds→t∈is
 | [],j,t,Bx,h=>by cases h
 | d::ds,j,t,Bx,h=>by
  simp only [aR] at h
  split at h
  ·rename_i hf
   split at h
   ·rcases List.mem_cons.1 h with e | h
    ·injection e with e _; subst e; exact l5 hf
    ·exact mu h
   ·exact mu h
  ·exact mu h
theorem xB {pt:PT} {is:List Nat} {x:pt.den} {t:Nat} {Bx:Box} (h:(t,Bx)∈(toI pt is x).2) : t∈is:=by
 cases pt with
 | lf=>cases h
 | ag=>cases h
 | pl=>cases h
 | ps=>cases h
 | fn=>cases h
 | io=>cases h
 | own e k t' =>
  simp only [toI] at h
  split at h
  ·simp only [List.mem_cons,List.not_mem_nil,or_false,Prod.mk.injEq] at h; simp [h.1]
  ·cases h
 | mv e k t' =>
  simp only [toI] at h
  split at h
  ·simp only [List.mem_cons,List.not_mem_nil,or_false,Prod.mk.injEq] at h; simp [h.1]
  ·cases h
 | bx ty n rows =>
  simp only [toI] at h
  split at h
  ·rcases List.mem_cons.1 h with e | h
   ·injection e with e _; subst e; exact List.mem_cons_self
   ·exact List.mem_cons_of_mem _ (mu h)
  ·cases h
 | agr n rows=>exact mu h
theorem ve (l:List Nat) (ls:List (List Nat)) : bf (l::ls)=l++bf ls:=rfl
theorem qm:∀ {ps:List PT} {iss:List (List Nat)} {x:bT ps} {t:Nat} {Bx:Box},(t,Bx)∈(fQ ps iss x).2→t∈bf iss
 | [],_,_,_,_,h=>by cases h
 | _ :: _,[],_,_,_,h=>by cases h
 | p::ps,is::iss,x,t,Bx,h=>by
  simp only [fQ,List.mem_append] at h
  rw [ve,List.mem_append]
  exact h.imp xB qm
def xr (p:PS) : List Nat→BU
 | []=>[]
 | t::l=>match p.b t with | some B=>(t,B)::xr p l | none=>xr p l
theorem iE (p:PS) : ∀ (l:List Nat) (t:Nat),lkU (xr p l) t=if t∈l then p.b t else none
 | [],t=>rfl
 | a::l,t=>by
  simp only [xr]
  cases ha:p.b a with
  | none =>
   rw [iE p l t]
   by_cases h:t=a
   ·subst h; simp [ha]
   ·simp [h]
  | some B =>
   simp only [lkU]
   by_cases h:t=a
   ·subst h; simp [ha]
   ·simp only [h,if_false,List.mem_cons,false_or]; exact iE p l t
structure yQ (sc:List Nat) (P:Program) (f:Nat) (dst:Option Nat) (s:SS) (p:PS) (qs:List PV) (v:SV) (m:MU) (r:PV) (u:BU) : Prop where
 ro:s.ro=false
 call:yR P p.b f qs r u
 sim:Sim (s.updM dst v m) (p.updL dst r u)
 keep:∀ W,(∀ d,dst=some d→af W d=true)→bc sc W s (s.updM dst v m)
 foot:∀ t Bx,lkU u t=some Bx→t∈idU m.us
theorem xn {T:List (Nat×Ent)} (hT:fK P T) (hpr:cY s) (hs:Sim s p) {f:Nat} {dst:Option Nat} {vs:List SV} {qs:List PV} (hM:u9 T f vs=true) (hv:aA s.bx vs qs) {k:SV→MU→Option ρ} {res : ρ} (h:uw T f s dst vs k=some res) :
  ∃ v m r u,k v m=some res∧yQ sc P f dst s p qs v m r u:=by
 unfold uw at h
 split at h
 ·cases h
 ·rename_i hro
  split at h
  ·rename_i en d hen
   split at h
   ·rename_i x iss hd
    obtain ⟨r,hf,h⟩:=aK h
    simp only at h
    split at h
    ·rename_i m ws bs hm hbs
     obtain ⟨hc,h⟩:=aa h
     simp only [Bool.and_eq_true] at hc
     obtain ⟨c1,c2,c3,c4,c5,c6,c7,c10,c8,c9,c11⟩:=hc
     have c1:=mG c1
     have c2:=mH c2
     have c3:=dz c3
     have c4:=dz c4
     have c5:=mI c5
     have c6:=fh c6
     have c7:=fh c7
     have c8:=fh c8
     have hE:(eC en.ps||eC en.rs)=true:=by unfold u9 at hM; rw [hen] at hM; exact hM
     obtain ⟨hlen,hsem⟩:=(hT f _ en hen x r hf).2 hE
     obtain ⟨hsh,hargs,hbox⟩:=rI hs hv hd
     have hall:∀ i∈bf iss,i∈xa (fQ en.ps iss x).2:=fun i hi=>by
      unfold yP at c10
      split at c10
      ·rename_i vv bi hbi
       rw [Bool.and_eq_true] at c10
       have hse:=px (l':=[]) (dz c10.1)
       obtain ⟨z1,_⟩:=ru (G:=[]) c11 hbi hse
       rw [z1.dom]
       exact fh c10.2 i hi
      ·cases c10
     obtain ⟨hcb,hsem⟩:=hsem iss (gO (500000 + 64 * d) (cg en.rs)) (dF (500000 + 64 * d + mg (cg en.rs)) (dx en.rs)) hsh (kZ _ _) (oo _ _) c3 (fun j hj=>(c2 j (List.mem_append_right _ hj)).2.2) hall
     have hseen:jw ((m.us++(bs++cO m.gs))++i1 m.ks s.bx) (m.us++(bs++cO m.gs)):=px c4
     have hG:∀ i∈m.gs,af (m.gs++s.oc) i=true:=fun i hi=>bn.2 (List.mem_append_left _ hi)
     obtain ⟨s1,s23⟩:=hseen.app
     obtain ⟨s2,_⟩:=s23.app
     obtain ⟨⟨k1,g1,g2⟩,k2⟩:=rt (G:=m.gs++s.oc) hs hv hd hlen hm s1
     obtain ⟨k3,k4⟩:=oP (G:=m.gs++s.oc) c9 hbs s2
     have hal:=k1.app (k3.app (qV (fQ en.ps iss x).2 m.gs hG))
     have hids:∀ t,t∈idU m.us++m.gs→t∈idU (m.us++(bs++cO m.gs)):=fun t ht=>by
      rcases List.mem_append.1 ht with ht | ht
      ·obtain ⟨sb,h⟩:=bq.1 ht; exact bq.2 ⟨sb,List.mem_append_left _ h⟩
      ·exact bq.2 ⟨none,List.mem_append_right _ (List.mem_append_right _ (oD ht))⟩
     have hids2:∀ t,t∈idU bs→t∈idU (m.us++(bs++cO m.gs)):=fun t ht=>by obtain ⟨sb,h⟩:=bq.1 ht; exact bq.2 ⟨sb,List.mem_append_right _ (List.mem_append_left _ h)⟩
     have hids3:∀ t,t∈idU (m.us++(bs++cO m.gs))→t∈idU m.us++m.gs∨t∈idU bs:=fun t ht=>by
      obtain ⟨sb,h⟩:=bq.1 ht
      rcases List.mem_append.1 h with h | h
      ·exact .inl (List.mem_append_left _ (bq.2 ⟨sb,h⟩))
      ·rcases List.mem_append.1 h with h | h
       ·exact .inr (bq.2 ⟨sb,h⟩)
       ·exact .inl (List.mem_append_right _ (fw h).1)
     have hlk:=fun t=>yV hal (i1 m.ks s.bx) t
     have hnone2:∀ t,t∈idU bs++(bf (gO (500000 + 64 * d) (cg en.rs))++bf (dF (500000 + 64 * d + mg (cg en.rs)) (dx en.rs)))→p.b t=none:=fun t ht=>by
      obtain ⟨n1,n2,_⟩:=c2 t ht
      have:=hs.bx t
      rw [n2] at this
      exact this (dh n1).1
     have hnone:∀ t,t∈idU bs→p.b t=none:=fun t ht=>hnone2 t (List.mem_append_left _ ht)
     have hBL:zF m.ks s.bx ((m.us++(bs++cO m.gs))++i1 m.ks s.bx):=by
      refine ⟨fun t hk e kk ty xs pins hb=>?_,fun t ty cs hb=>?_⟩
      ·rcases hlk t with ⟨m1,sb,b,m2,m3,m4,m5⟩ | ⟨m1,m2,_⟩
       ·obtain ⟨sb',hsb'⟩:=bq.1 m1
        rcases List.mem_append.1 hsb' with hin | hin
        ·rcases k2 t sb' hin with q | q | ⟨ty',cs',q⟩ | ⟨e1,kk1,ty1,xs1,pins1,e2,kk2,ty2,xs2,q1,q2,q3⟩
         ·rw [hk] at q; cases q
         ·have:=(c2 t (List.mem_append_right _ (List.mem_append_left _ q))).2.1
          rw [hb] at this
          cases this
         ·rw [hb] at q; cases q
         ·rw [hb] at q1
          injection q1 with q1
          injection q1 with z1 z2 z3 z4 z5
          subst z3
          have z4:=eq_of_heq z4
          subst z1 z2 z4 z5 q2
          refine ⟨_,_,_,_,_,hseen t _ (List.mem_append_left _ hin),q3,fun pp pin hp=>⟨⟨pin.i,none⟩,by rw [dj,hp]; rfl,rfl⟩⟩
        ·rcases List.mem_append.1 hin with hin | hin
         ·have:=(c2 t (List.mem_append_left _ (bq.2 ⟨_,hin⟩))).2.1
          rw [hb] at this
          cases this
         ·rw [g2 t (fw hin).1] at hk; cases hk
       ·exact ⟨e,kk,ty,xs,pins,by rw [m2,gS,hb]; rfl,rfl,fun _ pin hp=>⟨pin,hp,rfl⟩⟩
      ·rcases hlk t with ⟨m1,sb,b,m2,m3,m4,m5⟩ | ⟨m1,m2,_⟩
       ·obtain ⟨sb',hsb'⟩:=bq.1 m1
        rcases List.mem_append.1 hsb' with hin | hin
        ·obtain ⟨cs',q1,_⟩:=c5 t sb' (List.mem_append_left _ hin) ty cs hb
         subst q1
         exact ⟨ty,cs',hseen t _ (List.mem_append_left _ hin)⟩
        ·rcases List.mem_append.1 hin with hin | hin
         ·have:=(c2 t (List.mem_append_left _ (bq.2 ⟨_,hin⟩))).2.1
          rw [hb] at this
          cases this
         ·obtain ⟨cs',q1,_⟩:=c5 t sb' (List.mem_append_right _ hin) ty cs hb
          rw [(fw hin).2] at q1
          cases q1
       ·exact ⟨ty,_,by rw [m2,gS,hb]; rfl⟩
     have hu:∀ t,lkU (gQ en.ps en.rs iss (gO (500000 + 64 * d) (cg en.rs)) (dF (500000 + 64 * d + mg (cg en.rs)) (dx en.rs)) x r) t=lkU (vM en.ps (cg en.rs) iss (gO (500000 + 64 * d) (cg en.rs)) x (mD en.rs r)++((eg (dx en.rs) (dF (500000 + 64 * d + mg (cg en.rs)) (dx en.rs)) (la en.rs r)).2++qW (fQ en.ps iss x).2 m.gs)) t:=fun t=>by unfold gQ; rw [g1]
     refine ⟨wk ws,⟨m.ks,m.us++(bs++cO m.gs),m.gs⟩,sJ (eg (dx en.rs) (dF (500000 + 64 * d + mg (cg en.rs)) (dx en.rs)) (la en.rs r)).1,gQ en.ps en.rs iss (gO (500000 + 64 * d) (cg en.rs)) (dF (500000 + 64 * d + mg (cg en.rs)) (dx en.rs)) x r,h,hro,⟨hcb,xr p (bf iss),fun t Bx ht=>?_,fun t Bx ht hn=>?_,fun w0 F0 ρ' b w F ws' hb hbn hi hr=>?_⟩,⟨fun i=>?_,fun t=>?_⟩,fun W hW=>?_,fun t Bx ht=>?_⟩
     ·rw [iE] at ht
      split at ht
      ·rename_i hin
       rcases hlk t with ⟨_,_,b,_,m3,_⟩ | ⟨m1,_⟩
       ·exact ⟨⟨b,(hu t).trans m3⟩,ht⟩
       ·exact absurd (hids t (c6 t hin)) m1
      ·cases ht
     ·rw [iE] at hn
      rcases hlk t with ⟨m1,_⟩ | ⟨_,_,m3⟩
      ·rcases hids3 t m1 with m1 | m1
       ·rcases List.mem_append.1 (c7 t m1) with m1 | m1
        ·rw [if_pos m1] at hn; exact hn
        ·exact hnone2 t (List.mem_append_right _ (List.mem_append_left _ m1))
       ·exact hnone t m1
      ·rw [hu,m3] at ht; cases ht
     ·refine hsem w0 F0 ρ' b w F ws' qs hargs (fun t Bx ht=>?_) (fun t ht=>?_) hi hr
      ·have hm:=tS ht
       obtain ⟨B1,q1,q2⟩:=hbox t Bx hm
       exact ⟨B1,hb t B1 (by rw [iE,if_pos (qm hm)]; exact q1),q2⟩
      ·have hin:=c8 t ht
       rcases hlk t with ⟨_,_,b1,_,m3,_⟩ | ⟨m1,_⟩
       ·refine hbn t b1 ((hu t).trans m3) ?_
        rw [iE,if_neg (fun h1=>?_)]
        exact (List.nodup_append.1 c3).2.2 t h1 t ht rfl
       ·exact absurd ((List.mem_append.1 hin).elim (fun h=>hids t (List.mem_append_left _ h)) (hids2 t)) m1
     ·show al ((m.us++(bs++cO m.gs))++i1 m.ks s.bx) (lkV (fO (uD m.ks s.sl) (some d) (wk ws)) i) (iY p.t (some d) _ i)
      rw [iw]
      unfold iY
      split
      ·exact wj k4
      ·rw [sM]; exact (hs.sl i).st hBL
     ·show cZ ((m.us++(bs++cO m.gs))++i1 m.ks s.bx) (af (m.gs++s.oc) t) (lkB ((m.us++(bs++cO m.gs))++i1 m.ks s.bx) t) (ca p.b _ t)
      rcases hlk t with ⟨_,sb,b,m2,m3,m4,m5⟩ | ⟨_,m2,m3⟩
      ·rw [m2]
       have hb:ca p.b (gQ en.ps en.rs iss (gO (500000 + 64 * d) (cg en.rs)) (dF (500000 + 64 * d + mg (cg en.rs)) (dx en.rs)) x r) t=some b:=by simp only [ca,hu,m3]
       rw [hb]
       cases sb with
       | none=>intro ho; rw [m5 rfl] at ho; cases ho
       | some y=>have:=m4 y rfl; cases y <;> exact this
      ·rw [m2,gS]
       have hb:ca p.b (gQ en.ps en.rs iss (gO (500000 + 64 * d) (cg en.rs)) (dF (500000 + 64 * d + mg (cg en.rs)) (dx en.rs)) x r) t=p.b t:=by simp only [ca,hu,m3]
       rw [hb]
       have hbx:=hs.bx t
       cases hl:lkB s.bx t with
       | none =>
        rw [hl] at hbx
        intro ho
        refine hbx (mM.2 fun hi=>?_)
        rw [mM] at ho
        exact ho (List.mem_append_right _ hi)
       | some y =>
        rw [hl] at hbx
        cases y with
        | st ty cs=>obtain ⟨qs',z1,z2⟩:=hbx; exact ⟨qs',z1,z2.st hBL⟩
        | rw e kk ty xs pins=>exact hbx
     ·have hkp:∀ t,af m.ks t=true→af s.pr t=false:=fun t ht=>c1 t (List.mem_append_right _ (List.mem_append_left _ (bn.1 ht)))
      refine ⟨rfl,rfl,fun t ht=>?_,fun i hi hsf=>?_,fun t _ ty cs hb=>?_⟩
      ·show cA _ (lkB ((m.us++(bs++cO m.gs))++i1 m.ks s.bx) t)
       rcases hlk t with ⟨m1,_⟩ | ⟨_,m2,_⟩
       ·rcases hids3 t m1 with m1 | m1
        ·have:t∈idU m.us++(m.ks++m.gs):=by
          rcases List.mem_append.1 m1 with m1 | m1
          ·exact List.mem_append_left _ m1
          ·exact List.mem_append_right _ (List.mem_append_right _ m1)
         rw [c1 t this] at ht; cases ht
        ·rw [(dh (c2 t (List.mem_append_left _ m1)).1).2] at ht; cases ht
       ·rw [m2,gS]
        obtain ⟨b',z1,z2⟩:=hpr t ht
        rw [z1]
        cases b' with
        | st ty cs=>simp only [Option.map_some,zH]; rw [d7 cs z2]; rfl
        | rw e kk ty xs pins=>exact ⟨pins,rfl⟩
      ·show lkV (fO (uD m.ks s.sl) (some d) (wk ws)) i=lkV s.sl i
       rw [iw,if_neg (fun e=>by rw [hW i e] at hi; cases hi),sM]
       exact tu hkp _ hsf
      ·show ∃ cs',lkB ((m.us++(bs++cO m.gs))++i1 m.ks s.bx) t = _∧_
       rcases hlk t with ⟨m1,sb,b,m2,m3,m4,m5⟩ | ⟨m1,m2,_⟩
       ·obtain ⟨sb',hsb'⟩:=bq.1 m1
        rcases List.mem_append.1 hsb' with hin | hin
        ·obtain ⟨cs',q1,q2⟩:=c5 t sb' (List.mem_append_left _ hin) ty cs hb
         subst q1
         exact ⟨cs',hseen t _ (List.mem_append_left _ hin),q2⟩
        ·rcases List.mem_append.1 hin with hin | hin
         ·have:=(c2 t (List.mem_append_left _ (bq.2 ⟨_,hin⟩))).2.1
          rw [hb] at this
          cases this
         ·obtain ⟨cs',q1,q2⟩:=c5 t sb' (List.mem_append_right _ hin) ty cs hb
          rw [(fw hin).2] at q1
          cases q1
       ·exact ⟨_,by rw [m2,gS,hb]; rfl,ei _ _⟩
     ·rcases hlk t with ⟨m1,_⟩ | ⟨_,_,m3⟩
      ·exact m1
      ·rw [hu,m3] at ht; cases ht
    ·cases h
   ·cases h
  ·cases h
end
section
variable {sc:List Nat} {P:Program} {T:List (Nat×Ent)} {ops:Array Oper}
def LeQ (q:Bool) (p p':PS) : Prop:=match q with | true=>Le p p' | false=>p' = p
theorem LeQ.refl (q:Bool) (p:PS) : LeQ q p p:=by cases q; exact rfl; exact Le.refl p
def iI (q:Bool) (P:Program) (ops:Array Oper) (bd:Nat→Bd) : Nat→List Oper→PS→(PS→Prop)→Prop
 | _,[],s,K=>K s
 | i,o::l,s,K=>∃ s1,LeQ q s s1∧∃ r u,Eff P ops o s1 r u∧(q=false→bt ops o s1 u (bd i))∧iI q P ops bd (i + 1) l (s1.updL o.dst r u) K
theorem qP {bd:Nat→Bd} {w0:WM} {F0:Nat→Prop} {n:Nat} {Q:Exit→Act→World→Prop} {Qs:Exit→PS→Prop} (hQ:∀ e s a w,Qs e s→dI n w0 F0 s a w→Q e a w) : ∀ (i:Nat) (l:List Oper) (s:PS) (a:Act) (w:World),oT n l=true→iI true P ops bd i l s (Qs .normal)→dI n w0 F0 s a w→wpList P ops Q l a w
 | _,[],s,a,w,_,h,hc=>hQ _ s a w h hc
 | i,o::l,s,a,w,hd,h,hc=>by
  obtain ⟨s1,h1,r,u,h2,_,h3⟩:=h
  have hc1:=(show Le s s1 from h1) n w0 F0 a w hc
  obtain ⟨hd1,hd2⟩:=s6 hd
  exact wpList_step fun K hK=>wi (f:=0) hc1 h2 hd1 (fun a' w' hc'=>hK _ _ (qP hQ (i + 1) l _ a' w' hd2 h3 hc'))
theorem qz {bd:Nat→Bd} {n:Nat} {Qs:Exit→PS→Prop} {s:PS} {id:Nat} {l:List Oper} (hd:oT n l=true) (h:iI true P l.toArray bd 0 l s (Qs .normal)) : PWP P n (.region id l.toArray false) Qs s :=
 fun _ _ a w hc=>wp_region_lit (qP (Qs:=Qs) (fun _ s' _ _ h1 h2=>⟨s',h1,h2⟩) 0 l s a w hd h hc)
theorem kg {bd:Nat→Bd} {K:PS→Prop} : ∀ (l:List Oper) (k:Nat) (s:PS),(∀ j,j < l.length→l[j]? = ops[k + j]?)→iI false P ops bd k l s K→nV P ops bd (List.range' k l.length) s K
 | [],k,s,_,h=>h
 | o::l,k,s,hl,h=>by
  obtain ⟨s1,he,r,u,h1,hf,h2⟩:=h
  have he:s1=s:=he
  subst he
  have h0:ops[k]? = some o:=by simpa using (hl 0 (by simp)).symm
  rw [List.length_cons,List.range'_succ]
  exact ⟨o,r,u,h0,h1,hf rfl,kg l (k + 1) _ (fun j hj=>by have:=hl (j + 1) (by simp; omega); simpa [Nat.add_assoc,Nat.add_comm 1 j] using this) h2⟩
theorem tw {bd:Nat→Bd} {K:PS→Prop} : ∀ (l:List Oper) (i k:Nat) (s:PS),(∀ j,j < l.length→l[j]? = ops[k + j]?)→iI true P ops bd i l s K→vE P ops (List.range' k l.length) s K
 | [],i,k,s,_,h=>h
 | o::l,i,k,s,hl,h=>by
  obtain ⟨s1,hle,r,u,h1,_,h2⟩:=h
  have h0:ops[k]? = some o:=by simpa using (hl 0 (by simp)).symm
  rw [List.length_cons,List.range'_succ]
  exact ⟨s1,hle,o,r,u,h0,h1,tw l (i + 1) (k + 1) _ (fun j hj=>by have:=hl (j + 1) (by simp; omega); simpa [Nat.add_assoc,Nat.add_comm 1 j] using this) h2⟩
theorem bA {q:Bool} {bd:Nat→Bd} : ∀ {l:List Oper} {i:Nat} {p:PS} {K K':PS→Prop},iI q P ops bd i l p K→(∀ p',K p'→K' p')→iI q P ops bd i l p K'
 | [],i,p,K,K',h,hk=>hk p h
 | o::l,i,p,K,K',h,hk=>by
  obtain ⟨s1,h1,r,u,h2,hf,h3⟩:=h
  exact ⟨s1,h1,r,u,h2,hf,bA h3 hk⟩
theorem k7 {q:Bool} {bd:Nat→Bd} : ∀ {a b:List Oper} {i:Nat} {p:PS} {K:PS→Prop},iI q P ops bd i a p (fun p'=>iI q P ops bd (i + a.length) b p' K)→iI q P ops bd i (a++b) p K
 | [],b,i,p,K,h=>h
 | o::a,b,i,p,K,h=>by
  obtain ⟨s1,h1,r,u,h2,hf,h3⟩:=h
  refine ⟨s1,h1,r,u,h2,hf,k7 ?_⟩
  rw [List.length_cons] at h3
  rw [show i + 1 + a.length=i + (a.length + 1) by omega]
  exact h3
mutual
theorem em {B:List (Nat×Option aj)} : ∀ {v:SV} {q:PV} {l:List Nat},al B v q→iP v=some l→∀ x∈aE q,x∈l
 | .junk,q,l,_,h,x,hx=>by cases h
 | .d c,q,l,hv,h,x,hx=>by cases hv with | d _ y _=>simp [aE] at hx
 | .fe cs,q,l,hv,h,x,hx=>by cases hv with | fe _ ds _ _=>simp [aE] at hx
 | .ptr t o,q,l,hv,h,x,hx=>by
  cases hv with
  | ptr _ _ ty cs hb=>injection h with h; subst h; simpa [aE] using hx
 | .row t,q,l,hv,h,x,hx=>by
  cases hv with
  | row _ n e k ty xs pins hb hn=>injection h with h; subst h; simpa [aE] using hx
 | .re t p o,q,l,hv,h,x,hx=>by
  cases hv with
  | re _ _ _ n i e k ty xs pins pin hb hn hp hi=>injection h with h; subst h; simpa [aE] using hx
 | .vw t p o,q,l,hv,h,x,hx=>by
  cases hv with
  | vw _ _ _ n e k ty xs pins hb hn=>injection h with h; subst h; simpa [aE] using hx
 | .ag cs,q,l,hv,h,x,hx=>by
  cases hv with
  | ag _ qs hl hr=>exact de (qs:=qs) ⟨hl,hr⟩ h x (by simpa [aE] using hx)
 | .tup cs,q,l,hv,h,x,hx=>by
  cases hv with
  | tup _ qs hl hr=>exact de (qs:=qs) ⟨hl,hr⟩ h x (by simpa [aE] using hx)
 | .fn f ps qs,q,l,hv,h,x,hx=>by
  cases hv with
  | fn _ _ _ ps' qs' hl hr hl2 hr2 =>
   simp only [iP] at h
   split at h
   ·rename_i a b ha hb
    injection h with h
    subst h
    simp only [aE,List.mem_append] at hx ⊢
    rcases hx with hx | hx
    ·exact .inl (de (qs:=ps') ⟨hl,hr⟩ ha x hx)
    ·exact .inr (de (qs:=qs') ⟨hl2,hr2⟩ hb x hx)
   ·cases h
theorem de {B:List (Nat×Option aj)} : ∀ {cs:List SV} {qs:List PV} {l:List Nat},aA B cs qs→e8 cs=some l→∀ x∈bk qs,x∈l
 | [],qs,l,hv,h,x,hx=>by
  rcases hv.cases with ⟨_,rfl⟩ | ⟨_,_,_,_,h1,_⟩
  ·simp [bk] at hx
  ·cases h1
 | c::cs,qs,l,hv,h,x,hx=>by
  rcases hv.cases with ⟨h1,_⟩ | ⟨c',q,cs',qs',h1,rfl,h2,h3⟩
  ·cases h1
  ·injection h1 with e1 e2
   subst e1 e2
   simp only [e8] at h
   split at h
   ·rename_i a b ha hb
    injection h with h
    subst h
    simp only [bk,List.mem_append] at hx ⊢
    rcases hx with hx | hx
    ·exact .inl (em h2 ha x hx)
    ·exact .inr (de h3 hb x hx)
   ·cases h
end
theorem ra {o:Oper} {s:SS} {p:PS} {l:List Nat} (hs:Sim s p) (h:t6 o s=some l) : ∀ x∈ey o p,x∈l:=by
 unfold t6 at h
 unfold ey
 split at h <;> rename_i ho <;> simp only [ho]
 ·exact em (ay hs _) h
 ·exact em (ay hs _) h
 ·exact em (ay hs _) h
 ·exact em (ay hs _) h
 ·exact em (ay hs _) h
 ·rename_i c
  split at h
  ·rename_i f hf
   simp only [hf]
   split at h
   ·rename_i a b ha hb
    injection h with h
    subst h
    intro x hx
    rcases List.mem_append.1 hx with hx | hx
    ·exact List.mem_append_left _ (em (ay hs f) ha x hx)
    ·exact List.mem_append_right _ (de (dD hs c.args.toList) hb x hx)
   ·cases h
  ·rename_i hf
   split
   ·rename_i f hf2
    exact absurd hf2 (hf f)
   ·exact de (dD hs c.args.toList) h
 ·intro x hx
  simp at hx
theorem fj:∀ {l m:List Nat},sn l m=true→∀ x∈l,bt.memL m x=true
 | [],m,_,x,hx=>by cases hx
 | a::l,m,h,x,hx=>by
  simp only [sn] at h
  split at h
  ·rename_i ha
   rcases List.mem_cons.1 hx with rfl | hx
   ·exact ha
   ·exact fj h x hx
  ·cases h
theorem oA:∀ {l:List Nat} {x:Nat},bt.memL l x=true→x∈l
 | [],x,h=>by cases h
 | a::l,x,h=>by
  rw [ku,Bool.or_eq_true] at h
  rcases h with h | h
  ·have:=zd h; subst this; simp
  ·exact List.mem_cons_of_mem _ (oA h)
theorem rb {B:List Bd} {i:Nat} {o:Oper} {s:SS} {p:PS} {u:Upd} {w:Option (Nat×Box)} (hs:Sim s p) (hw:OkW s o.dst u w) {q:Bool} (h:oE q B i o s u=true) : q=false→bt ops o p w.toList (jK B i):=by
 intro hq
 subst hq
 unfold oE at h
 simp only at h
 split at h
 ·rename_i fs hf
  rw [Bool.and_eq_true] at h
  refine ⟨fun _ x hx=>fj h.1 x (ra hs hf x hx),fun x Bx hx=>?_⟩
  cases w with
  | none=>cases hx
  | some y =>
   obtain ⟨t,b⟩:=y
   simp only [Option.toList,lkU] at hx
   split at hx
   ·rename_i e
    subst e
    exact fj h.2 x (oA (hw x b rfl).2)
   ·cases hx
 ·cases h
theorem wK {B:List Bd} {i:Nat} {o:Oper} {s:SS} {p:PS} {m:MU} {u:BU} (hs:Sim s p) (hw:∀ t Bx,lkU u t=some Bx→t∈idU m.us) {q:Bool} (h:t7 q B i o s m=true) : q=false→bt ops o p u (jK B i):=by
 intro hq
 subst hq
 unfold t7 at h
 simp only at h
 split at h
 ·rename_i fs hf
  rw [Bool.and_eq_true] at h
  exact ⟨fun _ x hx=>fj h.1 x (ra hs hf x hx),fun x Bx hx=>fj h.2 x (hw x Bx hx)⟩
 ·cases h
theorem aX:∀ (a b:List Nat) (i:Nat),af (a++b) i=(af a i||af b i)
 | [],b,i=>rfl
 | j::a,b,i=>by
  simp only [List.cons_append,af,aX a b i]
  split <;> simp
theorem ak (j:Nat) (l:List Nat) (i:Nat) : af (j::l) i=(decide (i=j)||af l i):=by
 simp only [af,aP]
 by_cases h:i=j
 ·simp [h]
 ·simp [h]
theorem l9:∀ {g:Nat} {l a b:List Oper} {d:Nat},tt g l=some (a,d,b)→l=a++b∧∃ o∈a,o.dst=some d
 | g,[],a,b,d,h=>by cases h
 | g,o::l,a,b,d,h=>by
  simp only [tt] at h
  split at h
  ·rename_i d' hd
   injection h with h
   injection h with h1 h2
   injection h2 with h2 h3
   subst h1 h2 h3
   refine ⟨rfl,o,List.mem_cons_self,?_⟩
   split at hd
   ·rename_i g' d2 e1 e2 hdst
    split at hd
    ·injection hd with hd; subst hd; exact hdst
    ·cases hd
   ·cases hd
  ·split at h
   ·rename_i a' d' b' h'
    injection h with h
    injection h with h1 h2
    injection h2 with h2 h3
    subst h1 h2 h3
    obtain ⟨h4,o',h5,h6⟩:=l9 h'
    exact ⟨by rw [h4]; rfl,o',List.mem_cons_of_mem _ h5,h6⟩
   ·cases h
theorem gm:∀ {l:List Oper} {o:Oper} {d:Nat},o∈l→o.dst=some d→af (aC l) d=true
 | [],o,d,h,_=>by cases h
 | x::l,o,d,h,hd=>by
  rcases List.mem_cons.1 h with rfl | h
  ·simp only [aC,hd,ak,decide_true,Bool.true_or]
  ·have:=gm h hd
   simp only [aC]
   split
   ·simp [ak,this]
   ·exact this
theorem kM:∀ {l:List Oper} {d:Nat},af (aC l) d=true→∃ o∈l,o.dst=some d
 | [],d,h=>by cases h
 | x::l,d,h=>by
  simp only [aC] at h
  split at h
  ·rename_i d' hd'
   rw [ak,Bool.or_eq_true] at h
   rcases h with h | h
   ·have:=zd h
    subst this
    exact ⟨x,List.mem_cons_self,hd'⟩
   ·obtain ⟨o,h1,h2⟩:=kM h
    exact ⟨o,List.mem_cons_of_mem _ h1,h2⟩
  ·obtain ⟨o,h1,h2⟩:=kM h
   exact ⟨o,List.mem_cons_of_mem _ h1,h2⟩
theorem jp:∀ (a b:List Oper),aC (a++b)=aC a++aC b
 | [],b=>rfl
 | o::a,b=>by
  simp only [List.cons_append,aC,jp a b]
  split <;> rfl
theorem gR:∀ (ds:List Nat) (l:List (Nat×SV)) (i:Nat),lkV (dS ds l) i=if af ds i=true then .junk else lkV l i
 | [],l,i=>by simp [dS,af]
 | d::ds,l,i=>by
  simp only [dS,aO,gR ds l i,ak]
  by_cases h:i=d
  ·simp [h]
  ·simp [h]
structure Fr (l:List Oper) (s:SS) (p p':PS) : Prop where
 t:s.ro=true→∀ i,af (aC l) i=false→p'.t i=p.t i
 b:s.ro=true→∀ t,(lkB s.bx t≠none∨af (aC l) t=false)→p'.b t=p.b t
theorem yT {s:SS} {dst:Option Nat} {v:SV} {u:Upd} {t:Nat} (h:lkB s.bx t≠none) : lkB (s.upd dst v u).bx t≠none:=by
 cases u with
 | no=>exact h
 | grow t' b =>
  show lkB ((t',some b)::dE t' s.bx) t≠none
  rw [ac]
  split
  ·simp
  ·rw [cf]; simpa using h
 | _ =>
  rename_i t' b
  show lkB ((t',some b)::s.bx) t≠none
  rw [ac]
  split
  ·simp
  ·exact h
theorem vI {s:SS} {dst:Option Nat} {v:SV} {u:Upd} : (s.upd dst v u).ro=s.ro:=by cases u <;> rfl
theorem xZ {o:Oper} {l:List Oper} {s:SS} {p p':PS} {v:SV} {u:Upd} {q:PV} {w:Option (Nat×Box)} (hw:OkW s o.dst u w) (h:Fr l (s.upd o.dst v u) (p.upd o.dst q w) p') : Fr (o::l) s p p':=by
 have sub:∀ i,af (aC (o::l)) i=false→af (aC l) i=false∧o.dst≠some i:=fun i hi=>by
  simp only [aC] at hi
  split at hi
  ·rename_i d hd
   rw [ak,Bool.or_eq_false_iff] at hi
   refine ⟨hi.2,fun e=>?_⟩
   rw [hd] at e
   injection e with e
   have:=of_decide_eq_false hi.1
   exact this e.symm
  ·rename_i hd
   exact ⟨hi,fun e=>by rw [hd] at e; cases e⟩
 refine ⟨fun hro i hi=>?_,fun hro t ht=>?_⟩
 ·obtain ⟨h1,h2⟩:=sub i hi
  rw [h.t (by rw [vI]; exact hro) i h1]
  simp only [PS.upd,iY,if_neg h2]
 ·have hb:(p.upd o.dst q w).b t=p.b t:=by
   show aW p.b w t=p.b t
   unfold aW
   split
   ·rename_i j Bx
    rcases (hw j Bx rfl).1 with ⟨h1,h2⟩ | h1
    ·split
     ·rename_i e
      subst e
      rcases ht with ht | ht
      ·exact absurd h1 ht
      ·exact absurd h2 (sub t ht).2
     ·rfl
    ·rw [hro] at h1; cases h1
   ·rfl
  rw [h.b (by rw [vI]; exact hro) t (ht.imp yT fun ht=>(sub t ht).1),hb]
def nW (sc W:List Nat) (l:List Oper) (s:SS) (p:PS) {ρ : Type} (k:SS→Option ρ) (res : ρ) (p':PS) : Prop:=∃ s',Sim s' p'∧bc sc W s s'∧cY s'∧k s' = some res∧Fr l s p p'
theorem kj {W:List Nat} {o:Oper} {l:List Oper} {s:SS} {p p':PS} {ρ : Type} {k:SS→Option ρ} {res : ρ} {v:SV} {u:Upd} {q:PV} {w:Option (Nat×Box)} (hW:∀ d,o.dst=some d→af W d=true) (hpr:cY s) (hu:OkU s u) (hw:OkW s o.dst u w)
  (h:nW sc W l (s.upd o.dst v u) (p.upd o.dst q w) k res p') : nW sc W (o::l) s p k res p':=by
 obtain ⟨s',h1,h2,h3,h4,h5⟩:=h
 exact ⟨s',h1,(jR hu hW hpr).trans h2,h3,h4,xZ hw h5⟩
theorem sF {W:List Nat} {f:Nat} {qs:List PV} {o:Oper} {l:List Oper} {s:SS} {p p':PS} {ρ : Type} {k:SS→Option ρ} {res : ρ} {v:SV} {m:MU} {r:PV} {u:BU} (hW:∀ d,o.dst=some d→af W d=true) (hR:yQ sc P f o.dst s p qs v m r u)
  (h:nW sc W l (s.updM o.dst v m) (p.updL o.dst r u) k res p') : nW sc W (o::l) s p k res p':=by
 obtain ⟨s',h1,h2,h3,h4,h5⟩:=h
 exact ⟨s',h1,(hR.keep W hW).trans h2,h3,h4,fun hro=>(by rw [hR.ro] at hro; cases hro),fun hro=>(by rw [hR.ro] at hro; cases hro)⟩
theorem xM {q:Bool} {o:Oper} {s s':SS} {p:PS} (hpr:cY s) (hs:Sim s p) (h:xN q T o s=some s') : ∃ p',LeQ q p p'∧Sim s' p'∧(∀ W,bc sc W s s')∧(s.ro=true→s' = s∧p' = p)∧(o.guard=none∨p' = p):=by
 have triv:s' = s→∃ p',LeQ q p p'∧Sim s' p'∧(∀ W,bc sc W s s')∧(s.ro=true→s' = s∧p' = p)∧(o.guard=none∨p' = p):=fun e=>by
  subst e; exact ⟨p,.refl _ _,hs,fun W=>.refl W s',fun _=>⟨rfl,rfl⟩,.inr rfl⟩
 unfold xN at h
 split at h
 ·rename_i hro hg
  have froz:∀ {l:List Nat},cP l s=some s'→∃ p',LeQ true p p'∧Sim s' p'∧(∀ W,bc sc W s s')∧(s.ro=true→s' = s∧p' = p)∧(o.guard=none∨p' = p):=fun h=>by
   obtain ⟨p',k1,k2,k3,k4⟩:=jk (sc:=sc) hpr hs h
   exact ⟨p',k1,k2,k3,fun h=>(by rw [hro] at h; cases h),.inl hg⟩
  split at h
  ·exact froz h
  ·split at h
   ·split at h
    ·split at h
     ·exact froz h
     ·split at h
      ·injection h with h; exact triv h.symm
      ·exact froz h
    ·injection h with h; exact triv h.symm
   ·injection h with h; exact triv h.symm
  ·injection h with h; exact triv h.symm
 ·injection h with h; exact triv h.symm
theorem my {W:List Nat} {l:List Oper} {s s1:SS} {p p1 p':PS} {ρ : Type} {k:SS→Option ρ} {res : ρ} (hk:bc sc W s s1) (hro:s.ro=true→s1=s∧p1=p) (h:nW sc W l s1 p1 k res p') : nW sc W l s p k res p':=by
 obtain ⟨s',h1,h2,h3,h4,h5⟩:=h
 refine ⟨s',h1,hk.trans h2,h3,h4,fun hr=>?_,fun hr=>?_⟩
 ·obtain ⟨e1,e2⟩:=hro hr
  subst e1 e2
  exact h5.t hr
 ·obtain ⟨e1,e2⟩:=hro hr
  subst e1 e2
  exact h5.b hr
theorem lN {q:Bool} {B:List Bd} (hT:fK P T) {W:List Nat} : ∀ (n i:Nat) (kn:List Nat) (l:List Oper) {ρ : Type} {s:SS} {p:PS} {k:SS→Option ρ} {res : ρ},(∀ o∈l,∀ d,o.dst=some d→af W d=true)→(∀ (j:Nat) (o:Oper),ops[j]? = some o→∀ d,o.dst=some d→af W d=true) →
  (∀ o∈l,∀ t x y,o.op = .store t x y→o.dst=none)→cY s→Sim s p→gH q P T ops B n i kn l s k=some res→iI q P ops (jK B) i l p (nW sc W l s p k res):=by
 intro n
 induction n with
 | zero =>
  intro i kn l ρ s p k res hW hO hst hpr hs h
  cases l with
  | nil=>exact ⟨s,hs,.refl _ _,hpr,h,fun _ _ _=>rfl,fun _ _ _=>rfl⟩
  | cons o l=>cases h
 | succ n ih =>
  intro i kn l ρ s p k res hW hO hst hpr hs h
  cases l with
  | nil=>exact ⟨s,hs,.refl _ _,hpr,h,fun _ _ _=>rfl,fun _ _ _=>rfl⟩
  | cons o l =>
   have hWo:=hW o List.mem_cons_self
   have hWl:∀ o∈l,∀ d,o.dst=some d→af W d=true:=fun o ho=>hW o (List.mem_cons_of_mem _ ho)
   have hstl:∀ o∈l,∀ t x y,o.op = .store t x y→o.dst=none:=fun o ho=>hst o (List.mem_cons_of_mem _ ho)
   have goOk:cw ops o p=some true→(match xN q T o s with
     | none=>none
     | some s=>(match hP o with
      | some (x,xs)=>(match evX s x with
       | .fn f ps qs=>(match u9 T f (ps++iH s xs++qs) with
        | false=>chk (oE q B i o s .no) (uv T f s (ps++iH s xs++qs) fun r=>gH q P T ops B n (i + 1) kn l (s.upd o.dst r .no) k)
        | true=>uw T f s o.dst (ps++iH s xs++qs) fun v m=>chk (t7 q B i o s m) (gH q P T ops B n (i + 1) kn l (s.updM o.dst v m) k))
       | _=>none)
      | none=>yi P o s fun v u=>chk (oE q B i o s u) (gH q P T ops B n (i + 1) kn l (s.upd o.dst v u) k)))=some res→iI q P ops (jK B) i (o::l) p (nW sc W (o::l) s p k res):=by
    intro hg h
    split at h
    ·cases h
    ·rename_i s1 hfz
     obtain ⟨p1,hle,hs1,hk1,hro,hgn⟩:=xM (sc:=sc) hpr hs hfz
     have hg1:cw ops o p1=some true:=by
      rcases hgn with hgn | hgn
      ·simp [cw,hgn]
      ·rw [hgn]; exact hg
     have hpr1:cY s1:=(hk1 []).prOk hpr
     have mk:∀ {r:PV} {u:BU},qh P o p1 r u→Eff P ops o p1 r u:=fun h=>by unfold Eff; rw [hg1]; exact h
     split at h
     ·rename_i x xs hc
      have hx:=ay hs1 x
      split at h
      rotate_left
      ·cases h
      rename_i f ps qs hev
      rw [hev] at hx
      obtain ⟨ps',qs',e1,e2,e3⟩:=yy hx
      split at h
      rotate_left
      ·rename_i hM
       obtain ⟨v,m,r,u,h,hR⟩:=xn (sc:=sc) hT hpr1 hs1 hM ((e2.append (dD hs1 xs)).append e3) h
       obtain ⟨hfb,h⟩:=aa h
       refine ⟨p1,hle,r,u,mk ?_,wK hs1 hR.foot hfb,?_⟩
       ·unfold qh
        simp only [hc,e1,lz]
        exact .inr hR.call
       exact bA (ih (i + 1) kn l hWl hO hstl ((hR.keep W hWo).prOk hpr1) hR.sim h) fun p' hp=>my (hk1 W) hro (sF hWo hR hp)
      rename_i hM
      obtain ⟨hfb,h⟩:=aa h
      obtain ⟨v,r,h1,h2,h3⟩:=xl hT hs1 hM ((e2.append (dD hs1 xs)).append e3) h
      refine ⟨p1,hle,r,[],mk ?_,rb (w:=none) hs1 a8 hfb,?_⟩
      ·unfold qh
       simp only [hc,e1,lz]
       exact .inl ⟨trivial,h1⟩
      have hs':Sim (s1.upd o.dst v .no) (p1.upd o.dst r none):=cv hs1 h3
      rw [show ([] : BU)=(none:Option (Nat×Box)).toList from rfl,mc]
      exact bA (ih (i + 1) kn l hWl hO hstl ((jR (sc:=sc) (u:=.no) trivial hWo hpr1).prOk hpr1) hs' h2) fun p' hp=>my (hk1 W) hro (kj (u:=.no) hWo hpr1 trivial a8 hp)
     ·rename_i hc
      obtain ⟨v,u,qv,w,h1,h2,h3,h4,h5⟩:=yh hs1 (hst o List.mem_cons_self) h
      obtain ⟨hfb,h2⟩:=aa h2
      refine ⟨p1,hle,qv,w.toList,mk ?_,rb hs1 h5 hfb,?_⟩
      ·unfold qh
       simp only [hc]
       exact ⟨w,h1,rfl⟩
      rw [mc]
      exact bA (ih (i + 1) kn l hWl hO hstl ((jR (sc:=sc) h4 hWo hpr1).prOk hpr1) h3 h2) fun p' hp=>my (hk1 W) hro (kj hWo hpr1 h4 h5 hp)
   have skipOk:cw ops o p=some false→gH q P T ops B n (i + 1) kn l (s.upd o.dst (.tup []) .no) k=some res→iI q P ops (jK B) i (o::l) p (nW sc W (o::l) s p k res):=by
    intro hg h
    refine ⟨p,.refl _ _,.tup [],[],by unfold Eff; rw [hg]; exact ⟨rfl,rfl⟩,fun _=>⟨fun h=>(by rw [hg] at h; cases h),fun x Bx h=>(by cases h)⟩,?_⟩
    rw [show ([] : BU)=(none:Option (Nat×Box)).toList from rfl,mc]
    have hs':Sim (s.upd o.dst (.tup []) .no) (p.upd o.dst (.tup []) none):=cv hs (.tup [] [] rfl (fun j c q h=>by simp at h))
    exact bA (ih (i + 1) kn l hWl hO hstl ((jR (sc:=sc) (u:=.no) trivial hWo hpr).prOk hpr) hs' h) fun p' hp=>kj (u:=.no) hWo hpr trivial a8 hp
   unfold gH at h
   simp only at h
   split at h
   ·rename_i hg
    exact goOk (by simp [cw,hg]) h
   ·rename_i j want hg
    split at h
    ·cases h
    ·rename_i g hgd
     have hsg:=hs.sl g
     split at h
     ·rename_i hv
      rw [hv] at hsg
      obtain ⟨qs,h1,h2⟩:=vH hsg
      have:qs = []:=by have:=h2.len; simpa using this.symm
      subst this
      exact skipOk (by simp [cw,hg,hgd,h1]) h
     ·rename_i b hv
      rw [hv] at hsg
      have hpg:=cG hsg
      have hgb:cw ops o p=some (b==want):=by simp [cw,hg,hgd,hpg,asB]
      split at h
      ·split at h
       ·split at h
        ·exact goOk (by rw [hgb]; rfl) h
        ·exact skipOk (by rw [hgb]; rfl) h
       ·split at h
        ·exact skipOk (by rw [hgb]; rfl) h
        ·exact goOk (by rw [hgb]; rfl) h
      ·split at h
       ·cases h
       ·rename_i l1 d l2 hup
        obtain ⟨h1,o1,h2,h3⟩:=l9 hup
        obtain ⟨qb,h4,h5⟩:=aK h
        have hg0:∃ o',ops[j]? = some o'∧o'.dst=some g:=by
         cases ho:ops[j]? with
         | none=>simp [ho] at hgd
         | some o'=>exact ⟨o',rfl,by simpa [ho] using hgd⟩
        obtain ⟨o',ho',hdo'⟩:=hg0
        have hWg:af W g=true:=hO j o' ho' g hdo'
        rw [h1]
        have hW1:∀ o∈l1,∀ d,o.dst=some d→af W d=true:=fun o ho=>hW o (by rw [h1]; exact List.mem_append_left _ ho)
        have hW2:∀ o∈l2,∀ d,o.dst=some d→af W d=true:=fun o ho=>hW o (by rw [h1]; exact List.mem_append_right _ ho)
        have hst1:∀ o∈l1,∀ t x y,o.op = .store t x y→o.dst=none:=fun o ho=>hst o (by rw [h1]; exact List.mem_append_left _ ho)
        have hst2:∀ o∈l2,∀ t x y,o.op = .store t x y→o.dst=none:=fun o ho=>hst o (by rw [h1]; exact List.mem_append_right _ ho)
        have hsb:Sim ⟨(g,.d (.bool b))::s.sl,s.bx,s.pr,true,s.oc⟩ p:=by
         refine ⟨fun i=>?_,hs.bx⟩
         show al s.bx (lkV ((g,.d (.bool b))::s.sl) i) (p.t i)
         rw [aO]
         split
         ·rename_i e; subst e; exact hsg
         ·exact hs.sl i
        have hA:iI q P ops (jK B) i l1 p (nW sc W l1 ⟨(g,.d (.bool b))::s.sl,s.bx,s.pr,true,s.oc⟩ p (lM d) qb):=by
         cases b
         ·exact ih i (g::kn) l1 hW1 hO hst1 hpr hsb (by simpa using h4)
         ·exact ih i (g::kn) l1 hW1 hO hst1 hpr hsb (by simpa using h4)
        refine k7 (bA hA fun p1 hp1=>?_)
        obtain ⟨s1,k1,k2,k3,k4,k5⟩:=hp1
        have hd:af (aC l1) d=true:=gm h2 h3
        have hpd:p1.t d = .d (.v (.bool qb)):=by
         have:=k1.sl d
         unfold lM at k4
         split at k4
         ·rename_i b' hb'
          injection k4 with k4
          subst k4
          rw [hb'] at this
          exact cG this
         ·cases k4
        have hs2:Sim ⟨(d,.d (.bool qb))::dS (aC l1) s.sl,s.bx,s.pr,s.ro,aC l1++s.oc⟩ p1:=by
         refine ⟨fun i=>?_,fun t=>?_⟩
         ·show al s.bx (lkV ((d,.d (.bool qb))::dS (aC l1) s.sl) i) (p1.t i)
          rw [aO]
          split
          ·rename_i e; subst e; rw [hpd]; exact bp qb
          ·rw [gR]
           split
           ·exact .junk _
           ·rename_i hi
            rw [k5.t rfl i (by simpa using hi)]
            exact hs.sl i
         ·show cZ s.bx (af (aC l1++s.oc) t) (lkB s.bx t) (p1.b t)
          have hbt:=hs.bx t
          cases hl:lkB s.bx t with
          | none =>
           rw [hl] at hbt
           intro hoc
           rw [aX,Bool.or_eq_false_iff] at hoc
           rw [k5.b rfl t (.inr hoc.1)]
           exact hbt hoc.2
          | some bx =>
           rw [hl] at hbt
           rw [k5.b rfl t (.inl (by show lkB s.bx t≠none; rw [hl]; simp))]
           cases bx <;> exact hbt
        have hk2:bc sc W s ⟨(d,.d (.bool qb))::dS (aC l1) s.sl,s.bx,s.pr,s.ro,aC l1++s.oc⟩:=by
         refine ⟨rfl,rfl,fun _ _=>.refl _,fun i hi _=>?_,fun _ _ _ cs h=>⟨cs,h,rfl⟩⟩
         show lkV ((d,.d (.bool qb))::dS (aC l1) s.sl) i = _
         rw [aO,if_neg (fun e=>by rw [e,hW1 o1 h2 d h3] at hi; cases hi),gR]
         rw [if_neg (fun e=>by
          obtain ⟨o2,m1,m2⟩:=kM e
          rw [hW1 o2 m1 i m2] at hi
          cases hi)]
        refine bA (ih (i + l1.length) kn l2 hW2 hO hst2 (hk2.prOk hpr) hs2 h5) fun p2 hp2=>?_
        obtain ⟨s3,m1,m2,m3,m4,m5⟩:=hp2
        refine ⟨s3,m1,hk2.trans m2,m3,m4,fun hro i hi=>?_,fun hro t ht=>?_⟩
        ·rw [jp,aX,Bool.or_eq_false_iff] at hi
         rw [m5.t hro i hi.2,k5.t rfl i hi.1]
        ·rw [jp,aX,Bool.or_eq_false_iff] at ht
         rw [m5.b hro t (ht.imp id fun h=>h.2),k5.b rfl t (ht.imp id fun h=>h.1)]
     ·cases h
end
theorem u6 {p:PS} (i e k:Nat) (ht:p.t i = .d (.v (.slice none 0 0))) (hb:p.b i=none) (hi0:i < 1000000) (hk : 0 < k) : Le p (p.upd (some i) (.row i 0) (some (i,.rw e k []))):=by
 intro n w0 F0 a w ⟨h1,h2,ρ,F,hi,hev⟩
 have hx:=(hev i)
 rw [ht] at hx
 obtain ⟨hx,_⟩:=hx.vv
 have hnew:=oy (P:=default) (t:=i) (e:=e) (k:=k) (es:=[]) (xs:=[]) (v:=.slice none 0 0) (w':=w) hi hi0 hb hk (Ext.refl w) (fun g hg=>by cases hg) (World.ownsRow_nil w _ e k) (by simp) rfl (by simp)
 obtain ⟨v,w',ρ',hok,k1,k2,k3⟩:=hnew
 injection hok with e1 e2
 subst e1 e2
 refine ⟨h1,h2,ρ',F,k1,fun j=>?_⟩
 by_cases hj:i=j
 ·subst hj
  rw [hx]
  simpa [PS.upd,iY] using k3
 ·have:(p.upd (some i) (.row i 0) (some (i,.rw e k []))).t j=p.t j:=by simp [PS.upd,iY,hj]
  rw [this]
  exact (hev j).mono k2
theorem sP {p:PS} (i t j e k:Nat) {ty:TypeId} {cs:List PV} (hb:p.b t=some (.st ty cs)) (hc:cs[j]? = some (.d (.v (.slice none 0 0)))) (hi:p.b i=none) (hi0:i < 1000000) (hk : 0 < k) :
  Le p ⟨p.t,aW (aW p.b (some (i,.rw e k []))) (some (t,.st ty (cs.set j (.row i 0))))⟩:=by
 intro n w0 F0 a w ⟨h1,h2,ρ,F,hinv,hev⟩
 have hnew:=oy (P:=default) (t:=i) (e:=e) (k:=k) (es:=[]) (xs:=[]) (v:=.slice none 0 0) (w':=w) hinv hi0 hi hk (Ext.refl w) (fun g hg=>by cases hg) (World.ownsRow_nil w _ e k) (by simp) rfl (by simp)
 obtain ⟨v,w',ρ',hok,k1,k2,k3⟩:=hnew
 injection hok with e1 e2
 subst e1 e2
 have hti:t≠i:=fun e=>by rw [e,hi] at hb; cases hb
 have hb1:(aW p.b (some (i,.rw e k []))) t=some (.st ty cs):=by rw [aD _ _ hti]; exact hb
 have hs2:Stp ρ' (aW p.b (some (i,.rw e k []))) w F ρ' (aW (aW p.b (some (i,.rw e k []))) (some (t,.st ty (cs.set j (.row i 0))))) w F:=by
  refine ⟨fun _ h=>h,fun _ _=>rfl,fun t' ty' cs' h=>⟨?_,rfl⟩,fun t' e' k' es h=>?_⟩
  ·by_cases h':t' = t
   ·subst h'; rw [aV]; exact ⟨_,_,rfl⟩
   ·rw [aD _ _ h']; exact ⟨_,_,h⟩
  ·have h':t'≠t:=fun e=>by rw [e,hb1] at h; cases h
   rw [aD _ _ h']
   exact ⟨e',es,h,Nat.le_refl _,fun _=>rfl⟩
 have hinv2:Inv w0 F0 ρ' (aW (aW p.b (some (i,.rw e k []))) (some (t,.st ty (cs.set j (.row i 0))))) w F:=by
  have hs3:=hs2
  rw [← aI ρ' t] at hs3
  have:=Inv.turn (v:=ρ' t) (B':=.st ty (cs.set j (.row i 0))) (w':=w) k1 hb1 (by rw [aI] at hs3 ⊢; exact hs2) k1.ext (Nat.le_refl _) (fun _ _ _=>rfl) (fun g hg=>.inl hg) ?_
  ·rw [aI] at this; exact this
  ·rw [aI]
   cases k1.box t _ hb1 with
   | st _ _ g xs hρ hg hF hh hl h1x hr =>
    refine .st ty _ g xs hρ hg hF hh (by rw [List.length_set]; exact hl) h1x (fun p x c h4 h5=>?_)
    rw [List.getElem?_set] at h5
    split at h5
    ·rename_i hjp
     subst hjp
     split at h5
     ·injection h5 with h5
      subst h5
      have hx:=hr j x _ h4 hc
      obtain ⟨hx,_⟩:=hx.vv
      rw [hx]
      exact k3.mono hs2
     ·cases h5
    ·exact (hr p x c h4 h5).mono hs2
 exact ⟨h1,h2,ρ',F,hinv2,fun q=>((hev q).mono k2).mono hs2⟩
theorem BLe.trans {B B' B'':List (Nat×Option aj)} (h:BLe B B') (h':BLe B' B'') : BLe B B'':=by
 refine ⟨fun t e k ty xs pins h1=>?_,fun t ty cs h1=>?_⟩
 ·obtain ⟨e1,k1,ty1,xs1,pins1,h2,h3,h4⟩:=h.rw t e k ty xs pins h1
  obtain ⟨e2,k2,ty2,xs2,pins2,h5,h6,h7⟩:=h'.rw t e1 k1 ty1 xs1 pins1 h2
  refine ⟨e2,k2,ty2,xs2,pins2,h5,h6.trans h3,fun p pin hp=>?_⟩
  obtain ⟨pin1,h8,h9⟩:=h4 p pin hp
  obtain ⟨pin2,h10,h11⟩:=h7 p pin1 h8
  exact ⟨pin2,h10,h11.trans h9⟩
 ·obtain ⟨ty1,cs1,h2⟩:=h.st t ty cs h1
  exact h'.st t ty1 cs1 h2
theorem xU {B:List (Nat×Option aj)} {b:Nat} {x:Option aj} (h:lkB B b=x) (t:Nat) : lkB ((b,x)::B) t=lkB B t:=by
 rw [ac]
 split
 ·rename_i e; subst e; exact h.symm
 ·rfl
theorem al.lk {B B':List (Nat×Option aj)} (h:∀ t,lkB B' t=lkB B t) {v:SV} {q:PV} (hv:al B v q) : al B' v q :=
 hv.mono ⟨fun t e k ty xs pins h1=>⟨e,k,ty,xs,pins,by rw [h]; exact h1,rfl,fun _ pin hp=>⟨pin,hp,rfl⟩⟩,fun t ty cs h1=>⟨ty,cs,by rw [h]; exact h1⟩⟩
theorem cZ.lk {B B':List (Nat×Option aj)} (h:∀ t,lkB B' t=lkB B t) {o:Bool} {b:Option aj} {q:Option Box} (hv:cZ B o b q) : cZ B' o b q :=
 hv.mono ⟨fun t e k ty xs pins h1=>⟨e,k,ty,xs,pins,by rw [h]; exact h1,rfl,fun _ pin hp=>⟨pin,hp,rfl⟩⟩,fun t ty cs h1=>⟨ty,cs,by rw [h]; exact h1⟩⟩
theorem Sim.lk {sl:List (Nat×SV)} {B B':List (Nat×Option aj)} {pr oc:List Nat} {ro:Bool} {p:PS} (h:∀ t,lkB B' t=lkB B t) (hs:Sim ⟨sl,B,pr,ro,oc⟩ p) : Sim ⟨sl,B',pr,ro,oc⟩ p :=
 ⟨fun i=>(hs.sl i).lk h,fun t=>by show cZ B' _ (lkB B' t) _; rw [h]; exact (hs.bx t).lk h⟩
theorem gM {s:SS} {b:Nat} {ty:TypeId} : ∀ {rows:List (Nat×Nat×Nat×Nat×Ty)} {cs cs':List SV} {bx bx':List (Nat×Option aj)} {p:PS},(∃ x,lkB bx b=some x)→Sim ⟨s.sl,(b,some (.st ty cs))::bx,s.pr,s.ro,[]⟩ p→gN s rows cs bx=some (cs',bx') →
  ∃ p',Le p p'∧Sim ⟨s.sl,(b,some (.st ty cs'))::bx',s.pr,s.ro,[]⟩ p'∧(∀ t,af s.pr t=true→lkB bx' t=lkB bx t)∧cs'.length=cs.length∧∀ t x,lkB bx t=some x→lkB bx' t=some x
 | [],cs,cs',bx,bx',p,_,hs,h=>by
  injection h with h
  injection h with e1 e2
  subst e1 e2
  exact ⟨p,.refl p,hs,fun _ _=>rfl,rfl,fun _ _ h=>h⟩
 | (j,R,e,k,t)::l,cs,cs',bx,bx',p,hb,hs,h=>by
  simp only [gN] at h
  split at h
  ·rename_i hj
   split at h
   ·rename_i hR hk hp
    have hk:=zd hk
    obtain ⟨xb,hxb⟩:=hb
    have hRb : ¬ R=b:=fun e=>by rw [e,hxb] at hR; cases hR
    have hbx:=hs.bx b
    have hbx:cZ ((b,some (.st ty cs))::bx) (af [] b) (lkB ((b,some (.st ty cs))::bx) b) (p.b b):=hbx
    rw [ac,if_pos rfl] at hbx
    obtain ⟨qs,h1,h2⟩:=hbx
    have hRn:lkB ((b,some (.st ty cs))::bx) R=none:=by rw [ac,if_neg hRb]; exact hR
    have hpR:p.b R=none:=by
     have h3:=hs.bx R
     have h3:cZ ((b,some (.st ty cs))::bx) (af [] R) (lkB ((b,some (.st ty cs))::bx) R) (p.b R):=h3
     rw [hRn] at h3
     exact h3 rfl
    have hlt:j < qs.length:=by rw [← h2.len]; exact (zg.1 hj).1
    have hqj:qs[j]? = some (.d (.v (.slice none 0 0))):=by
     have h3:qs[j]? = some qs[j]:=by simp [hlt]
     rw [h3,tr (h2.rep j _ _ hj h3)]
    have hle:=sP R b j e k h1 hqj hpR hk.2 hk.1
    have hB1:BLe ((b,some (.st ty cs))::bx) ((R,some (.rw e k t [] []))::(b,some (.st ty cs))::bx):=eX hRn
    have hB2:BLe ((R,some (.rw e k t [] []))::(b,some (.st ty cs))::bx) ((b,some (.st ty (cs.set j (.row R))))::(R,some (.rw e k t [] []))::(b,some (.st ty cs))::bx):=tb (ty:=ty) (cs:=cs) (by rw [ac,if_neg (fun e=>hRb e.symm),ac,if_pos rfl])
    have hB:=hB1.trans hB2
    have hsame:∀ t',lkB ((b,some (.st ty (cs.set j (.row R))))::(R,some (.rw e k t [] []))::bx) t' = lkB ((b,some (.st ty (cs.set j (.row R))))::(R,some (.rw e k t [] []))::(b,some (.st ty cs))::bx) t':=fun t'=>by
     simp only [ac]
     split
     ·rfl
     ·rename_i h'; split
      ·rfl
      ·rfl
    have hs1:Sim ⟨s.sl,(b,some (.st ty (cs.set j (.row R))))::(R,some (.rw e k t [] []))::(b,some (.st ty cs))::bx,s.pr,s.ro,[]⟩ ⟨p.t,aW (aW p.b (some (R,.rw e k []))) (some (b,.st ty (qs.set j (.row R 0))))⟩:=by
     refine ⟨fun i=>(hs.sl i).mono hB,fun t'=>?_⟩
     show cZ _ (af [] t') (lkB ((b,some (.st ty (cs.set j (.row R))))::(R,some (.rw e k t [] []))::(b,some (.st ty cs))::bx) t') (aW (aW p.b (some (R,.rw e k []))) (some (b,.st ty (qs.set j (.row R 0)))) t')
     rw [ac]
     by_cases e1:t' = b
     ·subst e1
      rw [if_pos rfl,aV]
      refine ⟨_,rfl,by simpa using h2.len,fun j' c q m1 m2=>?_⟩
      rw [List.getElem?_set] at m1 m2
      by_cases e2:j=j'
      ·subst e2
       have hlc:j < cs.length:=by rw [h2.len]; exact hlt
       rw [if_pos rfl,if_pos hlc] at m1
       rw [if_pos rfl,if_pos hlt] at m2
       injection m1 with m1
       injection m2 with m2
       subst m1 m2
       exact .row R 0 e k t [] [] (by rw [ac,if_neg hRb,ac,if_pos rfl]) rfl
      ·rw [if_neg e2] at m1 m2
       exact (h2.rep j' c q m1 m2).mono hB
     ·rw [if_neg e1,aD _ _ e1,ac]
      by_cases e2:t' = R
      ·subst e2
       rw [if_pos rfl,aV]
       exact ⟨rfl,fun p pin hp=>by cases hp⟩
      ·rw [if_neg e2,aD _ _ e2]
       exact (hs.bx t').mono hB
    have hs2:=hs1.lk hsame
    obtain ⟨p',k1,k2,k3,k4,k5⟩:=gM (s:=s) (b:=b) (ty:=ty) ⟨xb,by rw [ac,if_neg (fun e=>hRb e.symm)]; exact hxb⟩ hs2 h
    refine ⟨p',hle.trans k1,k2,fun t' ht'=>?_,by rw [k4,List.length_set],fun t' x hx=>k5 t' x ?_⟩
    ·rw [k3 t' ht',ac,if_neg (fun e=>by rw [e,hp] at ht'; cases ht')]
    ·rw [ac,if_neg (fun e=>by rw [e,hR] at hx; cases hx)]; exact hx
   ·cases h
  ·exact gM hb hs h
theorem eR {sc wr:List Nat} : ∀ {ms:List Mod} {s s':SS} {p:PS},s.oc = []→cY s→Sim s p→n8 wr ms s=some s'→∃ p',Le p p'∧Sim s' p'∧bc sc wr s s'∧s'.oc = []
 | [],s,s',p,ho,_,hs,h=>by injection h with h; subst h; exact ⟨p,.refl p,hs,.refl _ _,ho⟩
 | .leaf _ _ :: l,s,s',p,ho,hpr,hs,h=>eR (ms:=l) ho hpr hs h
 | .agg _ _ :: l,s,s',p,ho,hpr,hs,h=>eR (ms:=l) ho hpr hs h
 | .box _ _ _ [] :: l,s,s',p,ho,hpr,hs,h=>eR (ms:=l) ho hpr hs h
 | .box b _ _ (r::rows)::l,s,s',p,ho,hpr,hs,h=>by
  simp only [n8] at h
  split at h
  ·rename_i ty cs hb
   split at h
   ·rename_i cs' bx' hp hn
    have hs0:Sim ⟨s.sl,(b,some (.st ty cs))::s.bx,s.pr,s.ro,[]⟩ p:=by
     have:Sim ⟨s.sl,s.bx,s.pr,s.ro,[]⟩ p:=by rw [← ho]; exact hs
     exact this.lk (xU hb)
    obtain ⟨p1,k1,k2,k3,k4,k5⟩:=gM ⟨_,hb⟩ hs0 hn
    have hk:bc sc wr s ⟨s.sl,(b,some (.st ty cs'))::bx',s.pr,s.ro,s.oc⟩:=by
     refine ⟨rfl,rfl,fun t ht=>?_,fun _ _ _=>rfl,fun t _ ty2 cs2 h2=>?_⟩
     ·show cA _ (lkB ((b,some (.st ty cs'))::bx') t)
      rw [ac,if_neg (fun e=>by rw [e,hp] at ht; cases ht),k3 t ht]
      exact .refl _
     ·show ∃ cs3,lkB ((b,some (.st ty cs'))::bx') t = _∧_
      rw [ac]
      by_cases e:t=b
      ·rw [e,hb] at h2
       injection h2 with h2
       injection h2 with e1 e2
       subst e1 e2
       rw [if_pos e]
       exact ⟨_,rfl,k4⟩
      ·rw [if_neg e]
       exact ⟨cs2,k5 t _ h2,rfl⟩
    obtain ⟨p2,m1,m2,m3,m4⟩:=eR (ms:=l) (s:=⟨s.sl,(b,some (.st ty cs'))::bx',s.pr,s.ro,s.oc⟩) ho (hk.prOk hpr) (by rw [ho]; exact k2) h
    exact ⟨p2,k1.trans m1,m2,hk.trans m3,m4⟩
   ·cases h
  ·cases h
 | .row i R e k t::l,s,s',p,ho,hpr,hs,h=>by
  simp only [n8] at h
  split at h
  ·rename_i hv
   split at h
   ·rename_i hR hb hk hw hp
    have hk:=zd hk
    have hsi:=hs.sl i
    rw [hv] at hsi
    have hpt:=tr hsi
    have hpb:p.b i=none:=by
     have:=hs.bx i
     rw [hb] at this
     exact this (by rw [ho]; rfl)
    have hle:=u6 (p:=p) i e k hpt hpb hk.2 hk.1
    have hs1:Sim ⟨fO s.sl (some i) (.row i),(i,some (.rw e k t [] []))::s.bx,s.pr,s.ro,s.oc⟩ (p.upd (some i) (.row i 0) (some (i,.rw e k (([] : List t.den).map (az t))))) :=
     dM hs (eX hb) (fun _=>⟨rfl,fun p pin hp=>by cases hp⟩) (.row i 0 e k t [] [] (by rw [ac,if_pos rfl]) rfl)
    have hkp:bc sc wr s ⟨(i,.row i)::s.sl,(i,some (.rw e k t [] []))::s.bx,s.pr,s.ro,s.oc⟩:=by
     refine ⟨rfl,rfl,fun t' ht'=>?_,fun j hj _=>?_,fun t' _ ty2 cs2 h2=>⟨cs2,by show lkB ((i,some (.rw e k t [] []))::s.bx) t' = _; rw [ac,if_neg (fun e=>by rw [e,hb] at h2; cases h2)]; exact h2,rfl⟩⟩
     ·show cA _ (lkB ((i,some (.rw e k t [] []))::s.bx) t')
      rw [ac,if_neg (fun e=>by rw [e,hp] at ht'; cases ht')]
      exact .refl _
     ·show lkV ((i,.row i)::s.sl) j = _
      rw [aO,if_neg (fun e=>by rw [e,hw] at hj; cases hj)]
    obtain ⟨p2,m1,m2,m3,m4⟩:=eR (ms:=l) (s:=⟨(i,.row i)::s.sl,(i,some (.rw e k t [] []))::s.bx,s.pr,s.ro,s.oc⟩) ho (hkp.prOk hpr) hs1 h
    exact ⟨p2,hle.trans m1,m2,hkp.trans m3,m4⟩
   ·cases h
  ·exact eR (ms:=l) ho hpr hs h
theorem dA (wr pr kb:List Nat) : ∀ (l:List (Nat×SV)) (seen:List Nat) (i:Nat),lkV (f8 wr pr kb l seen) i=if af seen i=true then .junk else if af wr i=true then .junk else if n7 pr kb (lkV l i)=true then lkV l i else .junk
 | [],seen,i=>by simp [f8,lkV,n7]
 | (j,v)::l,seen,i=>by
  simp only [f8]
  have hc:=aO j v l i
  split
  ·rename_i hs
   rw [dA wr pr kb l seen i,hc]
   by_cases e:i=j
   ·subst e; simp [hs]
   ·simp [e]
  ·rename_i hs
   split
   ·rename_i hw
    rw [dA wr pr kb l (j::seen) i,hc,ak]
    by_cases e:i=j
    ·subst e; simp [hw]
    ·simp [e]
   ·rename_i hw
    split
    ·rename_i hf
     rw [aO,dA wr pr kb l (j::seen) i,hc,ak]
     by_cases e:i=j
     ·subst e; simp [hs,hw,hf]
     ·simp [e]
    ·rename_i hf
     rw [dA wr pr kb l (j::seen) i,hc,ak]
     by_cases e:i=j
     ·subst e; simp [hf]
     ·simp [e]
theorem dB (pr:List Nat) : ∀ (l:List (Nat×Option aj)) (seen:List Nat) (t:Nat),lkB (ga pr l seen) t=if af seen t=true then none else if af pr t=true then pk (lkB l t) else none
 | [],seen,t=>by simp [ga,lkB,pk]
 | (j,b)::l,seen,t=>by
  simp only [ga]
  have hc:=ac j b l t
  split
  ·rename_i hs
   rw [dB pr l seen t,hc]
   by_cases e:t=j
   ·subst e; simp [hs]
   ·simp [e]
  ·rename_i hs
   split
   ·rename_i hw
    rw [ac,dB pr l (j::seen) t,hc,ak]
    by_cases e:t=j
    ·subst e; simp [hs,hw]
    ·simp [e]
   ·rename_i hw
    rw [dB pr l (j::seen) t,hc,ak]
    by_cases e:t=j
    ·subst e; simp [hw]
    ·simp [e]
theorem cJ (mb:List Nat) : ∀ (l:List (Nat×Option aj)) (seen:List Nat) (t:Nat),af (dN mb l seen) t=true↔af seen t=false∧af mb t=false∧∃ b,lkB l t=some b∧jG b=true
 | [],seen,t=>by simp [dN,af,lkB]
 | (j,b)::l,seen,t=>by
  have hc:=ac j b l t
  simp only [dN]
  split
  ·rename_i hs
   rw [cJ mb l seen t,hc]
   by_cases e:t=j
   ·subst e; simp [hs]
   ·simp [e]
  ·rename_i hs
   split
   ·rw [cJ mb l (j::seen) t,hc,ak]
    by_cases e:t=j
    ·subst e; simp
    ·simp [e]
   ·rename_i b'
    split
    ·rename_i h1 h2
     rw [ak,Bool.or_eq_true,cJ mb l (j::seen) t,hc,ak]
     by_cases e:t=j
     ·subst e; simp [hs,h1,h2]
     ·simp [e]
    ·rename_i h12
     rw [cJ mb l (j::seen) t,hc,ak]
     by_cases e:t=j
     ·subst e
      simp only [decide_true,Bool.true_or,Bool.true_eq_false,false_and,if_true,Option.some.injEq,exists_eq_left',false_iff,not_and]
      intro _ h3 h4
      exact h12 h3 h4
     ·simp [e]
theorem ir (bx:List (Nat×Option aj)) : ∀ (l:List Nat) (r:List (Nat×Option aj)) (t:Nat),(af l t=true→∀ ty cs,lkB bx t=some (.st ty cs)→lkB (qu bx l r) t=some (.st ty (iT cs)))∧((af l t=false∨∀ ty cs,lkB bx t≠some (.st ty cs))→lkB (qu bx l r) t=lkB r t)
 | [],r,t=>⟨fun h=>(by cases h),fun _=>rfl⟩
 | b::l,r,t=>by
  obtain ⟨h1,h2⟩:=ir bx l r t
  simp only [qu]
  split
  ·rename_i ty cs hb
   refine ⟨fun hm ty2 cs2 h=>?_,fun h=>?_⟩
   ·rw [ac]
    by_cases e:t=b
    ·subst e
     rw [hb] at h
     injection h with h
     injection h with e1 e2
     subst e1 e2
     rw [if_pos rfl]
    ·rw [if_neg e]
     rw [ak] at hm
     exact h1 (by simpa [e] using hm) ty2 cs2 h
   ·rw [ac]
    by_cases e:t=b
    ·subst e
     rcases h with h | h
     ·rw [ak] at h; simp at h
     ·exact absurd hb (h ty cs)
    ·rw [if_neg e]
     rw [ak] at h
     exact h2 (h.imp (by simp [e]) id)
  ·rename_i hb
   refine ⟨fun hm ty2 cs2 h=>?_,fun h=>?_⟩
   ·by_cases e:t=b
    ·subst e; exact absurd h (hb ty2 cs2)
    ·rw [ak] at hm
     exact h1 (by simpa [e] using hm) ty2 cs2 h
   ·rw [ak] at h
    by_cases e:t=b
    ·subst e; exact h2 (.inr fun ty cs=>hb ty cs)
    ·exact h2 (h.imp (by simp [e]) id)
theorem eN (bx:List (Nat×Option aj)) : ∀ (l:List Nat) (t:Nat),af (fV bx l) t=true↔af l t=true∧∃ ty cs,lkB bx t=some (.st ty cs)
 | [],t=>by simp [fV,af]
 | b::l,t=>by
  have ih:=eN bx l t
  simp only [fV]
  split
  ·rename_i ty cs hb
   rw [ak,ak,Bool.or_eq_true,Bool.or_eq_true,ih]
   by_cases e:t=b
   ·subst e; simp [hb]
   ·simp [e]
  ·rename_i hb
   rw [ih,ak,Bool.or_eq_true]
   by_cases e:t=b
   ·subst e
    refine ⟨fun h=>⟨.inl (by simp),h.2⟩,fun h=>?_⟩
    obtain ⟨ty,cs,h⟩:=h.2
    exact absurd h (hb ty cs)
   ·simp [e]
theorem kx:∀ cs:List SV,(iT cs).length=cs.length
 | []=>rfl
 | c::cs=>by simp [iT,kx cs]
theorem oB:∀ (cs:List SV) (j:Nat) (c:SV),(iT cs)[j]? = some c→c = .junk
 | [],j,c,h=>by simp [iT] at h
 | _ :: cs,0,c,h=>by simp [iT] at h; exact h.symm
 | _ :: cs,j + 1,c,h=>by simp [iT] at h; exact oB cs j c h
theorem dR (mb sc:List Nat) : ∀ (l:List (Nat×Option aj)) (seen:List Nat),iz mb sc l seen=true→∀ t ty cs,af seen t=false→lkB l t=some (.st ty cs)→af mb t=true∨af sc t=true∨aH cs=true
 | [],seen,_,t,ty,cs,_,h=>by cases h
 | (j,b)::l,seen,hk,t,ty,cs,hs,h=>by
  simp only [iz] at hk
  rw [ac] at h
  split at hk
  ·rename_i hj
   have e : ¬ t=j:=fun e=>by rw [e,hj] at hs; cases hs
   rw [if_neg e] at h
   exact dR mb sc l seen hk t ty cs hs h
  ·split at hk
   ·split at hk
    ·rename_i hm
     by_cases e:t=j
     ·rw [if_pos e] at h
      injection h with h
      injection h with e1 e2
      subst e1 e2 e
      simpa [Bool.or_eq_true] using hm
     ·rw [if_neg e] at h
      exact dR mb sc l (j::seen) hk t ty cs (by rw [ak]; simp [e,hs]) h
    ·cases hk
   ·rename_i hb
    by_cases e:t=j
    ·rw [if_pos e] at h
     exact absurd h (hb ty cs)
    ·rw [if_neg e] at h
     exact dR mb sc l (j::seen) hk t ty cs (by rw [ak]; simp [e,hs]) h
theorem jq:∀ {a b:List Nat},rD a b=true→∀ t,af a t=true→af b t=false
 | [],b,_,t,h=>by cases h
 | x::a,b,hd,t,h=>by
  simp only [rD] at hd
  split at hd
  ·cases hd
  ·rename_i hx
   rw [ak,Bool.or_eq_true] at h
   rcases h with h | h
   ·have:=zd h; subst this; exact hx
   ·exact jq hd t h
theorem fq {pr kb:List Nat} : ∀ {cs:List SV} (_:cH pr kb cs=true) {j:Nat} {c:SV},cs[j]? = some c→n7 pr kb c=true
 | [],_,j,c,h=>by simp at h
 | d::cs,h,j,c,hj=>by
  simp only [cH] at h
  split at h
  ·rename_i h1
   cases j with
   | zero=>simp at hj; subst hj; exact h1
   | succ j=>simp at hj; exact fq h hj
  ·cases h
theorem uz {B B':List (Nat×Option aj)} {pr kb:List Nat} (hrw:∀ t,af pr t=true→∀ e k ty xs pins,lkB B t=some (.rw e k ty xs pins)→∃ e' k' ty' xs' pins',lkB B' t=some (.rw e' k' ty' xs' pins')∧xs'.length=xs.length)
  (hst:∀ t,af kb t=true→∀ ty cs,lkB B t=some (.st ty cs)→∃ ty' cs',lkB B' t=some (.st ty' cs')) {v:SV} {q:PV} (h:al B v q) : n7 pr kb v=true→al B' v q:=by
 induction h with
 | junk q=>exact fun _=>.junk q
 | d c y h=>exact fun _=>.d c y h
 | ag cs qs hl hr ih=>exact fun hs=>.ag cs qs hl fun j c q h1 h2=>ih j c q h1 h2 (fq hs h1)
 | tup cs qs hl hr ih=>exact fun hs=>.tup cs qs hl fun j c q h1 h2=>ih j c q h1 h2 (fq hs h1)
 | ptr t o ty cs hb=>exact fun hs=>by obtain ⟨ty',cs',h1⟩:=hst t hs ty cs hb; exact .ptr t o ty' cs' h1
 | row t n e k ty xs pins hb hn =>
  intro hs
  obtain ⟨e',k',ty',xs',pins',h1,h2⟩:=hrw t hs e k ty xs pins hb
  exact .row t n e' k' ty' xs' pins' h1 (h2.trans hn)
 | re t p o n i e k ty xs pins pin hb hn hp hi=>exact fun hs=>by cases hs
 | vw t lo hi n e k ty xs pins hb hn=>exact fun hs=>by cases hs
 | fe cs ds h hn=>exact fun _=>.fe cs ds h hn
 | fn f ps qs ps' qs' hl hr hl2 hr2 ih ih2 =>
  intro hs
  have hs:(match cH pr kb ps with | true=>cH pr kb qs | false=>false)=true:=hs
  split at hs
  ·rename_i h1
   exact .fn f ps qs ps' qs' hl (fun j c q h2 h3=>ih j c q h2 h3 (fq h1 h2)) hl2 (fun j c q h2 h3=>ih2 j c q h2 h3 (fq hs h2))
  ·cases hs
mutual
theorem vR {pr pr' kb:List Nat} (h:∀ t,af pr t=true→af pr' t=true) : ∀ v:SV,n7 pr kb v=true→cI pr' v=true
 | .junk,_=>rfl
 | .d _,_=>rfl
 | .fe _,_=>rfl
 | .ptr _ _,_=>rfl
 | .row t,hs=>h t hs
 | .re _ _ _,hs=>by cases hs
 | .vw _ _ _,hs=>by cases hs
 | .ag cs,hs=>by simp only [cI]; exact jE h cs hs
 | .tup cs,hs=>by simp only [cI]; exact jE h cs hs
 | .fn f ps qs,hs=>by
  have hs:(match cH pr kb ps with | true=>cH pr kb qs | false=>false)=true:=hs
  split at hs
  ·rename_i h1
   simp only [cI,Bool.and_eq_true]
   exact ⟨jE h ps h1,jE h qs hs⟩
  ·cases hs
theorem jE {pr pr' kb:List Nat} (h:∀ t,af pr t=true→af pr' t=true) : ∀ cs:List SV,cH pr kb cs=true→bj pr' cs=true
 | [],_=>rfl
 | c::cs,hs=>by
  simp only [cH] at hs
  split at hs
  ·rename_i h1
   simp only [bj,Bool.and_eq_true]
   exact ⟨vR h c h1,jE h cs hs⟩
  ·cases hs
end
theorem ej {pr:List Nat} : ∀ {cs:List SV} (_:bj pr cs=true) {j:Nat} {c:SV},cs[j]? = some c→cI pr c=true
 | [],_,j,c,h=>by simp at h
 | d::cs,h,j,c,hj=>by
  simp only [bj,Bool.and_eq_true] at h
  cases j with
  | zero=>simp at hj; subst hj; exact h.1
  | succ j=>simp at hj; exact ej h.2 hj
theorem gF {pr kb:List Nat} : ∀ {cs:List SV},(∀ (j:Nat) c,cs[j]? = some c→n7 pr kb c=true)→cH pr kb cs=true
 | [],_=>rfl
 | c::cs,h=>by
  simp only [cH]
  rw [h 0 c rfl]
  exact gF fun j d hj=>h (j + 1) d (by simpa using hj)
theorem sv {B:List (Nat×Option aj)} {pr pr' kb:List Nat} (h:∀ t,af pr t=true→af pr' t=true) (hst:∀ t ty cs,lkB B t=some (.st ty cs)→af kb t=true) {v:SV} {q:PV} (hv:al B v q) : cI pr v=true→n7 pr' kb v=true:=by
 induction hv with
 | junk q=>exact fun _=>rfl
 | d c y h=>exact fun _=>rfl
 | ag cs qs hl hr ih =>
  refine fun hs=>gF fun j c hj=>?_
  have hlt:j < qs.length:=by rw [← hl]; exact (zg.1 hj).1
  exact ih j c qs[j] hj (by simp [hlt]) (ej hs hj)
 | tup cs qs hl hr ih =>
  refine fun hs=>gF fun j c hj=>?_
  have hlt:j < qs.length:=by rw [← hl]; exact (zg.1 hj).1
  exact ih j c qs[j] hj (by simp [hlt]) (ej hs hj)
 | ptr t o ty cs hb=>exact fun _=>hst t ty cs hb
 | row t n e k ty xs pins hb hn=>exact fun hs=>h t hs
 | re t p o n i e k ty xs pins pin hb hn hp hi=>exact fun hs=>by cases hs
 | vw t lo hi n e k ty xs pins hb hn=>exact fun hs=>by cases hs
 | fe cs ds h hn=>exact fun _=>rfl
 | fn f ps qs ps' qs' hl hr hl2 hr2 ih ih2 =>
  intro hs
  simp only [cI,Bool.and_eq_true] at hs
  have k1:cH pr' kb ps=true:=gF fun j c hj=>by
   have hlt:j < ps'.length:=by rw [← hl]; exact (zg.1 hj).1
   exact ih j c ps'[j] hj (by simp [hlt]) (ej hs.1 hj)
  have k2:cH pr' kb qs=true:=gF fun j c hj=>by
   have hlt:j < qs'.length:=by rw [← hl2]; exact (zg.1 hj).1
   exact ih2 j c qs'[j] hj (by simp [hlt]) (ej hs.2 hj)
  show (match cH pr' kb ps with | true=>cH pr' kb qs | false=>false)=true
  rw [k1]
  exact k2
theorem An {B:List (Nat×Option aj)} {c:SD} {q:PV} (h:al B (.d c) q) : ∃ y,q = .d y∧qi c y:=by
 cases h with
 | d _ y h=>exact ⟨y,rfl,h⟩
theorem yS {B:List (Nat×Option aj)} {t:Nat} {q:PV} (h:al B (.row t) q) : ∃ n,q = .row t n:=by
 cases h with
 | row _ n=>exact ⟨n,rfl⟩
def cW (bx:List (Nat×Option aj)) : Prop:=∀ t e k ty xs pins,lkB bx t=some (.rw e k ty xs pins)→pins = []
theorem cW.cons_rw {bx:List (Nat×Option aj)} (h:cW bx) {R e k:Nat} {t:Ty} {xs:List t.den} : cW ((R,some (.rw e k t xs []))::bx):=by
 intro t' e' k' ty' xs' pins' h1
 rw [ac] at h1
 split at h1
 ·injection h1 with h1
  injection h1 with q1 q2 q3 q4 q5
  exact q5.symm
 ·exact h t' e' k' ty' xs' pins' h1
theorem cW.cons_st {bx:List (Nat×Option aj)} (h:cW bx) {R:Nat} {ty:TypeId} {cs:List SV} : cW ((R,some (.st ty cs))::bx):=by
 intro t' e' k' ty' xs' pins' h1
 rw [ac] at h1
 split at h1
 ·cases h1
 ·exact h t' e' k' ty' xs' pins' h1
def oh (bx:List (Nat×Option aj)) (p:PS) : Prop:=∀ t b,lkB bx t=some b→cZ bx true (some b) (p.b t)
theorem pa {bx:List (Nat×Option aj)} {p:PS} (hn:cW bx) (hb:oh bx p) {R e k:Nat} {t:Ty} {xs:List t.den} (hR:p.b R=some (.rw e k (xs.map (az t)))) : BLe bx ((R,some (.rw e k t xs []))::bx):=by
 refine ⟨fun t' e2 k2 ty2 xs2 pins2 h=>?_,fun t' ty2 cs2 h=>?_⟩
 ·rw [ac]
  by_cases e1:t' = R
  ·subst e1
   rw [if_pos rfl]
   have h1:=(hb t' _ h).1
   rw [hR] at h1
   injection h1 with h1
   injection h1 with q1 q2 q3
   refine ⟨e,k,t,xs,[],rfl,by simpa using congrArg List.length q3,fun p pin hp=>?_⟩
   rw [hn _ _ _ _ _ _ h] at hp
   cases hp
  ·rw [if_neg e1]; exact ⟨_,_,_,_,_,h,rfl,fun p pin hp=>⟨pin,hp,rfl⟩⟩
 ·rw [ac]
  by_cases e1:t' = R
  ·subst e1
   obtain ⟨qs,h1,_⟩:=hb t' _ h
   rw [hR] at h1
   cases h1
  ·rw [if_neg e1]; exact ⟨_,_,h⟩
theorem xq {bx:List (Nat×Option aj)} {p:PS} (hb:oh bx p) {b:Nat} {ty:TypeId} {cs:List SV} {qs:List PV} (hR:p.b b=some (.st ty qs)) : BLe bx ((b,some (.st ty cs))::bx):=by
 refine ⟨fun t' e2 k2 ty2 xs2 pins2 h=>?_,fun t' ty2 cs2 h=>?_⟩
 ·rw [ac]
  by_cases e1:t' = b
  ·subst e1
   have h1:=(hb t' _ h).1
   rw [hR] at h1
   cases h1
  ·rw [if_neg e1]; exact ⟨_,_,_,_,_,h,rfl,fun p pin hp=>⟨pin,hp,rfl⟩⟩
 ·rw [ac]
  by_cases e1:t' = b
  ·rw [if_pos e1]; exact ⟨_,_,rfl⟩
  ·rw [if_neg e1]; exact ⟨_,_,h⟩
theorem oh.cons {bx:List (Nat×Option aj)} {p:PS} (h:oh bx p) {R:Nat} {b:aj} (hB:BLe bx ((R,some b)::bx)) (hb:cZ ((R,some b)::bx) true (some b) (p.b R)) : oh ((R,some b)::bx) p:=by
 intro t b' h1
 rw [ac] at h1
 by_cases e:t=R
 ·subst e
  rw [if_pos rfl] at h1
  injection h1 with h1
  subst h1
  exact hb
 ·rw [if_neg e] at h1
  exact (h t b' h1).mono hB
theorem xV {t:Ty} {xs ys:List t.den} (h:xs.map (az t)=ys.map (az t)) : xs.length=ys.length:=by
 have h9:=congrArg List.length h
 rw [List.length_map,List.length_map] at h9
 exact h9
theorem yZ {t t':Ty} {xs:List t.den} {ys:List t'.den} {c:SD} (h:c.as (.sl t)=some xs) (hd:c.toD = .sl (ys.map (az t'))) : xs.map (az t)=ys.map (az t'):=by
 have h1:=SD.as_ok h
 rw [hd] at h1
 have h2 : [D.sl (xs.map (az t))] = [D.sl (ys.map (az t'))]:=h1
 injection h2 with h2
 injection h2
theorem gJ {s':SS} {p:PS} (hs':bO s' p) {rows:List (Nat×Nat×Nat×Nat×Ty)} : ∀ {cs:List SV} {qs:List PV} {ds0 ds:List SD} {j:Nat} {bx bx':List (Nat×Option aj)} {vs:List SV},aA s'.bx cs qs→cellsOf s' rows j cs=some ds0→ds0.map SD.toD=ds.map SD.toD→(∀ c∈ds,c≠.nl) →
  cW bx→oh bx p→bB rows j ds bx=some (vs,bx')→cW bx'∧oh bx' p∧BLe bx bx'∧aA bx' vs qs∧(∀ t,(∀ r∈rows,r.2.1≠t)→lkB bx' t=lkB bx t)
 | [],qs,ds0,ds,j,bx,bx',vs,hc,h0,hd,_,hn,hb,h=>by
  rcases hc.cases with ⟨_,rfl⟩ | ⟨_,_,_,_,h1,_⟩
  ·injection h0 with h0
   subst h0
   have:ds = []:=by simpa using hd.symm
   subst this
   injection h with h
   injection h with e1 e2
   subst e1 e2
   exact ⟨hn,hb,.refl _,.nil,fun _ _=>rfl⟩
  ·cases h1
 | c::cs,qs,ds0,ds,j,bx,bx',vs,hc,h0,hd,hnl,hn,hb,h=>by
  rcases hc.cases with ⟨h1,_⟩ | ⟨c',q,cs',qs',h1,rfl,hq,hcs⟩
  ·cases h1
  injection h1 with e1 e2
  subst e1 e2
  have findR_mem:∀ {rows:List (Nat×Nat×Nat×Nat×Ty)} {j R e k:Nat} {t:Ty},jV rows j=some (R,e,k,t)→∃ r∈rows,r.2.1=R:=by
   intro rows
   induction rows with
   | nil=>intro j R e k t h; cases h
   | cons r rows ih =>
    intro j R e k t h
    obtain ⟨j',R',e',k',t'⟩:=r
    simp only [jV] at h
    split at h
    ·injection h with h
     injection h with h _
     exact ⟨_,List.mem_cons_self,h⟩
    ·obtain ⟨r,h1,h2⟩:=ih h
     exact ⟨r,List.mem_cons_of_mem _ h1,h2⟩
  simp only [cellsOf] at h0
  split at h0
  ·rename_i R e k t hf
   split at h0
   ·rename_i R' e' k' t' xs pins hbR
    split at h0
    ·rename_i ht hsame
     have k1:=(aa h0).1
     replace h0:=(aa h0).2
     have k2:=(aa h0).1
     replace h0:=(aa h0).2
     have k3:=(aa h0).1
     replace h0:=(aa h0).2
     replace k1:R' = R:=by simpa [aP] using k1
     replace k2:e' = e:=by simpa using k2
     replace k3:k' = k:=by simpa using k3
     subst k1 k2 k3 ht
     split at h0
     ·rename_i r hr
      injection h0 with h0
      subst h0
      cases ds with
      | nil=>simp at hd
      | cons d ds =>
       simp only [List.map_cons,List.cons.injEq] at hd
       obtain ⟨hd1,hd2⟩:=hd
       simp only [bB,hf] at h
       split at h
       ·rename_i xs' vs' bx1 hxs hp
        injection h with h
        injection h with e1 e2
        subst e1 e2
        obtain ⟨m1,m2,m3,m4,m5⟩:=gJ hs' hcs hr hd2 (fun c hc=>hnl c (List.mem_cons_of_mem _ hc)) hn hb hp
        have hpR:p.b R' = some (.rw e' k' (xs.map (az t'))):=(hs'.bx R' _ hbR).1
        have hx:xs'.map (az t')=xs.map (az t'):=yZ hxs (by rw [← hd1]; rfl)
        have hpR':p.b R' = some (.rw e' k' (xs'.map (az t'))):=by rw [hx]; exact hpR
        have hB:=pa m1 m2 hpR'
        refine ⟨m1.cons_rw,m2.cons hB ⟨hpR',fun p pin hp=>by cases hp⟩,m3.trans hB,.cons ?_ (m4.mono hB),fun t2 ht2=>?_⟩
        ·cases hq with
         | row _ n e2 k2 ty2 xs2 pins2 hb2 hn2 =>
          rw [hbR] at hb2
          injection hb2 with hb2
          injection hb2 with q1 q2 q3 q4 q5
          subst q3
          have q4:=eq_of_heq q4
          subst q4
          refine .row R' n e' k' t' xs' [] (by rw [ac,if_pos rfl]) ?_
          rw [← hn2]
          exact xV hx
        ·rw [ac,if_neg (fun e=>by
          obtain ⟨r,h1,h2⟩:=findR_mem hf
          exact ht2 r h1 (h2.trans e.symm))]
         exact m5 t2 ht2
       ·cases h
     ·cases h0
    ·cases h0
   ·cases h0
  ·rename_i hf
   split at h0
   ·rename_i x r hr
    injection h0 with h0
    subst h0
    cases ds with
    | nil=>simp at hd
    | cons d ds =>
     simp only [List.map_cons,List.cons.injEq] at hd
     obtain ⟨hd1,hd2⟩:=hd
     simp only [bB,hf] at h
     split at h
     ·rename_i vs' bx1 hp
      injection h with h
      injection h with e1 e2
      subst e1 e2
      obtain ⟨m1,m2,m3,m4,m5⟩:=gJ hs' hcs hr hd2 (fun c hc=>hnl c (List.mem_cons_of_mem _ hc)) hn hb hp
      refine ⟨m1,m2,m3,.cons ?_ m4,m5⟩
      cases hq with
      | d _ y hy =>
       refine .d d y ?_
       have h1:=hy.nrm
       rw [hd1] at h1
       have h2:=hnl d List.mem_cons_self
       cases d <;> first | exact h1 | exact absurd rfl h2
     ·cases h
   ·cases h0
theorem yg {t:Ty} {c:SD} {x:t.den} (h:c.as t=some x) : eK t x≠.nl:=by
 cases t with
 | st i=>simp [SD.as] at h
 | _=>intro e; cases e
theorem qM {t:Nat} : ∀ {rows:List (Nat×Nat×Nat×Nat×Ty)} {r:Nat×Nat×Nat×Nat×Ty},r∈rows→r.2.1=t→af (rows.map (·.2.1)) t=true
 | [],r,h,_=>by cases h
 | a::rows,r,h,e=>by
  rw [List.map_cons,ak,Bool.or_eq_true]
  rcases List.mem_cons.1 h with rfl | h
  ·exact .inl (by simp [e])
  ·exact .inr (qM h e)
theorem tD {s':SS} {p:PS} (hs':bO s' p) {m:Mod} {x:m.den} {c c':SS} (hg:kD s' m=some x) (hc:bO c p) (hn:cW c.bx) (h:ft m x c=some c') :
  bO c' p∧cW c'.bx∧BLe c.bx c'.bx∧(∀ t,af (ap [m]) t=false→lkB c'.bx t=lkB c.bx t):=by
 cases m with
 | leaf i t =>
  simp only [ft] at h
  injection h with h
  subst h
  refine ⟨⟨fun j=>?_,hc.bx⟩,hn,.refl _,fun _ _=>rfl⟩
  show al c.bx (lkV ((i,.d (eK t x))::c.sl) j) (p.t j)
  rw [aO]
  split
  ·rename_i e
   subst e
   have h1:=hs'.sl j
   have hg:(match lkV s'.sl j with | .d c=>c.as t | _=>none)=some (show t.den from x):=hg
   split at hg
   ·rename_i c0 hc0
    rw [hc0] at h1
    obtain ⟨y,hp,hy⟩:=An h1
    rw [hp]
    refine .d _ y ?_
    have h2:=hy.nrm
    rw [← lZ hg] at h2
    have h3:=yg hg
    revert h2 h3
    generalize eK t x=z
    intro h2 h3
    cases z <;> first | exact h2 | exact absurd rfl h3
   ·exact be hg
  ·exact hc.sl j
 | agg i n =>
  simp only [ft] at h
  injection h with h
  subst h
  refine ⟨⟨fun j=>?_,hc.bx⟩,hn,.refl _,fun _ _=>rfl⟩
  show al c.bx (lkV ((i,.ag (kv (stC n x)))::c.sl) j) (p.t j)
  rw [aO]
  split
  ·rename_i e
   subst e
   have h1:=hs'.sl j
   simp only [kD] at hg
   split at hg
   ·rename_i cs hcs
    split at hg
    ·rename_i ds hds
     rw [hcs] at h1
     obtain ⟨qs,h2,h3⟩:=l8 h1
     rw [h2]
     have h4:=it h3 hds
     have h5:=kc hg
     have hlen:qs.length=(stC n x).length:=by
      have a:=ki hds
      have b:=h3.len
      have c:=congrArg List.length h5
      have d:=congrArg List.length (gC n x)
      simp only [List.length_map] at c d
      omega
     refine .ag _ qs (by rw [pH,List.length_map]; exact hlen.symm) (fun k v q k1 k2=>?_)
     rw [pH,List.getElem?_map,zm] at k1
     obtain ⟨z,k3,rfl⟩:=k1
     obtain ⟨y,k4,k5⟩:=jO qs _ h4 |>.2 k (z.toD) (by
      have h7:(stC n x).map SD.toD=stD n x:=gC n x
      rw [h5,← h7,List.getElem?_map,k3]
      rfl)
     rw [k2] at k4
     injection k4 with k4
     subst k4
     have h6:=i0 n x z (List.mem_of_getElem? k3)
     refine .d z y ?_
     cases z <;> first | exact k5.symm | exact absurd rfl h6
    ·exact be hg
   ·exact be hg
  ·exact hc.sl j
 | row i R e k t =>
  simp only [ft] at h
  injection h with h
  subst h
  simp only [kD] at hg
  split at hg
  ·rename_i R' e' k' t' xs pins hv hb
   split at hg
   ·rename_i ht hsame
    have k1:=(aa hg).1
    replace hg:=(aa hg).2
    have k2:=(aa hg).1
    replace hg:=(aa hg).2
    have k3:=(aa hg).1
    replace hg:=(aa hg).2
    replace k1:R' = R:=by simpa [aP] using k1
    replace k2:e' = e:=by simpa using k2
    replace k3:k' = k:=by simpa using k3
    subst k1 k2 k3 ht
    injection hg with hg
    subst hg
    have hpR:p.b R' = some (.rw e' k' (xs.map (az t'))):=(hs'.bx R' _ hb).1
    have hB:=pa hn hc.bx hpR
    refine ⟨⟨fun j=>?_,oh.cons hc.bx hB ⟨hpR,fun p pin hp=>by cases hp⟩⟩,hn.cons_rw,hB,fun t2 ht2=>?_⟩
    ·show al _ (lkV ((i,.row R')::c.sl) j) (p.t j)
     rw [aO]
     split
     ·rename_i e
      subst e
      have h1:=hs'.sl j
      rw [hv] at h1
      obtain ⟨n,h2⟩:=yS h1
      rw [h2] at h1 ⊢
      cases h1 with
      | row _ _ e2 k2 ty2 xs2 pins2 hb2 hn2 =>
       rw [hb] at hb2
       injection hb2 with hb2
       injection hb2 with q1 q2 q3 q4 q5
       subst q3
       have q4:=eq_of_heq q4
       subst q4
       exact .row R' n e' k' t' xs [] (by rw [ac,if_pos rfl]; rfl) hn2
     ·exact (hc.sl j).mono hB
    ·show lkB ((R',_)::c.bx) t2 = _
     rw [ac,if_neg (fun e=>by subst e; simp [ap,ak] at ht2)]
   ·exact be hg
  ·exact be hg
 | box b ty n rows =>
  simp only [ft] at h
  split at h
  ·rename_i vs bx hp
   injection h with h
   subst h
   simp only [kD] at hg
   split at hg
   ·rename_i ty' cs hb
    have k1:=(aa hg).1
    replace hg:=(aa hg).2
    replace k1:ty' = ty:=by simpa using k1
    subst k1
    replace hg:=(aa hg).2
    split at hg
    ·rename_i ds hds
     obtain ⟨qs,h1,h2⟩:=hs'.bx b _ hb
     have h3:=kc hg
     obtain ⟨m1,m2,m3,m4,m5⟩:=gJ hs' h2 hds (h3.trans (gC n x).symm) (i0 n x) hn hc.bx hp
     have hB:=xq (cs:=vs) m2 h1
     refine ⟨⟨fun j=>((hc.sl j).mono m3).mono hB,oh.cons m2 hB ⟨qs,h1,m4.mono hB⟩⟩,m1.cons_st,m3.trans hB,fun t2 ht2=>?_⟩
     simp only [ap,ak,aX,Bool.or_eq_false_iff] at ht2
     show lkB ((b,_)::bx) t2 = _
     rw [ac,if_neg (fun e=>by have:=ht2.1; simp [e] at this)]
     refine m5 t2 fun r hr e=>?_
     have:=qM hr e
     rw [this] at ht2
     cases ht2.2.1
    ·exact be hg
   ·exact be hg
  ·cases h
section
variable {sc wr:List Nat}
theorem co (m:Mod) (l:List Mod) (t:Nat) : af (ap (m::l)) t=(af (ap [m]) t||af (ap l) t):=by
 cases m with
 | leaf i t'=>simp [ap,af]
 | agg i n=>simp [ap,af]
 | row i R e k t'=>simp [ap,ak,af]
 | box b ty n rows=>simp [ap,ak,aX,af,Bool.or_assoc]
def jb:Mod→Option Nat
 | .leaf i _=>some i
 | .agg i _=>some i
 | .row i _ _ _ _=>some i
 | .box ..=>none
theorem tC {m:Mod} {x:m.den} {l:List (Nat×SV)} {bx:List (Nat×Option aj)} {pr oc:List Nat} {ro:Bool} {s2:SS} (h:ft m x ⟨l,bx,pr,ro,oc⟩=some s2) :
  ∃ X bx2,s2=⟨X++l,bx2,pr,ro,oc⟩∧(∀ l',ft m x ⟨l',bx,pr,ro,oc⟩=some ⟨X++l',bx2,pr,ro,oc⟩)∧∀ i,af (X.map (·.1)) i=true→jb m=some i:=by
 cases m with
 | leaf i t=>simp only [ft] at h ⊢; injection h with h; subst h; exact ⟨[(i,.d (eK t x))],bx,rfl,fun _=>rfl,fun j hj=>by simp [ak,af] at hj; simp [jb,hj]⟩
 | agg i n=>simp only [ft] at h ⊢; injection h with h; subst h; exact ⟨[(i,.ag (kv (stC n x)))],bx,rfl,fun _=>rfl,fun j hj=>by simp [ak,af] at hj; simp [jb,hj]⟩
 | row i R e k t=>simp only [ft] at h ⊢; injection h with h; subst h; exact ⟨[(i,.row R)],_,rfl,fun _=>rfl,fun j hj=>by simp [ak,af] at hj; simp [jb,hj]⟩
 | box b ty n rows =>
  simp only [ft] at h ⊢
  split at h
  ·rename_i vs bx' hp
   injection h with h
   subst h
   exact ⟨[],_,rfl,fun _=>rfl,fun j hj=>by cases hj⟩
  ·cases h
theorem qB:∀ {ms:List Mod} {st:cn ms} {l:List (Nat×SV)} {bx:List (Nat×Option aj)} {pr oc:List Nat} {ro:Bool} {s2:SS},ci ms st ⟨l,bx,pr,ro,oc⟩=some s2 →
  ∃ X bx2,s2=⟨X++l,bx2,pr,ro,oc⟩∧(∀ l',ci ms st ⟨l',bx,pr,ro,oc⟩=some ⟨X++l',bx2,pr,ro,oc⟩)∧∀ i,af (X.map (·.1)) i=true→∃ m∈ms,jb m=some i
 | [],st,l,bx,pr,oc,ro,s2,h=>by injection h with h; subst h; exact ⟨[],bx,rfl,fun _=>rfl,fun j hj=>by cases hj⟩
 | [m],st,l,bx,pr,oc,ro,s2,h=>by
  obtain ⟨X,bx2,h1,h2,h3⟩:=tC (show ft m st _ = some s2 from h)
  exact ⟨X,bx2,h1,h2,fun i hi=>⟨m,List.mem_cons_self,h3 i hi⟩⟩
 | m::m' :: ms,st,l,bx,pr,oc,ro,s2,h=>by
  have h:(match ci (m' :: ms) st.2 ⟨l,bx,pr,ro,oc⟩ with | some s=>ft m st.1 s | none=>none)=some s2:=h
  split at h
  ·rename_i s1 h1
   obtain ⟨X,bx2,rfl,k2,k3⟩:=qB h1
   obtain ⟨Y,bx3,rfl,m2,m3⟩:=tC h
   refine ⟨Y++X,bx3,by simp,fun l'=>?_,fun i hi=>?_⟩
   ·show (match ci (m' :: ms) st.2 ⟨l',bx,pr,ro,oc⟩ with | some s=>ft m st.1 s | none=>none) = _
    rw [k2 l']
    simp only
    rw [m2]
    simp
   ·rw [List.map_append,aX,Bool.or_eq_true] at hi
    rcases hi with hi | hi
    ·exact ⟨m,List.mem_cons_self,m3 i hi⟩
    ·obtain ⟨m0,h4,h5⟩:=k3 i hi
     exact ⟨m0,List.mem_cons_of_mem _ h4,h5⟩
  ·cases h
theorem pJ:∀ (X l:List (Nat×SV)) (i:Nat),lkV (X++l) i=if af (X.map (·.1)) i=true then lkV X i else lkV l i
 | [],l,i=>by simp [af]
 | (j,v)::X,l,i=>by
  simp only [List.cons_append,aO,pJ X l i,List.map_cons,ak]
  by_cases e:i=j
  ·simp [e]
  ·simp [e]
theorem tW {s':SS} {m:Mod} {x:m.den} (hg:kD s' m=some x) {t:Nat} (ht:af (ap [m]) t=true) {ty:TypeId} {cs:List SV} (hb:lkB s'.bx t=some (.st ty cs)) : ∃ ty n rows,m = .box t ty n rows:=by
 cases m with
 | leaf i t'=>cases ht
 | agg i n=>cases ht
 | row i R e k t' =>
  simp only [ap,ak,af,Bool.or_false,decide_eq_true_eq] at ht
  subst ht
  have hg:(match lkV s'.sl i,lkB s'.bx t with | .row R',some (.rw e' k' t2 xs _)=>(match Ty.same t2 t' with | some ⟨h⟩=>chk (Nat.beq R' t) (chk (e' == e) (chk (k' == k) (some (j2 h xs)))) | none=>none) | _,_=>none)=some (show List t'.den from x):=hg
  rw [hb] at hg
  split at hg
  ·rename_i h2; cases h2
  ·cases hg
 | box b ty' n rows =>
  simp only [ap,ak,aX,af,Bool.or_false,Bool.or_eq_true,decide_eq_true_eq] at ht
  rcases ht with ht | ht
  ·subst ht; exact ⟨_,_,_,rfl⟩
  ·exfalso
   simp only [kD] at hg
   split at hg
   ·have h1:=(aa (aa hg).2).1
    have key:∀ rows:List (Nat×Nat×Nat×Nat×Ty),af (rows.map (·.2.1)) t=true→(rows.all fun r=>zk (lkB s'.bx r.2.1))=true→zk (lkB s'.bx t)=true:=by
     intro rows
     induction rows with
     | nil=>intro h; cases h
     | cons r rows ih =>
      intro h h2
      rw [List.all_cons,Bool.and_eq_true] at h2
      rw [List.map_cons,ak,Bool.or_eq_true] at h
      rcases h with h | h
      ·have:=zd h
       rw [this]; exact h2.1
      ·exact ih h h2.2
    have h2:=key rows ht h1
    rw [hb] at h2
    cases h2
   ·exact be hg
theorem qI {s':SS} {p:PS} (hs':bO s' p) : ∀ {ms:List Mod} {st:cn ms} {c c':SS},gw s' ms=some st→bO c p→cW c.bx→ci ms st c=some c' →
  bO c' p∧cW c'.bx∧BLe c.bx c'.bx∧(∀ t,af (ap ms) t=false→lkB c'.bx t=lkB c.bx t)∧∀ t,af (ap ms) t=true→∀ ty cs,lkB s'.bx t=some (.st ty cs)→∃ ty' cs',lkB c'.bx t=some (.st ty' cs')
 | [],st,c,c',_,hc,hn,h=>by injection h with h; subst h; exact ⟨hc,hn,.refl _,fun _ _=>rfl,fun t ht=>by cases ht⟩
 | [m],st,c,c',hp,hc,hn,h=>by
  have hg:kD s' m=some st:=hp
  have h:ft m st c=some c':=h
  obtain ⟨h1,h2,h3,h4⟩:=tD hs' hg hc hn h
  refine ⟨h1,h2,h3,h4,fun t ht ty cs hb=>?_⟩
  obtain ⟨ty',n,rows,rfl⟩:=tW hg ht hb
  simp only [ft] at h
  split at h
  ·injection h with h
   subst h
   exact ⟨_,_,by show lkB ((t,_) :: _) t = _; rw [ac,if_pos rfl]⟩
  ·cases h
 | m::m' :: ms,st,c,c',hp,hc,hn,h=>by
  have hp:Option.bind (kD s' m) (fun x=>Option.bind (gw s' (m' :: ms)) fun xs=>some (x,xs))=some st:=hp
  obtain ⟨x,hg,hp2⟩:=aK hp
  obtain ⟨xs,hp3,he⟩:=aK hp2
  injection he with he
  subst he
  have h:(match ci (m' :: ms) xs c with | some s=>ft m x s | none=>none)=some c':=h
  split at h
  ·rename_i c1 h1
   obtain ⟨k1,k2,k3,k4,k5⟩:=qI hs' hp3 hc hn h1
   obtain ⟨n1,n2,n3,n4⟩:=tD hs' hg k1 k2 h
   refine ⟨n1,n2,k3.trans n3,fun t ht=>?_,fun t ht ty cs hb=>?_⟩
   ·rw [co,Bool.or_eq_false_iff] at ht
    rw [n4 t ht.1,k4 t ht.2]
   ·rw [co,Bool.or_eq_true] at ht
    rcases ht with ht | ht
    ·obtain ⟨ty',n,rows,rfl⟩:=tW hg ht hb
     simp only [ft] at h
     split at h
     ·injection h with h
      subst h
      exact ⟨_,_,by show lkB ((t,_) :: _) t = _; rw [ac,if_pos rfl]⟩
     ·cases h
    ·obtain ⟨ty',cs',h5⟩:=k5 t ht ty cs hb
     exact n3.st t ty' cs' h5
  ·cases h
theorem gP {s:SS} : ∀ {ms:List Mod},er wr s ms=true→(∀ m∈ms,∀ i,jb m=some i→af wr i=true∨∃ R,af (ap ms) R=true∧lkV s.sl i = .row R)∧∀ t,af (ap ms) t=true→af s.pr t=false
 | [],_=>⟨fun m hm=>(by cases hm),fun t ht=>(by cases ht)⟩
 | m::ms,h=>by
  have key:er wr s ms=true∧(∀ i,jb m=some i→af wr i=true∨∃ R,af (ap [m]) R=true∧lkV s.sl i = .row R)∧∀ t,af (ap [m]) t=true→af s.pr t=false:=by
   cases m with
   | leaf i t =>
    simp only [er] at h
    split at h
    ·rename_i hw; exact ⟨h,fun j hj=>by injection hj with hj; subst hj; exact .inl hw,fun t ht=>by cases ht⟩
    ·cases h
   | agg i n =>
    simp only [er] at h
    split at h
    ·rename_i hw; exact ⟨h,fun j hj=>by injection hj with hj; subst hj; exact .inl hw,fun t ht=>by cases ht⟩
    ·cases h
   | row i R e k t =>
    simp only [er] at h
    split at h
    ·rename_i hp hw
     refine ⟨h,fun j hj=>?_,fun t ht=>?_⟩
     ·injection hj with hj
      subst hj
      rw [Bool.or_eq_true] at hw
      rcases hw with hw | hw
      ·exact .inl hw
      ·unfold yF at hw
       split at hw
       ·rename_i R' hv
        rw [aP] at hw
        have:=zd hw
        subst this
        exact .inr ⟨R',by simp [ap,ak],hv⟩
       ·cases hw
     ·simp only [ap,ak,af,Bool.or_false,decide_eq_true_eq] at ht
      subst ht; exact hp
    ·cases h
   | box b ty n rows =>
    simp only [er] at h
    split at h
    ·rename_i hp hr
     refine ⟨h,fun j hj=>(by cases hj),fun t ht=>?_⟩
     simp only [ap,ak,aX,af,Bool.or_false,Bool.or_eq_true,decide_eq_true_eq] at ht
     rcases ht with ht | ht
     ·subst ht; exact hp
     ·clear h
      induction rows with
      | nil=>cases ht
      | cons r rows ih =>
       rw [List.all_cons,Bool.and_eq_true] at hr
       rw [List.map_cons,ak,Bool.or_eq_true] at ht
       rcases ht with ht | ht
       ·have:=zd ht
        rw [this]; simpa using hr.1
       ·exact ih hr.2 ht
    ·cases h
  obtain ⟨h1,h2,h3⟩:=key
  obtain ⟨h4,h5⟩:=gP h1
  refine ⟨fun m0 hm i hi=>?_,fun t ht=>?_⟩
  ·rcases List.mem_cons.1 hm with rfl | hm
   ·rcases h2 i hi with h | ⟨R,h6,h7⟩
    ·exact .inl h
    ·exact .inr ⟨R,by rw [co,h6]; rfl,h7⟩
   ·rcases h4 m0 hm i hi with h | ⟨R,h6,h7⟩
    ·exact .inl h
    ·exact .inr ⟨R,by rw [co,h6]; simp,h7⟩
  ·rw [co,Bool.or_eq_true] at ht
   exact ht.elim (h3 t) (h5 t)
theorem dg:∀ {cs:List SV} (_:aH cs=true) {j:Nat} {c:SV},cs[j]? = some c→ep c=true
 | [],_,j,c,h=>by simp at h
 | d::cs,h,j,c,hj=>by
  simp only [aH] at h
  split at h
  ·rename_i h1
   cases j with
   | zero=>simp at hj; subst hj; exact h1
   | succ j=>simp at hj; exact dg h hj
  ·cases h
theorem sd {B B':List (Nat×Option aj)} {v:SV} {q:PV} (h:al B v q) : ep v=true→al B' v q:=by
 induction h with
 | junk q=>exact fun _=>.junk q
 | d c y h=>exact fun _=>.d c y h
 | ag cs qs hl hr ih=>exact fun hs=>.ag cs qs hl fun j c q h1 h2=>ih j c q h1 h2 (dg hs h1)
 | tup cs qs hl hr ih=>exact fun hs=>.tup cs qs hl fun j c q h1 h2=>ih j c q h1 h2 (dg hs h1)
 | ptr t o ty cs hb=>exact fun hs=>by cases hs
 | row t n e k ty xs pins hb hn=>exact fun hs=>by cases hs
 | re t p o n i e k ty xs pins pin hb hn hp hi=>exact fun hs=>by cases hs
 | vw t lo hi n e k ty xs pins hb hn=>exact fun hs=>by cases hs
 | fe cs ds h hn=>exact fun _=>.fe cs ds h hn
 | fn f ps qs ps' qs' hl hr hl2 hr2 ih ih2 =>
  intro hs
  have hs:(match aH ps with | true=>aH qs | false=>false)=true:=hs
  split at hs
  ·rename_i h1
   exact .fn f ps qs ps' qs' hl (fun j c q h2 h3=>ih j c q h2 h3 (dg h1 h2)) hl2 (fun j c q h2 h3=>ih2 j c q h2 h3 (dg hs h2))
  ·cases hs
def gx (sc wr:List Nat) (ms:List Mod) (s1:SS) : SS:=⟨s1.sl,s1.bx,(aB sc wr ms s1).pr,s1.ro,s1.oc⟩
theorem eO (ms:List Mod) (s1:SS) (t:Nat) : af (aB sc wr ms s1).pr t=true↔af (ap ms) t=false∧af sc t=false∧∃ b,lkB s1.bx t=some b∧jG b=true:=by
 show af (dN (ap ms++sc) s1.bx []) t=true↔_
 rw [cJ,aX,Bool.or_eq_false_iff]
 simp [af,and_assoc]
theorem kA (ms:List Mod) (s1:SS) : cY (gx sc wr ms s1):=fun t ht=>((eO (wr:=wr) ms s1 t).1 ht).2.2
theorem j4 {ms:List Mod} {s1:SS} {t:Nat} (h:af (aB sc wr ms s1).pr t=true) : lkB (aB sc wr ms s1).bx t=pk (lkB s1.bx t):=by
 obtain ⟨_,h2,_⟩:=(eO ms s1 t).1 h
 show lkB (qu s1.bx sc (ga (aB sc wr ms s1).pr s1.bx [])) t = _
 rw [(ir s1.bx sc _ t).2 (.inl h2),dB,h]
 simp [af]
theorem l4 {ms:List Mod} {s1:SS} {t:Nat} (h:af sc t=true) {ty:TypeId} {cs:List SV} (hb:lkB s1.bx t=some (.st ty cs)) : lkB (aB sc wr ms s1).bx t=some (.st ty (iT cs)) :=
 (ir s1.bx sc _ t).1 h ty cs hb
theorem nT {ms:List Mod} {s1:SS} {t:Nat} {b:aj} (h:lkB (aB sc wr ms s1).bx t=some b) : af (aB sc wr ms s1).pr t=true∨af sc t=true∧∃ ty cs,lkB s1.bx t=some (.st ty cs):=by
 by_cases h1:af sc t=true∧∃ ty cs,lkB s1.bx t=some (.st ty cs)
 ·exact .inr h1
 ·left
  have h2:af sc t=false∨∀ ty cs,lkB s1.bx t≠some (.st ty cs):=by
   by_cases h3:af sc t=true
   ·exact .inr fun ty cs h4=>h1 ⟨h3,ty,cs,h4⟩
   ·exact .inl (by simpa using h3)
  have h:lkB (qu s1.bx sc (ga (aB sc wr ms s1).pr s1.bx [])) t=some b:=h
  rw [(ir s1.bx sc _ t).2 h2,dB] at h
  cases h4:af (aB sc wr ms s1).pr t with
  | true=>rfl
  | false=>rw [h4] at h; simp [af] at h
theorem pG {ms:List Mod} {s1 s':SS} {p1 p':PS} {st:cn ms} {s2:SS} (hs1:bO s1 p1) (hchk:f6 sc wr ms s1.pr s1=true) (hk:bc sc wr (gx sc wr ms s1) s') (hs':bO s' p') (hpk:gw s' ms=some st) (hput:ci ms st (aB sc wr ms s1)=some s2) :
  bO s2 p'∧bc sc wr (gx sc wr ms s1) s2∧s2.pr=(aB sc wr ms s1).pr:=by
 unfold f6 at hchk
 simp only [Bool.and_eq_true] at hchk
 obtain ⟨c1,c2,c3,c4⟩:=hchk
 obtain ⟨o1,o2⟩:=gP c1
 have hscm:=jq c3
 obtain ⟨X,bx2,rfl,hX,hkeys⟩:=qB (show ci ms st ⟨(aB sc wr ms s1).sl,(aB sc wr ms s1).bx,(aB sc wr ms s1).pr,(aB sc wr ms s1).ro,(aB sc wr ms s1).oc⟩=some s2 from hput)
 have hX0:=hX []
 rw [List.append_nil] at hX0
 have hsame:∀ t,af (aB sc wr ms s1).pr t=true→cA (lkB s1.bx t) (lkB s'.bx t):=hk.bx
 have hbx:oh (aB sc wr ms s1).bx p':=by
  intro t b hb
  rcases nT hb with h | ⟨h,ty,cs,h1⟩
  ·obtain ⟨_,_,b1,h2,h3⟩:=(eO ms s1 t).1 h
   have h4:=hsame t h
   rw [j4 h,h2] at hb
   rw [h2] at h4
   cases b1 with
   | st ty cs =>
    injection hb with hb
    subst hb
    obtain ⟨qs,h5,h6⟩:=hs'.bx t _ h4
    exact ⟨qs,h5,h6.len,fun j c q m1 m2=>sd (h6.rep j c q m1 m2) (dg h3 m1)⟩
   | rw e k ty xs pins =>
    injection hb with hb
    subst hb
    obtain ⟨pins',h4⟩:=h4
    exact ⟨(hs'.bx t _ h4).1,fun p pin hp=>by cases hp⟩
  ·rw [l4 h h1] at hb
   injection hb with hb
   subst hb
   obtain ⟨cs',h2,h3⟩:=hk.st t h ty cs h1
   obtain ⟨qs,h4,h5⟩:=hs'.bx t _ h2
   refine ⟨qs,h4,by rw [kx,← h3]; exact h5.len,fun j c q m1 m2=>?_⟩
   rw [oB cs j c m1]
   exact .junk q
 have hnp:cW (aB sc wr ms s1).bx:=by
  intro t e k ty xs pins hb
  rcases nT hb with h | ⟨h,ty2,cs,h1⟩
  ·rw [j4 h] at hb
   cases hl:lkB s1.bx t with
   | none=>rw [hl] at hb; cases hb
   | some b =>
    rw [hl] at hb
    cases b with
    | st=>cases hb
    | rw e2 k2 ty2 xs2 pins2 =>
     injection hb with hb
     injection hb with q1 q2 q3 q4 q5
     exact q5.symm
  ·rw [l4 h h1] at hb; cases hb
 have hc0:bO ⟨[],(aB sc wr ms s1).bx,(aB sc wr ms s1).pr,(aB sc wr ms s1).ro,(aB sc wr ms s1).oc⟩ p':=⟨fun i=>.junk _,hbx⟩
 obtain ⟨k1,k2,k3,k4,k5⟩:=qI hs' hpk hc0 hnp hX0
 have k4:∀ t,af (ap ms) t=false→lkB bx2 t=lkB (aB sc wr ms s1).bx t:=k4
 have hprm:∀ t,af (aB sc wr ms s1).pr t=true→af (ap ms) t=false:=fun t ht=>((eO ms s1 t).1 ht).1
 have hkb:∀ t,af (ap ms++(fV s1.bx sc++(aB sc wr ms s1).pr)) t=true→∀ ty cs,lkB s'.bx t=some (.st ty cs)→∃ ty' cs',lkB bx2 t=some (.st ty' cs'):=by
  intro t ht ty cs hb
  rw [aX,aX,Bool.or_eq_true,Bool.or_eq_true] at ht
  rcases ht with ht | ht | ht
  ·exact k5 t ht ty cs hb
  ·obtain ⟨h1,ty2,cs2,h2⟩:=(eN s1.bx sc t).1 ht
   rw [k4 t (hscm t h1),l4 h1 h2]
   exact ⟨_,_,rfl⟩
  ·rw [k4 t (hprm t ht),j4 ht]
   have h1:=hsame t ht
   obtain ⟨_,_,b1,h2,h3⟩:=(eO ms s1 t).1 ht
   rw [h2] at h1 ⊢
   cases b1 with
   | st ty2 cs2=>exact ⟨_,_,rfl⟩
   | rw e k ty2 xs pins =>
    obtain ⟨pins',h1⟩:=h1
    rw [h1] at hb
    cases hb
 have hbase:∀ i,lkV (aB sc wr ms s1).sl i=if af wr i=true then .junk else if n7 (aB sc wr ms s1).pr (ap ms++(fV s1.bx sc++(aB sc wr ms s1).pr)) (lkV s1.sl i)=true then lkV s1.sl i else .junk:=fun i=>by
  show lkV (f8 wr (aB sc wr ms s1).pr (ap ms++(fV s1.bx sc++(aB sc wr ms s1).pr)) s1.sl []) i = _
  rw [dA]
  simp [af]
 refine ⟨⟨fun i=>?_,k1.bx⟩,⟨rfl,rfl,fun t ht=>?_,fun i hi hsf=>?_,fun t ht ty cs hb=>?_⟩,rfl⟩
 ·show al bx2 (lkV (X++(aB sc wr ms s1).sl) i) (p'.t i)
  rw [pJ]
  split
  ·exact k1.sl i
  ·rw [hbase]
   split
   ·exact .junk _
   ·rename_i hw
    split
    ·rename_i hsf
     have e:=hk.sl i (by simpa using hw) (vR (fun t h=>h) _ hsf)
     have h1:=hs'.sl i
     rw [e] at h1
     refine uz (fun t ht e k ty xs pins hb=>?_) hkb h1 hsf
     rw [k4 t (hprm t ht),j4 ht]
     have h2:=hsame t ht
     obtain ⟨_,_,b1,h3,h4⟩:=(eO ms s1 t).1 ht
     rw [h3] at h2 ⊢
     cases b1 with
     | st ty2 cs2=>have h2:lkB s'.bx t=some (.st ty2 cs2):=h2; rw [h2] at hb; cases hb
     | rw e2 k2 ty2 xs2 pins2 =>
      obtain ⟨pins',h2⟩:=h2
      rw [h2] at hb
      injection hb with hb
      injection hb with q1 q2 q3 q4 q5
      subst q3
      have q4:=eq_of_heq q4
      subst q4
      exact ⟨_,_,_,_,_,rfl,rfl⟩
    ·exact .junk _
 ·show cA (lkB s1.bx t) (lkB bx2 t)
  have ht:af (aB sc wr ms s1).pr t=true:=ht
  rw [k4 t (hprm t ht),j4 ht]
  match lkB s1.bx t with
  | none=>rfl
  | some (.st _ _)=>rfl
  | some (.rw _ _ _ _ _)=>exact ⟨[],rfl⟩
 ·show lkV (X++(aB sc wr ms s1).sl) i=lkV s1.sl i
  have hsf:cI (aB sc wr ms s1).pr (lkV s1.sl i)=true:=hsf
  rw [pJ,if_neg,hbase,if_neg (by simp [hi]),if_pos]
  ·refine sv (fun t h=>h) (fun t ty cs hb=>?_) (hs1.sl i) hsf
   rw [aX,aX,Bool.or_eq_true,Bool.or_eq_true]
   rcases dR _ _ _ _ c4 t ty cs rfl hb with h | h | h
   ·exact .inl h
   ·exact .inr (.inl ((eN s1.bx sc t).2 ⟨h,ty,cs,hb⟩))
   ·by_cases hm:af (ap ms) t=true
    ·exact .inl hm
    ·by_cases hsc:af sc t=true
     ·exact .inr (.inl ((eN s1.bx sc t).2 ⟨hsc,ty,cs,hb⟩))
     ·exact .inr (.inr ((eO ms s1 t).2 ⟨by simpa using hm,by simpa using hsc,_,hb,h⟩))
  ·intro hX1
   obtain ⟨m,hm,hkey⟩:=hkeys i hX1
   rcases o1 m hm i hkey with h | ⟨R,h1,h2⟩
   ·rw [h] at hi; cases hi
   ·rw [h2] at hsf
    have hsf:af (aB sc wr ms s1).pr R=true:=hsf
    rw [hprm R hsf] at h1
    cases h1
 ·show ∃ cs',lkB bx2 t = _∧_
  rw [k4 t (hscm t ht),l4 ht (show lkB s1.bx t = _ from hb)]
  exact ⟨_,rfl,kx cs⟩
end
section
theorem lR {P:Program} {s:SS} {p:PS} (hs:Sim s p) : ∀ {l:List ResultVar} {vs:List SV},qx P s l=some vs→∃ qs,l.mapM (lB P p)=some qs∧aA s.bx vs qs
 | [],vs,h=>by injection h with h; subst h; exact ⟨[],rfl,.nil⟩
 | .tmp t::l,vs,h=>by
  simp only [qx] at h
  split at h
  ·rename_i vs' h1
   injection h with h
   subst h
   obtain ⟨qs,h2,h3⟩:=lR hs h1
   exact ⟨p.t t::qs,by simp [List.mapM_cons,lB,h2],.cons (hs.sl t) h3⟩
  ·cases h
 | .cell t ty::l,vs,h=>by
  simp only [qx] at h
  split at h
  ·rename_i v vs' h0 h1
   injection h with h
   subst h
   obtain ⟨qs,h2,h3⟩:=lR hs h1
   obtain ⟨r,h4,h5⟩:=qN hs (hs.sl t) h0
   exact ⟨r::qs,by simp [List.mapM_cons,lB,h4,h2],.cons h5 h3⟩
  ·cases h
theorem rG {s:SS} {p:PS} (hs:Sim s p) : ∀ {rs:List PT} {vs:List SV} {qs:List PV} {x:au rs},aA s.bx vs qs→oW s rs vs=some x→av p.b qs=jC rs x
 | [],[],qs,x,hv,h=>by
  rcases hv.cases with ⟨_,rfl⟩ | ⟨_,_,_,_,h1,_⟩
  ·rfl
  ·cases h1
 | [],_ :: _,_,x,_,h=>be (x:=x) h
 | [t],[],_,x,_,h=>be (x:=x) h
 | [t],[v],qs,x,hv,h=>by
  rcases hv.cases with ⟨h1,_⟩ | ⟨v',q,vs',qs',h1,rfl,h2,h3⟩
  ·cases h1
  ·injection h1 with e1 e2
   subst e1 e2
   rcases h3.cases with ⟨_,rfl⟩ | ⟨_,_,_,_,h4,_⟩
   ·have:=(l3 hs h2 (show rN s t v=some x from h)).1
    simp only [av,jC,this]
   ·cases h4
 | [t],_ :: _ :: _,_,x,_,h=>be (x:=x) h
 | t::t' :: rs,[],_,x,_,h=>be (x:=x) h
 | t::t' :: rs,v::vs,qs,x,hv,h=>by
  rcases hv.cases with ⟨h1,_⟩ | ⟨v',q,vs',qs',h1,rfl,h2,h3⟩
  ·cases h1
  ·injection h1 with e1 e2
   subst e1 e2
   have h:Option.bind (rN s t v) (fun x=>Option.bind (oW s (t' :: rs) vs) fun xs=>some (x,xs))=some x:=h
   obtain ⟨y,h4,h5⟩:=aK h
   obtain ⟨ys,h6,h7⟩:=aK h5
   injection h7 with h7
   subst h7
   simp only [av,jC,(l3 hs h2 h4).1,rG hs h3 h6]
theorem oV {s:SS} : ∀ {rs:List PT} {vs:List SV} {x:au rs},oW s rs vs=some x→vs.length=rs.length
 | [],[],x,_=>rfl
 | [],_ :: _,x,h=>be (x:=x) h
 | [t],[],x,h=>be (x:=x) h
 | [t],[v],x,_=>rfl
 | [t],_ :: _ :: _,x,h=>be (x:=x) h
 | t::t' :: rs,[],x,h=>be (x:=x) h
 | t::t' :: rs,v::vs,x,h=>by
  have h:Option.bind (rN s t v) (fun x=>Option.bind (oW s (t' :: rs) vs) fun xs=>some (x,xs))=some x:=h
  obtain ⟨y,h4,h5⟩:=aK h
  obtain ⟨ys,h6,h7⟩:=aK h5
  simp only [List.length_cons,oV h6]
theorem qR {C:Cx} {fn:Func} (hv:fn.results.toList=C.vars) {s:SS} {p:PS} (hs:Sim (clr s) p) {r:au C.rs} (hM:eC C.rs=false) (h:mY C s=some r) : ∃ q,fX C.P fn p=some q∧asData p.b q=toR C.rs r:=by
 unfold mY at h
 rw [hM] at h
 simp only at h
 split at h
 ·rename_i vs hvs
  obtain ⟨qs,h1,h2⟩:=lR hs hvs
  have h3:=rG hs h2 h
  have h4:=oV h
  have h5:=h2.len
  unfold fX
  rw [hv,h1]
  match qs,h3,h5 with
  | [],h3,h5 =>
   refine ⟨.tup [],rfl,?_⟩
   rcases ff C.rs r with ⟨q,k1,_⟩ | k1
   ·rw [k1] at h3; simp [av] at h3
   ·rw [k1,← h3]; rfl
  | [q],h3,h5 =>
   refine ⟨q,rfl,?_⟩
   have:C.rs.length=1:=by rw [← h4,h5]; rfl
   rcases ff C.rs r with ⟨q',k1,k2⟩ | k1
   ·rw [k1] at h3
    rw [k2]
    simpa [av] using h3
   ·exfalso
    match C.rs,r,this,k1 with
    | [t],r,_,k1=>cases t <;> simp [toR,eh] at k1
  | q::q' :: qs,h3,h5 =>
   refine ⟨.tup (q::q' :: qs),rfl,?_⟩
   rcases ff C.rs r with ⟨q2,k1,_⟩ | k1
   ·rw [k1] at h3; simp [av] at h3
   ·rw [k1,← h3]; rfl
 ·cases h
theorem sH:∀ (rs:List PT) (o:lC (cg rs)) (r:au (dx rs)),mD rs (wB rs o r)=o∧la rs (wB rs o r)=r
 | [],_,_=>⟨rfl,rfl⟩
 | [.io _],_,_=>⟨rfl,rfl⟩
 | .io _ :: _ :: _,_,_=>⟨rfl,rfl⟩
 | .own .. :: _,_,_=>⟨rfl,rfl⟩
 | .mv .. :: _,_,_=>⟨rfl,rfl⟩
 | .bx .. :: _,_,_=>⟨rfl,rfl⟩
 | .agr .. :: _,_,_=>⟨rfl,rfl⟩
 | .lf _ :: _,_,_=>⟨rfl,rfl⟩
 | .ag _ :: _,_,_=>⟨rfl,rfl⟩
 | .pl _ :: _,_,_=>⟨rfl,rfl⟩
 | .ps _ :: _,_,_=>⟨rfl,rfl⟩
 | .fn .. :: _,_,_=>⟨rfl,rfl⟩
def boI (i:Nat) : (b:IB)→List Nat→b.den→BU
 | .no,_,_=>[]
 | .own e k t,_,xs=>[(pM i,rwU e k t xs)]
 | .bx ty n rows,js,x=>(pM i,.st ty (ce (fL rows js) 0 (stD n x)))::aR (fL rows js) 0 (stD n x)
def zB:Nat→(ls:List IB)→List (List Nat)→lC ls→BU
 | i,b::ls,js::kss,o=>boI i b js o.1++zB (i + 1) ls kss o.2
 | _,_,_,_=>[]
def xy (C:Cx) (fn:Func) (p:PS) (r:au C.rs) : Prop :=
 (eC C.rs=false→∃ q,fX C.P fn p=some q∧asData p.b q=toR C.rs r) ∧
 (eC C.rs=true→∃ kss jss,jD (cg C.rs) kss∧fT (dx C.rs) jss∧(qS 0 (cg C.rs)++(bf kss++bf jss)).Nodup∧(∃ q,fX C.P fn p=some q∧jL q=sJ (eg (dx C.rs) jss (la C.rs r)).1) ∧
  ∀ t Bx,(t,Bx)∈zB 0 (cg C.rs) kss (mD C.rs r)++(eg (dx C.rs) jss (la C.rs r)).2→∃ B',p.b t=some B'∧lD B' = Bx)
theorem pB {rows:List (Nat×Nat×Nat×Nat×Ty)} {t:Nat} {Bx:Box} : ∀ {ds:List D} {j:Nat},(t,Bx)∈aR rows j ds→lD Bx=Bx
 | [],j,h=>by cases h
 | d::ds,j,h=>by
  simp only [aR] at h
  split at h
  ·split at h
   ·rcases List.mem_cons.1 h with e | h
    ·injection e with _ e; subst e; rfl
    ·exact pB h
   ·exact pB h
  ·exact pB h
theorem yp {s:SS} {p:PS} (hs:Sim s p) {i:Nat} {b:IB} {o:b.den} {js:List Nat} (h:yq s i b=some (o,js)) : js.length=b.nJ∧∀ t Bx,(t,Bx)∈boI i b js o→∃ B',p.b t=some B'∧lD B' = Bx:=by
 cases b with
 | no =>
  injection h with h
  injection h with _ h
  subst h
  exact ⟨rfl,fun _ _ h=>by cases h⟩
 | own e k t =>
  simp only [yq] at h
  split at h
  ·rename_i xs is hd
   injection h with h
   injection h with e1 e2
   subst e1 e2
   refine ⟨rfl,fun t' Bx hm=>?_⟩
   have hbx:=hs.bx (pM i)
   unfold gp at hd
   simp only at hd
   split at hd
   ·rename_i e' k' t2 xs' pins hb
    split at hd
    ·rename_i hty _
     obtain ⟨m2,hd⟩:=aa hd
     obtain ⟨m3,hd⟩:=aa hd
     injection hd with hd
     injection hd with e1 e2
     subst e1 hty
     have m2:=zd m2
     have m3:=zd m3
     subst m2 m3
     rw [hb] at hbx
     simp only [boI,List.mem_cons,List.not_mem_nil,or_false,Prod.mk.injEq] at hm
     obtain ⟨rfl,rfl⟩:=hm
     exact ⟨_,hbx.1,rfl⟩
    ·cases hd
   ·cases hd
  ·cases h
 | bx ty n rows =>
  simp only [yq] at h
  split at h
  ·rename_i ty' cs hb
   obtain ⟨m1,h⟩:=aa h
   have m1:=zd m1
   subst m1
   have hbx:=hs.bx (pM i)
   rw [hb] at hbx
   obtain ⟨qs,k1,k2⟩:=hbx
   obtain ⟨k3,k4,k5⟩:=nD hs k2 h
   refine ⟨k3,fun t Bx hm=>?_⟩
   rcases List.mem_cons.1 hm with e | hm
   ·injection e with e1 e2
    subst e1 e2
    exact ⟨_,k1,by rw [lD,k4]⟩
   ·exact ⟨_,k5 t Bx hm,pB hm⟩
  ·cases h
theorem rJ {s:SS} {p:PS} (hs:Sim s p) : ∀ {ls:List IB} {i:Nat} {o:lC ls} {kss:List (List Nat)},uo s i ls=some (o,kss)→jD ls kss∧∀ t Bx,(t,Bx)∈zB i ls kss o→∃ B',p.b t=some B'∧lD B' = Bx
 | [],i,o,kss,h=>by
  injection h with h
  injection h with _ h
  subst h
  exact ⟨trivial,fun _ _ h=>by cases h⟩
 | b::ls,i,o,kss,h=>by
  simp only [uo] at h
  split at h
  ·rename_i o1 js os kss' h1 h2
   injection h with h
   injection h with e1 e2
   subst e1 e2
   obtain ⟨k1,k2⟩:=yp hs h1
   obtain ⟨k3,k4⟩:=rJ hs h2
   refine ⟨⟨k1,k3⟩,fun t Bx hm=>?_⟩
   rcases List.mem_append.1 hm with hm | hm
   ·exact k2 t Bx hm
   ·exact k4 t Bx hm
  ·cases h
theorem oX {s:SS} {p:PS} (hs:Sim s p) : ∀ {rs:List PT} {vs:List SV} {qs:List PV} {x:au rs} {jss:List (List Nat)},aA s.bx vs qs→pW s rs vs=some (x,jss) →
  fT rs jss∧bH qs=(eg rs jss x).1∧∀ t Bx,(t,Bx)∈(eg rs jss x).2→∃ B',p.b t=some B'∧lD B' = Bx
 | [],[],qs,x,jss,hv,h=>by
  rcases hv.cases with ⟨_,rfl⟩ | ⟨_,_,_,_,h1,_⟩
  ·injection h with h
   injection h with _ h
   subst h
   exact ⟨trivial,rfl,fun _ _ h=>by cases h⟩
  ·cases h1
 | [],_ :: _,_,x,jss,_,h=>be (x:=(x,jss)) h
 | [pt],[],_,x,jss,_,h=>be (x:=(x,jss)) h
 | [pt],[v],qs,x,jss,hv,h=>by
  rcases hv.cases with ⟨h1,_⟩ | ⟨v',q,vs',qs',h1,rfl,h2,h3⟩
  ·cases h1
  ·injection h1 with e1 e2
   subst e1 e2
   rcases h3.cases with ⟨_,rfl⟩ | ⟨_,_,_,_,h4,_⟩
   ·have h:(match s7 s pt v with | some (x,is)=>some (x,[is]) | none=>none)=some (x,jss):=h
    split at h
    ·rename_i y is hd
     injection h with h
     injection h with e1 e2
     subst e1 e2
     obtain ⟨k1,k2,k3⟩:=pX hs h2 hd
     exact ⟨⟨k1,trivial⟩,by simp only [bH,eg,k2],k3⟩
    ·cases h
   ·cases h4
 | [pt],_ :: _ :: _,_,x,jss,_,h=>be (x:=(x,jss)) h
 | pt::q::l,[],_,x,jss,_,h=>be (x:=(x,jss)) h
 | pt::q::l,v::vs,qs,x,jss,hv,h=>by
  rcases hv.cases with ⟨h1,_⟩ | ⟨v',qv,vs',qs',h1,rfl,h2,h3⟩
  ·cases h1
  ·injection h1 with e1 e2
   subst e1 e2
   have h:(match s7 s pt v,pW s (q::l) vs with | some (x,is),some (xs,iss)=>some ((x,xs),is::iss) | _,_=>none)=some (x,jss):=h
   split at h
   ·rename_i y is ys iss hd hr
    injection h with h
    injection h with e1 e2
    subst e1 e2
    obtain ⟨k1,k2,k3⟩:=pX hs h2 hd
    obtain ⟨k4,k5,k6⟩:=oX hs h3 hr
    refine ⟨⟨k1,k4⟩,by simp only [bH,eg,k2,k5],fun t Bx hm=>?_⟩
    rcases List.mem_append.1 hm with hm | hm
    ·exact k3 t Bx hm
    ·exact k6 t Bx hm
   ·cases h
theorem sA {P:Program} {fn:Func} {p:PS} {qs:List PV} (h:fn.results.toList.mapM (lB P p)=some qs) : fX P fn p=some (sJ qs):=by
 unfold fX
 rw [h]
 match qs with
 | []=>rfl
 | [q]=>rfl
 | q::q' :: qs=>rfl
theorem xP (qs:List PV) : jL (sJ qs)=sJ (bH qs):=by
 match qs with
 | []=>rfl
 | [q]=>rfl
 | q::q' :: qs=>rfl
theorem xX {C:Cx} {fn:Func} (hv:fn.results.toList=C.vars) {s:SS} {p:PS} (hpr:cY (clr s)) (hs:Sim (clr s) p) {r:au C.rs} (h:mY C s=some r) : ∃ p',Le p p'∧xy C fn p' r:=by
 cases hM:eC C.rs with
 | false=>exact ⟨p,.refl p,fun _=>qR hv hs hM h,fun e=>by rw [hM] at e; cases e⟩
 | true =>
  unfold mY at h
  rw [hM] at h
  simp only [yE] at h
  split at h
  ·split at h
   ·rename_i s1 hf
    obtain ⟨p1,k1,k2,_,_⟩:=jk (sc:=C.sc) hpr hs hf
    split at h
    ·rename_i ws hws
     obtain ⟨qs,k3,k4⟩:=lR k2 hws
     split at h
     ·rename_i o kss r' jss ho hr
      obtain ⟨hn,h⟩:=aa h
      injection h with h
      obtain ⟨e1,e2⟩:=sH C.rs o r'
      rw [h] at e1 e2
      obtain ⟨m1,m2⟩:=rJ k2 ho
      obtain ⟨m3,m4,m5⟩:=oX k2 k4 hr
      refine ⟨p1,k1,fun e=>(by rw [hM] at e; cases e),fun _=>⟨kss,jss,m1,m3,dz hn,⟨_,sA (by rw [hv]; exact k3),by rw [xP,m4,e2]⟩,fun t Bx hm=>?_⟩⟩
      rw [e1,e2] at hm
      rcases List.mem_append.1 hm with hm | hm
      ·exact m2 t Bx hm
      ·exact m5 t Bx hm
     ·cases h
    ·cases h
   ·cases h
  ·cases h
def iU (C:Cx) (fn:Func) (W:List Nat) (s:SS) {ρ : Type} (k:Exit→SS→Option ρ) (kr:au C.rs→Option ρ) (res : ρ) : Exit→PS→Prop
 | .ret,p'=>∃ r,xy C fn p' r∧kr r=some res
 | e,p'=>∃ s',bO s' p'∧bc C.sc W s s'∧k e s' = some res
theorem xT {a b:List Nat} {i:Nat} (h:af a i=true) : af (a++b) i=true:=by rw [aX,h]; rfl
theorem wn {a b:List Nat} {i:Nat} (h:af b i=true) : af (a++b) i=true:=by rw [aX,h]; simp
variable {C:Cx} {fn:Func}
theorem fY {W:List Nat} {s:SS} {ρ : Type} {k:Exit→SS→Option ρ} {kr:au C.rs→Option ρ} {res : ρ} {e:Exit} {p:PS} (he:e≠.ret) (h:iU C fn W s k kr res e p) : ∃ s',bO s' p∧bc C.sc W s s'∧k e s' = some res:=by
 cases e <;> first | exact h | exact absurd rfl he
theorem qD {W:List Nat} {s s':SS} {ρ : Type} {k:Exit→SS→Option ρ} {kr:au C.rs→Option ρ} {res : ρ} {e:Exit} {p:PS} (he:e≠.ret) (h1:bO s' p) (h2:bc C.sc W s s') (h3:k e s' = some res) : iU C fn W s k kr res e p:=by
 cases e <;> first | exact ⟨s',h1,h2,h3⟩ | exact absurd rfl he
def vF (C:Cx) (fn:Func) (c:Code) (W:List Nat) (body:(ρ : Type)→SS→(Exit→SS→Option ρ)→(au C.rs→Option ρ)→Option ρ) : Prop :=
 ∀ (ρ : Type) (s:SS) (p:PS) (k:Exit→SS→Option ρ) (kr:au C.rs→Option ρ) (res : ρ),cY s→bO s p→body ρ s k kr=some res→PWP C.P C.n c (iU C fn W s k kr res) p
theorem sE {wr:List Nat} {ms:List Mod} {s s1:SS} (hpr:cY s) (hk:bc C.sc wr s s1) (hchk:f6 C.sc wr ms s.pr s1=true) : ∀ t,af s.pr t=true→af (aB C.sc wr ms s1).pr t=true:=by
 intro t ht
 unfold f6 at hchk
 simp only [Bool.and_eq_true] at hchk
 obtain ⟨c1,c2,c3,c4⟩:=hchk
 rw [eO]
 refine ⟨?_,?_,hk.prOk hpr t (by rw [hk.pr]; exact ht)⟩
 ·cases hm:af (ap ms) t with
  | false=>rfl
  | true =>
   have:=(gP c1).2 t hm
   rw [hk.pr,ht] at this
   cases this
 ·cases hm:af C.sc t with
  | false=>rfl
  | true =>
   have:=jq c2 t hm
   rw [ht] at this
   cases this
mutual
theorem mp {pr pr':List Nat} (h:∀ t,af pr t=true→af pr' t=true) : ∀ v:SV,cI pr v=true→cI pr' v=true
 | .junk,_=>rfl
 | .d _,_=>rfl
 | .fe _,_=>rfl
 | .ptr _ _,_=>rfl
 | .row t,hs=>h t hs
 | .re _ _ _,hs=>by cases hs
 | .vw _ _ _,hs=>by cases hs
 | .ag cs,hs=>by simp only [cI] at hs ⊢; exact dw h cs hs
 | .tup cs,hs=>by simp only [cI] at hs ⊢; exact dw h cs hs
 | .fn f ps qs,hs=>by simp only [cI,Bool.and_eq_true] at hs ⊢; exact ⟨dw h ps hs.1,dw h qs hs.2⟩
theorem dw {pr pr':List Nat} (h:∀ t,af pr t=true→af pr' t=true) : ∀ cs:List SV,bj pr cs=true→bj pr' cs=true
 | [],_=>rfl
 | c::cs,hs=>by
  simp only [bj,Bool.and_eq_true] at hs ⊢
  exact ⟨mp h c hs.1,dw h cs hs.2⟩
end
theorem jf {wr:List Nat} {ms:List Mod} {s s1 s2:SS} {oc:List Nat} (hk:bc C.sc wr s s1) (hsub:∀ t,af s.pr t=true→af (aB C.sc wr ms s1).pr t=true) (hk2:bc C.sc wr (gx C.sc wr ms s1) s2) : bc C.sc wr s ⟨s2.sl,s2.bx,s.pr,s.ro,oc⟩:=by
 refine ⟨rfl,rfl,fun t ht=>(hk.bx t ht).trans (hk2.bx t (hsub t ht)),fun i hi hsf=>?_,fun t ht ty cs hb=>?_⟩
 ·have e:=hk.sl i hi hsf
  have:=hk2.sl i hi (mp hsub _ (by show cI s.pr (lkV s1.sl i)=true; rw [e]; exact hsf))
  exact this.trans e
 ·obtain ⟨cs1,h1,h2⟩:=hk.st t ht ty cs hb
  obtain ⟨cs2,h3,h4⟩:=hk2.st t ht ty cs1 h1
  exact ⟨cs2,h3,h4.trans h2⟩
theorem mw {s:SS} (h:cY s) : cY (clr s):=h
theorem qT {W:List Nat} {s s':SS} (h:bc C.sc W (clr s) s') : bc C.sc W s s':=⟨h.pr,h.ro,h.bx,h.sl,h.st⟩
theorem jA {c:Code} {wr:List Nat} {h:iJ} {body:(ρ : Type)→SS→(Exit→SS→Option ρ)→(au C.rs→Option ρ)→Option ρ} (hb:vF C fn c wr body) : vF C fn c wr (ol C wr h body):=by
 intro ρ s p k kr res hpr hs hx
 unfold ol at hx
 split at hx
 ·rename_i ms h'
  split at hx
  ·cases hx
  ·rename_i s1 hnil
   obtain ⟨hchk,hx⟩:=aa hx
   obtain ⟨st,h1,h2⟩:=aK hx
   split at h2
   ·rename_i s2 hput
    refine gI (mW hs) ?_
    obtain ⟨p2,k1,k2,k3,k4⟩:=eR (sc:=C.sc) (s:=clr s) rfl (mw hpr) (gD hs) hnil
    refine gI k1 ?_
    have hk1:bc C.sc wr s s1:=qT k3
    have hw:bO (gx C.sc wr ms s1) p2:=⟨k2.w.sl,k2.w.bx⟩
    refine bI (hb _ (gx C.sc wr ms s1) p2 _ _ st (kA ms s1) hw h1) fun e p' hq=>?_
    by_cases he:e = .ret
    ·subst he
     obtain ⟨r,_,h⟩:=hq
     cases h
    ·obtain ⟨s',m1,m2,m3⟩:=fY he hq
     cases e with
     | normal =>
      have m3:eP ms s' = some st:=m3
      unfold eP at m3
      split at m3
      ·rename_i s'' hf
       obtain ⟨p'',n1,n2,n3⟩:=fB (sc:=C.sc) (m2.prOk (kA ms s1)) m1 hf
       have hchk':f6 C.sc wr ms s1.pr s1=true:=by rw [hk1.pr]; exact hchk
       obtain ⟨o1,o2,o3⟩:=pG k2.w hchk' (m2.trans (n3 wr)) n2 m3 hput
       exact ⟨p'',n1,⟨s2.sl,s2.bx,s.pr,s.ro,s.oc⟩,⟨o1.sl,o1.bx⟩,jf hk1 (sE hpr hk1 hchk) o2,h2⟩
      ·cases m3
     | ret=>exact absurd rfl he
     | _=>cases m3
   ·cases h2
 ·exact hb ρ s p k kr res hpr hs hx
end
section
variable {C:Cx} {fn:Func}
theorem fo:∀ {l:List Oper},vP l=true→∀ o∈l,∀ t x y,o.op = .store t x y→o.dst=none
 | [],_,o,ho,_,_,_,_=>by cases ho
 | x::l,h,o,ho,t,a,b,hop=>by
  simp only [vP] at h
  rcases List.mem_cons.1 ho with rfl | ho
  ·cases hd:o.dst with
   | none=>rfl
   | some d=>rw [hop,hd] at h; cases h
  ·split at h
   ·cases h
   ·exact fo h o ho t a b hop
theorem tB (hT:fK C.P C.T) (hm:C.P.follows .mixedOrders=true) (id:Nat) (ops:Array Oper) (draw:Bool) : vF C fn (.region id ops draw) (aC ops.toList) (fun _ s k _=>vX C id ops draw s fun s=>k .normal s):=by
 intro ρ s p k kr res hpr hs h
 have ha:ops.toList.toArray=ops:=by simp
 have hW:∀ o∈ops.toList,∀ d,o.dst=some d→af (aC ops.toList) d=true:=fun o ho d hd=>gm ho hd
 have hO:∀ (j:Nat) (o:Oper),ops[j]? = some o→∀ d,o.dst=some d→af (aC ops.toList) d=true:=fun j o ho d hd=>gm (by
  rw [Array.mem_toList_iff]
  exact Array.mem_of_getElem? ho) hd
 replace h:vX C id ops draw s (fun s=>k .normal s)=some res:=h
 unfold vX at h
 cases hf:cP (lkF C.fz id) s with
 | none=>rw [hf] at h; cases h
 | some s0 =>
  rw [hf] at h
  obtain ⟨p1,k1,k2,k3⟩:=fB (sc:=C.sc) hpr hs hf
  refine gI k1 (gI (mW k2) ?_)
  have hs2:=gD k2
  have hpr2:cY ⟨s0.sl,s0.bx,s0.pr,s0.ro,[]⟩:=(k3 []).prOk hpr
  have fin:∀ p',nW C.sc (aC ops.toList) ops.toList ⟨s0.sl,s0.bx,s0.pr,s0.ro,[]⟩ (jr s0 p1) (fun s=>k .normal s) res p'→iU C fn (aC ops.toList) s k kr res .normal p':=by
   rintro p' ⟨s',m1,m2,m3,m4,_⟩
   exact ⟨s',m1.w,(k3 _).trans ⟨m2.pr,m2.ro,m2.bx,m2.sl,m2.st⟩,m4⟩
  simp only at h
  cases draw <;> simp only at h
  ·obtain ⟨h1,h2⟩:=aa h
   rw [Bool.and_eq_true] at h1
   have hrun:=lN (q:=true) (sc:=C.sc) hT (ops:=ops) 1000 0 [] ops.toList hW hO (fo h1.1) hpr2 hs2 h2
   have:=qz (P:=C.P) (n:=C.n) (id:=id) (Qs:=iU C fn (aC ops.toList) s k kr res) (s:=jr s0 p1) h1.2 (by rw [ha]; exact bA hrun fin)
   rw [ha] at this
   exact this
  ·obtain ⟨h1,h2⟩:=aa h
   obtain ⟨h3,h4⟩:=aa h2
   split at h4
   ·have hrun:=lN (q:=false) (sc:=C.sc) hT (ops:=ops) 1000 0 [] ops.toList hW hO (fo h1) hpr2 hs2 h4
    have:=v6 (P:=C.P) (n:=C.n) (id:=id) (l:=ops.toList) (Qs:=iU C fn (aC ops.toList) s k kr res) (s:=jr s0 p1) _ hm (by rw [ha]; exact h3) (by
     rw [ha]
     exact kg (P:=C.P) (ops:=ops) ops.toList 0 (jr s0 p1) (fun j hj=>by simp) (bA hrun fin))
    rw [ha] at this
    exact this
   ·obtain ⟨h5,h6⟩:=aa h4
    rw [Bool.and_eq_true] at h5
    have hle:=zd h5.2
    have hsub1:∀ o∈ops.toList.take (b7 ops),o∈ops.toList:=fun o ho=>List.mem_of_mem_take ho
    have hsub2:∀ o∈ops.toList.drop (b7 ops),o∈ops.toList:=fun o ho=>List.mem_of_mem_drop ho
    have hrun1:=lN (q:=false) (sc:=C.sc) hT (ops:=ops) 1000 0 [] (ops.toList.take (b7 ops)) (fun o ho=>hW o (hsub1 o ho)) hO (fun o ho=>fo h1 o (hsub1 o ho)) hpr2 hs2 h6
    have hrun:iI false C.P ops (jK (cE C.T ⟨s0.sl,s0.bx,s0.pr,s0.ro,[]⟩ ops.toList [] [])) 0 (ops.toList.take (b7 ops)) (jr s0 p1) fun p'=>iI true C.P ops (jK []) 0 (ops.toList.drop (b7 ops)) p' (iU C fn (aC ops.toList) s k kr res .normal):=by
     refine bA hrun1 fun p' hp=>?_
     obtain ⟨s',m1,m2,m3,m4,_⟩:=hp
     have hrun2:=lN (q:=true) (sc:=C.sc) hT (ops:=ops) 1000 0 [] (ops.toList.drop (b7 ops)) (fun o ho=>hW o (hsub2 o ho)) hO (fun o ho=>fo h1 o (hsub2 o ho)) m3 m1 m4
     refine bA hrun2 fun p2 hp2=>?_
     obtain ⟨s3,n1,n2,n3,n4,_⟩:=hp2
     exact ⟨s3,n1.w,(k3 _).trans ((show bc C.sc (aC ops.toList) s0 s' from ⟨m2.pr,m2.ro,m2.bx,m2.sl,m2.st⟩).trans n2),n4⟩
    have:=uP (P:=C.P) (n:=C.n) (id:=id) (l:=ops.toList) (Qs:=iU C fn (aC ops.toList) s k kr res) (s:=jr s0 p1) _ (b7 ops) hle hm (by rw [ha]; exact h3) (by rw [ha]; exact h5.1) (by
     rw [ha]
     have e1:(ops.toList.take (b7 ops)).length=b7 ops:=by rw [List.length_take]; exact Nat.min_eq_left (by simpa using hle)
     have e2:(ops.toList.drop (b7 ops)).length=ops.toList.length - b7 ops:=by simp
     rw [← e2]
     have r1:=kg (P:=C.P) (ops:=ops) (ops.toList.take (b7 ops)) 0 (jr s0 p1) (fun j hj=>by
      rw [e1] at hj
      rw [List.getElem?_take,if_pos hj]
      simp) hrun
     rw [e1] at r1
     refine oq r1 fun p' hp=>tw _ _ _ _ (fun j hj=>by rw [List.getElem?_drop]; simp) hp)
    rw [ha] at this
    exact this
theorem xI (hT:fK C.P C.T) (hm:C.P.follows .mixedOrders=true) (id:Nat) (ops:Array Oper) (draw:Bool) : vF C fn (.region id ops draw) (aC ops.toList) (fun _ s k _=>xJ C id ops draw s fun s=>k .normal s):=by
 intro ρ s p k kr res hpr hs h
 replace h:xJ C id ops draw s (fun s=>k .normal s)=some res:=h
 unfold xJ at h
 split at h
 ·exact tB hT hm id ops draw ρ s p k kr res hpr hs h
 ·rename_i t l _
  obtain ⟨h1,h2⟩:=aa h
  have h3:=tB (fn:=fn) hT hm id ops draw ρ s p (fun e s=>match e with | .normal=>(match oJ C.sc (t::l) s with | some s=>k .normal s | none=>none) | e=>k e s) kr res hpr hs h2
  refine bI h3 fun e p' hq=>?_
  by_cases he:e = .ret
  ·subst he; exact ⟨p',.refl _,hq⟩
  ·obtain ⟨s',m1,m2,m3⟩:=fY he hq
   cases e with
   | ret=>exact absurd rfl he
   | normal =>
    have m3:(match oJ C.sc (t::l) s' with | some s=>k .normal s | none=>none)=some res:=m3
    split at m3
    ·rename_i s2 hfb
     obtain ⟨p2,k1,k2,k3⟩:=rj hs (m2.prOk hpr) h1 m2 m1 hfb
     exact ⟨p2,k1,s2,k2,k3,m3⟩
    ·cases m3
   | _=>exact ⟨p',.refl _,qD he m1 m2 m3⟩
theorem ml {s:SS} {p:PS} (hs:bO s p) {x:Operand} {b:Bool} (h:evX s x = .d (.bool b)) : bO (iR s x b) p:=by
 unfold iR
 split
 ·rename_i i
  refine ⟨fun j=>?_,hs.bx⟩
  show al s.bx (lkV ((i,.d (.bool b))::s.sl) j) (p.t j)
  rw [aO]
  split
  ·rename_i e
   subst e
   have:=hs.sl j
   rw [show lkV s.sl j = .d (.bool b) from h] at this
   exact this
  ·exact hs.sl j
 ·exact hs
theorem m6 {W:List Nat} {s:SS} {x:Operand} {b:Bool} (h:∀ i,x = .tmp i→af W i=true) : bc C.sc W s (iR s x b):=by
 unfold iR
 split
 ·rename_i i
  refine ⟨rfl,rfl,fun _ _=>.refl _,fun j hj _=>?_,fun _ _ _ cs h=>⟨cs,h,rfl⟩⟩
  show lkV ((i,.d (.bool b))::s.sl) j = _
  rw [aO,if_neg (fun e=>by rw [e,h i rfl] at hj; cases hj)]
 ·exact .refl _ _
theorem mZ {s:SS} {x:Operand} {b:Bool} (h:cY s) : cY (iR s x b):=by unfold iR; split <;> exact h
theorem w6 {s:SS} {p:PS} (hs:bO s p) (x:Operand) : al s.bx (evX s x) (ev p x):=by
 cases x with
 | tmp i=>exact hs.sl i
 | const v=>exact nK v
 | global g=>exact .junk _
 | func f=>exact .fn f [] [] [] [] rfl (fun j c q h=>by simp at h) rfl (fun j c q h=>by simp at h)
theorem i7 {W W':List Nat} {s s0:SS} {ρ : Type} {k:Exit→SS→Option ρ} {kr:au C.rs→Option ρ} {res : ρ} (hW:∀ i,af W i=true→af W' i=true) (hk:bc C.sc W' s0 s) {e:Exit} {p:PS} (h:iU C fn W s k kr res e p) : iU C fn W' s0 k kr res e p:=by
 by_cases he:e = .ret
 ·subst he; exact h
 ·obtain ⟨s',h1,h2,h3⟩:=fY he h
  exact qD he h1 (hk.trans (h2.wide hW)) h3
theorem mP {σ τ : Type} {f : σ→Option (σ⊕τ)} {m:Nat} {st : σ} {out : τ} (h:aN f m st=some out) : ∃ m',m=m' + 1∧((∃ st',f st=some (.inl st')∧aN f m' st' = some out)∨f st=some (.inr out)):=by
 cases m with
 | zero=>cases h
 | succ m =>
  refine ⟨m,rfl,?_⟩
  unfold aN at h
  split at h
  ·cases h
  ·rename_i st' hf; exact .inl ⟨st',hf,h⟩
  ·rename_i r hf; injection h with h; subst h; exact .inr hf
theorem tQ {c:Code} {ms:List Mod} {id:Nat} {τ : Type} {inr:cn ms→τ} {ret:au C.rs→Option τ} {step:cn ms→Option (cn ms⊕τ)} {body:(ρ : Type)→SS→(Exit→SS→Option ρ)→(au C.rs→Option ρ)→Option ρ} (hb:vF C fn c (wrC c) body)
  {s0:SS} (hstep:step=fun st=>match ci ms st (aB C.sc (wrC c) ms s0) with
   | none=>none
   | some sh=>body (cn ms⊕τ) sh (fun e s'=>match e with
    | .normal=>Option.bind (eP ms s') fun st'=>some (.inl st')
    | .exit id'=>(match Nat.beq id' id with | true=>Option.bind (eP ms s') fun st'=>some (.inr (inr st')) | false=>none)
    | _=>none) (fun r=>(ret r).map .inr))
  {st0:cn ms} {p:PS} (hs0:bO s0 p) (hchk:f6 C.sc (wrC c) ms s0.pr s0=true) (hpack:gw s0 ms=some st0) {out : τ} (hl:aN step ar st0=some out)
  (hput:∀ st,inr st=out→∃ s2,ci ms st (aB C.sc (wrC c) ms s0)=some s2) {Q:Exit→PS→Prop} (hexit:∀ st s2 p',inr st=out→ci ms st (aB C.sc (wrC c) ms s0)=some s2→bO s2 p'→bc C.sc (wrC c) (gx C.sc (wrC c) ms s0) s2→Q (.exit id) p')
  (hret:∀ r p',ret r=some out→xy C fn p' r→Q .ret p') : PWP C.P C.n (.loop c) Q p:=by
 have put_of:∀ {m st out},aN step m st=some out→∃ sh,ci ms st (aB C.sc (wrC c) ms s0)=some sh:=by
  intro m st out h
  obtain ⟨m',_,h⟩:=mP h
  have:∃ r,step st=some r:=by rcases h with ⟨st',h,_⟩ | h <;> exact ⟨_,h⟩
  obtain ⟨r,hr⟩:=this
  rw [hstep] at hr
  simp only at hr
  split at hr
  ·cases hr
  ·rename_i sh hsh; exact ⟨sh,hsh⟩
 refine uN (ks:=[]) (bs:=[]) (fun q m=>∃ st sh,ci ms st (aB C.sc (wrC c) ms s0)=some sh∧bO sh q∧bc C.sc (wrC c) (gx C.sc (wrC c) ms s0) sh∧aN step m st=some out) ar ?_ ?_
 ·obtain ⟨sh,hsh⟩:=put_of hl
  obtain ⟨o1,o2,o3⟩:=pG hs0 hchk (.refl _ _) (s':=gx C.sc (wrC c) ms s0) ⟨hs0.sl,hs0.bx⟩ (show gw (gx C.sc (wrC c) ms s0) ms=some st0 from (by
   have:∀ (l:List Mod) (s s':SS),s.sl=s'.sl→s.bx=s'.bx→gw s l=gw s' l:=by
    intro l s s' h1 h2
    have cells:∀ (rows:List (Nat×Nat×Nat×Nat×Ty)) (cs:List SV) (j:Nat),cellsOf s rows j cs=cellsOf s' rows j cs:=by
     intro rows cs
     induction cs with
     | nil=>intro j; rfl
     | cons c cs ih=>intro j; simp only [cellsOf,h2,ih]
    have one:∀ m:Mod,kD s m=kD s' m:=by
     intro m
     cases m <;> simp only [kD,h1,h2,cells]
    induction l with
    | nil=>rfl
    | cons m l ih =>
     cases l with
     | nil=>exact one m
     | cons m' l=>simp only [gw,one,ih]
   exact (this ms (gx C.sc (wrC c) ms s0) s0 rfl rfl).trans hpack)) hsh
  exact ⟨st0,sh,hsh,o1,o2,hl⟩
 ·rintro q m ⟨st,sh,hsh,hq,hk,hlo⟩
  obtain ⟨m',rfl,hcase⟩:=mP hlo
  have hrun:∃ fr,step st=some fr∧((∃ st',fr = .inl st'∧aN step m' st' = some out)∨fr = .inr out):=by
   rcases hcase with ⟨st',h1,h2⟩ | h1
   ·exact ⟨_,h1,.inl ⟨st',rfl,h2⟩⟩
   ·exact ⟨_,h1,.inr rfl⟩
  obtain ⟨fr,hfr,hcase⟩:=hrun
  have hbody:body (cn ms⊕τ) sh (fun e s'=>match e with
    | .normal=>Option.bind (eP ms s') fun st'=>some (.inl st')
    | .exit id'=>(match Nat.beq id' id with | true=>Option.bind (eP ms s') fun st'=>some (.inr (inr st')) | false=>none)
    | _=>none) (fun r=>(ret r).map .inr)=some fr:=by
   rw [hstep] at hfr
   simp only [hsh] at hfr
   exact hfr
  have hprh:cY sh:=hk.prOk (kA ms s0)
  have meet:∀ {s':SS} {p':PS} {st':cn ms} {s2:SS},bO s' p'→bc C.sc (wrC c) sh s'→eP ms s' = some st'→ci ms st' (aB C.sc (wrC c) ms s0)=some s2→∃ p'',Le p' p''∧bO s2 p''∧bc C.sc (wrC c) (gx C.sc (wrC c) ms s0) s2:=by
   intro s' p' st' s2 m1 m2 m3 m4
   unfold eP at m3
   split at m3
   ·rename_i s'' hf
    obtain ⟨p'',n1,n2,n3⟩:=fB (sc:=C.sc) (m2.prOk hprh) m1 hf
    obtain ⟨o1,o2,o3⟩:=pG hs0 hchk ((hk.trans m2).trans (n3 (wrC c))) n2 m3 m4
    exact ⟨p'',n1,o1,o2⟩
   ·cases m3
  refine bI (hb _ sh q _ _ fr hprh hq hbody) fun e p' hpost=>?_
  by_cases he:e = .ret
  ·subst he
   obtain ⟨r,h1,h3⟩:=hpost
   rw [zm] at h3
   obtain ⟨v,h4,h5⟩:=h3
   rcases hcase with ⟨st',rfl,_⟩ | rfl
   ·cases h5
   ·injection h5 with h5
    subst h5
    exact ⟨p',.refl _,hret r p' h4 h1⟩
  ·obtain ⟨s',m1,m2,m3⟩:=fY he hpost
   cases e with
   | normal =>
    obtain ⟨st',m4,m5⟩:=aK m3
    injection m5 with m5
    rcases hcase with ⟨st2,h1,h2⟩ | h1
    ·rw [← m5] at h1
     injection h1 with h1
     subst h1
     obtain ⟨sh',hsh'⟩:=put_of h2
     obtain ⟨p'',n1,n2,n3⟩:=meet m1 m2 m4 hsh'
     exact ⟨p'',n1,p'',fun _ _ _ _ _ h=>h,m',⟨st',sh',hsh',n2,n3,h2⟩,Nat.lt_succ_self _⟩
    ·rw [← m5] at h1; cases h1
   | exit id' =>
    replace m3:(match Nat.beq id' id with | true=>Option.bind (eP ms s') fun st'=>some (.inr (inr st')) | false=>none)=some fr:=m3
    split at m3
    ·rename_i hid
     rw [aP] at hid
     have hid:=zd hid
     subst hid
     obtain ⟨st',m4,m5⟩:=aK m3
     injection m5 with m5
     rcases hcase with ⟨st2,h1,h2⟩ | h1
     ·rw [← m5] at h1; cases h1
     ·rw [← m5] at h1
      injection h1 with h1
      obtain ⟨s2,hs2⟩:=hput st' h1
      obtain ⟨p'',n1,n2,n3⟩:=meet m1 m2 m4 hs2
      exact ⟨p'',n1,hexit st' s2 p'' h1 hs2 n2 n3⟩
    ·cases m3
   | ret=>exact absurd rfl he
   | _=>cases m3
end
section
variable {C:Cx} {fn:Func}
theorem eT (hT:fK C.P C.T) (hm:C.P.follows .mixedOrders=true) (hv:fn.results.toList=C.vars) : ∀ (c:Code) (h:iJ),vF C fn c (wrC c) (jX C c h)
 | .skip,h=>fun ρ s p k kr res hpr hs hx=>vY ⟨s,hs,.refl _ _,hx⟩
 | .label l,h=>fun ρ s p k kr res hpr hs hx=>uO ⟨s,hs,.refl _ _,hx⟩
 | .exit id,h=>fun ρ s p k kr res hpr hs hx=>vZ ⟨s,hs,.refl _ _,hx⟩
 | .ret,h=>fun ρ s p k kr res hpr hs hx=>by
  obtain ⟨r,h1,h2⟩:=aK (show Option.bind (mY C s) kr=some res from hx)
  obtain ⟨p',h3,h4⟩:=xX hv (mw hpr) (gD hs) h1
  exact gI ((mW hs).trans h3) (xL ⟨r,h4,h2⟩)
 | .region id ops draw,h=>jA (xI hT hm id ops draw)
 | .seq a b,h=>by
  refine jA (c:=.seq a b) (wr:=wrC a++wrC b) fun ρ s p k kr res hpr hs hx=>?_
  refine xK (bI (eT hT hm hv a h.l ρ s p _ _ res hpr hs hx) fun e p' hq=>⟨p',.refl _,?_⟩)
  by_cases he:e = .ret
  ·subst he; exact hq
  ·obtain ⟨s',m1,m2,m3⟩:=fY he hq
   have hk:bc C.sc (wrC a++wrC b) s s':=m2.wide fun i hi=>xT hi
   cases e with
   | normal =>
    refine bI (eT hT hm hv b h.r ρ s' p' k kr res (hk.prOk hpr) m1 m3) fun e p2 hq2=>⟨p2,.refl _,?_⟩
    exact i7 (fun i hi=>wn hi) hk hq2
   | ret=>exact absurd rfl he
   | _=>exact ⟨s',m1,hk,m3⟩
 | .cond x a b,h=>by
  have hwA:∀ i,af (wrC a) i=true→af (wrC (.cond x a b)) i=true:=fun i hi=>by
   cases x <;> simp only [wrC,ak,aX,hi,Bool.true_or,Bool.or_true]
  have hwB:∀ i,af (wrC b) i=true→af (wrC (.cond x a b)) i=true:=fun i hi=>by
   cases x <;> simp only [wrC,ak,aX,hi,Bool.or_true]
  have hwx:∀ i,x = .tmp i→af (wrC (.cond x a b)) i=true:=fun i hi=>by
   subst hi; simp only [wrC,ak,decide_true,Bool.true_or]
  refine jA (c:=.cond x a b) (wr:=wrC (.cond x a b)) fun ρ s p k kr res hpr hs hx=>?_
  have hx:(match evX s x with | .d (.bool t)=>if t=true then jX C a h.l ρ (iR s x true) k kr else jX C b h.r ρ (iR s x false) k kr | _=>none)=some res:=hx
  split at hx
  ·rename_i t ht
   have hq:=w6 hs x
   rw [ht] at hq
   have hb:=cG hq
   cases t
   ·rw [if_neg (by simp)] at hx
    refine qA false (by rw [hb]; rfl) ?_
    rw [if_neg (by simp)]
    exact bI (eT hT hm hv b h.r ρ _ p k kr res (mZ hpr) (ml hs ht) hx) fun e p' hq=>⟨p',.refl _,i7 hwB (m6 hwx) hq⟩
   ·rw [if_pos rfl] at hx
    refine qA true (by rw [hb]; rfl) ?_
    rw [if_pos rfl]
    exact bI (eT hT hm hv a h.l ρ _ p k kr res (mZ hpr) (ml hs ht) hx) fun e p' hq=>⟨p',.refl _,i7 hwA (m6 hwx) hq⟩
  ·cases hx
 | .block id c,h=>by
  refine jA (c:=.block id c) (wr:=wrC c) fun ρ s p k kr res hpr hs hx=>?_
  refine uQ (bI (eT hT hm hv c h.l ρ s p _ _ res hpr hs hx) fun e p' hq=>⟨p',.refl _,?_⟩)
  by_cases he:e = .ret
  ·subst he; exact hq
  ·obtain ⟨s',m1,m2,m3⟩:=fY he hq
   cases e with
   | exit id' =>
    have m3:(match Nat.beq id' id with | true=>k .normal s' | false=>k (.exit id') s')=some res:=m3
    simp only [m8]
    rw [aP] at m3
    by_cases hid:id' = id
    ·rw [if_pos hid]
     simp only [hid,decide_true] at m3
     exact ⟨s',m1,m2,m3⟩
    ·rw [if_neg hid]
     simp only [hid,decide_false] at m3
     exact ⟨s',m1,m2,m3⟩
   | ret=>exact absurd rfl he
   | _=>exact ⟨s',m1,m2,m3⟩
 | .loop c,h=>fun ρ s p k kr res hpr hs hx=>by
  cases h with
  | lp ms id ret hb =>
   unfold jX at hx
   cases he:sV (wrC c) ms (clr s) with
   | none=>rw [he] at hx; cases hx
   | some s0 =>
    rw [he] at hx
    obtain ⟨hchk,hx⟩:=aa hx
    refine gI (mW hs) ?_
    unfold sV at he
    split at he
    ·rename_i s1 hnil
     obtain ⟨p2,k1,k2,k3,k4⟩:=eR (sc:=C.sc) (s:=clr s) rfl (mw hpr) (gD hs) hnil
     refine gI k1 ?_
     have hk1:bc C.sc (wrC c) s s1:=qT k3
     obtain ⟨p3,n1,n2,n3⟩:=fB (sc:=C.sc) (hk1.prOk hpr) k2.w he
     refine gI n1 ?_
     have hk0:bc C.sc (wrC c) s s0:=hk1.trans (n3 _)
     have hchk':f6 C.sc (wrC c) ms s0.pr s0=true:=by rw [hk0.pr]; exact hchk
     cases hpk:gw s0 ms with
     | none=>rw [hpk] at hx; cases hx
     | some st0 =>
      rw [hpk] at hx
      cases ret with
      | false =>
       obtain ⟨out,h1,h2⟩:=aK hx
       refine tQ (C:=C) (fn:=fn) (c:=c) (ms:=ms) (id:=id) (τ:=cn ms) (inr:=fun st=>st) (ret:=fun _=>none) (body:=jX C c hb) (eT hT hm hv c hb) rfl n2 hchk' hpk h1 ?_ ?_ ?_
       ·intro st hst
        subst hst
        split at h2
        ·rename_i s2 hs2; exact ⟨s2,hs2⟩
        ·cases h2
       ·intro st s2 p' hst hs2 m1 m2
        subst hst
        rw [hs2] at h2
        exact ⟨⟨s2.sl,s2.bx,s.pr,s.ro,s.oc⟩,⟨m1.sl,m1.bx⟩,jf hk0 (sE hpr hk0 hchk) m2,h2⟩
       ·intro r p' hr; cases hr
      | true =>
       obtain ⟨out,h1,h2⟩:=aK hx
       refine tQ (C:=C) (fn:=fn) (c:=c) (ms:=ms) (id:=id) (τ:=cn ms⊕au C.rs) (inr:=.inl) (ret:=fun r=>some (.inr r)) (body:=jX C c hb) (eT hT hm hv c hb) rfl n2 hchk' hpk h1 ?_ ?_ ?_
       ·intro st hst
        subst hst
        have h2:(match ci ms st (aB C.sc (wrC c) ms s0) with | some s2=>k (.exit id) ⟨s2.sl,s2.bx,s.pr,s.ro,s.oc⟩ | none=>none)=some res:=h2
        split at h2
        ·rename_i s2 hs2; exact ⟨s2,hs2⟩
        ·cases h2
       ·intro st s2 p' hst hs2 m1 m2
        subst hst
        have h2:(match ci ms st (aB C.sc (wrC c) ms s0) with | some s2=>k (.exit id) ⟨s2.sl,s2.bx,s.pr,s.ro,s.oc⟩ | none=>none)=some res:=h2
        rw [hs2] at h2
        exact ⟨⟨s2.sl,s2.bx,s.pr,s.ro,s.oc⟩,⟨m1.sl,m1.bx⟩,jf hk0 (sE hpr hk0 hchk) m2,h2⟩
       ·intro r p' hr h3
        injection hr with hr
        subst hr
        exact ⟨r,h3,h2⟩
    ·cases he
  | _=>cases hx
 | .rangeFunc ..,h=>fun ρ s p k kr res hpr hs hx=>by cases hx
 | .scope ..,h=>fun ρ s p k kr res hpr hs hx=>by cases hx
 | .goto ..,h=>fun ρ s p k kr res hpr hs hx=>by cases hx
 | .refuse ..,h=>fun ρ s p k kr res hpr hs hx=>by cases hx
theorem ux:∀ (vs:List SV) (i j:Nat),lkV (qf i vs) (i + j)=(vs[j]?).getD .junk
 | [],i,j=>by simp [qf,lkV]
 | v::vs,i,0=>by simp [qf,aO]
 | v::vs,i,j + 1=>by
  simp only [qf,aO]
  rw [if_neg (by omega),show i + (j + 1)=i + 1 + j by omega,ux vs (i + 1) j]
  simp
theorem om:∀ (ps:List PT) (x:bT ps),(fg ps x).length=ps.length
 | [],_=>rfl
 | p::ps,x=>by simp [fg,om ps]
theorem cR {P:Program} {T:List (Nat×Ent)} {n:Nat} {ps rs:List PT} {vars:List ResultVar} {fz:List (Nat×List Nat)} {sc:List Nat} {fb:List (Nat×List Nat)} {h:iJ} {f:FuncId} {fn:Func} {c:Code} (hT:fK P T) (hm:P.follows .mixedOrders=true) (hf:P.funcs[f]? = some fn) (hb:fn.body=some c) (hcb:cr P f=true) (hn:fn.ntmps=n) (hv:fn.results.toList=vars) (hl:((decide (ps.length≤n)&&gL ps) && !(eC ps||eC rs))=true)
  {F:bT ps→Option (au rs)} (hF:∀ x,i5 ⟨P,T,n,rs,vars,fz,sc,fb⟩ c h ps x=F x) : cC P f ps rs F:=by
 intro x r hx
 rw [Bool.and_eq_true] at hl
 obtain ⟨hl,hl3⟩:=hl
 refine ⟨fun hnM=>?_,fun h=>by rw [h] at hl3; cases hl3⟩
 have hrs:eC rs=false:=by rw [Bool.or_eq_false_iff] at hnM; exact hnM.2
 rw [← hF] at hx
 rw [Bool.and_eq_true] at hl
 have hlen:=zd hl.1
 subst hn
 refine wc hf hb hcb (by rw [om]; exact hlen) ?_
 have hargs:=oS (B:=[]) ps x hl.2
 have hs:bO ⟨qf 0 (lr ps x),[],[],false,[]⟩ ⟨j6 (fg ps x),bg⟩:=by
  refine ⟨fun i=>?_,fun t b hb=>by cases hb⟩
  show al [] (lkV (qf 0 (lr ps x)) i) (j6 (fg ps x) i)
  have:=ux (lr ps x) 0 i
  rw [Nat.zero_add] at this
  rw [this]
  unfold j6
  cases h1:(lr ps x)[i]? with
  | none=>exact .junk _
  | some v =>
   have hlt:i < (fg ps x).length:=by rw [← hargs.len]; exact (zg.1 h1).1
   rw [zq hlt]
   exact hargs.rep i v _ h1 (zq hlt)
 have hpr:cY ⟨qf 0 (lr ps x),[],[],false,[]⟩:=fun t ht=>by cases ht
 refine bI (eT (C:=⟨P,T,fn.ntmps,rs,vars,fz,sc,fb⟩) (fn:=fn) hT hm hv c h _ _ _ _ _ r hpr hs hx) fun e p' hq=>?_
 by_cases he:e = .ret
 ·subst he
  obtain ⟨r',h1,h3⟩:=hq
  injection h3 with h3
  subst h3
  obtain ⟨q,h1,h2⟩:=h1.1 hrs
  exact ⟨p',.refl _,trivial,q,h1,h2⟩
 ·obtain ⟨s',m1,m2,m3⟩:=fY he hq
  cases e with
  | normal =>
   obtain ⟨q,h1,h2⟩:=qR (C:=⟨P,T,fn.ntmps,rs,vars,fz,sc,fb⟩) hv (gD m1) hrs m3
   exact ⟨jr s' p',mW m1,trivial,q,h1,h2⟩
  | ret=>exact absurd rfl he
  | _=>cases m3
end
theorem rO {P:Program} {f:FuncId} (ty:Ty) {e k:Nat} {F:List ty.den→Option (List ty.den)} (hk:tyN ty=k) (hk0 : 0 < k) (hcall:cr P f=true) (hlen:∀ xs zs,F xs=some zs→zs.length=xs.length∧0 < xs.length)
  (H:∀ (xs zs:List ty.den) (g c:Nat) (us:List Value) (w:World) (G:Nat→Prop),F xs=some zs→w.ownsRow 0 e k (.slice (some ⟨g,0,none⟩) xs.length c) xs.length us→us.length=xs.length * k→(∀ (j:Nat) u d,us[j]? = some u→(xs.map (az ty)).flatten[j]? = some d→bK w G u d) →
   Calls P f #[.slice (some ⟨g,0,none⟩) xs.length c] w fun en w'=>en = .returned (.tuple #[])∧w.grownBy w' (some g)∧∃ vs:List Value,w'.ownsRow 0 e k (.slice (some ⟨g,0,none⟩) xs.length c) xs.length vs∧vs.length=zs.length * k∧∀ (j:Nat) u d,vs[j]? = some u→(zs.map (az ty)).flatten[j]? = some d→bK w G u d) :
  cC P f [.own e k ty] [.io [.own e k ty]] (fun x=>(F x.1).bind fun z=>some (z,())):=by
 rintro ⟨xs,⟨⟩⟩ zz hF
 change List ty.den at xs
 obtain ⟨zs,hz,hF⟩:=aK hF
 injection hF with hF
 subst hF
 obtain ⟨hzl,hx0⟩:=hlen xs zs hz
 refine ⟨fun h=>(by cases h),fun _=>⟨⟨hzl,trivial⟩,fun iss kss jss h1 h2 h3 h4 h5 h6=>⟨hcall,?_⟩⟩⟩
 match iss,h1 with
 | [is0],h1 =>
 match is0,h1.1 with
 | [t],_ =>
 match kss,h2 with
 | [k0],h2 =>
 match k0,h2.1 with
 | [],_ =>
 match jss,h3 with
 | [],h3 =>
 intro w0 F0 ρ b w G vs args ha hb0 hbn hi hr
 have hal:args.length=1:=by rw [← d9 args,ha]; rfl
 match args,hal with
 | [a0],_ =>
 simp only [bH,fQ,toI,List.cons.injEq] at ha
 have ha0:=ha.1
 have hvl:vs.toList.length=1:=hr.len
 obtain ⟨v0,hv⟩ : ∃ v0,vs = #[v0]:=by
  match hv:vs.toList,hvl with
  | [v0],_=>exact ⟨v0,by apply Array.ext'; simpa using hv⟩
 subst hv
 have r0:=(hr.rep 0 v0 a0 rfl rfl).nrmd
 rw [ha0] at r0
 obtain ⟨B',hB,hnB⟩:=hb0 t (rwU e k ty xs) (by simp [fQ,toI,lkU])
 have hBe:B' = .rw e k (xs.map (az ty)):=by
  cases B' with
  | st ty' cs=>cases hnB
  | rw e' k' es'=>exact hnB
 subst hBe
 have hel:(xs.map (az ty)).length=xs.length:=List.length_map ..
 have hek:∀ y∈xs.map (az ty),y.length=k:=fun y hy=>by
  obtain ⟨z,_,rfl⟩:=List.mem_map.1 hy
  rw [ez,hk]
 cases r0 with
 | row _ _ A c e2 k2 es2 hb2 hn2 hc2 hA2 hρ2 =>
 rw [hB] at hb2
 injection hb2 with hb2
 injection hb2 with q1 q2 q3
 subst q1 q2 q3
 have hρt:=hρ2 hel
 have hbx:=hi.box t _ hB
 cases hbx with
 | gn _ _ _ hg=>rw [hρt] at hg; cases hg
 | rw _ _ _ us hk1 ho hFt hkt hlt hrt hown =>
 rw [hρt,hel] at ho
 have ho':=ho
 rcases ho'.2 with ⟨h',hn0⟩ | ⟨g,cap,cur,h',_,hgh,_,_⟩
 ·omega
 injection h' with m1 m2 m3
 subst m1 m3
 have hfl:=aJ k _ hek
 rw [hel] at hfl
 have hul:us.length=xs.length * k:=by rw [hlt,hfl]
 refine (H xs zs g c us w G hz ho hul hrt).mono ?_
 rintro en w' ⟨rfl,hT,vs',ho2,hvl',hrv⟩
 have hzk:∀ y∈zs.map (az ty),y.length=k:=fun y hy=>by
  obtain ⟨z,_,rfl⟩:=List.mem_map.1 hy
  rw [ez,hk]
 have hzm:(zs.map (az ty)).length=xs.length:=by rw [List.length_map,hzl]
 have hfz:=aJ k _ hzk
 have hgF : ¬ G g:=hFt g (by rw [hρt]; rfl)
 have hgo:=hown g (by rw [hρt]; rfl)
 have hw:∀ h,h < w.heap.size→blk (ρ t)≠some h→w'.heap[h]? = w.heap[h]? := fun h hh hne=>hT.block h hh (fun e=>hne (by rw [hρt]; exact e.symm))
 have hs:Stp ρ b w G (gG ρ t (ρ t)) (aW b (some (t,.rw e k (zs.map (az ty))))) w' G:=by
  rw [aI]
  refine ⟨fun _ h=>h,fun h hh=>hw h (hi.flt h hh) (fun e=>hgF (by rw [hρt] at e; injection e with e; replace e:g=h:=e; rw [e]; exact hh)),fun x ty' cs hx=>?_,fun x e' k' es' hx=>?_⟩
  ·have h2:x≠t:=fun h=>by rw [h,hB] at hx; cases hx
   rw [aD _ _ h2]
   exact ⟨⟨_,_,hx⟩,rfl⟩
  ·by_cases h2:x=t
   ·subst h2
    rw [hB] at hx
    injection hx with hx
    injection hx with q1 q2 q3
    subst q1 q2 q3
    rw [aV]
    exact ⟨_,_,rfl,by rw [hzm,hel]; exact Nat.le_refl _,fun _=>rfl⟩
   ·rw [aD _ _ h2]
    exact ⟨e',es',hx,Nat.le_refl _,fun _=>rfl⟩
 have hinv:=Inv.turn (v:=ρ t) hi hB hs
  (hi.ext.step hT.os hT.tape hT.output hT.size (fun p hp hM=>hT.block p (Nat.lt_of_lt_of_le hp hi.ext.size) (fun e=>jM hp hM (by injection e with e; rw [e]; exact hgo))))
  hT.size hw (fun h hh=>.inl hh) (by
   rw [aI]
   refine .rw e k _ vs' hk0 (by rw [hρt,hzm]; exact ho2) (fun h hh=>hFt h hh) hzk (by rw [hvl',hfz,List.length_map]) (fun p u d hu hd=>(hrv p u d hu hd).mono (fun _ h=>h) hs.hw) (fun h hh=>hown h hh))
 rw [aI] at hinv hs
 have hU:ca b (gQ [.own e k ty] [.io [.own e k ty]] [[t]] [[]] [] (xs,()) (zs,()))=aW b (some (t,.rw e k (zs.map (az ty)))):=by
  have hU2:gQ [.own e k ty] [.io [.own e k ty]] [[t]] [[]] [] (xs,()) (zs,()) = [(t,.rw e k (zs.map (az ty)))]:=by
   simp [gQ,vM,toO,eg,dx,cg,mD,qW,tV,qX,rwU]
  rw [hU2]
  funext x
  simp only [ca,lkU,aW]
  by_cases e2:x=t
  ·subst e2; simp
  ·simp [e2,Ne.symm e2]
 rw [hU]
 exact ⟨_,ρ,G,rfl,hinv,hs,.tup _ _ rfl (fun j x c h _=>by simp at h)⟩
def sq (xs:List Int) : Option (List Int):=if 0 < xs.length∧xs.length≤1000000 then some (xs.mergeSort fun x y=>decide (x≤y)) else none
end Go.Proofs.Ytkmpjphbkhpgbaa
section
namespace Go.Proofs
open Go.Shelf
def Try.lays189_ren:Go.Shelf.Ren:=⟨fun | 189=>38 | 125=>52 | 257=>51 | 128=>69 | 129=>70 | 294=>60 | 295=>61 | 296=>62 | 297=>63 | 298=>64 | 299=>65 | 216=>66 | 300=>67 | 301=>68 | 328=>75 | 329=>76 | 330=>77 | 331=>78 | 332=>79 | 215=>80 | 343=>81 | n=>n,fun | 28=>37 | 3=>3 | 46=>103 | 0=>0 | 51=>120 | 53=>122 | 4=>4 | 183=>113 | 182=>112 | 131=>117 | 5=>5 | 9=>9 | 218=>126 | 222=>130 | 228=>134 | 229=>33 | n=>n,fun | n=>n⟩
theorem Try.lays189:Go.Proofs.Lays.n189 prog Try.lays189_ren:={
 mixed:=by kernel_rfl
 f125:=Try.func52.trans (congrArg some (by kernel_rfl))
 f128:=Try.func69.trans (congrArg some (by kernel_rfl))
 f129:=Try.func70.trans (congrArg some (by kernel_rfl))
 f189:=Try.func38.trans (congrArg some (by kernel_rfl))
 f215:=Try.func80.trans (congrArg some (by kernel_rfl))
 f216:=Try.func66.trans (congrArg some (by kernel_rfl))
 f257:=Try.func51.trans (congrArg some (by kernel_rfl))
 f294:=Try.func60.trans (congrArg some (by kernel_rfl))
 f295:=Try.func61.trans (congrArg some (by kernel_rfl))
 f296:=Try.func62.trans (congrArg some (by kernel_rfl))
 f297:=Try.func63.trans (congrArg some (by kernel_rfl))
 f298:=Try.func64.trans (congrArg some (by kernel_rfl))
 f299:=Try.func65.trans (congrArg some (by kernel_rfl))
 f300:=Try.func67.trans (congrArg some (by kernel_rfl))
 f301:=Try.func68.trans (congrArg some (by kernel_rfl))
 f328:=Try.func75.trans (congrArg some (by kernel_rfl))
 f329:=Try.func76.trans (congrArg some (by kernel_rfl))
 f330:=Try.func77.trans (congrArg some (by kernel_rfl))
 f331:=Try.func78.trans (congrArg some (by kernel_rfl))
 f332:=Try.func79.trans (congrArg some (by kernel_rfl))
 f343:=Try.func81.trans (congrArg some (by kernel_rfl))
 t0:=Try.underlying0
 a0:=Try.isAgg0
 z0:=Try.sizeOf0
 v0:=Try.zeroValue0
 t3:=Try.underlying3
 a3:=Try.isAgg3
 z3:=Try.sizeOf3
 v3:=Try.zeroValue3
 t4:=Try.underlying4
 a4:=Try.isAgg4
 z4:=Try.sizeOf4
 v4:=Try.zeroValue4
 t5:=Try.underlying5
 a5:=Try.isAgg5
 z5:=Try.sizeOf5
 v5:=Try.zeroValue5
 t9:=Try.underlying9
 a9:=Try.isAgg9
 z9:=Try.sizeOf9
 v9:=Try.zeroValue9
 t28:=Try.underlying37
 a28:=Try.isAgg37
 z28:=Try.sizeOf37
 v28:=Try.zeroValue37
 t46:=Try.underlying103
 a46:=Try.isAgg103
 z46:=Try.sizeOf103
 v46:=Try.zeroValue103
 t51:=Try.underlying120
 a51:=Try.isAgg120
 z51:=Try.sizeOf120
 v51:=Try.zeroValue120
 t53:=Try.underlying122
 a53:=Try.isAgg122
 z53:=Try.sizeOf122
 v53:=Try.zeroValue122
 t131:=Try.underlying117
 a131:=Try.isAgg117
 z131:=Try.sizeOf117
 v131:=Try.zeroValue117
 t182:=Try.underlying112
 a182:=Try.isAgg112
 z182:=Try.sizeOf112
 v182:=Try.zeroValue112
 t183:=Try.underlying113
 a183:=Try.isAgg113
 z183:=Try.sizeOf113
 v183:=Try.zeroValue113
 t218:=Try.underlying126
 a218:=Try.isAgg126
 z218:=Try.sizeOf126
 v218:=Try.zeroValue126
 t222:=Try.underlying130
 a222:=Try.isAgg130
 z222:=Try.sizeOf130
 v222:=Try.zeroValue130
 t228:=Try.underlying134
 a228:=Try.isAgg134
 z228:=Try.sizeOf134
 v228:=Try.zeroValue134
 t229:=Try.underlying33
 a229:=Try.isAgg33
 z229:=Try.sizeOf33
 v229:=Try.zeroValue33 }
open Go.Sort Go.RowKit in
theorem Try.slices_Sort_int (blk off cap:Nat) (zs:List Int) (w:World) (hH:Holds (Value.int .i64) w blk off zs.toArray) (hblk:blk < w.heap.size) (hsz:zs.length < 4611686018427387904) :
  Calls prog 38 #[.slice (some ⟨blk,off,none⟩) zs.length cap] w fun e w' =>
   e = .returned (.tuple #[])∧∃ n os,w' = grow (putRow (Value.int .i64) (Sort.ahead w n) blk off (zs.mergeSort fun x y=>decide (x≤y)).toArray) os:=Any.slices_Sort_int Try.lays189 blk off cap zs w hH hblk hsz
end Go.Proofs
end
namespace Go.Proofs.Ytkmpjphbkhpgbaa
open Go.RowKit
open IntKind (i64)
open Go.Proofs.Try (prog)
theorem wM:∀ (xs:List Int),(xs.map (az (.int .i64))).flatten=xs.map (fun n=>D.v (.int .i64 n))
 | []=>rfl
 | x::l=>by
  show [D.v (Value.int .i64 x)] ++ (List.map (az (.int .i64)) l).flatten = _
  rw [wM l]
  rfl
theorem uM {w:World} {G:Nat→Prop} {us:List Value} {xs:List Int} (hl:us.length=xs.length * 1) (hr:∀ (j:Nat) u d,us[j]? = some u→(xs.map (az (.int .i64))).flatten[j]? = some d→bK w G u d) : us=xs.map (Value.int .i64):=by
 apply List.ext_getElem (by simpa using hl)
 intro j h1 h2
 have h3:j < xs.length:=by simpa using h2
 have:=hr j us[j] (.v (.int .i64 xs[j])) (zq h1) (by rw [wM,List.getElem?_map,zq h3]; rfl)
 have e:=(ai.vv (ρ:=fun _=>.tuple #[]) (b:=fun _=>none) (ai.d _ _ this)).1
 rw [e]; simp
noncomputable def tp:Ent:=⟨[.own 3 1 (.int .i64)],[.io [.own 3 1 (.int .i64)]],fun x=>(sq x.1).bind fun z=>some (z,())⟩
theorem to:cC prog 38 [.own 3 1 (.int .i64)] [.io [.own 3 1 (.int .i64)]] (fun x=>(sq x.1).bind fun z=>some (z,())):=by
 refine rO (.int .i64) rfl (by decide) (by kernel_rfl) (fun xs zs h=>?_) (fun xs zs g c us w G h ho hul hr=>?_)
 ·change List Int at xs zs
  unfold sq at h
  split at h
  ·rename_i hc
   injection h with h
   subst h
   exact ⟨List.length_mergeSort xs,hc.1⟩
  ·cases h
 ·change List Int at xs zs
  unfold sq at h
  split at h
  ·rename_i hc
   injection h with h
   have hus:=uM hul hr
   subst hus
   have hzl:zs.length=xs.length:=by rw [← h]; exact List.length_mergeSort xs
   obtain ⟨_,ho2⟩:=ho
   rcases ho2 with ⟨h',hn0⟩ | ⟨g',cap,cur,h',hb,hgh,hnc,hmax,hcs,hct⟩
   ·have hn1:xs.length=0:=hn0
    omega
   injection h' with m1 m2 m3
   injection m1 with m1
   injection m1 with m1
   subst m1 m3
   refine (Try.slices_Sort_int g 0 c xs w (holds_of_blockI hgh (by have h1:=hct; rw [Nat.mul_one] at h1; exact h1)) (Array.getElem?_eq_some_iff.1 hgh).1 (by omega)).mono ?_
   rintro en w' ⟨rfl,n,os,rfl⟩
   rw [h]
   refine ⟨rfl,grownBy_sortedI _,zs.map (Value.int .i64),ownsRow_sortedI hzl (Nat.zero_le _) hgh hnc hmax hcs,(by rw [List.length_map]; exact (Nat.mul_one _).symm),fun j u d hu hd=>?_⟩
   rw [wM] at hd
   rw [List.getElem?_map] at hu hd
   cases hj:zs[j]? with
   | none=>rw [hj] at hu; cases hu
   | some z =>
    rw [hj] at hu hd
    injection hu with hu
    injection hd with hd
    subst hu hd
    exact .v _ rfl
  ·cases h
noncomputable def fa (x:bT [.ag 0,.ag 0]) : Option (au [.lf (.bool)]):=i5 ⟨prog,[],17,[.lf (.bool)],[.tmp 4],[],[],[]⟩ ((Try.f25).body.getD .skip) (.n) [.ag 0,.ag 0] x
noncomputable def og:Ent:=⟨[.ag 0,.ag 0],[.lf (.bool)],fa⟩
theorem oe:cC prog 25 [.ag 0,.ag 0] [.lf (.bool)] fa:=cR (n:=17) (.nil) Try.mixed Try.func25 rfl (by kernel_rfl) rfl rfl rfl (fun _=>rfl)
noncomputable def fc (x:bT [.ag 0,.ag 0]) : Option (au [.ag 0]):=i5 ⟨prog,[],16,[.ag 0],[.cell 4 24],[],[4],[]⟩ ((Try.f26).body.getD .skip) (.n) [.ag 0,.ag 0] x
noncomputable def iW:Ent:=⟨[.ag 0,.ag 0],[.ag 0],fc⟩
theorem iV:cC prog 26 [.ag 0,.ag 0] [.ag 0] fc:=cR (n:=16) (.nil) Try.mixed Try.func26 rfl (by kernel_rfl) rfl rfl rfl (fun _=>rfl)
noncomputable def ii (x:bT [.lf (.sl (.st 8)),.lf (.int .i64),.lf (.int .i64)]) : Option (au [.ag 0]):=i5 ⟨prog,[(26,iW)],38,[.ag 0],[.cell 6 24],[],[6],[]⟩ ((Try.f14).body.getD .skip) (.s (.n) (.s (.n) (.s (.s (.n) (.s (.lp [.leaf 12 (.int .i64),.box 7 24 0 []] 0 false (.n)) .n)) (.n)))) [.lf (.sl (.st 8)),.lf (.int .i64),.lf (.int .i64)] x
noncomputable def ij:Ent:=⟨[.lf (.sl (.st 8)),.lf (.int .i64),.lf (.int .i64)],[.ag 0],ii⟩
theorem ig:cC prog 14 [.lf (.sl (.st 8)),.lf (.int .i64),.lf (.int .i64)] [.ag 0] ii:=cR (n:=38) (.cons (iV) (.nil)) Try.mixed Try.func14 rfl (by kernel_rfl) rfl rfl rfl (fun _=>rfl)
noncomputable def dn (x:bT [.lf (.sl (.st 8)),.ag 8]) : Option (au [.lf (.sl (.int .i64))]):=i5 ⟨prog,[(38,tp)],50,[.lf (.sl (.int .i64))],[.tmp 4],[],[],[]⟩ ((Try.f24).body.getD .skip) (.s (.n) (.s (.n) (.s (.s (.n) (.s (.lp [.row 5 12 3 1 (.int .i64),.leaf 15 (.int .i64)] 0 false (.s (.n) (.s (.n) (.s (.s (.s (.n) (.s (.n) (.s (.lp [.row 5 12 3 1 (.int .i64),.leaf 24 (.int .i64)] 2 false (.n)) .n))) .n) (.n))))) .n)) (.n)))) [.lf (.sl (.st 8)),.ag 8] x
noncomputable def kU:Ent:=⟨[.lf (.sl (.st 8)),.ag 8],[.lf (.sl (.int .i64))],dn⟩
theorem kT:cC prog 24 [.lf (.sl (.st 8)),.ag 8] [.lf (.sl (.int .i64))] dn:=cR (n:=50) (.cons (to) (.nil)) Try.mixed Try.func24 rfl (by kernel_rfl) rfl rfl rfl (fun _=>rfl)
noncomputable def dH (x:bT [.lf (.int .i64),.lf (.int .i64)]) : Option (au [.lf (.bool)]):=i5 ⟨prog,[],12,[.lf (.bool)],[.tmp 4],[],[],[]⟩ ((Try.f37).body.getD .skip) (.n) [.lf (.int .i64),.lf (.int .i64)] x
noncomputable def lL:Ent:=⟨[.lf (.int .i64),.lf (.int .i64)],[.lf (.bool)],dH⟩
theorem lK:cC prog 37 [.lf (.int .i64),.lf (.int .i64)] [.lf (.bool)] dH:=cR (n:=12) (.nil) Try.mixed Try.func37 rfl (by kernel_rfl) rfl rfl rfl (fun _=>rfl)
noncomputable def dp (x:bT [.ag 8,.lf (.int .i64)]) : Option (au [.lf (.bool)]):=i5 ⟨prog,[(37,lL)],33,[.lf (.bool)],[.tmp 4],[],[],[]⟩ ((Try.f23).body.getD .skip) (.n) [.ag 8,.lf (.int .i64)] x
noncomputable def kW:Ent:=⟨[.ag 8,.lf (.int .i64)],[.lf (.bool)],dp⟩
theorem kV:cC prog 23 [.ag 8,.lf (.int .i64)] [.lf (.bool)] dp:=cR (n:=33) (.cons (lK) (.nil)) Try.mixed Try.func23 rfl (by kernel_rfl) rfl rfl rfl (fun _=>rfl)
noncomputable def eE (x:bT [.lf (.sl (.st 8)),.ag 0,.ag 8,.lf (.int .i64)]) : Option (au [.lf (.int .i64),.lf (.int .i64)]):=i5 ⟨prog,[(23,kW),(24,kU),(14,ij),(26,iW),(25,og)],53,[.lf (.int .i64),.lf (.int .i64)],[.tmp 8,.tmp 9],[],[],[]⟩ ((Try.f12).body.getD .skip) (.s (.n) (.s (.n) (.s (.n) (.s (.s (.n) (.s (.lp [.leaf 8 (.int .i64),.leaf 9 (.int .i64),.leaf 10 (.int .i64),.leaf 26 (.int .i64)] 0 true (.n)) .n)) (.n))))) [.lf (.sl (.st 8)),.ag 0,.ag 8,.lf (.int .i64)] x
noncomputable def cV:Ent:=⟨[.lf (.sl (.st 8)),.ag 0,.ag 8,.lf (.int .i64)],[.lf (.int .i64),.lf (.int .i64)],eE⟩
theorem cU:cC prog 12 [.lf (.sl (.st 8)),.ag 0,.ag 8,.lf (.int .i64)] [.lf (.int .i64),.lf (.int .i64)] eE:=cR (n:=53) (.cons (kV) (.cons (kT) (.cons (ig) (.cons (iV) (.cons (oe) (.nil)))))) Try.mixed Try.func12 rfl (by kernel_rfl) rfl rfl rfl (fun _=>rfl)
abbrev EOk (P:Program) (f:FuncId) (e:Ent) : Prop:=cC P f e.ps e.rs e.f
theorem o0 {P:Program} {T:List (Nat×Ent)} {e:Ent} {f:FuncId} {fn:Func} (h:iJ) (fz:List (Nat×List Nat)) (sc:List Nat) (fb:List (Nat×List Nat)) (hT:fK P T) (hm:P.follows .mixedOrders=true) (hf:P.funcs[f]? = some fn) (hb:fn.body=some (fn.body.getD .skip):=by kernel_rfl) (hcb:cr P f=true:=by kernel_rfl) (hl:((decide (e.ps.length≤fn.ntmps)&&gL e.ps) && !(eC e.ps||eC e.rs))=true:=by kernel_rfl)
  (hF:∀ x,i5 ⟨P,T,fn.ntmps,e.rs,fn.results.toList,fz,sc,fb⟩ (fn.body.getD .skip) h e.ps x=e.f x:=by intro x; kernel_rfl) : cC P f e.ps e.rs e.f:=cR hT hm hf hb hcb rfl rfl hl hF
def du (v_a:ao) (v_b:ao) : Option (Bool) :=
 (if (decide (v_a.aL≤v_b.aL))=true then some (decide (v_a.an≤v_b.an)) else some false).bind fun q1=>some q1
def dV (v_a:ao) (v_b:ao) : Option (ao) :=
 some (⟨(i64.wrap (v_a.aL + v_b.aL)),(i64.wrap (v_a.an + v_b.an))⟩ : ao)
def dW (v_l:(List ab)) (dL:Int) (v_t:Int) (st:ao×Int) : Option ((ao×Int)⊕((ao×Int))) :=
 let v_v:=st.1
 let v_i:=st.2
 if (decide (v_i < (v_l.length:Int)))=true then
 (cp v_l v_i).bind fun b1=>(if (b1.aw==dL)=true then (cp v_l v_i).bind fun b2=>some (decide (b2.ae≤v_t)) else some false).bind fun q3=>(if q3=true then (cp v_l v_i).bind fun b4=>some (decide (v_t < b4.ah)) else some false).bind fun q5=>if q5=true then
 (cp v_l v_i).bind fun b6=>(dV v_v b6.am).bind fun c7=>let v_v:ao:=c7
 let v_i:Int:=(i64.wrap (v_i + 1))
 some (.inl (v_v,v_i))
 else
 let v_i:Int:=(i64.wrap (v_i + 1))
 some (.inl (v_v,v_i))
 else
 some (.inr (v_v,v_i))
def ic (v_l:(List ab)) (dL:Int) (v_t:Int) : Option (ao) :=
 let v_v:ao:=(⟨0,0⟩ : ao)
 let v_i:Int:=0
 (aN (dW v_l dL v_t) ar (v_v,v_i)).bind fun r8 =>
 let v_v:=r8.1
 let v_i:=r8.2
 some v_v
def ib (v_n:Int) : Option (Bool) :=
 (if (decide (v_n≥0))=true then some (decide (v_n≤1073741824)) else some false).bind fun q1=>some q1
def cT (v_l:(List ab)) (v_t:Int) (cm:Int) (v_p:ab) (bU:ao) (st:Int) : Option ((Int)⊕((Int)⊕(Bool))) :=
 let v_i:=st
 if (decide (v_i < (v_l.length:Int)))=true then
 (cp v_l v_i).bind fun b4=>let v_u:Int:=b4.ae
 (if (decide (v_u > v_t))=true then some (decide ((i64.wrap (v_u - v_t)) < cm)) else some false).bind fun q5=>(if q5=true then (ic v_l v_p.aw v_u).bind fun c6=>(dV c6 v_p.am).bind fun c7=>(du c7 bU).bind fun c8=>some (!c8) else some false).bind fun q9=>if q9=true then
 some (.inr (.inr false))
 else
 let v_i:Int:=(i64.wrap (v_i + 1))
 some (.inl v_i)
 else
 some (.inr (.inl v_i))
def j9 (v_l:(List ab)) (bU:ao) (v_p:ab) (v_t:Int) (cm:Int) : Option (Bool) :=
 (ic v_l v_p.aw v_t).bind fun c1=>(dV c1 v_p.am).bind fun c2=>(du c2 bU).bind fun c3=>if (!c3)=true then
 some false
 else
 let v_i:Int:=0
 (aN (cT v_l v_t cm v_p bU) ar v_i).bind fun r10=>match r10 with
 | .inr m11=>some m11
 | .inl m11 =>
 let v_i:=m11
 some true
def dG (v_l:(List ab)) (v_p:ab) (cm:Int) (bU:ao) (st:Int×Int) : Option ((Int×Int)⊕((Int×Int))) :=
 let ef:=st.1
 let v_i:=st.2
 if (decide (v_i < (v_l.length:Int)))=true then
 let v_t:Int:=v_p.ae
 (if (decide (v_i≥0))=true then
 (cp v_l v_i).bind fun b11=>let v_t:Int:=b11.ah
 some v_t
 else
 some v_t).bind fun j10=>let v_t:=j10
 (if (decide (v_t≥v_p.ae))=true then some (decide (v_t≤1000000)) else some false).bind fun q12=>(if q12=true then some (decide ((i64.wrap (v_t + cm))≤v_p.ah)) else some false).bind fun q13=>(if q13=true then (if (decide (ef < 0))=true then some true else some (decide (v_t < ef))).bind fun q14=>some q14 else some false).bind fun q15=>(if q15=true then (j9 v_l bU v_p v_t cm).bind fun c16=>some c16 else some false).bind fun q17=>if q17=true then
 let ef:Int:=v_t
 let v_i:Int:=(i64.wrap (v_i + 1))
 some (.inl (ef,v_i))
 else
 let v_i:Int:=(i64.wrap (v_i + 1))
 some (.inl (ef,v_i))
 else
 some (.inr (ef,v_i))
def ed (v_l:(List ab)) (bU:ao) (v_p:ab) (cm:Int) : Option (Int×Int) :=
 (if (decide (cm < 1))=true then some true else some (decide (cm > 1000))).bind fun q1=>(if q1=true then some true else some (decide (v_p.ae < 0))).bind fun q2=>(if q2=true then some true else some (decide (v_p.ae > 1000000))).bind fun q3=>(if q3=true then some true else some (decide (v_p.ah < 0))).bind fun q4=>(if q4=true then some true else some (decide (v_p.ah > 1000000))).bind fun q5=>(if q5=true then some true else (ib v_p.am.aL).bind fun c6=>some (!c6)).bind fun q7=>(if q7=true then some true else (ib v_p.am.an).bind fun c8=>some (!c8)).bind fun q9=>if q9=true then
 some (0,1)
 else
 let ef:Int:=(-1)
 let v_i:Int:=(-1)
 (aN (dG v_l v_p cm bU) ar (ef,v_i)).bind fun r18 =>
 let ef:=r18.1
 let v_i:=r18.2
 if (decide (ef < 0))=true then
 some (0,16)
 else
 some (ef,0)
def ph:Ent:=⟨[.ag 0,.ag 0],[.lf (.bool)],fun x=>du x.1 x.2.1⟩
theorem pg:EOk prog 16 ph:=o0 .n [] [] [] .nil Try.mixed Try.func16
def pe:Ent:=⟨[.ag 0,.ag 0],[.ag 0],fun x=>dV x.1 x.2.1⟩
theorem kS:EOk prog 17 pe:=o0 .n [] [4] [] .nil Try.mixed Try.func17
def th:Ent:=⟨[.lf (.int .i64)],[.lf (.bool)],fun x=>ib x.1⟩
theorem tg:EOk prog 27 th:=o0 .n [] [] [] .nil Try.mixed Try.func27
def rZ:Ent:=⟨[.lf (.sl (.st 8)),.lf (.int .i64),.lf (.int .i64)],[.ag 0],fun x=>ic x.1 x.2.1 x.2.2.1⟩
theorem rY:EOk prog 15 rZ:=o0 (.s .n (.s .n (.s (.s .n (.s (.lp [.box 7 24 0 [],.leaf 8 (.int .i64)] 0 false .n) .n)) .n))) [] [6] [] (.cons kS .nil) Try.mixed Try.func15
def tm:Ent:=⟨[.lf (.sl (.st 8)),.ag 0,.ag 8,.lf (.int .i64),.lf (.int .i64)],[.lf (.bool)],fun x=>j9 x.1 x.2.1 x.2.2.1 x.2.2.2.1 x.2.2.2.2.1⟩
theorem tj:EOk prog 28 tm:=o0 (.s .n (.s .n (.s (.s .n (.s (.lp [.leaf 11 (.int .i64)] 0 true .n) .n)) .n))) [] [] [] (.cons rY (.cons kS (.cons pg .nil))) Try.mixed Try.func28
def ly:Ent:=⟨[.lf (.sl (.st 8)),.ag 0,.ag 8,.lf (.int .i64)],[.lf (.int .i64),.lf (.int .i64)],fun x=>ed x.1 x.2.1 x.2.2.1 x.2.2.2.1⟩
theorem rX:EOk prog 13 ly:=o0 (.s .n (.s .n (.s .n (.s (.s .n (.s (.lp [.leaf 10 (.int .i64),.leaf 11 (.int .i64)] 0 false (.s .n (.s (.s (.s .n (.s (.s .n (.j [.leaf 12 (.int .i64)] .n)) .n)) .n) .n))) .n)) .n)))) [] [] [] (.cons tg (.cons tj .nil)) Try.mixed Try.func13
noncomputable def im (x:bT []) : Option (au [.lf (.bool)]):=i5 ⟨prog,[(12,cV)],23,[.lf (.bool)],[.tmp 0],[],[],[]⟩ ((Try.f9).body.getD .skip) (.n) [] x
noncomputable def ip:Ent:=⟨[],[.lf (.bool)],im⟩
theorem il:cC prog 9 [] [.lf (.bool)] im:=cR (n:=23) (.cons (cU) (.nil)) Try.mixed Try.func9 rfl (by kernel_rfl) rfl rfl rfl (fun _=>rfl)
noncomputable def gu (x:bT [.lf (.int .i64),.lf (.int .i64)]) : Option (au [.lf (.int .i64)]):=i5 ⟨prog,[],15,[.lf (.int .i64)],[.tmp 4],[],[],[]⟩ ((Try.f11).body.getD .skip) (.n) [.lf (.int .i64),.lf (.int .i64)] x
noncomputable def dY:Ent:=⟨[.lf (.int .i64),.lf (.int .i64)],[.lf (.int .i64)],gu⟩
theorem dX:cC prog 11 [.lf (.int .i64),.lf (.int .i64)] [.lf (.int .i64)] gu:=cR (n:=15) (.nil) Try.mixed Try.func11 rfl (by kernel_rfl) rfl rfl rfl (fun _=>rfl)
noncomputable def jx (x:bT [.ag 8]) : Option (au [.ag 8]):=i5 ⟨prog,[(11,dY)],30,[.ag 8],[.cell 2 26],[],[2],[]⟩ ((Try.f10).body.getD .skip) (.n) [.ag 8] x
noncomputable def nY:Ent:=⟨[.ag 8],[.ag 8],jx⟩
theorem nX:cC prog 10 [.ag 8] [.ag 8] jx:=cR (n:=30) (.cons (dX) (.nil)) Try.mixed Try.func10 rfl (by kernel_rfl) rfl rfl rfl (fun _=>rfl)
noncomputable def dq (x:bT [.lf (.sl (.st 8)),.ag 0,.ag 8,.lf (.int .i64),.lf (.int .i64)]) : Option (au [.lf (.bool)]):=i5 ⟨prog,[(9,ip),(11,dY),(10,nY),(12,cV),(13,ly),(14,ij),(15,rZ)],122,[.lf (.bool)],[.tmp 10],[],[],[]⟩ ((Try.f3).body.getD .skip) (.s (.n) (.s (.n) (.s (.n) (.s (.n) (.s (.s (.n) (.s (.lp [.row 11 11 26 6 (.st 8),.leaf 12 (.int .i64)] 0 false (.n)) .n)) (.n)))))) [.lf (.sl (.st 8)),.ag 0,.ag 8,.lf (.int .i64),.lf (.int .i64)] x
theorem kX:cC prog 3 [.lf (.sl (.st 8)),.ag 0,.ag 8,.lf (.int .i64),.lf (.int .i64)] [.lf (.bool)] dq:=cR (n:=122) (.cons (il) (.cons (dX) (.cons (nX) (.cons (cU) (.cons (rX) (.cons (ig) (.cons (rY) (.nil)))))))) Try.mixed Try.func3 rfl (by kernel_rfl) rfl rfl rfl (fun _=>rfl)
noncomputable def eG (x:bT [.lf (.sl (.st 8)),.lf (.sl (.int .i64)),.ag 0]) : Option (au [.lf (.bool)]):=i5 ⟨prog,[(9,ip),(11,dY),(10,nY),(12,cV),(14,ij),(16,ph),(17,pe)],132,[.lf (.bool)],[.tmp 6],[],[],[]⟩ ((Try.f4).body.getD .skip) ((.s (.n) (.s (.n) (.s (.n) (.s (.n) (.s (.s (.n) (.s (.lp [.row 7 7 26 6 (.st 8),.leaf 8 (.int .i64)] 0 true (.s (.n) (.s (.s (.s (.n) (.s (.n) (.s (.n) (.s (.n) (.s (.n) (.s (.n) (.s (.s (.n) (.s (.lp [.leaf 13 (.int .i64)] 2 true (.s (.n) (.s (.s (.s (.n) (.s (.s (.n) (.s (.lp [.leaf 14 (.bool),.leaf 15 (.int .i64)] 4 false (.n)) .n)) (.n))) .n) (.n)))) .n)) (.n)))))))) .n) (.n)))) .n)) (.s (.s (.n) (.s (.lp [.leaf 16 (.int .i64)] 6 true (.n)) .n)) (.n)))))))) [.lf (.sl (.st 8)),.lf (.sl (.int .i64)),.ag 0] x
theorem n5:cC prog 4 [.lf (.sl (.st 8)),.lf (.sl (.int .i64)),.ag 0] [.lf (.bool)] eG:=cR (n:=132) (.cons (il) (.cons (dX) (.cons (nX) (.cons (cU) (.cons (ig) (.cons (pg) (.cons (kS) (.nil)))))))) Try.mixed Try.func4 rfl (by kernel_rfl) rfl rfl rfl (fun _=>rfl)
noncomputable def eF (x:bT [.lf (.sl (.int .i64)),.lf (.int .i64)]) : Option (au [.lf (.bool)]):=i5 ⟨prog,[(9,ip),(11,dY),(12,cV)],120,[.lf (.bool)],[.tmp 4],[],[],[]⟩ ((Try.f5).body.getD .skip) (.s (.n) (.s (.n) (.s (.n) (.s (.n) (.s (.n) (.s (.n) (.s (.s (.n) (.s (.lp [.row 6 6 26 6 (.st 8),.leaf 7 (.int .i64),.leaf 8 (.int .i64),.leaf 9 (.int .i64)] 0 false (.n)) .n)) (.n)))))))) [.lf (.sl (.int .i64)),.lf (.int .i64)] x
theorem nZ:cC prog 5 [.lf (.sl (.int .i64)),.lf (.int .i64)] [.lf (.bool)] eF:=cR (n:=120) (.cons (il) (.cons (dX) (.cons (cU) (.nil)))) Try.mixed Try.func5 rfl (by kernel_rfl) rfl rfl rfl (fun _=>rfl)
section
open Go.ChangeShapes Go.WideShapes Go.ChangeAt Go.RowKit Go.Deep
section
variable {H:Type} {enc:TypeId×Value→H} {P:Program} {w:World} {base:Nat} {spare:Nat→Bool} {held:Bool} {r:Reach} {b0:Nat}
end
end
section
open Go.ChangeShapes Go.WideShapes Go.ChangeAt Go.RowKit Go.Deep
instance :Inhabited D:=⟨.v (.int .i64 0)⟩
inductive Fm where
 | int | str | bool | u8
 | sl (es:List Fm)
inductive Shp:Fm→D→Prop
 | int (z:Int) (h:(Lit.int .i64 z).wf=true) : Shp .int (.v (.int .i64 z))
 | str (s:ByteArray) (h:s.size≤maxLen) : Shp .str (.v (.string s))
 | bool (b:Bool) : Shp .bool (.v (.bool b))
 | u8 (z:Int) (h:(Lit.int .u8 z).wf=true) : Shp .u8 (.v (.int .u8 z))
 | sl (ts:List Fm) (es:List (List D)) (hl:∀ e∈es,e.length=ts.length) (h:∀ (e:List D),e∈es→∀ (j:Nat) (T:Fm) (d:D),ts[j]? = some T→e[j]? = some d→Shp T d) (hm:es.length≤maxLen) : Shp (.sl ts) (.sl es)
def ik (P:Program) (t:TypeId) (ts:List Fm) : Prop :=
 ∀ (H:Type) (enc:TypeId×Value→H) (w:World) (base:Nat) (spare:Nat→Bool) (held:Bool) (fuel:Nat) (cs:List Value) (x:DataW H×List MemPlace),DataW.trod enc P w base spare held fuel t cs=some x →
  cs.length=ts.length∧∀ (j:Nat) (T:Fm),ts[j]? = some T→∃ c d,cs[j]? = some c∧bK w (· < w.heap.size) c d∧Shp T d
theorem df {P:Program} {t:TypeId} (ht:P.underlying t=some (.int .i64)) : ik P t [.int]:=by
 intro H enc w base spare held fuel cs x h
 obtain ⟨z,rfl,_,hz⟩:=DataW.trod_int ht h
 refine ⟨rfl,fun j T hj=>?_⟩
 match j,hj with
 | 0,hj =>
  cases hj
  exact ⟨_,_,rfl,.v _ rfl,.int z hz⟩
theorem jH {P:Program} {t:TypeId} {fs:Array Field} {ts:List Fm} (ht:P.underlying t=some (.struct fs)) (hk:P.cellsOf t=ts.length)
  (hcov:∀ j T,ts[j]? = some T→∃ (i:Nat) (f:Field) (kf:Nat) (us:List Fm),fs[i]? = some f∧f.offset≤j∧j < f.offset + kf∧P.cellsOf f.type=kf∧ik P f.type us∧us[j - f.offset]? = some T) : ik P t ts:=by
 intro H enc w base spare held fuel cs x h
 obtain ⟨xs,n,_,rfl,hl,hlen,hf⟩:=DataW.trod_struct ht h
 refine ⟨by rw [hl,hk],fun j T hj=>?_⟩
 obtain ⟨i,f,kf,us,hi,h1,h2,h3,h4,h5⟩:=hcov j T hj
 have hfi:=hf i f hi
 have hlt:i < xs.length:=by rw [hlen]; exact (Array.getElem?_eq_some_iff.1 hi).1
 rw [zq hlt,h3] at hfi
 obtain ⟨_,hz⟩:=h4 H enc w base spare held n _ _ hfi
 obtain ⟨c,d,hc,hd,hs⟩:=hz (j - f.offset) T h5
 rw [List.getElem?_take_of_lt (by omega),List.getElem?_drop,show f.offset + (j - f.offset)=j by omega] at hc
 exact ⟨c,d,hc,hd,hs⟩
theorem yb {α : Type} (k:Nat) (es:List (List α)) (h:∀ e∈es,e.length=k) : es.flatten.length=es.length * k:=by
 induction es with
 | nil=>simp
 | cons e es ih =>
  rw [List.flatten_cons,List.length_append,ih (fun x hx=>h x (List.mem_cons_of_mem _ hx)),h e List.mem_cons_self,List.length_cons,Nat.add_mul]
  omega
theorem lc {P:Program} {t e:TypeId} {ts:List Fm} (ht:P.underlying t=some (.slice e)) (hc:P.cellsOf e=ts.length) (hk : 0 < ts.length) (he:ik P e ts) : ik P t [.sl ts]:=by
 intro H enc w base spare held fuel cs x hf
 rcases open_slice ht hf with ⟨rfl,_⟩ | ⟨a,len,cap,m,n,Dz,Pl,rfl,hb,hl,hm,hmm,_,hx⟩
 ·refine ⟨rfl,fun j T hj=>?_⟩
  match j,hj with
  | 0,hj =>
   cases hj
   exact ⟨_,.sl [],rfl,.sl none 0 0 0 [] (fun _=>.int .i64 0) rfl (Nat.le_refl _) (by simp [maxLen]) (by simp) (fun h=>absurd h (by omega)) (fun _=>rfl) (by simp) (by simp),.sl ts [] (by simp) (by simp) (by simp)⟩
 ·have hlm:len≤m:=by rw [hmm]; split <;> omega
  have each:∀ i,i < m→∃ q:Nat→D,∀ j T,ts[j]? = some T→∃ c,w.cell? (a.add (i * ts.length + j))=some c∧bK w (· < w.heap.size) c (q j)∧Shp T (q j):=by
   intro i hi
   obtain ⟨cs',h1,h2⟩:=hx i hi
   rw [hc] at h1
   obtain ⟨_,hlen,hcell⟩:=World.cells?_some h1
   obtain ⟨_,hz⟩:=he _ _ _ _ _ _ _ _ _ h2
   have:∀ j,j < ts.length→∃ d,∀ T,ts[j]? = some T→∃ c,w.cell? (a.add (i * ts.length + j))=some c∧bK w (· < w.heap.size) c d∧Shp T d:=by
    intro j hj
    obtain ⟨c,d,c1,c2,c3⟩:=hz j ts[j] (zq hj)
    refine ⟨d,fun T hT=>⟨c,?_,c2,?_⟩⟩
    ·have c0:=hcell j hj
     rw [Go.Deep.add_add] at c0
     rw [c0,c1]
    ·rw [zq hj] at hT
     cases hT
     exact c3
   obtain ⟨q,hq⟩:=choose_lt this
   exact ⟨q,fun j T hT=>hq j (by rcases Nat.lt_or_ge j ts.length with h | h; exact h; rw [List.getElem?_eq_none h] at hT; cases hT) T hT⟩
  obtain ⟨q,hq⟩:=choose_lt each
  let row (i:Nat) : List D:=(List.range ts.length).map (q i)
  let es:=(List.range len).map row
  have hrow:∀ x∈es,x.length=ts.length:=by
   intro x hx
   obtain ⟨i,_,rfl⟩:=List.mem_map.1 hx
   simp [row]
  have hcell:∀ j d,es.flatten[j]? = some d→∃ c,w.cell? (a.add j)=some c∧bK w (· < w.heap.size) c d:=by
   intro j d hj
   have hlt:j < len * ts.length:=by
    have:=(zg.1 hj).1
    rw [yb ts.length es hrow] at this
    simpa [es] using this
   have hi:j / ts.length < len:=(Nat.div_lt_iff_lt_mul hk).2 hlt
   have hmod:=Nat.mod_lt j hk
   have hdm:j / ts.length * ts.length + j % ts.length=j:=by rw [Nat.mul_comm]; exact Nat.div_add_mod j _
   have hfl:=jT ts.length es hrow (j / ts.length) (row (j / ts.length)) (by simp [es,hi]) (j % ts.length) hmod
   rw [hdm,hj] at hfl
   have hd:d=q (j / ts.length) (j % ts.length):=by simpa [row,hmod] using hfl
   obtain ⟨c,c1,c2,_⟩:=hq (j / ts.length) (by omega) (j % ts.length) _ (zq hmod)
   rw [hdm] at c1
   exact ⟨c,c1,hd ▸ c2⟩
  refine ⟨rfl,fun j T hj=>?_⟩
  match j,hj with
  | 0,hj =>
   cases hj
   refine ⟨_,.sl es,rfl,.sl (some a) len cap ts.length es (fun j=>(w.cell? (a.add j)).getD (.int .i64 0)) (by simp [es]) hl hm hrow (fun hn=>⟨a,rfl,?_⟩) (fun h=>by cases h) (fun a' j d ha hj=>?_) (fun j d hj=>?_),.sl ts es hrow (fun x hx j T d hT hd=>?_) (by simp [es]; omega)⟩
   ·obtain ⟨c,c1,_⟩:=hq 0 (by omega) 0 _ (zq hk)
    have:=World.block_lt_of_cell? w _ c1
    rwa [show (a.add (0 * ts.length + 0)).block=a.block by unfold Addr.add; split <;> rfl] at this
   ·cases ha
    obtain ⟨c,c1,_⟩:=hcell j d hj
    rw [c1]
    rfl
   ·obtain ⟨c,c1,c2⟩:=hcell j d hj
    rw [c1]
    exact c2
   ·obtain ⟨i,hi,rfl⟩:=List.mem_map.1 hx
    have hi:i < len:=List.mem_range.1 hi
    have hjt:j < ts.length:=(zg.1 hT).1
    have hd:d=q i j:=by simpa [row,hjt] using hd.symm
    obtain ⟨c,_,_,c3⟩:=hq i (by omega) j T hT
    exact hd ▸ c3
section
variable {H:Type} {enc:TypeId×Value→H} {P:Program} {w:World} {base:Nat} {spare:Nat→Bool} {held:Bool} {r:Reach} {b0:Nat}
theorem pE {t:TypeId} {fs:Array Field} {ts:List Fm} {v:Value} {d:DataW H} {ps:List MemPlace} (ht:P.underlying t=some (.struct fs)) (ho:ik P t ts) (hv:Value.okWide P w r b0 t v) (h:DataW.Trod enc P w base spare held t v d ps) :
  ∃ ds:List D,ds.length=ts.length∧(∀ (j:Nat) (T:Fm),ts[j]? = some T→∃ e,ds[j]? = some e∧Shp T e)∧ai ρNone bg w (· < w.heap.size) v (.ag (ds.map .d)):=by
 obtain ⟨cs,rfl,_⟩:=okWide_struct ht hv
 obtain ⟨fuel,hf⟩:=h
 simp only [Value.cells] at hf
 obtain ⟨hl,hz⟩:=ho _ _ _ _ _ _ _ _ _ hf
 have:∀ j,j < ts.length→∃ d,∀ T,ts[j]? = some T→∃ c,cs.toList[j]? = some c∧bK w (· < w.heap.size) c d∧Shp T d:=by
  intro j hj
  obtain ⟨c,d,c1,c2,c3⟩:=hz j ts[j] (zq hj)
  refine ⟨d,fun T hT=>⟨c,c1,c2,?_⟩⟩
  rw [zq hj] at hT
  cases hT
  exact c3
 obtain ⟨q,hq⟩:=choose_lt this
 refine ⟨(List.range ts.length).map q,by simp,fun j T hT=>?_,.ag cs _ (by simp; simpa using hl) (fun x hx=>?_) (fun j x c hx hc=>?_)⟩
 ·have hj:j < ts.length:=(zg.1 hT).1
  obtain ⟨c,_,_,c3⟩:=hq j hj T hT
  exact ⟨q j,by simp [hj],c3⟩
 ·obtain ⟨j,hj,rfl⟩:=List.getElem_of_mem (Array.mem_toList_iff.2 hx)
  have hj':j < ts.length:=by rw [← hl]; exact hj
  obtain ⟨c,c1,c2,_⟩:=hq j hj' _ (zq hj')
  rw [zq hj] at c1
  cases c1
  exact c2.one
 ·have hj:j < ts.length:=by
   have:=(Array.getElem?_eq_some_iff.1 hx).1
   rw [← hl]
   simpa using this
  obtain ⟨c',c1,c2,_⟩:=hq j hj _ (zq hj)
  rw [Array.getElem?_toList,hx] at c1
  cases c1
  have:c = .d (q j):=by simpa [hj] using hc.symm
  subst this
  exact .d _ _ c2
theorem lS {t e:TypeId} {T:Fm} {v:Value} {d:DataW H} {ps:List MemPlace} (ht:P.underlying t=some (.slice e)) (ho:ik P t [T]) (hv:Value.okWide P w r b0 t v) (h:DataW.Trod enc P w base spare held t v d ps) :
  ∃ d:D,Shp T d∧ai ρNone bg w (· < w.heap.size) v (.d d):=by
 obtain ⟨a0,len0,cap0,rfl⟩:=okWide_slice ht hv
 obtain ⟨fuel,hf⟩:=h
 simp only [Value.cells] at hf
 obtain ⟨hl,hz⟩:=ho _ _ _ _ _ _ _ _ _ hf
 obtain ⟨c,d,c1,c2,c3⟩:=hz 0 T rfl
 cases c1
 exact ⟨d,c3,.d _ _ c2⟩
end
theorem tx {α : Type} {f : α→List D} {Q : α→Prop} : ∀ (es:List (List D)),(∀ e∈es,∃ x,e=f x∧Q x)→∃ l:List α,es=l.map f∧∀ x∈l,Q x
 | [],_=>⟨[],rfl,by simp⟩
 | e::es,h=>by
  obtain ⟨x,rfl,hq⟩:=h e List.mem_cons_self
  obtain ⟨l,rfl,hl⟩:=tx es (fun y hy=>h y (List.mem_cons_of_mem _ hy))
  refine ⟨x::l,rfl,?_⟩
  intro y hy
  rcases List.mem_cons.1 hy with rfl | hy
  ·exact hq
  ·exact hl y hy
theorem pD {P:Program} {f:FuncId} {args:List PV} {b:Bool} (h:PC P f args (.d (.v (.bool b)))) (w:World) (vs:Array Value) (hr:aM ρNone bg w (· < w.heap.size) vs.toList args) :
  Calls P f vs w fun e w'=>e = .returned (.bool b)∧Below w.heap.size w w':=by
 refine (h.2 w _ vs (fun _ h=>h) hr).mono ?_
 rintro e w' ⟨v,F',rfl,hx,_,_,_,hp⟩
 refine ⟨?_,hx⟩
 cases hp with
 | d _ _ h=>cases h with
  | v=>rfl
end
section
open Go.ChangeShapes Go.WideShapes Go.ChangeAt Go.RowKit Go.Deep
theorem eM {d:D} (h:Shp .int d) : ∃ z,d = .v (.int .i64 z)∧(Lit.int .i64 z).wf=true:=by
 cases h with
 | int z h=>exact ⟨z,rfl,h⟩
def wfI (z:Int) : Prop:=(Lit.int .i64 z).wf=true
theorem vT {α : Type} {f : α→List D} {Q : α→Prop} {ts:List Fm} {d:D} (hf:∀ e:List D,e.length=ts.length→(∀ (j:Nat) (T:Fm),ts[j]? = some T→∃ d,e[j]? = some d∧Shp T d)→∃ x,e=f x∧Q x) (h:Shp (.sl ts) d) : ∃ l:List α,d = .sl (l.map f)∧(∀ z∈l,Q z)∧l.length≤maxLen:=by
 cases h with
 | sl _ es hl h hm =>
  obtain ⟨l,rfl,hq⟩:=tx (f:=f) (Q:=Q) es (fun e he=>hf e (hl e he) fun j T hT=>by
   have hj:j < e.length:=by rw [hl e he]; exact (zg.1 hT).1
   exact ⟨e[j],zq hj,h e he j T _ hT (zq hj)⟩)
  exact ⟨l,rfl,hq,by simpa using hm⟩
theorem y8 {e:List D} (hl:e.length=1) (h:∀ (j:Nat) (T:Fm),[Fm.int][j]? = some T→∃ d,e[j]? = some d∧Shp T d) : ∃ x:Int,e = [.v (.int .i64 x)]∧wfI x:=by
 match e,hl with
 | [d],_ =>
  obtain ⟨d',hd,s⟩:=h 0 _ rfl
  cases hd
  cases s with
  | int z hz=>exact ⟨z,rfl,hz⟩
def ao.ok (x:ao) : Prop:=wfI x.aL∧wfI x.an
theorem fZ:ik prog 24 [.int,.int]:=jH Try.underlying24 (by kernel_rfl) fun j T hj=>by
 match j,hj with
 | 0,hj=>exact ⟨0,_,1,[.int],rfl,by decide,by decide,by kernel_rfl,(df Try.underlying3),hj⟩
 | 1,hj=>exact ⟨1,_,1,[.int],rfl,by decide,by decide,by kernel_rfl,(df Try.underlying3),hj⟩
theorem tM {e:List D} (hl:e.length=2) (h:∀ (j:Nat) (T:Fm),([.int,.int] : List Fm)[j]? = some T→∃ d,e[j]? = some d∧Shp T d) : ∃ x:ao,e=ao.d x∧x.ok:=by
 match e,hl with
 | [d0,d1],_ =>
  obtain ⟨_,e0,s0⟩:=h 0 _ rfl
  cases e0
  obtain ⟨_,e1,s1⟩:=h 1 _ rfl
  cases e1
  obtain ⟨z0,rfl,k0⟩:=eM s0
  obtain ⟨z1,rfl,k1⟩:=eM s1
  exact ⟨⟨z0,z1⟩,rfl,⟨k0,k1⟩⟩
def ab.ok (x:ab) : Prop:=wfI x.fId∧wfI x.aw∧wfI x.ae∧wfI x.ah∧ao.ok x.am
theorem ld:ik prog 26 [.int,.int,.int,.int,.int,.int]:=jH Try.underlying26 (by kernel_rfl) fun j T hj=>by
 match j,hj with
 | 0,hj=>exact ⟨0,_,1,[.int],rfl,by decide,by decide,by kernel_rfl,(df Try.underlying3),hj⟩
 | 1,hj=>exact ⟨1,_,1,[.int],rfl,by decide,by decide,by kernel_rfl,(df Try.underlying3),hj⟩
 | 2,hj=>exact ⟨2,_,1,[.int],rfl,by decide,by decide,by kernel_rfl,(df Try.underlying3),hj⟩
 | 3,hj=>exact ⟨3,_,1,[.int],rfl,by decide,by decide,by kernel_rfl,(df Try.underlying3),hj⟩
 | 4,hj=>exact ⟨4,_,2,[.int,.int],rfl,by decide,by decide,by kernel_rfl,fZ,hj⟩
 | 5,hj=>exact ⟨4,_,2,[.int,.int],rfl,by decide,by decide,by kernel_rfl,fZ,hj⟩
theorem qL {e:List D} (hl:e.length=6) (h:∀ (j:Nat) (T:Fm),([.int,.int,.int,.int,.int,.int] : List Fm)[j]? = some T→∃ d,e[j]? = some d∧Shp T d) : ∃ x:ab,e=ab.d x∧x.ok:=by
 match e,hl with
 | [d0,d1,d2,d3,d4,d5],_ =>
  obtain ⟨_,e0,s0⟩:=h 0 _ rfl
  cases e0
  obtain ⟨_,e1,s1⟩:=h 1 _ rfl
  cases e1
  obtain ⟨_,e2,s2⟩:=h 2 _ rfl
  cases e2
  obtain ⟨_,e3,s3⟩:=h 3 _ rfl
  cases e3
  obtain ⟨_,e4,s4⟩:=h 4 _ rfl
  cases e4
  obtain ⟨_,e5,s5⟩:=h 5 _ rfl
  cases e5
  obtain ⟨z0,rfl,k0⟩:=eM s0
  obtain ⟨z1,rfl,k1⟩:=eM s1
  obtain ⟨z2,rfl,k2⟩:=eM s2
  obtain ⟨z3,rfl,k3⟩:=eM s3
  obtain ⟨z4,rfl,k4⟩:=eM s4
  obtain ⟨z5,rfl,k5⟩:=eM s5
  exact ⟨⟨z0,z1,z2,z3,⟨z4,z5⟩⟩,rfl,⟨k0,k1,k2,k3,⟨k4,k5⟩⟩⟩
theorem jI:ik prog 22 [.sl [.int,.int,.int,.int,.int,.int]]:=lc Try.underlying22 (by kernel_rfl) (by decide) ld
theorem mn {d:D} (h:Shp (.sl [.int,.int,.int,.int,.int,.int]) d) : ∃ l:List ab,d = .sl (l.map ab.d)∧(∀ z∈l,ab.ok z)∧l.length≤maxLen:=vT (ts:=[.int,.int,.int,.int,.int,.int]) (f:=ab.d) (Q:=fun z=>ab.ok z) (fun _ hl h=>qL hl h) h
theorem mE:ik prog 37 [.sl [.int]]:=lc Try.underlying37 (by kernel_rfl) (by decide) (df Try.underlying3)
theorem qt {d:D} (h:Shp (.sl [.int]) d) : ∃ l:List Int,d = .sl (l.map iD)∧(∀ z∈l,wfI z)∧l.length≤maxLen:=vT (ts:=[.int]) (f:=iD) (Q:=fun z=>wfI z) (fun _ hl h=>y8 hl h) h
end
def cb (v_l:(List ab)) (dL:Int) (v_t:Int) (st:ao) (x_:ab) : Option ((ao)⊕((ao×Int))) :=
 let v_v:=st
 (if (x_.aw==dL)=true then some (decide (x_.ae≤v_t)) else some false).bind fun q8=>(if q8=true then some (decide (v_t < x_.ah)) else some false).bind fun q9=>if q9=true then
 (dV v_v x_.am).bind fun c10=>let v_v:ao:=c10
 some (.inl v_v)
 else
 some (.inl v_v)
theorem lJ (v_l:(List ab)) (dL:Int) (v_t:Int) (a_:ao) (hl:v_l.length≤1000000) : aN (dW v_l dL v_t) ar (a_,(0))=fp (cb v_l dL v_t) (fun a_=>(a_,((v_l.length:Int)))) a_ v_l :=
 f7 v_l (S:=ao×Int) (fun a_ k_=>(a_,(k_))) (cb v_l dL v_t) (fun a_=>(a_,((v_l.length:Int)))) (di hl) (fun k a x hx=>by
  unfold dW cb; exact yB)
  (fun a=>by unfold dW; exact z6) a_
def bF (v_l:(List ab)) (v_t:Int) (cm:Int) (v_p:ab) (bU:ao) (st:Unit) (x_:ab) : Option ((Unit)⊕((Int)⊕(Bool))) :=
 let v_u:Int:=x_.ae
 (if (decide (v_u > v_t))=true then some (decide ((i64.wrap (v_u - v_t)) < cm)) else some false).bind fun q10=>(if q10=true then (ic v_l v_p.aw v_u).bind fun c11=>(dV c11 v_p.am).bind fun c12=>(du c12 bU).bind fun c13=>some (!c13) else some false).bind fun q14=>if q14=true then
 some (.inr (.inr false))
 else
 some (.inl ())
theorem j8 (v_l:(List ab)) (v_t:Int) (cm:Int) (v_p:ab) (bU:ao) (a_:Unit) (hl:v_l.length≤1000000) : aN (cT v_l v_t cm v_p bU) ar (0)=fp (bF v_l v_t cm v_p bU) (fun a_=>(.inl ((v_l.length:Int)))) a_ v_l :=
 f7 v_l (S:=Int) (fun a_ k_=>(k_)) (bF v_l v_t cm v_p bU) (fun a_=>(.inl ((v_l.length:Int)))) (di hl) (fun k a x hx=>by
  unfold cT bF; exact yB)
  (fun a=>by unfold cT; exact z6) a_
def dU (a b:ao) : ao:=⟨i64.wrap (a.aL + b.aL),i64.wrap (a.an + b.an)⟩
def jU (a b:ao) : Bool:=decide (a.aL≤b.aL)&&decide (a.an≤b.an)
theorem R1_Plus_is (a b:ao) : dV a b=some (dU a b):=rfl
theorem gr (a b:ao) : du a b=some (jU a b):=by unfold du jU; simp only [nU,zb]
theorem rV (n:Int) : ib n=some (decide (n≥0)&&decide (n≤1073741824)):=by unfold ib; simp only [nU,zb]
noncomputable def qF (a b:ao) : Option ao:=fc (a,(b,()))
noncomputable def pz (a b:ao) : Option Bool:=fa (a,(b,()))
noncomputable def atP (l:List ab) (k t:Int) : Option ao:=ii (l,(k,(t,())))
noncomputable def chP (l:List ab) (p:ab) : Option (List Int):=dn (l,(p,()))
noncomputable def inP (a b:Int) : Option Bool:=dH (a,(b,()))
noncomputable def ta (p:ab) (n:Int) : Option Bool:=dp (p,(n,()))
noncomputable def cK (l:List ab) (v:ao) (p:ab) (n:Int) : Option (Int×Int):=eE (l,(v,(p,(n,()))))
theorem qE (a b:ao) : qF a b=some (dU a b):=by kernel_rfl
theorem vU (a b:ao) : pz a b=Option.bind (if decide (a.aL≤b.aL)=true then some (decide (a.an≤b.an)) else some false) fun q=>some q:=by kernel_rfl
theorem uL (a b:ao) : pz a b=some (jU a b):=by rw [vU]; unfold jU; simp only [nU,zb]
theorem zS (a b:Int) : inP a b=Option.bind (if decide (0≤a)=true then some (decide (a≤b)) else some false) fun q=>some q:=by kernel_rfl
def lA (a b:Int) : Bool:=decide (0≤a)&&decide (a≤b)
theorem zl (a b:Int) : inP a b=some (lA a b):=by rw [zS]; unfold lA; simp only [nU,zb]
theorem xp (p:ab) (n:Int) : ta p n=Option.bind (if decide (1≤n)=true then some (decide (n≤1000)) else some false) fun q=>Option.bind (if q=true then Option.bind (inP p.ae 1000000) fun r=>some r else some false) fun q=>Option.bind (if q=true then Option.bind (inP p.ah 1000000) fun r=>some r else some false) fun q=>Option.bind (if q=true then Option.bind (inP p.am.aL 1073741824) fun r=>some r else some false) fun q=>Option.bind (if q=true then Option.bind (inP p.am.an 1073741824) fun r=>some r else some false) fun q=>some q:=by kernel_rfl
def cS (p:ab) (n:Int) : Bool:=decide (1≤n)&&decide (n≤1000)&&lA p.ae 1000000&&lA p.ah 1000000&&lA p.am.aL 1073741824&&lA p.am.an 1073741824
theorem vy (p:ab) (n:Int) : ta p n=some (cS p n):=by rw [xp]; unfold cS; simp only [zl,nU,zb]
def br (o:ab) (k t:Int) : Bool:=(o.aw==k)&&decide (o.ae≤t)&&decide (t < o.ah)
def atV (l:List ab) (k t:Int) : ao:=l.foldl (fun v o=>if br o k t=true then dU v o.am else v) ⟨0,0⟩
theorem Ah (l:List ab) (k t:Int) : atP l k t=Option.bind (aN (fun st:Int×ao=>if decide (st.1 < (l.length:Int))=true then Option.bind (cp l st.1) fun x=>Option.bind (if (x.aw==k)=true then some (decide (x.ae≤t)) else some false) fun q=>Option.bind (if q=true then some (decide (t < x.ah)) else some false) fun q=>if q=true then Option.bind (qF st.2 x.am) fun r=>some (.inl (i64.wrap (st.1 + 1),r)) else some (.inl (i64.wrap (st.1 + 1),st.2)) else some (.inr (st.1,st.2))) ar ((0:Int),(⟨0,0⟩ : ao))) fun st:Int×ao=>some st.2:=by kernel_rfl
theorem qd (l:List ab) (k t:Int) (hl:l.length≤1000000) : atP l k t=some (atV l k t):=by
 rw [Ah]
 have h:=f7 l (S:=Int×ao) (τ:=Int×ao) (f:=fun st:Int×ao=>if decide (st.1 < (l.length:Int))=true then Option.bind (cp l st.1) fun x=>Option.bind (if (x.aw==k)=true then some (decide (x.ae≤t)) else some false) fun q=>Option.bind (if q=true then some (decide (t < x.ah)) else some false) fun q=>if q=true then Option.bind (qF st.2 x.am) fun r=>some (.inl (i64.wrap (st.1 + 1),r)) else some (.inl (i64.wrap (st.1 + 1),st.2)) else some (.inr (st.1,st.2))) (fun a_ k_=>(k_,a_)) (fun v o=>some (.inl (if br o k t=true then dU v o.am else v))) (fun a_=>((l.length:Int),a_)) (di hl) (fun j a x hx=>by
  have hk:=(zg.1 hx).1
  simp only [ww hx,if_true,cN hx,zb,eL hk hl,nU,qE]
  change (if br x k t=true then _ else _) = _
  cases br x k t <;> rfl) (fun a=>by simp only [tP,zf,if_false]) (⟨0,0⟩ : ao)
 rw [show ((0:Int),(⟨0,0⟩ : ao))=(fun (a_:ao) (k_:Int)=>(k_,a_)) ⟨0,0⟩ 0 from rfl,h,i4]
 rfl
theorem td (l:List ab) (k t:Int) (hl:l.length≤1000000) : ic l k t=some (atV l k t):=by
 unfold ic
 dsimp only
 rw [lJ l k t _ hl,show cb l k t=fun v o=>some (.inl (if br o k t=true then dU v o.am else v)) from by
  funext v o
  unfold cb
  simp only [R1_Plus_is,zb,nU]
  change (if br o k t=true then _ else _) = _
  cases br o k t <;> rfl,i4]
 rfl
theorem vA (l:List ab) (k s u:Int) (h:∀ o∈l,br o k s=br o k u) : atV l k s=atV l k u:=by
 unfold atV
 have:∀ (l:List ab) (v:ao),(∀ o∈l,br o k s=br o k u)→l.foldl (fun v o=>if br o k s=true then dU v o.am else v) v=l.foldl (fun v o=>if br o k u=true then dU v o.am else v) v:=by
  intro l
  induction l with
  | nil=>intro v _; rfl
  | cons o l ih =>
   intro v h
   rw [List.foldl_cons,List.foldl_cons,h o List.mem_cons_self]
   exact ih _ (fun o' ho=>h o' (List.mem_cons_of_mem _ ho))
 exact this l _ h
def pj (p:ab) (z:Int) : Bool:=decide (p.ae < z)&&decide (z < p.ah)
def chs (p o:ab) : List Int:=[o.ae,o.ah].filter (pj p)
theorem Ad (l:List ab) (p:ab) : chP l p=Option.bind (aN (fun st:List Int×Int=>if decide (st.2 < (l.length:Int))=true then Option.bind (cp l st.2) fun o=>Option.bind (aN (fun st':List Int×Int=>if decide (st'.2 < 2)=true then Option.bind (cp [o.ae,o.ah] st'.2) fun z=>Option.bind (if decide (p.ae < z)=true then some (decide (z < p.ah)) else some false) fun q=>if q=true then Option.bind (fI st'.1 [z]) fun zs=>some (.inl (zs,i64.wrap (st'.2 + 1))) else some (.inl (st'.1,i64.wrap (st'.2 + 1))) else some (.inr (st'.1,st'.2))) ar (st.1,(0:Int))) fun r:List Int×Int=>some (.inl (r.1,i64.wrap (st.2 + 1))) else some (.inr (st.1,st.2))) ar ([p.ae],(0:Int))) fun st:List Int×Int=>Option.bind (Option.bind (sq st.1) fun z=>some (z,())) fun r:List Int×Unit=>Option.bind (fI r.1 [p.ah]) fun zs=>some zs:=by kernel_rfl
theorem xk (o p:ab) (acc:List Int) (h:acc.length + 2≤1000000) : aN (fun st':List Int×Int=>if decide (st'.2 < 2)=true then Option.bind (cp [o.ae,o.ah] st'.2) fun z=>Option.bind (if decide (p.ae < z)=true then some (decide (z < p.ah)) else some false) fun q=>if q=true then Option.bind (fI st'.1 [z]) fun zs=>some (.inl (zs,i64.wrap (st'.2 + 1))) else some (.inl (st'.1,i64.wrap (st'.2 + 1))) else some (.inr (st'.1,st'.2))) ar (acc,(0:Int))=some (acc++chs p o,(2:Int)):=by
 have h2:=f7 [o.ae,o.ah] (S:=List Int×Int) (τ:=List Int×Int) (f:=fun st':List Int×Int=>if decide (st'.2 < 2)=true then Option.bind (cp [o.ae,o.ah] st'.2) fun z=>Option.bind (if decide (p.ae < z)=true then some (decide (z < p.ah)) else some false) fun q=>if q=true then Option.bind (fI st'.1 [z]) fun zs=>some (.inl (zs,i64.wrap (st'.2 + 1))) else some (.inl (st'.1,i64.wrap (st'.2 + 1))) else some (.inr (st'.1,st'.2))) (fun a_ k_=>(a_,k_)) (fun acc z=>if pj p z=true then (fI acc [id z]).map (fun a=>(.inl a:List Int⊕(List Int×Int))) else some (.inl acc)) (fun a_=>(a_,(2:Int))) (di (n:=2) (by omega)) (fun j a x hx=>by
  have hk:j < 2:=(zg.1 hx).1
  have d:decide ((j:Int) < 2)=true:=by simp; omega
  have w:i64.wrap ((j:Int) + 1)=((j + 1:Nat) : Int):=eL hk (by omega)
  simp only [d,if_true,cN hx,zb,w,nU,id]
  change (if pj p x=true then _ else _) = _
  cases pj p x
  ·rfl
  ·cases h9:fI a [x] <;> simp [h9]) (fun a=>rfl) acc
 rw [show (acc,(0:Int))=(fun (a_:List Int) (k_:Int)=>(a_,k_)) acc 0 from rfl,h2,fU (pj p) id _ [o.ae,o.ah] acc (by simpa using h),List.map_id]
 rfl
def si (l:List ab) (p:ab) : List Int:=(p.ae::l.flatMap (chs p)).mergeSort (fun x y=>decide (x≤y)) ++ [p.ah]
theorem p9 (l:List ab) (p:ab) : (l.flatMap (chs p)).length≤2 * l.length:=by
 induction l with
 | nil=>simp
 | cons o l ih =>
  rw [List.flatMap_cons,List.length_append,List.length_cons]
  have:(chs p o).length≤2:=List.length_filter_le _ _
  omega
theorem zA (l:List ab) (p:ab) (hl:l.length≤100000) : chP l p=some (si l p):=by
 rw [Ad]
 obtain ⟨r,h1,h2⟩:=bu (f:=fun st:List Int×Int=>if decide (st.2 < (l.length:Int))=true then Option.bind (cp l st.2) fun o=>Option.bind (aN (fun st':List Int×Int=>if decide (st'.2 < 2)=true then Option.bind (cp [o.ae,o.ah] st'.2) fun z=>Option.bind (if decide (p.ae < z)=true then some (decide (z < p.ah)) else some false) fun q=>if q=true then Option.bind (fI st'.1 [z]) fun zs=>some (.inl (zs,i64.wrap (st'.2 + 1))) else some (.inl (st'.1,i64.wrap (st'.2 + 1))) else some (.inr (st'.1,st'.2))) ar (st.1,(0:Int))) fun r:List Int×Int=>some (.inl (r.1,i64.wrap (st.2 + 1))) else some (.inr (st.1,st.2)))
  (fun st=>∃ k:Nat,st.2=(k:Int)∧k≤l.length∧st.1=p.ae::(l.take k).flatMap (chs p)) (fun st=>l.length - st.2.toNat) (fun r=>r.1=p.ae::l.flatMap (chs p)) (fun st ⟨k,e1,e2,e3⟩=>by
   simp only [e1]
   rcases Nat.lt_or_ge k l.length with hlt | hge
   ·have d1:decide ((k:Int) < (l.length:Int))=true:=by simpa using hlt
    have hc:=p9 (l.take k) p
    rw [List.length_take] at hc
    rw [if_pos d1,cN (zq hlt)]
    simp only [zb]
    rw [xk _ p st.1 (by rw [e3,List.length_cons]; omega)]
    simp only [zb]
    rw [eL hlt (Nat.le_trans hl (by decide))]
    refine .inl ⟨_,rfl,⟨k + 1,rfl,hlt,?_⟩,by simp only [zt]; omega⟩
    rw [e3,List.take_succ_eq_append_getElem hlt,List.flatMap_append]
    simp
   ·have d1:decide ((k:Int) < (l.length:Int))=false:=by simp; omega
    rw [if_neg (by rw [d1]; decide)]
    refine .inr ⟨_,rfl,?_⟩
    show st.1 = _
    rw [e3,List.take_of_length_le hge]) ar ([p.ae],0) ⟨0,rfl,Nat.zero_le _,rfl⟩ (by have:=di (Nat.le_trans hl (by decide)); show l.length - (0:Int).toNat < ar; omega)
 rw [h1]
 have hc:=p9 l p
 have hs:sq r.1=some ((p.ae::l.flatMap (chs p)).mergeSort fun x y=>decide (x≤y)):=by
  unfold sq
  rw [h2,if_pos ⟨by simp,by rw [List.length_cons]; omega⟩]
 simp only [zb,hs]
 rw [j7 (by rw [List.length_mergeSort,List.length_cons]; simp only [List.length_cons,List.length_nil]; omega)]
 rfl
def iM (fr:Int→Bool) (n:Int) : Int→List Int→Int→Option Int
 | _,[],_=>none
 | c,x::r,s=>if (!fr c)=true then iM fr n x r x else if decide (x - s≥n)=true then some s else iM fr n x r s
def OkT (fr:Int→Bool) (a b n t:Int) : Prop:=a≤t∧t + n≤b∧∀ u,t≤u→u < t + n→fr u=true
def Swp (fr:Int→Bool) (a b n:Int) (o:Option Int) : Prop:=match o with
 | some t=>OkT fr a b n t∧∀ t',OkT fr a b n t'→t≤t'
 | none=>∀ t',¬ OkT fr a b n t'
theorem iZ (fr:Int→Bool) (a b n:Int) (hn : 1≤n) : ∀ (r:List Int) (c s:Int),(∀ x∈r,c≤x)→r.Pairwise (· ≤ ·)→(∀ y∈c::r,y≤b)→b∈c::r →
  (∀ c'∈c::r,∀ u,c'≤u→u < b→(∀ y∈c::r,c' < y→u < y)→fr u=fr c')→a≤s→s≤c→(∀ u,s≤u→u < c→fr u=true)→(∀ t,OkT fr a b n t→s≤t)→c - s < n→Swp fr a b n (iM fr n c r s)
 | [],c,s,_,_,_,hm,_,_,_,_,h3,h4=>by
  have hc:b=c:=by simpa using hm
  intro t' ht
  have:=h3 t' ht
  have:=ht.2.1
  omega
 | x::r,c,s,h0,hp,hb,hm,hK,h1,hsc,h2,h3,h4=>by
  have hcx:=h0 x List.mem_cons_self
  have hxb:=hb x (List.mem_cons_of_mem _ List.mem_cons_self)
  have hp':=List.pairwise_cons.1 hp
  have hm':b∈x::r:=by
   rcases List.mem_cons.1 hm with e | e
   ·have:x=b:=by omega
    rw [this]; exact List.mem_cons_self
   ·exact e
  have hK':∀ c'∈x::r,∀ u,c'≤u→u < b→(∀ y∈x::r,c' < y→u < y)→fr u=fr c':=fun c' hc' u q1 q2 q3=>hK c' (List.mem_cons_of_mem _ hc') u q1 q2 fun y hy hlt=>by
   rcases List.mem_cons.1 hy with e | e
   ·have:=h0 c' hc'
    omega
   ·exact q3 y e hlt
  have hb':∀ y∈x::r,y≤b:=fun y hy=>hb y (List.mem_cons_of_mem _ hy)
  have hge:∀ y∈x::r,x≤y:=fun y hy=>by
   rcases List.mem_cons.1 hy with e | e
   ·omega
   ·exact hp'.1 y e
  have hcst:∀ u,c≤u→u < x→fr u=fr c:=fun u q1 q2=>hK c List.mem_cons_self u q1 (by omega) fun y hy hlt=>by
   rcases List.mem_cons.1 hy with e | e
   ·omega
   ·have:=hge y e
    omega
  unfold iM
  cases hf:fr c with
  | false =>
   rw [if_pos (by rfl)]
   refine iZ fr a b n hn r x x hp'.1 hp'.2 hb' hm' hK' (by omega) (Int.le_refl _) (fun u q1 q2=>by omega) (fun t ht=>?_) (by omega)
   rcases Int.lt_or_le t x with hlt | hle
   ·exfalso
    have hst:=h3 t ht
    have hfu:=ht.2.2
    rcases Int.lt_or_le t c with q | q
    ·have:=hfu c (by omega) (by omega)
     rw [hf] at this
     cases this
    ·have e1:=hcst t q hlt
     have e2:=hfu t (Int.le_refl _) (by omega)
     rw [e1,hf] at e2
     cases e2
   ·exact hle
  | true =>
   rw [if_neg (by decide)]
   have h2':∀ u,s≤u→u < x→fr u=true:=fun u q1 q2=>by
    rcases Int.lt_or_le u c with q | q
    ·exact h2 u q1 q
    ·rw [hcst u q q2,hf]
   split
   ·rename_i hd
    have hd:x - s≥n:=zd hd
    exact ⟨⟨h1,by omega,fun u q1 q2=>h2' u q1 (by omega)⟩,h3⟩
   ·rename_i hd
    have hd : ¬ x - s≥n:=fun e=>hd (decide_eq_true e)
    exact iZ fr a b n hn r x s hp'.1 hp'.2 hb' hm' hK' h1 (by omega) h2' h3 (by omega)
def frV (l:List ab) (v:ao) (p:ab) (t:Int) : Bool:=jU (dU (atV l p.aw t) p.am) v
theorem sg (l:List ab) (p:ab) : ∃ S,(p.ae::l.flatMap (chs p)).mergeSort (fun x y=>decide (x≤y))=p.ae::S∧(∀ x∈S,p.ae≤x)∧S.Pairwise (· ≤ ·)∧(∀ x,x∈p.ae::S↔x∈p.ae::l.flatMap (chs p)):=by
 have hs:((p.ae::l.flatMap (chs p)).mergeSort (fun x y=>decide (x≤y))).Pairwise (fun x y=>decide (x≤y)=true):=List.pairwise_mergeSort (fun a b c h1 h2=>by simp only [decide_eq_true_eq] at h1 h2 ⊢; omega) (fun a b=>by simp only [Bool.or_eq_true,decide_eq_true_eq]; omega) _
 have hmem:∀ x,x∈(p.ae::l.flatMap (chs p)).mergeSort (fun x y=>decide (x≤y))↔x∈p.ae::l.flatMap (chs p):=fun x=>List.mem_mergeSort
 have hge:∀ x∈p.ae::l.flatMap (chs p),p.ae≤x:=fun x hx=>by
  rcases List.mem_cons.1 hx with e | e
  ·omega
  ·obtain ⟨o,_,h2⟩:=List.mem_flatMap.1 e
   have:=(List.mem_filter.1 h2).2
   unfold pj at this
   simp only [Bool.and_eq_true,decide_eq_true_eq] at this
   omega
 match hS:(p.ae::l.flatMap (chs p)).mergeSort (fun x y=>decide (x≤y)) with
 | []=>have:=(hmem p.ae).2 List.mem_cons_self; rw [hS] at this; cases this
 | c::S =>
  rw [hS] at hs hmem
  have hs':=List.pairwise_cons.1 hs
  have h1:=hge c ((hmem c).1 List.mem_cons_self)
  have h2:c≤p.ae:=by
   rcases List.mem_cons.1 ((hmem p.ae).2 List.mem_cons_self) with e | e
   ·omega
   ·have:=hs'.1 _ e
    simpa using this
  obtain rfl:c=p.ae:=by omega
  exact ⟨S,rfl,fun x hx=>by simpa using hs'.1 x hx,hs'.2.imp (fun h=>by simpa using h),hmem⟩
theorem qG (l:List ab) (v:ao) (p:ab) (n:Int) (hn : 1≤n) (S:List Int) (h1:∀ x∈S,p.ae≤x) (h2:S.Pairwise (· ≤ ·)) (hm:∀ x,x∈p.ae::S↔x∈p.ae::l.flatMap (chs p)) : Swp (frV l v p) p.ae p.ah n (iM (frV l v p) n p.ae (S ++ [p.ah]) p.ae):=by
 have hC:∀ x∈p.ae::S,x=p.ae∨(p.ae < x∧x < p.ah):=fun x hx=>by
  rcases List.mem_cons.1 ((hm x).1 hx) with e | e
  ·exact .inl e
  ·obtain ⟨o,_,h2⟩:=List.mem_flatMap.1 e
   have:=(List.mem_filter.1 h2).2
   unfold pj at this
   simp only [Bool.and_eq_true,decide_eq_true_eq] at this
   exact .inr this
 rcases Int.lt_or_le p.ah p.ae with hlt | hle
 ·have hS:∀ x∈S,x=p.ae:=fun x hx=>by
   rcases hC x (List.mem_cons_of_mem _ hx) with e | e
   ·exact e
   ·omega
  have:∀ (S:List Int),(∀ x∈S,x=p.ae)→iM (frV l v p) n p.ae (S ++ [p.ah]) p.ae=none:=by
   intro S
   induction S with
   | nil =>
    intro _
    show (if _ then _ else _)=none
    split
    ·rfl
    ·rw [if_neg (by simp; omega)]; rfl
   | cons x S ih =>
    intro hS
    obtain rfl:=hS x List.mem_cons_self
    show (if _ then _ else _)=none
    split
    ·exact ih (fun y hy=>hS y (List.mem_cons_of_mem _ hy))
    ·rw [if_neg (by simp; omega)]; exact ih (fun y hy=>hS y (List.mem_cons_of_mem _ hy))
  rw [this S hS]
  intro t ht
  have:=ht.1; have:=ht.2.1
  omega
 ·refine iZ _ _ _ _ hn _ _ _ (fun x hx=>?_) ?_ (fun y hy=>?_) (by simp) (fun c' hc' u q1 q2 q3=>?_) (Int.le_refl _) (Int.le_refl _) (fun u q1 q2=>by omega) (fun t ht=>ht.1) (by omega)
  ·rcases List.mem_append.1 hx with e | e
   ·exact h1 x e
   ·rw [List.mem_singleton.1 e]; exact hle
  ·refine List.pairwise_append.2 ⟨h2,List.pairwise_singleton _ _,fun x hx y hy=>?_⟩
   rw [List.mem_singleton.1 hy]
   rcases hC x (List.mem_cons_of_mem _ hx) with e | e <;> omega
  ·rcases List.mem_cons.1 hy with e | e
   ·omega
   ·rcases List.mem_append.1 e with e | e
    ·rcases hC y (List.mem_cons_of_mem _ e) with e | e <;> omega
    ·rw [List.mem_singleton.1 e]; exact Int.le_refl _
  ·unfold frV
   rw [vA l p.aw u c' (fun o ho=>?_)]
   have hac:p.ae≤c':=by
    rcases List.mem_cons.1 hc' with e | e
    ·omega
    ·rcases List.mem_append.1 e with e | e
     ·exact h1 _ e
     ·rw [List.mem_singleton.1 e]; exact hle
   have key:∀ z∈[o.ae,o.ah],c' < z→u < z:=fun z hz hcz=>by
    rcases Int.lt_or_le u z with q | q
    ·exact q
    ·refine q3 z ?_ hcz
     have:z∈p.ae::l.flatMap (chs p):=List.mem_cons_of_mem _ (List.mem_flatMap.2 ⟨o,ho,List.mem_filter.2 ⟨hz,by unfold pj; simp only [Bool.and_eq_true,decide_eq_true_eq]; omega⟩⟩)
     rcases List.mem_cons.1 ((hm z).2 this) with e | e
     ·rw [e]; exact List.mem_cons_self
     ·exact List.mem_cons_of_mem _ (List.mem_append_left _ e)
   have k1:=key o.ae (by simp)
   have k2:=key o.ah (by simp)
   unfold br
   have e1:decide (o.ae≤u)=decide (o.ae≤c'):=by
    apply decide_eq_decide.2
    constructor
    ·intro h
     rcases Int.lt_or_le c' o.ae with q | q
     ·have:=k1 q; omega
     ·exact q
    ·intro h; omega
   have e2:decide (u < o.ah)=decide (c' < o.ah):=by
    apply decide_eq_decide.2
    constructor
    ·intro h; omega
    ·exact k2
   rw [e1,e2]
theorem v8 (l:List ab) (v:ao) (p:ab) (n:Int) : cK l v p n=Option.bind (ta p n) fun r=>if (!r)=true then some (0,1) else Option.bind (chP l p) fun r=>Option.bind (loO r 1) fun z=>Option.bind (aN (fun st:Int×Int×Int×Int=>if decide (st.2.2.2 < (z.length:Int))=true then Option.bind (cp z st.2.2.2) fun x1=>Option.bind (cp r st.2.2.2) fun x2=>Option.bind (atP l p.aw x2) fun a=>Option.bind (qF a p.am) fun b=>Option.bind (pz b v) fun c=>if (!c)=true then some (.inl (st.1,st.2.1,x1,i64.wrap (st.2.2.2 + 1))) else if decide (i64.wrap (x1 - st.2.2.1)≥n)=true then some (.inr (.inr (st.2.2.1,0))) else some (.inl (st.1,st.2.1,st.2.2.1,i64.wrap (st.2.2.2 + 1))) else some (.inr (.inl (st.1,st.2.1,st.2.2.1,st.2.2.2)))) ar ((0:Int),(0:Int),p.ae,(0:Int))) fun o:(Int×Int×Int×Int)⊕(Int×Int)=>match o with | .inl _=>some (0,16) | .inr v=>some v:=by kernel_rfl
def PlQ (W:Option Int) (r:(Int×Int×Int×Int)⊕(Int×Int)) : Prop:=match W with | some t=>r = .inr (t,0) | none=>∃ q,r = .inl q
def PlS (l:List ab) (v:ao) (p:ab) (n:Int) (r:Int×Int) : Prop:=(cS p n=false∧r=(0,1))∨(cS p n=true∧((∃ t,r=(t,0)∧OkT (frV l v p) p.ae p.ah n t∧∀ t',OkT (frV l v p) p.ae p.ah n t'→t≤t')∨(r=(0,16)∧∀ t',¬ OkT (frV l v p) p.ae p.ah n t')))
theorem PlS.unique {l:List ab} {v:ao} {p:ab} {n:Int} {r r':Int×Int} (h:PlS l v p n r) (h':PlS l v p n r') : r=r':=by
 rcases h with ⟨b,rfl⟩ | ⟨b,h⟩ <;> rcases h' with ⟨b',rfl⟩ | ⟨b',h'⟩
 ·rfl
 ·rw [b] at b'; cases b'
 ·rw [b] at b'; cases b'
 ·rcases h with ⟨t,rfl,h1,h2⟩ | ⟨rfl,h1⟩ <;> rcases h' with ⟨t',rfl,h1',h2'⟩ | ⟨rfl,h1'⟩
  ·have:=h2 t' h1'; have:=h2' t h1
   rw [show t=t' by omega]
  ·exact absurd h1 (h1' t)
  ·exact absurd h1' (h1 t')
  ·rfl
theorem lv {p:ab} {n:Int} (h:cS p n=true) : 1≤n∧n≤1000∧0≤p.ae∧p.ae≤1000000∧0≤p.ah∧p.ah≤1000000∧0≤p.am.aL∧p.am.aL≤1073741824∧0≤p.am.an∧p.am.an≤1073741824:=by
 unfold cS lA at h
 simp only [Bool.and_eq_true,decide_eq_true_eq] at h
 omega
theorem ko (l:List ab) (v:ao) (p:ab) (n:Int) (hl:l.length≤100000) : ∃ r,cK l v p n=some r∧PlS l v p n r:=by
 rw [v8,vy]
 simp only [zb]
 cases hb:cS p n with
 | false=>exact ⟨_,rfl,.inl ⟨hb,rfl⟩⟩
 | true =>
  obtain ⟨n1,n2,f1,f2,u1,u2,_⟩:=lv hb
  rw [if_neg (by decide),zA l p hl]
  obtain ⟨S,e1,h1,h2,hm⟩:=sg l p
  have hT:si l p=p.ae::(S ++ [p.ah]):=by unfold si; rw [e1]; rfl
  have hW:=qG l v p n n1 S h1 h2 hm
  obtain ⟨z,hz⟩ : ∃ z,z=S ++ [p.ah]:=⟨_,rfl⟩
  have hbz:∀ x∈z,0≤x∧x≤1000000:=fun x hx=>by
   rw [hz] at hx
   rcases List.mem_append.1 hx with e | e
   ·rcases List.mem_cons.1 ((hm x).1 (List.mem_cons_of_mem _ e)) with e | e
    ·omega
    ·obtain ⟨o,_,h2⟩:=List.mem_flatMap.1 e
     have:=(List.mem_filter.1 h2).2
     unfold pj at this
     simp only [Bool.and_eq_true,decide_eq_true_eq] at this
     omega
   ·rw [List.mem_singleton.1 e]; omega
  have hzl:z.length≤1000000:=by
   have e2:(p.ae::S).length=(p.ae::l.flatMap (chs p)).length:=by rw [← e1,List.length_mergeSort]
   have:=p9 l p
   rw [hz,List.length_append,List.length_singleton]
   simp only [List.length_cons] at e2
   omega
  rw [hT,← hz]
  rw [← hz] at hW
  simp only [zb]
  have h9:loO (p.ae::z) 1=some z:=zh (l:=p.ae::z) (k:=1) (by simp)
  rw [h9]
  simp only [zb]
  obtain ⟨W,hW2⟩ : ∃ W,W=iM (frV l v p) n p.ae z p.ae:=⟨_,rfl⟩
  obtain ⟨r,k1,k2⟩:=bu (f:=fun st:Int×Int×Int×Int=>if decide (st.2.2.2 < (z.length:Int))=true then Option.bind (cp z st.2.2.2) fun x1=>Option.bind (cp (p.ae::z) st.2.2.2) fun x2=>Option.bind (atP l p.aw x2) fun a=>Option.bind (qF a p.am) fun b=>Option.bind (pz b v) fun c=>if (!c)=true then some (.inl (st.1,st.2.1,x1,i64.wrap (st.2.2.2 + 1))) else if decide (i64.wrap (x1 - st.2.2.1)≥n)=true then some (.inr (.inr (st.2.2.1,0))) else some (.inl (st.1,st.2.1,st.2.2.1,i64.wrap (st.2.2.2 + 1))) else some (.inr (.inl (st.1,st.2.1,st.2.2.1,st.2.2.2))))
   (fun st=>∃ (k:Nat) (c:Int),st.2.2.2=(k:Int)∧k≤z.length∧(p.ae::z)[k]? = some c∧iM (frV l v p) n c (z.drop k) st.2.2.1=W∧0≤st.2.2.1∧st.2.2.1≤1000000) (fun st=>z.length - st.2.2.2.toNat) (PlQ W) (fun st ⟨k,c,g1,g2,g3,g4,g5,g6⟩=>by
    simp only [g1]
    rcases Nat.lt_or_ge k z.length with hlt | hge
    ·have d1:decide ((k:Int) < (z.length:Int))=true:=by simpa using hlt
     have hx:=hbz _ (List.getElem_mem hlt)
     rw [if_pos d1,cN (zq hlt)]
     simp only [zb]
     rw [cN g3]
     simp only [zb,qd l _ _ (Nat.le_trans hl (by decide)),qE,uL]
     rw [List.drop_eq_getElem_cons hlt] at g4
     unfold iM at g4
     rw [eL hlt hzl,bG (show -9223372036854775808≤z[k] - st.2.2.1 by omega) (show z[k] - st.2.2.1≤9223372036854775807 by omega)]
     have hmu:z.length - (((k + 1:Nat) : Int)).toNat < z.length - ((k:Nat) : Int).toNat:=by simp only [zt]; omega
     change (if (!jU (dU (atV l p.aw c) p.am) v)=true then _ else _)=W at g4
     cases hf:jU (dU (atV l p.aw c) p.am) v with
     | false =>
      rw [hf,if_pos (by rfl)] at g4
      rw [if_pos (by rfl)]
      exact .inl ⟨_,rfl,⟨k + 1,z[k],rfl,hlt,by rw [List.getElem?_cons_succ]; exact zq hlt,g4,hx.1,hx.2⟩,hmu⟩
     | true =>
      rw [hf,if_neg (by decide)] at g4
      rw [if_neg (by decide)]
      split
      ·rename_i hd
       rw [if_pos hd] at g4
       subst g4
       exact .inr ⟨_,rfl,rfl⟩
      ·rename_i hd
       rw [if_neg hd] at g4
       exact .inl ⟨_,rfl,⟨k + 1,z[k],rfl,hlt,by rw [List.getElem?_cons_succ]; exact zq hlt,g4,g5,g6⟩,hmu⟩
    ·have d1:decide ((k:Int) < (z.length:Int))=false:=by simp; omega
     rw [if_neg (by rw [d1]; decide)]
     rw [List.drop_of_length_le hge] at g4
     unfold iM at g4
     subst g4
     exact .inr ⟨_,rfl,_,rfl⟩) ar (0,0,p.ae,0) ⟨0,p.ae,rfl,Nat.zero_le _,rfl,hW2.symm,f1,f2⟩ (by have:=di hzl; show z.length - (0:Int).toNat < ar; omega)
  rw [k1]
  rw [← hW2] at hW
  cases W with
  | some t =>
   have k2:r = .inr (t,0):=k2
   subst k2
   exact ⟨_,rfl,.inr ⟨hb,.inl ⟨t,rfl,hW.1,hW.2⟩⟩⟩
  | none =>
   obtain ⟨q,rfl⟩ : ∃ q,r = .inl q:=k2
   exact ⟨_,rfl,.inr ⟨hb,.inr ⟨rfl,hW⟩⟩⟩
end Go.Proofs.Ytkmpjphbkhpgbaa
