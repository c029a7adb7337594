/- My texts, in one. -/
import Derived.Test.YtaknepbdbappdaaGreatZB
set_option linter.all false
set_option maxRecDepth 100000
set_option maxHeartbeats 4000000
namespace Go.Proofs.YtaknepbdbappdaaGreat
open Go.RowKit
open IntKind (i64)
open Go.Proofs.Tryz (prog)
section
def Le (p p':PS) : Prop:=∀ (n:Nat) (w0:WM) (F0:Nat→Prop) (a:Act) (w:World),ow n w0 F0 p a w→ow n w0 F0 p' a w
theorem Le.refl (p:PS) : Le p p:=fun _ _ _ _ _ h=>h
theorem Le.trans {p p' p'':PS} (h:Le p p') (h':Le p' p'') : Le p p'':=fun n w0 F0 a w hc=>h' n w0 F0 a w (h n w0 F0 a w hc)
theorem uB {P:Program} {n:Nat} {c:Code} {Q:Exit→PS→Prop} {p p':PS} (hl:Le p p') (h:PWP P n c Q p') : PWP P n c Q p:=fun w0 F0 a w hc=>h w0 F0 a w (hl n w0 F0 a w hc)
theorem fM {P:Program} {n:Nat} {c:Code} {Q Q':Exit→PS→Prop} {p:PS} (h:PWP P n c Q p) (hq:∀ e p',Q e p'→∃ p'',Le p' p''∧Q' e p'') : PWP P n c Q' p :=
 fun w0 F0 a w hc=>wp_mono (h w0 F0 a w hc) fun e a' w' ⟨s',h1,h2⟩=>by
  obtain ⟨p'',h3,h4⟩:=hq e s' h1
  exact ⟨p'',h4,h3 n w0 F0 a' w' h2⟩
structure ib (s:SS) (p:PS) : Prop where
 sl:∀ i,bj s.bx (lkV s.sl i) (p.t i)
 bx:∀ t b,lkB s.bx t=some b→mt s.bx true (some b) (p.b t)
theorem mt.some {B:List (Nat×Option bc)} {o o':Bool} {b:bc} {q:Option Box} (h:mt B o (some b) q) : mt B o' (some b) q:=by cases b <;> exact h
theorem Sim.w {s:SS} {p:PS} (h:Sim s p) : ib s p:=⟨h.sl,fun t b hb=>by have:=h.bx t; rw [hb] at this; exact this.some⟩
mutual
def XC:SV→PV→PV
 | .junk,_=>.junk
 | .ag cs,.ag qs=>.ag (oU cs qs)
 | .tup cs,.tup qs=>.tup (oU cs qs)
 | .fn _ ps qs,.fn f ps' qs'=>.fn f (oU ps ps') (oU qs qs')
 | _,q=>q
def oU:List SV→List PV→List PV
 | [],_=>[]
 | _,[]=>[]
 | c::cs,q::qs=>XC c q::oU cs qs
end
def Kn:bc→Box→Box
 | .st _ cs,.st ty qs=>.st ty (oU cs qs)
 | _,b=>b
def xN (s:SS) (p:PS) : PS:=⟨fun i=>XC (lkV s.sl i) (p.t i),fun t=>match lkB s.bx t with | none=>none | some b=>(p.b t).map (Kn b)⟩
theorem gp:∀ (cs:List SV) (qs:List PV),cs.length=qs.length→(oU cs qs).length=qs.length
 | [],[],_=>rfl
 | [],_ :: _,h=>by simp at h
 | _ :: _,[],h=>by simp at h
 | c::cs,q::qs,h=>by simp only [oU,List.length_cons,gp cs qs (by simpa using h)]
theorem gr:∀ (cs:List SV) (qs:List PV) (j:Nat) (r:PV),(oU cs qs)[j]? = some r→∃ c q,cs[j]? = some c∧qs[j]? = some q∧r=XC c q
 | [],qs,j,r,h=>by simp [oU] at h
 | _ :: _,[],j,r,h=>by simp [oU] at h
 | c::cs,q::qs,0,r,h=>by simp [oU] at h; exact ⟨c,q,rfl,rfl,h.symm⟩
 | c::cs,q::qs,j + 1,r,h=>by
  simp [oU] at h
  simpa using gr cs qs j r h
theorem LD {B:List (Nat×Option bc)} {v:SV} {q:PV} (h:bj B v q) : bj B v (XC v q):=by
 induction h with
 | junk q=>exact .junk _
 | d c y h=>exact .d c y h
 | ag cs qs hl hr ih =>
  refine .ag cs _ (by rw [gp cs qs hl]; exact hl) (fun j c r h1 h2=>?_)
  obtain ⟨c',q',h3,h4,rfl⟩:=gr cs qs j r h2
  rw [h1] at h3
  injection h3 with h3
  subst h3
  exact ih j c q' h1 h4
 | tup cs qs hl hr ih =>
  refine .tup cs _ (by rw [gp cs qs hl]; exact hl) (fun j c r h1 h2=>?_)
  obtain ⟨c',q',h3,h4,rfl⟩:=gr cs qs j r h2
  rw [h1] at h3
  injection h3 with h3
  subst h3
  exact ih j c q' h1 h4
 | ptr t o ty cs hb=>exact .ptr t o ty cs hb
 | row t n e k ty xs pins hb hn=>exact .row t n e k ty xs pins hb hn
 | re t p o n i e k ty xs pins pin hb hn hp hi=>exact .re t p o n i e k ty xs pins pin hb hn hp hi
 | vw t lo hi n e k ty xs pins hb hn=>exact .vw t lo hi n e k ty xs pins hb hn
 | fe cs ds h hn=>exact .fe cs ds h hn
 | fn f ps qs ps' qs' hl hr hl2 hr2 ih ih2 =>
  refine .fn f ps qs _ _ (by rw [gp ps ps' hl]; exact hl) (fun j c r h1 h2=>?_) (by rw [gp qs qs' hl2]; exact hl2) (fun j c r h1 h2=>?_)
  ·obtain ⟨c',q',h3,h4,rfl⟩:=gr ps ps' j r h2
   rw [h1] at h3
   injection h3 with h3
   subst h3
   exact ih j c q' h1 h4
  ·obtain ⟨c',q',h3,h4,rfl⟩:=gr qs qs' j r h2
   rw [h1] at h3
   injection h3 with h3
   subst h3
   exact ih2 j c q' h1 h4
theorem XD {B:List (Nat×Option bc)} {cs:List SV} {qs:List PV} (h:ce B cs qs) : ce B cs (oU cs qs) :=
 ⟨by rw [gp cs qs h.len]; exact h.len,fun j c r h1 h2=>by
  obtain ⟨c',q',h3,h4,rfl⟩:=gr cs qs j r h2
  rw [h1] at h3
  injection h3 with h3
  subst h3
  exact LD (h.rep j c q' h1 h4)⟩
section
variable {ρ : Nat→Value} {b b':Nat→Option Box} {w:World} {F:Nat→Prop} {B:List (Nat×Option bc)}
theorem L7 (hst:∀ t ty cs ty' qs,lkB B t=some (.st ty cs)→b t=some (.st ty' qs)→∃ ty2 qs2,b' t=some (.st ty2 qs2)) (hrw:∀ t e k ty xs pins,lkB B t=some (.rw e k ty xs pins)→b' t=b t) {v:SV} {q:PV} (hv:bj B v q) :
  ∀ {x:Value},aR ρ b w F x q→aR ρ b' w F x (XC v q):=by
 induction hv with
 | junk q=>exact fun _=>.junk _
 | d c y h =>
  intro x hp
  cases hp with
  | d _ _ h=>exact .d _ _ h
 | ag cs qs hl hr ih =>
  intro x hp
  cases hp with
  | ag xs _ hl2 h1 hr2 =>
   refine .ag xs _ (by rw [gp cs qs hl]; exact hl2) h1 (fun j x r h2 h3=>?_)
   obtain ⟨c,q,h4,h5,rfl⟩:=gr cs qs j r h3
   exact ih j c q h4 h5 (hr2 j x q h2 h5)
 | tup cs qs hl hr ih =>
  intro x hp
  cases hp with
  | tup xs _ hl2 hr2 =>
   refine .tup xs _ (by rw [gp cs qs hl]; exact hl2) (fun j x r h2 h3=>?_)
   obtain ⟨c,q,h4,h5,rfl⟩:=gr cs qs j r h3
   exact ih j c q h4 h5 (hr2 j x q h2 h5)
 | ptr t o ty cs hb =>
  intro x hp
  cases hp with
  | ptr _ _ g ty' qs h1 h2 =>
   obtain ⟨ty2,qs2,h3⟩:=hst t ty cs ty' qs hb h1
   exact .ptr t o g ty2 qs2 h3 h2
 | row t n e k ty xs pins hb hn =>
  intro x hp
  cases hp with
  | row _ _ A c e2 k2 es h1 h2 h3 h4 h5=>exact .row t n A c e2 k2 es (by rw [hrw t e k ty xs pins hb]; exact h1) h2 h3 h4 h5
 | re t p o n i e k ty xs pins pin hb hn hp hi =>
  intro x hx
  cases hx with
  | re _ _ _ _ a e2 k2 es h1 h2 h3 h4=>exact .re t n i o a e2 k2 es (by rw [hrw t e k ty xs pins hb]; exact h1) h2 h3 h4
 | vw t lo hi n e k ty xs pins hb hn=>
  intro x hp
  cases hp with
  | vw _ _ _ _ A m c e2 k2 es h1 h2 h3 h4 h5 h6=>exact .vw t n lo hi A m c e2 k2 es (by rw [hrw t e k ty xs pins hb]; exact h1) h2 h3 h4 h5 h6
 | fe cs ds h hn =>
  intro x hx
  cases hx with
  | fe a _ us h1 h2 h3=>exact .fe a ds us h1 h2 h3
 | fn f ps qs ps' qs' hl hr hl2 hr2 ih ih2 =>
  intro x hx
  cases hx with
  | fn _ xs ys _ _ m1 m2 m3 m4 =>
   refine .fn f xs ys _ _ (by rw [gp ps ps' hl]; exact m1) (fun j x r h2 h3=>?_) (by rw [gp qs qs' hl2]; exact m3) (fun j x r h2 h3=>?_)
   ·obtain ⟨c,q,h4,h5,rfl⟩:=gr ps ps' j r h3
    exact ih j c q h4 h5 (m2 j x q h2 h5)
   ·obtain ⟨c,q,h4,h5,rfl⟩:=gr qs qs' j r h3
    exact ih2 j c q h4 h5 (m4 j x q h2 h5)
end
theorem sa {s:SS} {p:PS} (h:ib s p) : Sim ⟨s.sl,s.bx,s.pr,s.ro,[]⟩ (xN s p):=by
 refine ⟨fun i=>LD (h.sl i),fun t=>?_⟩
 show mt s.bx (aF [] t) (lkB s.bx t) (match lkB s.bx t with | none=>none | some b=>(p.b t).map (Kn b))
 cases hb:lkB s.bx t with
 | none=>exact fun _=>rfl
 | some bx =>
  have h1:=h.bx t bx hb
  cases bx with
  | st ty cs =>
   obtain ⟨qs,h2,h3⟩:=h1
   rw [h2]
   exact ⟨oU cs qs,rfl,XD h3⟩
  | rw e k ty xs pins =>
   obtain ⟨h2,h3⟩:=h1
   rw [h2]
   exact ⟨rfl,h3⟩
theorem A8 {s:SS} {p:PS} (h:ib s p) : Le p (xN s p):=by
 intro n w0 F0 a w ⟨h1,h2,ρ,F,hi,hev⟩
 have hst:∀ t ty cs ty' qs,lkB s.bx t=some (.st ty cs)→p.b t=some (.st ty' qs)→∃ ty2 qs2,(xN s p).b t=some (.st ty2 qs2):=fun t ty cs ty' qs k1 k2=>by
  refine ⟨ty',oU cs qs,?_⟩
  show (match lkB s.bx t with | none=>none | some b=>(p.b t).map (Kn b)) = _
  rw [k1,k2]; rfl
 have hrw:∀ t e k ty xs pins,lkB s.bx t=some (.rw e k ty xs pins)→(xN s p).b t=p.b t:=fun t e k ty xs pins k1=>by
  show (match lkB s.bx t with | none=>none | some b=>(p.b t).map (Kn b)) = _
  rw [k1,(h.bx t _ k1).1]; rfl
 have hreg:∀ t q,p6 ρ p.b t q→p6 ρ (xN s p).b t q:=fun t q k=>by
  cases hl:lkB s.bx t with
  | none=>exact k.less (.inl (by show (match lkB s.bx t with | none=>none | some b=>(p.b t).map (Kn b)) = _; rw [hl]))
  | some b =>
   have hc:(xN s p).b t=(p.b t).map (Kn b):=by show (match lkB s.bx t with | none=>none | some b=>(p.b t).map (Kn b)) = _; rw [hl]
   cases b with
   | st ty cs =>
    refine k.mono (fun e=>by rw [hc,e]; rfl) (fun ty' qs e=>⟨⟨ty',_,by rw [hc,e]; rfl⟩,rfl⟩) (fun e k' es he=>⟨e,es,by rw [hc,he]; rfl,Nat.le_refl _,fun _=>rfl⟩)
   | rw e k' ty xs pins=>exact k.same (hrw t e k' ty xs pins hl) rfl
 have hb:∀ t Bx,(xN s p).b t=some Bx→∃ b B0,lkB s.bx t=some b∧p.b t=some B0∧Bx=Kn b B0:=fun t Bx k=>by
  have k:(match lkB s.bx t with | none=>none | some b=>(p.b t).map (Kn b))=some Bx:=k
  cases hl:lkB s.bx t with
  | none=>rw [hl] at k; cases k
  | some b =>
   rw [hl] at k
   rw [zm] at k
   obtain ⟨B0,k1,k2⟩:=k
   exact ⟨b,B0,rfl,k1,k2.symm⟩
 refine ⟨h1,h2,ρ,F,⟨hi.ext,hi.f0,hi.flt,hi.fnew,fun t Bx k=>?_,fun t t' Bx Bx' g k1 k2=>?_,fun t q hq=>⟨(hi.reg t q hq).1,hreg t q (hi.reg t q hq).2⟩⟩,fun i=>L7 hst hrw (h.sl i) (hev i)⟩
 ·obtain ⟨b,B0,k1,k2,rfl⟩:=hb t Bx k
  have hbx:=hi.box t B0 k2
  have hs:=h.bx t b k1
  cases b with
  | st ty cs =>
   obtain ⟨qs,k3,k4⟩:=hs
   rw [k2] at k3
   injection k3 with k3
   subst k3
   cases hbx with
   | st _ _ g xs hρ hg hF hh hl h1x hr =>
    refine .st ty _ g xs hρ hg hF hh (by rw [gp cs qs k4.len]; exact hl) h1x (fun j x r m1 m2=>?_)
    obtain ⟨c,q,m3,m4,rfl⟩:=gr cs qs j r m2
    exact L7 hst hrw (k4.rep j c q m3 m4) (hr j x q m1 m4)
  | rw e k ty xs pins =>
   obtain ⟨k3,_⟩:=hs
   rw [k2] at k3
   injection k3 with k3
   subst k3
   cases hbx with
   | rw _ _ _ xs' hk0 ho hF hk hl hr hown=>exact .rw _ _ _ xs' hk0 ho hF hk hl hr hown
   | gn _ _ _ hρ=>exact .gn _ _ _ hρ
 ·obtain ⟨_,B1,_,m1,_⟩:=hb t Bx k1
  obtain ⟨_,B2,_,m2,_⟩:=hb t' Bx' k2
  exact hi.dist t t' B1 B2 g m1 m2
def abh (t:Nat) (es:List (List D)) (p:PS) : PS:=⟨fun i=>frz t es (p.t i),fun i=>if i=t then none else (p.b i).map (Bf t es)⟩
theorem WZ {p:PS} (t:Nat) {e k:Nat} {es:List (List D)} (hb0:p.b t=some (.rw e k es)) : Le p (abh t es p):=by
 intro n w0 F0 a w ⟨h1,h2,ρ,F,hi,hev⟩
 have hb':∀ i,(abh t es p).b i=if i=t then none else (p.b i).map (Bf t es):=fun i=>rfl
 have hbt:=(hi.box t _ hb0)
 refine ⟨h1,h2,ρ,fun g=>F g∨blk (ρ t)=some g,⟨hi.ext,fun g hg=>.inl (hi.f0 g hg),?_,?_,fun t' B h=>?_,fun t1 t2 B1 B2 g k1 k2 hne=>?_,hi.reg_frz hb'⟩,fun i=>(hev i).frz hi hb0 hb'⟩
 ·rintro g (hg | hg)
  ·exact hi.flt g hg
  ·exact (hbt.lt hg).1
 ·rintro g (hg | hg)
  ·exact hi.fnew g hg
  ·exact .inr (hbt.lt hg).2.1
 ·rw [hb'] at h
  split at h
  ·cases h
  ·rename_i ht
   rw [zm] at h
   obtain ⟨B0,hB0,rfl⟩:=h
   have hnF:∀ g,blk (ρ t')=some g→¬ (F g∨blk (ρ t)=some g):=by
    rintro g hg (h | h)
    ·exact ((hi.box t' B0 hB0).lt hg).2.2 h
    ·exact hi.dist t' t B0 _ g hB0 hb0 ht hg h
   cases hi.box t' B0 hB0 with
   | st ty cs g xs hρ hg hF hh hl h1 hr =>
    refine .st ty _ g xs hρ hg (hnF g (by rw [hρ]; rfl)) hh (by rw [iu]; exact hl) h1 (fun j x c k1 k2=>?_)
    obtain ⟨d,h4,rfl⟩:=iw t es cs j c k2
    exact (hr j x d k1 h4).frz hi hb0 hb'
   | rw e' k' es' xs hk0 ho hF hk hl hr hown=>exact .rw e' k' es' xs hk0 ho hnF hk hl (fun j x d k1 k2=>(hr j x d k1 k2).mono (fun g h=>.inl h) (fun _ _=>rfl)) hown
   | gn e' k' es' hρ=>exact .gn e' k' es' hρ
 ·rw [hb'] at k1 k2
  split at k1
  ·cases k1
  ·split at k2
   ·cases k2
   ·rw [zm] at k1 k2
    obtain ⟨B1',k1,_⟩:=k1
    obtain ⟨B2',k2,_⟩:=k2
    exact hi.dist t1 t2 B1' B2' g k1 k2 hne
def Xh (t:Nat) (c:SD) : bc→bc
 | .st ty cs=>.st ty (n8 t c cs)
 | b=>b
theorem lz (t:Nat) (c:SD) : ∀ (l:List (Nat×Option bc)) (i:Nat),lkB (sp t c l) i=(lkB l i).map (Xh t c)
 | [],_=>rfl
 | (j,none)::l,i=>by simp only [sp,av,lz t c l i]; split <;> rfl
 | (j,some (.st ty cs))::l,i=>by simp only [sp,av,lz t c l i]; split <;> rfl
 | (j,some (.rw e k ty xs pins))::l,i=>by simp only [sp,av,lz t c l i]; split <;> rfl
theorem Dr (t:Nat) (c:SD) : ∀ (l:List (Nat×SV)) (i:Nat),lkV (E0 t c l) i=uP t c (lkV l i)
 | [],_=>rfl
 | (j,v)::l,i=>by simp only [E0,cT,Dr t c l i]; split <;> rfl
theorem mX (t:Nat) (c:SD) : ∀ (cs:List SV) (j:Nat),(n8 t c cs)[j]? = (cs[j]?).map (uP t c)
 | [],j=>by simp [n8]
 | v::cs,0=>by simp [n8]
 | v::cs,j + 1=>by simpa [n8] using mX t c cs j
theorem kX (t:Nat) (c:SD) : ∀ cs:List SV,(n8 t c cs).length=cs.length
 | []=>rfl
 | v::cs=>by simp [n8,kX t c cs]
theorem bj.frz {B B':List (Nat×Option bc)} {t e k:Nat} {ty:Ty} {xs:List ty.den} {pins:List (Nat×Pin)} (ht:lkB B t=some (.rw e k ty xs pins)) (hB:VV t B B') {v:SV} {q:PV} (h:bj B v q) : bj B' (uP t (.sl ty xs) v) (Go.Proofs.YtaknepbdbappdaaGreat.frz t (xs.map (bH ty)) q):=by
 induction h with
 | junk q=>exact .junk _
 | d c y h=>exact .d c y h
 | ag cs qs hl hr ih =>
  refine .ag _ _ (by rw [kX,iu]; exact hl) (fun j c r h1 h2=>?_)
  rw [mX,zm] at h1
  obtain ⟨c',h3,rfl⟩:=h1
  obtain ⟨q',h4,rfl⟩:=iw _ _ qs j r h2
  exact ih j c' q' h3 h4
 | tup cs qs hl hr ih =>
  refine .tup _ _ (by rw [kX,iu]; exact hl) (fun j c r h1 h2=>?_)
  rw [mX,zm] at h1
  obtain ⟨c',h3,rfl⟩:=h1
  obtain ⟨q',h4,rfl⟩:=iw _ _ qs j r h2
  exact ih j c' q' h3 h4
 | ptr t' o ty2 cs hb=>obtain ⟨ty',cs',h1⟩:=hB.st t' ty2 cs hb; exact .ptr t' o ty' cs' h1
 | row t' n e2 k2 ty2 xs2 pins2 hb hn =>
  simp only [uP,Go.Proofs.YtaknepbdbappdaaGreat.frz,cU]
  by_cases h:t' = t
  ·subst h
   rw [ht] at hb
   injection hb with hb
   injection hb with e1 e2 e3 e4 e5
   subst e3
   have e4:=eq_of_heq e4
   subst e4
   simp only [decide_true,if_true,List.length_map,hn]
   exact OQ ty xs
  ·simp only [h,decide_false,if_false]
   exact .row t' n e2 k2 ty2 xs2 pins2 (hB.rw t' h _ _ _ _ _ hb) hn
 | re t' p o n i e2 k2 ty2 xs2 pins2 pin hb hn hp hi =>
  simp only [uP,Go.Proofs.YtaknepbdbappdaaGreat.frz,cU]
  by_cases h:t' = t
  ·simp only [h,decide_true]; exact .junk _
  ·simp only [h,decide_false,if_false]
   exact .re t' p o n i e2 k2 ty2 xs2 pins2 pin (hB.rw t' h _ _ _ _ _ hb) hn hp hi
 | vw t' lo hi n e2 k2 ty2 xs2 pins2 hb hn=>
  simp only [uP,Go.Proofs.YtaknepbdbappdaaGreat.frz,cU]
  by_cases h:t' = t
  ·simp only [h,decide_true]; exact .junk _
  ·simp only [h,decide_false,if_false]
   exact .vw t' lo hi n e2 k2 ty2 xs2 pins2 (hB.rw t' h _ _ _ _ _ hb) hn
 | fe cs ds h hn=>exact .fe cs ds h hn
 | fn f ps qs ps' qs' hl hr hl2 hr2 ih ih2 =>
  refine .fn f _ _ _ _ (by rw [kX,iu]; exact hl) (fun j c r h1 h2=>?_) (by rw [kX,iu]; exact hl2) (fun j c r h1 h2=>?_)
  ·rw [mX,zm] at h1
   obtain ⟨c',h3,rfl⟩:=h1
   obtain ⟨q',h4,rfl⟩:=iw _ _ ps' j r h2
   exact ih j c' q' h3 h4
  ·rw [mX,zm] at h1
   obtain ⟨c',h3,rfl⟩:=h1
   obtain ⟨q',h4,rfl⟩:=iw _ _ qs' j r h2
   exact ih2 j c' q' h3 h4
mutual
theorem MF {pr:List Nat} {t:Nat} {c:SD} (ht:aF pr t=false) : ∀ v:SV,lr pr v=true→uP t c v=v
 | .junk,_=>rfl
 | .d _,_=>rfl
 | .fe _,_=>rfl
 | .ptr _ _,_=>rfl
 | .row t',h=>by
  have:=Ex ht (show aF pr t' = true from h)
  simp only [uP,cU,this,decide_false]
 | .re _ _ _,h=>by cases h
 | .vw _ _ _,h=>by cases h
 | .ag cs,h=>by simp only [uP]; rw [so ht cs h]
 | .tup cs,h=>by simp only [uP]; rw [so ht cs h]
 | .fn f ps qs,h=>by
  have h:(ei pr ps&&ei pr qs)=true:=h
  rw [Bool.and_eq_true] at h
  simp only [uP]; rw [so ht ps h.1,so ht qs h.2]
theorem so {pr:List Nat} {t:Nat} {c:SD} (ht:aF pr t=false) : ∀ cs:List SV,ei pr cs=true→n8 t c cs=cs
 | [],_=>rfl
 | v::cs,h=>by
  simp only [ei,Bool.and_eq_true] at h
  simp only [n8]
  rw [MF ht v h.1,so ht cs h.2]
end
mutual
theorem Uf {t:Nat} {c:SD} : ∀ v:SV,pO v=true→uP t c v=v
 | .junk,_=>rfl
 | .d _,_=>rfl
 | .fe _,_=>rfl
 | .ptr _ _,_=>rfl
 | .row _,h=>by cases h
 | .re _ _ _,h=>by cases h
 | .vw _ _ _,h=>by cases h
 | .ag cs,h=>by simp only [uP]; rw [mW cs h]
 | .tup cs,h=>by simp only [uP]; rw [mW cs h]
 | .fn f ps qs,h=>by
  have h:(match cy ps with | true=>cy qs | false=>false)=true:=h
  split at h
  ·rename_i h1; simp only [uP]; rw [mW ps h1,mW qs h]
  ·cases h
theorem mW {t:Nat} {c:SD} : ∀ cs:List SV,cy cs=true→n8 t c cs=cs
 | [],_=>rfl
 | v::cs,h=>by
  simp only [cy] at h
  split at h
  ·rename_i h1
   simp only [n8]
   rw [Uf v h1,mW cs h]
  ·cases h
end
theorem SN {sc:List Nat} {s s':SS} {p:PS} {t:Nat} (hpr:mp s) (hs:ib s p) (h:PJ t s=some s') : ∃ p',Le p p'∧ib s' p'∧∀ W,dN sc W s s':=by
 unfold PJ at h
 split at h
 ·rename_i e k ty xs pins hb
  split at h
  ·rename_i ht
   injection h with h
   subst h
   have hpb:p.b t=some (.rw e k (xs.map (bH ty))):=(hs.bx t _ hb).1
   have hX:VV t s.bx ((t,none)::sp t (.sl ty xs) s.bx):=by
    refine ⟨fun t' ht' e2 k2 ty2 xs2 pins2 h=>?_,fun t' ty2 cs2 h=>?_⟩
    ·rw [av,if_neg ht',lz,h]; rfl
    ·have : ¬ t' = t:=fun e=>by rw [e,hb] at h; cases h
     rw [av,if_neg this,lz,h]
     exact ⟨_,_,rfl⟩
   refine ⟨_,WZ t hpb,⟨fun i=>?_,fun t' b h=>?_⟩,fun W=>⟨rfl,rfl,fun t' ht'=>?_,fun i _ hsf=>?_,fun t' _ ty2 cs2 h=>?_⟩⟩
   ·show bj _ (lkV (E0 t (.sl ty xs) s.sl) i) (frz t (xs.map (bH ty)) (p.t i))
    rw [Dr]
    exact (hs.sl i).frz hb hX
   ·have h:lkB ((t,none)::sp t (.sl ty xs) s.bx) t' = some b:=h
    rw [av] at h
    split at h
    ·cases h
    ·rename_i hne
     rw [lz,zm] at h
     obtain ⟨b0,h1,rfl⟩:=h
     have h2:=hs.bx t' b0 h1
     show mt _ true (some (Xh t (.sl ty xs) b0)) (if t' = t then none else (p.b t').map (Bf t (xs.map (bH ty))))
     rw [if_neg hne]
     cases b0 with
     | st ty2 cs =>
      obtain ⟨qs,h3,h4⟩:=h2
      rw [h3]
      refine ⟨_,rfl,by rw [kX,iu]; exact h4.len,fun j c r k1 k2=>?_⟩
      rw [mX,zm] at k1
      obtain ⟨c',k3,rfl⟩:=k1
      obtain ⟨q',k4,rfl⟩:=iw _ _ qs j r k2
      exact (h4.rep j c' q' k3 k4).frz hb hX
     | rw e2 k2 ty2 xs2 pins2 =>
      obtain ⟨h3,h4⟩:=h2
      rw [h3]
      exact ⟨rfl,h4⟩
   ·show kZ _ (lkB ((t,none)::sp t (.sl ty xs) s.bx) t')
    rw [av,if_neg (fun e=>by rw [e,ht] at ht'; cases ht'),lz]
    obtain ⟨b',h1,h2⟩:=hpr t' ht'
    rw [h1]
    cases b' with
    | st ty2 cs=>simp only [Option.map_some,Xh]; rw [mW cs h2]; rfl
    | rw e2 k2 ty2 xs2 pins2=>exact ⟨pins2,rfl⟩
   ·show lkV (E0 t (.sl ty xs) s.sl) i = _
    rw [Dr]
    exact MF ht _ hsf
   ·show ∃ cs',lkB ((t,none)::sp t (.sl ty xs) s.bx) t' = _∧_
    rw [av,if_neg (fun e=>by rw [e,hb] at h; cases h),lz,h]
    exact ⟨_,rfl,kX _ _ cs2⟩
  ·injection h with h
   subst h
   exact ⟨p,.refl p,hs,fun W=>.refl W s⟩
 ·injection h with h
  subst h
  exact ⟨p,.refl p,hs,fun W=>.refl W s⟩
theorem Xg {sc:List Nat} {s s':SS} {p:PS} {t:Nat} (hpr:mp s) (hs:Sim s p) (h:PJ t s=some s') : ∃ p',Le p p'∧Sim s' p'∧(∀ W,dN sc W s s')∧s'.oc=s.oc:=by
 unfold PJ at h
 split at h
 ·rename_i e k ty xs pins hb
  split at h
  ·rename_i ht
   have h0:PJ t s=some s':=by unfold PJ; rw [hb]; simp only; rw [ht]; exact h
   injection h with h
   have hpb:p.b t=some (.rw e k (xs.map (bH ty))):=by have:=hs.bx t; rw [hb] at this; exact this.1
   obtain ⟨p2,k1,k2,k3⟩:=SN (sc:=sc) hpr hs.w h0
   have hX:VV t s.bx ((t,none)::sp t (.sl ty xs) s.bx):=by
    refine ⟨fun t' ht' e2 k2 ty2 xs2 pins2 h=>?_,fun t' ty2 cs2 h=>?_⟩
    ·rw [av,if_neg ht',lz,h]; rfl
    ·have : ¬ t' = t:=fun e=>by rw [e,hb] at h; cases h
     rw [av,if_neg this,lz,h]
     exact ⟨_,_,rfl⟩
   subst h
   refine ⟨_,WZ t hpb,⟨fun i=>?_,fun t'=>?_⟩,k3,rfl⟩
   ·show bj _ (lkV (E0 t (.sl ty xs) s.sl) i) (frz t (xs.map (bH ty)) (p.t i))
    rw [Dr]
    exact (hs.sl i).frz hb hX
   ·show mt _ (aF s.oc t') (lkB ((t,none)::sp t (.sl ty xs) s.bx) t') (if t' = t then none else (p.b t').map (Bf t (xs.map (bH ty))))
    rw [av]
    by_cases hne:t' = t
    ·rw [if_pos hne,if_pos hne]; exact fun _=>rfl
    ·rw [if_neg hne,if_neg hne,lz]
     have h2:=hs.bx t'
     cases hl:lkB s.bx t' with
     | none=>rw [hl] at h2; exact fun ho=>by rw [h2 ho]; rfl
     | some b0 =>
      rw [hl] at h2
      cases b0 with
      | st ty2 cs =>
       obtain ⟨qs,h3,h4⟩:=h2
       rw [h3]
       refine ⟨_,rfl,by rw [kX,iu]; exact h4.len,fun j c r k1 k2=>?_⟩
       rw [mX,zm] at k1
       obtain ⟨c',k3,rfl⟩:=k1
       obtain ⟨q',k4,rfl⟩:=iw _ _ qs j r k2
       exact (h4.rep j c' q' k3 k4).frz hb hX
      | rw e2 k2 ty2 xs2 pins2 =>
       obtain ⟨h3,h4⟩:=h2
       rw [h3]
       exact ⟨rfl,h4⟩
  ·injection h with h
   subst h
   exact ⟨p,.refl p,hs,fun W=>.refl W s,rfl⟩
 ·injection h with h
  subst h
  exact ⟨p,.refl p,hs,fun W=>.refl W s,rfl⟩
theorem xG {sc:List Nat} : ∀ {l:List Nat} {s s':SS} {p:PS},mp s→Sim s p→lD l s=some s'→∃ p',Le p p'∧Sim s' p'∧(∀ W,dN sc W s s')∧s'.oc=s.oc
 | [],s,s',p,_,hs,h=>by injection h with h; subst h; exact ⟨p,.refl p,hs,fun W=>.refl W s,rfl⟩
 | t::l,s,s',p,hpr,hs,h=>by
  simp only [lD] at h
  split at h
  ·rename_i s1 h1
   obtain ⟨p1,k1,k2,k3,k4⟩:=Xg (sc:=sc) hpr hs h1
   obtain ⟨p2,m1,m2,m3,m4⟩:=xG (sc:=sc) ((k3 []).prOk hpr) k2 h
   exact ⟨p2,k1.trans m1,m2,fun W=>(k3 W).trans (m3 W),m4.trans k4⟩
  ·cases h
theorem sq {sc:List Nat} : ∀ {l:List Nat} {s s':SS} {p:PS},mp s→ib s p→lD l s=some s'→∃ p',Le p p'∧ib s' p'∧∀ W,dN sc W s s'
 | [],s,s',p,_,hs,h=>by injection h with h; subst h; exact ⟨p,.refl p,hs,fun W=>.refl W s⟩
 | t::l,s,s',p,hpr,hs,h=>by
  simp only [lD] at h
  split at h
  ·rename_i s1 h1
   obtain ⟨p1,k1,k2,k3⟩:=SN hpr hs h1
   obtain ⟨p2,k4,k5,k6⟩:=sq ((k3 []).prOk hpr) k2 h
   exact ⟨p2,k1.trans k4,k5,fun W=>(k3 W).trans (k6 W)⟩
  ·cases h
mutual
def fzp (t:Nat) (ds:List D) : PV→PV
 | .ptr t' o=>if t' = t then .fe (ds.drop o) else .ptr t' o
 | .ag cs=>.ag (EX t ds cs)
 | .tup cs=>.tup (EX t ds cs)
 | .fn f ps qs=>.fn f (EX t ds ps) (EX t ds qs)
 | p=>p
def EX (t:Nat) (ds:List D) : List PV→List PV
 | []=>[]
 | c::cs=>fzp t ds c::EX t ds cs
end
def EY (t:Nat) (ds:List D) : Box→Box
 | .st ty cs=>.st ty (EX t ds cs)
 | B=>B
def abg (t:Nat) (ds:List D) (p:PS) : PS:=⟨fun i=>fzp t ds (p.t i),fun i=>if i=t then none else (p.b i).map (EY t ds)⟩
theorem jo (t:Nat) (ds:List D) : ∀ cs:List PV,(EX t ds cs).length=cs.length
 | []=>rfl
 | c::cs=>by simp [EX,jo t ds cs]
theorem jp (t:Nat) (ds:List D) : ∀ (cs:List PV) (j:Nat) (c:PV),(EX t ds cs)[j]? = some c→∃ d,cs[j]? = some d∧c=fzp t ds d
 | [],j,c,h=>by simp [EX] at h
 | d::cs,j,c,h=>by
  simp only [EX] at h
  cases j with
  | zero=>simp at h; exact ⟨d,rfl,h.symm⟩
  | succ j=>simp at h; simpa using jp t ds cs j c h
section
variable {ρ : Nat→Value} {b b':Nat→Option Box} {w:World} {F F0:Nat→Prop} {w0:WM}
theorem aR.fzp {x:Value} {p:PV} {t:Nat} {ty:TypeId} {cs:List PV} {ds:List D} (hi:Inv w0 F0 ρ b w F) (hb:b t=some (.st ty cs)) (hl:ds.length=cs.length) (hc:∀ (j:Nat) d,ds[j]? = some d→∃ y,cs[j]? = some (.d y)∧nrm y=d) (hb':∀ i,b' i=if i=t then none else (b i).map (EY t ds)) (h:aR ρ b w F x p) :
  aR ρ b' w (fun g=>F g∨blk (ρ t)=some g) x (Go.Proofs.YtaknepbdbappdaaGreat.fzp t ds p):=by
 have hF:∀ g,F g→(F g∨blk (ρ t)=some g):=fun g h=>.inl h
 induction h with
 | junk x=>exact .junk x
 | d x d h=>exact .d x d (h.mono hF (fun _ _=>rfl))
 | ag xs cs hl h1 hr ih =>
  refine .ag xs _ (by rw [jo]; exact hl) h1 (fun j x c h2 h3=>?_)
  obtain ⟨d,h4,rfl⟩:=jp t ds cs j c h3
  exact ih j x d h2 h4
 | tup xs cs hl hr ih =>
  refine .tup xs _ (by rw [jo]; exact hl) (fun j x c h2 h3=>?_)
  obtain ⟨d,h4,rfl⟩:=jp t ds cs j c h3
  exact ih j x d h2 h4
 | fn f xs ys ps qs hl hr hl2 hr2 ih ih2 =>
  refine .fn f xs ys _ _ (by rw [jo]; exact hl) (fun j x c h2 h3=>?_) (by rw [jo]; exact hl2) (fun j x c h2 h3=>?_)
  ·obtain ⟨d,h4,rfl⟩:=jp t ds ps j c h3
   exact ih j x d h2 h4
  ·obtain ⟨d,h4,rfl⟩:=jp t ds qs j c h3
   exact ih2 j x d h2 h4
 | row t' m A cc e' k' es' hb2 hn hcc hA hρ =>
  have:t'≠t:=fun e=>by rw [e,hb] at hb2; cases hb2
  exact .row t' m A cc e' k' es' (by rw [hb',if_neg this,hb2]; rfl) hn hcc hA hρ
 | re t' m i o a e' k' es' hb2 hn hi' hρ =>
  have:t'≠t:=fun e=>by rw [e,hb] at hb2; cases hb2
  exact .re t' m i o a e' k' es' (by rw [hb',if_neg this,hb2]; rfl) hn hi' hρ
 | vw t' m lo hi' A mm cc e' k' es' hb2 hn hl hh hm hρ=>
  have:t'≠t:=fun e=>by rw [e,hb] at hb2; cases hb2
  exact .vw t' m lo hi' A mm cc e' k' es' (by rw [hb',if_neg this,hb2]; rfl) hn hl hh hm hρ
 | fe a cs us hF' hcell hrep=>exact .fe a cs us (.inl hF') hcell (fun j d h=>(hrep j d h).mono hF (fun _ _=>rfl))
 | ptr t' off g ty' cs' hb2 hρ =>
  simp only [Go.Proofs.YtaknepbdbappdaaGreat.fzp]
  by_cases ht:t' = t
  ·subst ht
   rw [if_pos rfl]
   cases hi.box t' _ hb with
   | st _ _ g' xs hρ' hg hFg hh hlx h1 hr =>
    rw [hρ] at hρ'
    injection hρ' with e
    injection e with e
    injection e with e
    subst e
    have key:∀ (j:Nat) d,(ds.drop off)[j]? = some d→∃ u,w.cell? ⟨g,off + j,none⟩=some u∧d7 w F u d:=fun j d hj=>by
     rw [List.getElem?_drop] at hj
     obtain ⟨y,k1,k2⟩:=hc _ d hj
     have hlt:off + j < xs.size:=by rw [hlx,← hl]; exact (zg.1 hj).1
     have k3:=hr (off + j) xs[off + j] _ (by simp [hlt]) k1
     refine ⟨xs[off + j],by rw [cell_of_row w g (off + j) xs ty (0,0) hh]; simp [hlt],?_⟩
     rw [← k2]
     exact k3.dd.nrm
    refine .fe _ _ (fun j=>(w.cell? ⟨g,off + j,none⟩).getD undef) (.inr (by rw [hρ]; rfl)) (fun j d hj=>?_) (fun j d hj=>?_)
    ·obtain ⟨u,k1,_⟩:=key j d hj
     rw [rv,k1]; rfl
    ·obtain ⟨u,k1,k2⟩:=key j d hj
     rw [k1]
     exact k2.mono hF (fun _ _=>rfl)
  ·rw [if_neg ht]
   exact .ptr t' off g ty' _ (by rw [hb',if_neg ht,hb2]; rfl) hρ
end
theorem Inv.reg_fzp {ρ : Nat→Value} {b b':Nat→Option Box} {w:World} {w0:WM} {F F0:Nat→Prop} {t:Nat} {ds:List D} (hi:Inv w0 F0 ρ b w F) (hb':∀ i,b' i=if i=t then none else (b i).map (EY t ds)) : ∀ i q,w0.R i=some q→1000000≤i∧p6 ρ b' i q:=by
 intro i q h
 obtain ⟨h1,h2⟩:=hi.reg i q h
 refine ⟨h1,?_⟩
 by_cases hit:i=t
 ·exact h2.less (.inl (by rw [hb',if_pos hit]))
 ·refine h2.mono (fun e=>by rw [hb',if_neg hit,e]; rfl) (fun ty cs e=>⟨⟨ty,_,by rw [hb',if_neg hit,e]; rfl⟩,rfl⟩) (fun e k es' he=>⟨e,es',by rw [hb',if_neg hit,he]; rfl,Nat.le_refl _,fun _=>rfl⟩)
theorem aay {p:PS} (t:Nat) {ty:TypeId} {cs:List PV} {ds:List D} (hb0:p.b t=some (.st ty cs)) (hl:ds.length=cs.length) (hc:∀ (j:Nat) d,ds[j]? = some d→∃ y,cs[j]? = some (.d y)∧nrm y=d) : Le p (abg t ds p):=by
 intro n w0 F0 a w ⟨h1,h2,ρ,F,hi,hev⟩
 have hb':∀ i,(abg t ds p).b i=if i=t then none else (p.b i).map (EY t ds):=fun i=>rfl
 have hbt:=(hi.box t _ hb0)
 refine ⟨h1,h2,ρ,fun g=>F g∨blk (ρ t)=some g,⟨hi.ext,fun g hg=>.inl (hi.f0 g hg),?_,?_,fun t' B h=>?_,fun t1 t2 B1 B2 g k1 k2 hne=>?_,hi.reg_fzp hb'⟩,fun i=>(hev i).fzp hi hb0 hl hc hb'⟩
 ·rintro g (hg | hg)
  ·exact hi.flt g hg
  ·exact (hbt.lt hg).1
 ·rintro g (hg | hg)
  ·exact hi.fnew g hg
  ·exact .inr (hbt.lt hg).2.1
 ·rw [hb'] at h
  split at h
  ·cases h
  ·rename_i ht
   rw [zm] at h
   obtain ⟨B0,hB0,rfl⟩:=h
   have hnF:∀ g,blk (ρ t')=some g→¬ (F g∨blk (ρ t)=some g):=by
    rintro g hg (h | h)
    ·exact ((hi.box t' B0 hB0).lt hg).2.2 h
    ·exact hi.dist t' t B0 _ g hB0 hb0 ht hg h
   cases hi.box t' B0 hB0 with
   | st ty cs g xs hρ hg hF hh hl2 h1 hr =>
    refine .st ty _ g xs hρ hg (hnF g (by rw [hρ]; rfl)) hh (by rw [jo]; exact hl2) h1 (fun j x c k1 k2=>?_)
    obtain ⟨d,h4,rfl⟩:=jp t ds cs j c k2
    exact (hr j x d k1 h4).fzp hi hb0 hl hc hb'
   | rw e' k' es' xs hk0 ho hF hk hl hr hown=>exact .rw e' k' es' xs hk0 ho hnF hk hl (fun j x d k1 k2=>(hr j x d k1 k2).mono (fun g h=>.inl h) (fun _ _=>rfl)) hown
   | gn e' k' es' hρ=>exact .gn e' k' es' hρ
 ·rw [hb'] at k1 k2
  split at k1
  ·cases k1
  ·split at k2
   ·cases k2
   ·rw [zm] at k1 k2
    obtain ⟨B1',k1,_⟩:=k1
    obtain ⟨B2',k2,_⟩:=k2
    exact hi.dist t1 t2 B1' B2' g k1 k2 hne
def SO (t:Nat) (c:List SD) : bc→bc
 | .st ty cs=>.st ty (pT t c cs)
 | b=>b
theorem o8 (t:Nat) (c:List SD) : ∀ (l:List (Nat×Option bc)) (i:Nat),lkB (sr t c l) i=(lkB l i).map (SO t c)
 | [],_=>rfl
 | (j,none)::l,i=>by simp only [sr,av,o8 t c l i]; split <;> rfl
 | (j,some (.st ty cs))::l,i=>by simp only [sr,av,o8 t c l i]; split <;> rfl
 | (j,some (.rw e k ty xs pins))::l,i=>by simp only [sr,av,o8 t c l i]; split <;> rfl
theorem JZ (t:Nat) (c:List SD) : ∀ (l:List (Nat×SV)) (i:Nat),lkV (E2 t c l) i=xH t c (lkV l i)
 | [],_=>rfl
 | (j,v)::l,i=>by simp only [E2,cT,JZ t c l i]; split <;> rfl
theorem iT (t:Nat) (c:List SD) : ∀ (cs:List SV) (j:Nat),(pT t c cs)[j]? = (cs[j]?).map (xH t c)
 | [],j=>by simp [pT]
 | v::cs,0=>by simp [pT]
 | v::cs,j + 1=>by simpa [pT] using iT t c cs j
theorem gj (t:Nat) (c:List SD) : ∀ cs:List SV,(pT t c cs).length=cs.length
 | []=>rfl
 | v::cs=>by simp [pT,gj t c cs]
structure abC (t:Nat) (B B':List (Nat×Option bc)) : Prop where
 rw:∀ t' e k ty xs pins,lkB B t' = some (.rw e k ty xs pins)→lkB B' t' = some (.rw e k ty xs pins)
 st:∀ t',t'≠t→∀ ty cs,lkB B t' = some (.st ty cs)→∃ ty' cs',lkB B' t' = some (.st ty' cs')
theorem bj.frp {B B':List (Nat×Option bc)} {t:Nat} {ds:List SD} (hn:∀ c∈ds,c≠.nl) (hB:abC t B B') {v:SV} {q:PV} (h:bj B v q) : bj B' (xH t ds v) (fzp t (ds.map SD.toD) q):=by
 induction h with
 | junk q=>exact .junk _
 | d c y h=>exact .d c y h
 | ag cs qs hl hr ih =>
  refine .ag _ _ (by rw [gj,jo]; exact hl) (fun j c r h1 h2=>?_)
  rw [iT,zm] at h1
  obtain ⟨c',h3,rfl⟩:=h1
  obtain ⟨q',h4,rfl⟩:=jp _ _ qs j r h2
  exact ih j c' q' h3 h4
 | tup cs qs hl hr ih =>
  refine .tup _ _ (by rw [gj,jo]; exact hl) (fun j c r h1 h2=>?_)
  rw [iT,zm] at h1
  obtain ⟨c',h3,rfl⟩:=h1
  obtain ⟨q',h4,rfl⟩:=jp _ _ qs j r h2
  exact ih j c' q' h3 h4
 | fn f ps qs ps' qs' hl hr hl2 hr2 ih ih2 =>
  refine .fn f _ _ _ _ (by rw [gj,jo]; exact hl) (fun j c r h1 h2=>?_) (by rw [gj,jo]; exact hl2) (fun j c r h1 h2=>?_)
  ·rw [iT,zm] at h1
   obtain ⟨c',h3,rfl⟩:=h1
   obtain ⟨q',h4,rfl⟩:=jp _ _ ps' j r h2
   exact ih j c' q' h3 h4
  ·rw [iT,zm] at h1
   obtain ⟨c',h3,rfl⟩:=h1
   obtain ⟨q',h4,rfl⟩:=jp _ _ qs' j r h2
   exact ih2 j c' q' h3 h4
 | ptr t' o ty2 cs hb =>
  simp only [xH,fzp,cU]
  by_cases h:t' = t
  ·simp only [h,decide_true,if_true]
   exact .fe _ _ (by rw [List.map_drop]) (fun c hc=>hn c (List.mem_of_mem_drop hc))
  ·simp only [h,decide_false,if_false]
   obtain ⟨ty',cs',h1⟩:=hB.st t' h ty2 cs hb
   exact .ptr t' o ty' cs' h1
 | row t' n e2 k2 ty2 xs2 pins2 hb hn=>exact .row t' n e2 k2 ty2 xs2 pins2 (hB.rw t' _ _ _ _ _ hb) hn
 | re t' p o n i e2 k2 ty2 xs2 pins2 pin hb hn hp hi=>exact .re t' p o n i e2 k2 ty2 xs2 pins2 pin (hB.rw t' _ _ _ _ _ hb) hn hp hi
 | vw t' lo hi n e2 k2 ty2 xs2 pins2 hb hn=>exact .vw t' lo hi n e2 k2 ty2 xs2 pins2 (hB.rw t' _ _ _ _ _ hb) hn
 | fe cs ds h hn=>exact .fe cs ds h hn
theorem vL {cs cs':List SV} (hl:cs'.length=cs.length) (h:∀ (j:Nat) c,cs[j]? = some c→cs'[j]? = some c) : cs' = cs:=by
 apply List.ext_getElem?
 intro j
 cases hj:cs[j]? with
 | none=>rw [List.getElem?_eq_none_iff] at hj ⊢; omega
 | some c=>exact h j c hj
theorem Zh {B:List (Nat×Option bc)} {t:Nat} {ds:List SD} (ht:lkB B t=none) {v:SV} {q:PV} (h:bj B v q) : xH t ds v=v:=by
 induction h with
 | ag cs qs hl hr ih =>
  simp only [xH]
  rw [vL (gj _ _ _) fun j c hj=>?_]
  rw [iT,hj,Option.map_some,ih j c (qs[j]'(by rw [← hl]; exact (zg.1 hj).1)) hj (by simp)]
 | tup cs qs hl hr ih =>
  simp only [xH]
  rw [vL (gj _ _ _) fun j c hj=>?_]
  rw [iT,hj,Option.map_some,ih j c (qs[j]'(by rw [← hl]; exact (zg.1 hj).1)) hj (by simp)]
 | fn f ps qs ps' qs' hl hr hl2 hr2 ih ih2 =>
  simp only [xH]
  rw [vL (cs:=ps) (gj _ _ _) fun j c hj=>?_,vL (cs:=qs) (gj _ _ _) fun j c hj=>?_]
  ·rw [iT,hj,Option.map_some,ih2 j c (qs'[j]'(by rw [← hl2]; exact (zg.1 hj).1)) hj (by simp)]
  ·rw [iT,hj,Option.map_some,ih j c (ps'[j]'(by rw [← hl]; exact (zg.1 hj).1)) hj (by simp)]
 | ptr t' o ty cs hb =>
  have : ¬ t' = t:=fun e=>by rw [e,ht] at hb; cases hb
  simp only [xH,cU,this,decide_false]
 | _=>rfl
mutual
theorem Ug {t:Nat} {c:List SD} : ∀ v:SV,pO v=true→xH t c v=v
 | .junk,_=>rfl
 | .d _,_=>rfl
 | .fe _,_=>rfl
 | .ptr _ _,h=>by cases h
 | .row _,h=>by cases h
 | .re _ _ _,h=>by cases h
 | .vw _ _ _,h=>by cases h
 | .ag cs,h=>by simp only [xH]; rw [kL cs h]
 | .tup cs,h=>by simp only [xH]; rw [kL cs h]
 | .fn f ps qs,h=>by
  have h:(match cy ps with | true=>cy qs | false=>false)=true:=h
  split at h
  ·rename_i h1; simp only [xH]; rw [kL ps h1,kL qs h]
  ·cases h
theorem kL {t:Nat} {c:List SD} : ∀ cs:List SV,cy cs=true→pT t c cs=cs
 | [],_=>rfl
 | v::cs,h=>by
  simp only [cy] at h
  split at h
  ·rename_i h1
   simp only [pT]
   rw [Ug v h1,kL cs h]
  ·cases h
end
theorem Ie:∀ {ds:List SD},aau ds=true→∀ c∈ds,c≠.nl
 | [],_,c,h=>by cases h
 | d::ds,h,c,hc=>by
  rcases List.mem_cons.1 hc with rfl | hc'
  ·intro e; subst e; cases h
  ·cases d with
   | nl=>cases h
   | _=>exact Ie (ds:=ds) h c hc'
theorem Ea:∀ {cs:List SV} {ds:List SD},tS cs=some ds→cs.length=ds.length∧∀ (j:Nat) d,ds[j]? = some d→cs[j]? = some (.d d)
 | [],ds,h=>by injection h with h; subst h; exact ⟨rfl,fun j d hj=>by simp at hj⟩
 | v::cs,ds,h=>by
  simp only [tS] at h
  split at h
  ·rename_i c l hc hl
   injection h with h
   subst h
   obtain ⟨h1,h2⟩:=Ea hl
   refine ⟨by simp [h1],fun j d hj=>?_⟩
   cases j with
   | zero =>
    simp at hj
    subst hj
    cases v <;> simp [aaj] at hc
    subst hc
    rfl
   | succ j=>simp at hj; simpa using h2 j d hj
  ·cases h
theorem aaD {sc W:List Nat} {s0 s s':SS} {p0 p:PS} {t:Nat} (hpr:mp s) (h0:ib s0 p0) (hnew:lkB s0.bx t=none) (hk:dN sc W s0 s) (hs:ib s p) (h:fbX sc t s=some s') : ∃ p',Le p p'∧ib s' p'∧dN sc W s0 s'∧mp s':=by
 unfold fbX at h
 split at h
 ·rename_i ty cs hb
  split at h
  ·rename_i ds hds
   obtain ⟨h1,h2⟩:=aq h
   injection h2 with h2
   subst h2
   rw [Bool.and_eq_true,Bool.and_eq_true] at h1
   obtain ⟨h1,h3,h4⟩:=h1
   have h3:aF s.pr t=false:=by simpa using h3
   have h4:aF sc t=false:=by simpa using h4
   have hnl:=Ie h1
   obtain ⟨hlen,hget⟩:=Ea hds
   obtain ⟨qs,hq,hqs⟩:=hs.bx t _ hb
   have hc:∀ (j:Nat) d,(ds.map SD.toD)[j]? = some d→∃ y,qs[j]? = some (.d y)∧nrm y=d:=fun j d hj=>by
    rw [List.getElem?_map,zm] at hj
    obtain ⟨c,hc,rfl⟩:=hj
    have hc2:=hget j c hc
    have hlt:j < qs.length:=by rw [← hqs.len]; exact (zg.1 hc2).1
    have:=hqs.rep j _ qs[j] hc2 (by simp)
    rw [zq hlt]
    revert this
    generalize qs[j] = q
    intro this
    cases this with
    | d _ y hd=>exact ⟨y,rfl,hd.nrm⟩
   have hl:(ds.map SD.toD).length=qs.length:=by rw [List.length_map,← hlen,hqs.len]
   have hX:abC t s.bx ((t,none)::sr t ds s.bx):=by
    refine ⟨fun t' e k ty2 xs pins h=>?_,fun t' ht' ty2 cs2 h=>?_⟩
    ·have : ¬ t' = t:=fun e=>by rw [e,hb] at h; cases h
     rw [av,if_neg this,o8,h]; rfl
    ·rw [av,if_neg ht',o8,h]; exact ⟨_,_,rfl⟩
   have hkp:dN sc W s0 ⟨E2 t ds s.sl,(t,none)::sr t ds s.bx,s.pr,s.ro,s.oc⟩:=by
    refine ⟨hk.pr,hk.ro,fun t' ht'=>?_,fun i hi hsf=>?_,fun t' ht' ty2 cs2 h=>?_⟩
    ·have hpt:aF s.pr t' = true:=by rw [hk.pr]; exact ht'
     refine (hk.bx t' ht').trans ?_
     show kZ _ (lkB ((t,none)::sr t ds s.bx) t')
     rw [av,if_neg (fun e=>by rw [e,h3] at hpt; cases hpt),o8]
     obtain ⟨b',k1,k2⟩:=hpr t' hpt
     rw [k1]
     cases b' with
     | st ty2 cs=>simp only [Option.map_some,SO]; rw [kL cs k2]; rfl
     | rw e2 k2 ty2 xs2 pins2=>exact ⟨pins2,rfl⟩
    ·show lkV (E2 t ds s.sl) i = _
     rw [JZ,hk.sl i hi hsf]
     exact Zh hnew (h0.sl i)
    ·obtain ⟨cs',k1,k2⟩:=hk.st t' ht' ty2 cs2 h
     show ∃ cs',lkB ((t,none)::sr t ds s.bx) t' = _∧_
     rw [av,if_neg (fun e=>by rw [e,h4] at ht'; cases ht'),o8,k1]
     exact ⟨_,rfl,by rw [gj]; exact k2⟩
   refine ⟨_,aay t hq hl hc,⟨fun i=>?_,fun t' b h=>?_⟩,hkp,fun t' ht'=>?_⟩
   ·show bj _ (lkV (E2 t ds s.sl) i) (fzp t (ds.map SD.toD) (p.t i))
    rw [JZ]
    exact (hs.sl i).frp hnl hX
   ·have h:lkB ((t,none)::sr t ds s.bx) t' = some b:=h
    rw [av] at h
    split at h
    ·cases h
    ·rename_i hne
     rw [o8,zm] at h
     obtain ⟨b0,h1,rfl⟩:=h
     have h2:=hs.bx t' b0 h1
     show mt _ true (some (SO t ds b0)) (if t' = t then none else (p.b t').map (EY t (ds.map SD.toD)))
     rw [if_neg hne]
     cases b0 with
     | st ty2 cs =>
      obtain ⟨qs,h3,h4⟩:=h2
      rw [h3]
      refine ⟨_,rfl,by rw [gj,jo]; exact h4.len,fun j c r k1 k2=>?_⟩
      rw [iT,zm] at k1
      obtain ⟨c',k3,rfl⟩:=k1
      obtain ⟨q',k4,rfl⟩:=jp _ _ qs j r k2
      exact (h4.rep j c' q' k3 k4).frp hnl hX
     | rw e2 k2 ty2 xs2 pins2 =>
      obtain ⟨h3,h4⟩:=h2
      rw [h3]
      exact ⟨rfl,h4⟩
   ·obtain ⟨b',k1,k2⟩:=hpr t' ht'
    show ∃ b,lkB ((t,none)::sr t ds s.bx) t' = some b∧_
    rw [av,if_neg (fun e=>by rw [e,h3] at ht'; cases ht'),o8,k1]
    refine ⟨_,rfl,?_⟩
    cases b' with
    | st ty2 cs=>simp only [SO]; rw [kL cs k2]; exact k2
    | rw e2 k2 ty2 xs2 pins2=>rfl
  ·cases h
 ·cases h
theorem MP {sc W:List Nat} {s0:SS} {p0:PS} (h0:ib s0 p0) : ∀ {l:List Nat} {s s':SS} {p:PS},mp s→SY s0 l=true→dN sc W s0 s→ib s p→IE sc l s=some s'→∃ p',Le p p'∧ib s' p'∧dN sc W s0 s'
 | [],s,s',p,_,_,hk,hs,h=>by injection h with h; subst h; exact ⟨p,.refl p,hs,hk⟩
 | t::l,s,s',p,hpr,hn,hk,hs,h=>by
  simp only [IE] at h
  simp only [SY] at hn
  split at hn
  ·rename_i hnew
   split at h
   ·rename_i s1 h1
    obtain ⟨p1,k1,k2,k3,k4⟩:=aaD hpr h0 hnew hk hs h1
    obtain ⟨p2,m1,m2,m3⟩:=MP h0 k4 hn k3 k2 h
    exact ⟨p2,k1.trans m1,m2,m3⟩
   ·cases h
  ·cases hn
end
section
theorem DZ {m:Nat} {ops:Array Oper} (h:LL m ops=true) {i k:Nat} (hi:i < ops.size) (hm : ¬ i < m) (hk:k < i) : yT ops 4 i k=true:=by
 unfold LL at h
 rw [List.all_eq_true] at h
 have h:=h i (List.mem_range.2 hi)
 simp only [Bool.or_eq_true,decide_eq_true_eq,List.all_eq_true] at h
 exact (h.resolve_left hm) k (List.mem_range.2 hk)
section
variable {P:Program} {w0:WM} {F0:Nat→Prop} {n:Nat} {ops:Array Oper} {Q:Exit→Act→World→Prop}
def UL (P:Program) (ops:Array Oper) : List Nat→PS→(PS→Prop)→Prop
 | [],s,K=>K s
 | i::l,s,K=>∃ s1,Le s s1∧∃ o r u,ops[i]? = some o∧Eff P ops o s1 r u∧UL P ops l (s1.updL o.dst r u) K
theorem Ti {bd:Nat→Bd} {mT:Nat} {Qs:Exit→PS→Prop} (hQ:∀ e s a w,Qs e s→ow n w0 F0 s a w→Q e a w) (hB:Fz bd n ops=true) (hT:LL mT ops=true) : ∀ (m:Nat) (l lt:List Nat) (listed:Array Bool) (s:PS) (a:Act) (w:World),(l++lt).length=m→(l++lt).Pairwise (· < ·)→(∀ j∈l,j < mT)→(∀ j∈lt,¬ j < mT)→(∀ j,j∈l++lt↔(j < ops.size∧listed.getD j true=false))→listed.size=ops.size→RX ops listed →
  FW P ops bd l s (fun s'=>UL P ops lt s' (Qs .normal))→ow n w0 F0 s a w→wpAny P .any ops Q m listed a w
 | 0,l,lt,listed,s,a,w,hl,_,_,_,hm,hls,_,h,hc=>by
  have h0:l++lt = []:=List.eq_nil_of_length_eq_zero hl
  obtain ⟨rfl,rfl⟩:=List.append_eq_nil_iff.1 h0
  refine ⟨?_,hQ _ s a w h hc⟩
  rw [List.eq_nil_iff_forall_not_mem]
  intro j hj
  obtain ⟨h1,o,h2,_⟩:=mem_ready.1 hj
  have:=(hm j).2 ⟨(Array.getElem?_eq_some_iff.1 h2).1,h1⟩
  simp at this
 | m + 1,l,lt,listed,s,a,w,hl,hs,hlm,hltm,hm,hls,hcl,h,hc=>by
  have notdone:∀ {k:Nat},k∈l++lt→listed.getD k false=false:=fun {k} hk=>by
   have h1:=(hm k).1 hk
   have hsz:k < listed.size:=by rw [hls]; exact h1.1
   have h2:=h1.2
   simp [hsz] at h2 ⊢
   exact h2
  refine ⟨fun h0=>?_,fun i hi=>?_⟩
  ·exfalso
   cases hll:l++lt with
   | nil=>rw [hll] at hl; simp at hl
   | cons k ls =>
    have hk:=(hm k).1 (by rw [hll]; simp)
    have hok:ops[k]? = some ops[k]:=Array.getElem?_eq_getElem hk.1
    have:k∈Region.ready .any ops listed:=by
     refine mem_ready.2 ⟨hk.2,_,hok,fun e he hb=>?_⟩
     have hlt:=(mZ hB hok).2.1 e he hb
     cases hx:listed.getD e.on false with
     | true=>rfl
     | false =>
      exfalso
      have hsz:e.on < listed.size:=by rw [hls]; omega
      have h2:listed.getD e.on true=false:=by
       simp [hsz] at hx ⊢; exact hx
      have h3:=(hm e.on).2 ⟨by omega,h2⟩
      rw [hll] at h3 hs
      rcases List.mem_cons.1 h3 with h | h
      ·omega
      ·have:=(List.pairwise_cons.1 hs).1 _ h
       omega
    rw [h0] at this
    cases this
  ·obtain ⟨hun,oi,hoi,hall⟩:=mem_ready.1 hi
   have hisz:=(Array.getElem?_eq_some_iff.1 hoi).1
   have hin:i∈l++lt:=(hm i).2 ⟨hisz,hun⟩
   have hready:∀ k,k∈l++lt→yT ops 4 i k=true→False:=fun k hk hh=>by
    have h1:=xF hcl 4 i k hh (fun o' ho' e he hb=>by rw [hoi] at ho'; cases ho'; exact hall e he hb)
    rw [notdone hk] at h1
    cases h1
   have key:∃ l' lt' s1 r u,Le s s1∧Eff P ops oi s1 r u∧FW P ops bd l' (s1.updL oi.dst r u) (fun s'=>UL P ops lt' s' (Qs .normal))∧(l' ++ lt').length=m∧(l' ++ lt').Pairwise (· < ·)∧(∀ j∈l',j < mT)∧(∀ j∈lt',¬ j < mT)∧(∀ j,j∈l' ++ lt'↔(j∈l++lt∧j≠i)):=by
    by_cases him:i < mT
    ·have hil:i∈l:=by
      rcases List.mem_append.1 hin with h | h
      ·exact h
      ·exact absurd him (hltm i h)
     obtain ⟨l1,l2,rfl⟩:=List.append_of_mem hil
     have hpw0:=List.pairwise_append.1 hs
     have hpw:=List.pairwise_append.1 hpw0.1
     have hfront:=xz (P:=P) (bd:=bd) (K:=fun s'=>UL P ops lt s' (Qs .normal)) hoi l1 l2 s (fun k hk ok hok=>by
      have hlt:k < i:=hpw.2.2 k hk i (by simp)
      rcases (mZ hB hoi).2.2 k ok hlt hok with hh | h
      ·exact (hready k (by simp [hk]) hh).elim
      ·exact h) h
     obtain ⟨o',r,u,ho',h1,_,h2⟩:=hfront
     rw [hoi] at ho'
     injection ho' with ho'
     subst ho'
     have hc3:=List.pairwise_cons.1 hpw.2.1
     have hne:∀ x,x∈l1++l2→x≠i:=fun x hx e=>by
      subst e
      rcases List.mem_append.1 hx with h | h
      ·have:=hpw.2.2 x h x (by simp); omega
      ·have:=hc3.1 x h; omega
     refine ⟨l1++l2,lt,s,r,u,.refl s,h1,h2,by simp at hl ⊢; omega,?_,fun j hj=>hlm j (by rcases List.mem_append.1 hj with h | h <;> simp [h]),hltm,fun j=>?_⟩
     ·refine List.pairwise_append.2 ⟨List.pairwise_append.2 ⟨hpw.1,hc3.2,fun x hx y hy=>hpw.2.2 x hx y (by simp [hy])⟩,hpw0.2.1,fun x hx y hy=>hpw0.2.2 x (by rcases List.mem_append.1 hx with h | h <;> simp [h]) y hy⟩
     ·refine ⟨fun hj=>?_,fun ⟨hj,hji⟩=>?_⟩
      ·rcases List.mem_append.1 hj with hj2 | hj2
       ·exact ⟨by rcases List.mem_append.1 hj2 with h | h <;> simp [h],hne j hj2⟩
       ·exact ⟨by simp [hj2],fun e=>by subst e; exact hltm j hj2 him⟩
      ·rcases List.mem_append.1 hj with h | h
       ·rcases List.mem_append.1 h with h | h
        ·simp [h]
        ·rcases List.mem_cons.1 h with h | h
         ·exact absurd h hji
         ·simp [h]
       ·simp [h]
    ·have hnil:l = []:=by
      cases l with
      | nil=>rfl
      | cons k l =>
       exfalso
       have hk:=hlm k (by simp)
       exact hready k (by simp) (DZ hT hisz him (by omega))
     subst hnil
     cases lt with
     | nil=>simp at hin
     | cons k lt =>
      have hki:k=i:=by
       rcases List.mem_cons.1 hin with h | h
       ·exact h.symm
       ·exfalso
        have hlt:=(List.pairwise_cons.1 hs).1 i h
        exact hready k (by simp) (DZ hT hisz him hlt)
      subst hki
      obtain ⟨s1,hle,o',r,u,ho',h1,h2⟩:=h
      rw [hoi] at ho'
      injection ho' with ho'
      subst ho'
      have hc3:=List.pairwise_cons.1 hs
      refine ⟨[],lt,s1,r,u,hle,h1,h2,by simp at hl ⊢; omega,hc3.2,fun j hj=>(by cases hj),fun j hj=>hltm j (by simp [hj]),fun j=>?_⟩
      refine ⟨fun hj=>⟨by simp at hj; simp [hj],fun e=>by
       subst e
       have:=hc3.1 j (by simpa using hj)
       omega⟩,fun ⟨hj,hji⟩=>?_⟩
      rcases List.mem_cons.1 hj with h | h
      ·exact absurd h hji
      ·simpa using h
   obtain ⟨l',lt',s1,r,u,hle,h1,h2,k1,k2,k3,k4,k5⟩:=key
   have hc1:=hle n w0 F0 a w hc
   have hstep:=WF (f:=0) (Q:=Q) (K:=wpAny P .any ops Q m (listed.setIfInBounds i true)) hc1 h1 (mZ hB hoi).1 (fun a' w' hc'=>by
    have hmono:∀ j,listed.getD j false=true→(listed.setIfInBounds i true).getD j false=true:=fun j hj=>by
     by_cases hji:j=i
     ·subst hji
      have hsz:j < listed.size:=by rw [hls]; exact hisz
      simp [hsz]
     ·rw [getD_set_ne false (Ne.symm hji)]; exact hj
    refine Ti hQ hB hT m l' lt' _ _ a' w' k1 k2 k3 k4 (fun j=>?_) (by simpa using hls) (fun j hj o ho e he hb=>?_) h2 hc'
    ·by_cases hji:j=i
     ·subst hji
      have hsz:j < listed.size:=by rw [hls]; exact hisz
      refine ⟨fun hmem=>absurd rfl ((k5 j).1 hmem).2,fun ⟨_,hx⟩=>?_⟩
      simp [hsz] at hx
     ·rw [getD_set_ne true (Ne.symm hji),k5 j,hm j]
      simp [hji]
    ·by_cases hji:j=i
     ·subst hji
      rw [hoi] at ho
      cases ho
      exact hmono _ (hall e he hb)
     ·rw [getD_set_ne false (Ne.symm hji)] at hj
      exact hmono _ (hcl j hj o ho e he hb))
   unfold wpOp
   rw [hoi]
   simp only
   split
   ·rename_i hw
    rw [if_pos hw] at hstep
    exact .inl hstep
   ·rename_i hw
    rw [if_neg hw] at hstep
    exact hstep
theorem TQ (bd:Nat→Bd) {Qs:Exit→PS→Prop} {s:PS} {id:Nat} {l:List Oper} (mT:Nat) (hmT:mT≤l.length) (hm:P.follows .mixedOrders=true) (hB:Fz bd n l.toArray=true) (hT:LL mT l.toArray=true) (h:FW P l.toArray bd (List.range' 0 mT) s (fun s'=>UL P l.toArray (List.range' mT (l.length - mT)) s' (Qs .normal))) : PWP P n (.region id l.toArray true) Qs s:=by
 intro w0 F0 a w hc
 refine wp_region_any hm ?_
 have hr:List.range' 0 mT++List.range' mT (l.length - mT)=List.range' 0 l.length:=by
  have:=List.range'_append (s:=0) (m:=mT) (n:=l.length - mT) (step:=1)
  simp only [Nat.one_mul,Nat.zero_add] at this
  rw [this]
  congr 1
  omega
 refine Ti (Qs:=Qs) (mT:=mT) (fun _ s' _ _ h1 h2=>⟨s',h1,h2⟩) hB hT l.toArray.size (List.range' 0 mT) (List.range' mT (l.length - mT)) _ s a _ (by rw [hr]; simp) (by rw [hr]; exact List.pairwise_lt_range') (fun j hj=>by simp [List.mem_range'_1] at hj; exact hj) (fun j hj=>by simp [List.mem_range'_1] at hj; omega) (fun j=>?_) (by simp) (fun j hj=>by exfalso; simp only [Array.getD_eq_getD_getElem?,Array.getElem?_replicate] at hj; split at hj <;> cases hj) h (hc.drew _)
 rw [hr]
 simp only [List.mem_range'_1,Nat.zero_le,true_and,Nat.zero_add,List.size_toArray]
 refine ⟨fun h=>⟨h,by simp [h]⟩,fun h=>h.1⟩
end
end
section
variable {B B':List (Nat×Option bc)} {s:SS} {p:PS} {P:Program} {ρ : Type}
theorem rY (ks:List Nat) : ∀ (cs:List SV) (j:Nat),(ug ks cs)[j]? = (cs[j]?).map (stV ks)
 | [],j=>by simp [ug]
 | c::cs,0=>by simp [ug]
 | c::cs,j + 1=>by simpa [ug] using rY ks cs j
theorem pI (ks:List Nat) : ∀ cs:List SV,(ug ks cs).length=cs.length
 | []=>rfl
 | c::cs=>by simp [ug,pI ks cs]
theorem Px (ks:List Nat) : ∀ (l:List (Nat×SV)) (i:Nat),lkV (Tw ks l) i=stV ks (lkV l i)
 | [],_=>rfl
 | (j,v)::l,i=>by simp only [Tw,cT,Px ks l i]; split <;> rfl
def aaY (ks:List Nat) : bc→bc
 | .st ty cs=>.st ty (ug ks cs)
 | b=>b
theorem uM (ks:List Nat) : ∀ (l:List (Nat×Option bc)) (i:Nat),lkB (xl ks l) i=(lkB l i).map (aaY ks)
 | [],_=>rfl
 | (j,none)::l,i=>by simp only [xl,av,uM ks l i]; split <;> rfl
 | (j,some (.st ty cs))::l,i=>by simp only [xl,av,uM ks l i]; split <;> rfl
 | (j,some (.rw e k ty xs pins))::l,i=>by simp only [xl,av,uM ks l i]; split <;> rfl
structure aaT (ks:List Nat) (B B':List (Nat×Option bc)) : Prop where
 rw:∀ t,aF ks t=false→∀ e k ty xs pins,lkB B t=some (.rw e k ty xs pins)→∃ e' k' ty' xs' pins',lkB B' t=some (.rw e' k' ty' xs' pins')∧xs'.length=xs.length∧∀ p pin,lkP pins p=some pin→∃ pin',lkP pins' p=some pin'∧pin'.i=pin.i
 st:∀ t ty cs,lkB B t=some (.st ty cs)→∃ ty' cs',lkB B' t=some (.st ty' cs')
theorem bj.st {ks:List Nat} {v:SV} {q:PV} (h:bj B v q) (hB:aaT ks B B') : bj B' (stV ks v) q:=by
 induction h with
 | junk q=>exact .junk q
 | d c y h=>exact .d c y h
 | ag cs qs hl hr ih =>
  refine .ag _ qs (by rw [pI]; exact hl) (fun j c q h1 h2=>?_)
  rw [rY,zm] at h1
  obtain ⟨c',h3,rfl⟩:=h1
  exact ih j c' q h3 h2
 | tup cs qs hl hr ih =>
  refine .tup _ qs (by rw [pI]; exact hl) (fun j c q h1 h2=>?_)
  rw [rY,zm] at h1
  obtain ⟨c',h3,rfl⟩:=h1
  exact ih j c' q h3 h2
 | ptr t' o ty cs hb=>obtain ⟨ty',cs',h1⟩:=hB.st t' ty cs hb; exact .ptr t' o ty' cs' h1
 | row t' n e k ty xs pins hb hn =>
  simp only [stV]
  split
  ·exact .junk _
  ·rename_i h
   obtain ⟨e',k',ty',xs',pins',h1,h2,h3⟩:=hB.rw t' h e k ty xs pins hb
   exact .row t' n e' k' ty' xs' pins' h1 (h2.trans hn)
 | re t' p o n i e k ty xs pins pin hb hn hp hi =>
  simp only [stV]
  split
  ·exact .junk _
  ·rename_i h
   obtain ⟨e',k',ty',xs',pins',h1,h2,h3⟩:=hB.rw t' h e k ty xs pins hb
   obtain ⟨pin',h4,h5⟩:=h3 p pin hp
   exact .re t' p o n i e' k' ty' xs' pins' pin' h1 (h2.trans hn) h4 (by rw [h5]; exact hi)
 | vw t' lo hi n e k ty xs pins hb hn=>
  simp only [stV]
  split
  ·exact .junk _
  ·rename_i h
   obtain ⟨e',k',ty',xs',pins',h1,h2,h3⟩:=hB.rw t' h e k ty xs pins hb
   exact .vw t' lo hi n e' k' ty' xs' pins' h1 (h2.trans hn)
 | fe cs ds h hn=>exact .fe cs ds h hn
 | fn f ps qs ps' qs' hl hr hl2 hr2 ih ih2 =>
  refine .fn f _ _ ps' qs' (by rw [pI]; exact hl) (fun j c q h1 h2=>?_) (by rw [pI]; exact hl2) (fun j c q h1 h2=>?_)
  ·rw [rY,zm] at h1
   obtain ⟨c',h3,rfl⟩:=h1
   exact ih j c' q h3 h2
  ·rw [rY,zm] at h1
   obtain ⟨c',h3,rfl⟩:=h1
   exact ih2 j c' q h3 h2
theorem ce.st {ks:List Nat} {cs:List SV} {qs:List PV} (h:ce B cs qs) (hB:aaT ks B B') : ce B' (ug ks cs) qs :=
 ⟨by rw [pI]; exact h.len,fun j c q h1 h2=>by
  rw [rY,zm] at h1
  obtain ⟨c',h3,rfl⟩:=h1
  exact (h.rep j c' q h3 h2).st hB⟩
mutual
theorem R7 {pr ks:List Nat} (hk:∀ t,aF ks t=true→aF pr t=false) : ∀ v:SV,lr pr v=true→stV ks v=v
 | .junk,_=>rfl
 | .d _,_=>rfl
 | .fe _,_=>rfl
 | .ptr _ _,_=>rfl
 | .row t,h=>by
  have h:aF pr t=true:=h
  simp only [stV]
  split
  ·rename_i h1; rw [hk t h1] at h; cases h
  ·rfl
 | .re _ _ _,h=>by cases h
 | .vw _ _ _,h=>by cases h
 | .ag cs,h=>by simp only [stV]; rw [ur hk cs h]
 | .tup cs,h=>by simp only [stV]; rw [ur hk cs h]
 | .fn f ps qs,h=>by
  have h:(ei pr ps&&ei pr qs)=true:=h
  rw [Bool.and_eq_true] at h
  simp only [stV]; rw [ur hk ps h.1,ur hk qs h.2]
theorem ur {pr ks:List Nat} (hk:∀ t,aF ks t=true→aF pr t=false) : ∀ cs:List SV,ei pr cs=true→ug ks cs=cs
 | [],_=>rfl
 | c::cs,h=>by
  simp only [ei,Bool.and_eq_true] at h
  simp only [ug]
  rw [R7 hk c h.1,ur hk cs h.2]
end
mutual
theorem V8 {ks:List Nat} : ∀ v:SV,pO v=true→stV ks v=v
 | .junk,_=>rfl
 | .d _,_=>rfl
 | .fe _,_=>rfl
 | .ptr _ _,_=>rfl
 | .row _,h=>by cases h
 | .re _ _ _,h=>by cases h
 | .vw _ _ _,h=>by cases h
 | .ag cs,h=>by simp only [stV]; rw [pn cs h]
 | .tup cs,h=>by simp only [stV]; rw [pn cs h]
 | .fn f ps qs,h=>by
  have h:(match cy ps with | true=>cy qs | false=>false)=true:=h
  split at h
  ·rename_i h1; simp only [stV]; rw [pn ps h1,pn qs h]
  ·cases h
theorem pn {ks:List Nat} : ∀ cs:List SV,cy cs=true→ug ks cs=cs
 | [],_=>rfl
 | c::cs,h=>by
  simp only [cy] at h
  split at h
  ·rename_i h1
   simp only [ug]
   rw [V8 c h1,pn cs h]
  ·cases h
end
inductive UAl (G:List Nat) (B':List (Nat×Option bc)) : List (Nat×Option bc)→BU→Prop
 | nil:UAl G B' [] []
 | cons (t:Nat) (sb:Option bc) (b:Box) (us:List (Nat×Option bc)) (u:BU) (h1:∀ x,sb=some x→mt B' true (some x) (some b)) (h2:sb=none→aF G t=true) (h:UAl G B' us u) : UAl G B' ((t,sb)::us) ((t,b)::u)
variable {G:List Nat}
theorem UAl.app {us us':List (Nat×Option bc)} {u u':BU} (h:UAl G B' us u) (h':UAl G B' us' u') : UAl G B' (us++us') (u++u'):=by
 induction h with
 | nil=>exact h'
 | cons t sb b us u h1 h2 h ih=>exact .cons t sb b _ _ h1 h2 ih
theorem ft:∀ {us:List (Nat×Option bc)} {t:Nat},t∈idU us↔∃ sb,(t,sb)∈us
 | [],t=>by simp [idU]
 | (i,b)::us,t=>by
  simp only [idU,List.mem_cons,Prod.mk.injEq]
  constructor
  ·rintro (rfl | h)
   ·exact ⟨b,.inl ⟨rfl,rfl⟩⟩
   ·obtain ⟨sb,h⟩:=ft.1 h; exact ⟨sb,.inr h⟩
  ·rintro ⟨sb,⟨rfl,_⟩ | h⟩
   ·exact .inl rfl
   ·exact .inr (ft.2 ⟨sb,h⟩)
theorem V5 {us:List (Nat×Option bc)} {u:BU} (h:UAl G B' us u) (l:List (Nat×Option bc)) (t:Nat) :
  (t∈idU us∧∃ sb b,lkB (us++l) t=sb∧lkU u t=some b∧(∀ x,sb=some x→mt B' true (some x) (some b))∧(sb=none→aF G t=true))∨(t ∉ idU us∧lkB (us++l) t=lkB l t∧lkU u t=none):=by
 induction h with
 | nil=>exact .inr ⟨by simp [idU],rfl,rfl⟩
 | cons i sb b us u h1 h2 h ih =>
  by_cases hi:t=i
  ·subst hi
   refine .inl ⟨by simp [idU],sb,b,?_,?_,h1,h2⟩
   ·rw [List.cons_append,av,if_pos rfl]
   ·simp [lkU]
  ·rcases ih with ⟨m1,sb',b',m2,m3,m4⟩ | ⟨m1,m2,m3⟩
   ·refine .inl ⟨by simp [idU,m1],sb',b',?_,?_,m4⟩
    ·rw [List.cons_append,av,if_neg hi]; exact m2
    ·simp only [lkU,if_neg hi]; exact m3
   ·refine .inr ⟨by simp [idU,m1,hi],?_,?_⟩
    ·rw [List.cons_append,av,if_neg hi]; exact m2
    ·simp only [lkU,if_neg hi]; exact m3
theorem d8:∀ {l:List Nat} {i:Nat},aF l i=true↔i∈l
 | [],i=>by simp [aF]
 | j::l,i=>by
  simp only [aF,cU,List.mem_cons]
  by_cases h:i=j
  ·simp [h]
  ·simp only [h,decide_false,false_or]; exact d8
theorem yN {l:List Nat} {i:Nat} : aF l i=false↔i ∉ l:=by rw [← d8]; simp
theorem jn:∀ {l:List Nat},tb l=true→l.Nodup
 | [],_=>List.nodup_nil
 | a::l,h=>by
  simp only [tb] at h
  split at h
  ·cases h
  ·rename_i h1
   exact List.nodup_cons.2 ⟨yN.1 h1,jn h⟩
theorem rV:∀ {l m:List Nat},O0 l m=true→∀ x∈l,x∈m
 | [],_,_,x,hx=>by cases hx
 | a::l,m,h,x,hx=>by
  simp only [O0] at h
  split at h
  ·rename_i h1
   rcases List.mem_cons.1 hx with rfl | hx
   ·exact d8.1 h1
   ·exact rV h x hx
  ·cases h
theorem Es:∀ {l:List Nat},Ss s l=true→∀ i∈l,aF s.pr i=false
 | [],_,i,hi=>by cases hi
 | a::l,h,i,hi=>by
  simp only [Ss] at h
  split at h
  ·cases h
  ·rename_i h1
   rcases List.mem_cons.1 hi with rfl | hi
   ·exact h1
   ·exact Es h i hi
theorem Et:∀ {l:List Nat},Su s l=true→∀ i∈l,JW s i=true∧lkB s.bx i=none∧i < 1000000
 | [],_,i,hi=>by cases hi
 | a::l,h,i,hi=>by
  simp only [Su] at h
  split at h
  ·rename_i h1 h2 h3
   rcases List.mem_cons.1 hi with rfl | hi
   ·exact ⟨h1,h2,Nat.le_of_ble_eq_true h3⟩
   ·exact Et h i hi
  ·cases h
theorem Eu:∀ {us:List (Nat×Option bc)},Sv s us=true→∀ t sb,(t,sb)∈us→∀ ty cs,lkB s.bx t=some (.st ty cs)→∃ cs',sb=some (.st ty cs')∧cs'.length=cs.length
 | [],_,t,sb,h,_,_,_=>by cases h
 | (i,b)::us,h,t,sb,hm,ty,cs,hl=>by
  simp only [Sv,Bool.and_eq_true] at h
  rcases List.mem_cons.1 hm with e | hm
  ·injection e with e1 e2
   subst e1 e2
   have h1:=h.1
   rw [hl] at h1
   simp only at h1
   split at h1
   ·rename_i ty' cs'
    rw [Bool.and_eq_true,Nat.beq_eq] at h1
    have:=zd h1.1
    subst this
    exact ⟨cs',rfl,h1.2.symm⟩
   ·cases h1
  ·exact Eu h.2 t sb hm ty cs hl
mutual
theorem IZ (b:Nat→Option Box) : ∀ q:PV,clean q=true→asData b q=qJ q
 | .junk,_=>rfl
 | .d _,_=>rfl
 | .fe _,_=>rfl
 | .ptr _ _,h=>by cases h
 | .row _ _,h=>by cases h
 | .re _ _ _ _,h=>by cases h
 | .vw _ _ _ _,h=>by cases h
 | .ag cs,h=>by simp only [asData,qJ]; rw [p5 b cs h]
 | .tup cs,h=>by simp only [asData,qJ]; rw [p5 b cs h]
 | .fn f ps qs,h=>by
  have h:(cK ps&&cK qs)=true:=h
  rw [Bool.and_eq_true] at h
  simp only [asData,qJ]; rw [p5 b ps h.1,p5 b qs h.2]
theorem p5 (b:Nat→Option Box) : ∀ cs:List PV,cK cs=true→bO b cs=dP cs
 | [],_=>rfl
 | c::cs,h=>by
  simp only [cK,Bool.and_eq_true] at h
  simp only [bO,dP]; rw [IZ b c h.1,p5 b cs h.2]
end
theorem xQ (hs:Sim s p) {rows:List (Nat×Nat×Nat×Nat×Ty)} : ∀ {cs:List SV} {qs:List PV} {ds:List SD} {j:Nat},ce s.bx cs qs→cellsOf s rows j cs=some ds →
  dP qs=ej rows j (ds.map SD.toD)∧∀ t Bx,(t,Bx)∈ci rows j (ds.map SD.toD)→p.b t=some Bx
 | [],qs,ds,j,hv,h=>by
  rcases hv.cases with ⟨_,rfl⟩ | ⟨_,_,_,_,h1,_⟩
  ·injection h with h; subst h; exact ⟨rfl,fun _ _ h=>by cases h⟩
  ·cases h1
 | c::cs,qs,ds,j,hv,h=>by
  rcases hv.cases with ⟨h1,_⟩ | ⟨c',q,cs',qs',h1,rfl,h2,h3⟩
  ·cases h1
  ·injection h1 with e1 e2
   subst e1 e2
   simp only [cellsOf] at h
   split at h
   ·rename_i R e k t hf
    split at h
    ·rename_i R' e' k' t' xs pins hb
     split at h
     ·rename_i hty _
      obtain ⟨m1,h⟩:=aq h
      obtain ⟨m2,h⟩:=aq h
      obtain ⟨m3,h⟩:=aq h
      split at h
      ·rename_i r hr
       injection h with h
       subst h hty
       rw [Nat.beq_eq] at m1
       have m2:=zd m2
       have m3:=zd m3
       subst m1 m2 m3
       obtain ⟨k1,k2⟩:=xQ hs h3 hr
       have hbx:=hs.bx R'
       rw [hb] at hbx
       cases h2 with
       | row _ n e2 k2' ty2 xs2 pins2 hb2 hn =>
        rw [hb] at hb2
        injection hb2 with hb2
        injection hb2 with q1 q2 q3 q4 q5
        subst q3
        have q4:=eq_of_heq q4
        subst q4
        refine ⟨?_,?_⟩
        ·simp only [dP,qJ,List.map_cons,ej,hf,SD.toD,k1]
         simp [y6,hn]
        ·intro t Bx hm
         simp only [List.map_cons,ci,hf,SD.toD,List.mem_cons,Prod.mk.injEq] at hm
         rcases hm with ⟨rfl,rfl⟩ | hm
         ·exact hbx.1
         ·exact k2 t Bx hm
      ·cases h
     ·cases h
    ·cases h
   ·rename_i hf
    split at h
    ·rename_i x r hr
     injection h with h
     subst h
     obtain ⟨k1,k2⟩:=xQ hs h3 hr
     cases h2 with
     | d _ y hy =>
      refine ⟨?_,?_⟩
      ·simp only [dP,qJ,List.map_cons,ej,hf,k1,hy.nrm]
      ·intro t Bx hm
       simp only [List.map_cons,ci,hf] at hm
       exact k2 t Bx hm
    ·cases h
theorem B6:∀ {rows:List (Nat×Nat×Nat×Ty)} {cs:List SV} {is:List Nat},Dp rows cs=some is→is.length=rows.length
 | [],_,is,h=>by injection h with h; subst h; rfl
 | (j,e)::rows,cs,is,h=>by
  simp only [Dp] at h
  split at h
  ·rename_i R is' _ h1
   injection h with h
   subst h
   simp [B6 h1]
  ·cases h
theorem FB (hs:Sim s p) {rows:List (Nat×Nat×Nat×Ty)} {n:Nat} {cs:List SV} {qs:List PV} {x:ST n} {is:List Nat} (hv:ce s.bx cs qs) (h:M7 s rows n cs=some (x,is)) :
  is.length=rows.length∧dP qs=ej (mu rows is) 0 (stD n x)∧∀ t Bx,(t,Bx)∈ci (mu rows is) 0 (stD n x)→p.b t=some Bx:=by
 unfold M7 at h
 split at h
 ·rename_i is' hi
  split at h
  ·rename_i ds hd
   split at h
   ·rename_i x' hx
    injection h with h
    injection h with e1 e2
    subst e1 e2
    rw [← AI hx]
    exact ⟨B6 hi,xQ hs hv hd⟩
   ·cases h
  ·cases h
 ·cases h
structure abx (p:PS) (pt:PT) (q:PV) (x:pt.den) (is:List Nat) : Prop where
 len:is.length=pt.nI
 v:qJ q=(toI pt is x).1
 b:∀ t Bx,(t,Bx)∈(toI pt is x).2→∃ B',p.b t=some B'∧sg B' = Bx
theorem Bq (hs:Sim s p) {e k:Nat} {t:Ty} {v:SV} {q:PV} {xs:List t.den} {is:List Nat} (hv:bj s.bx v q) (h:tv s e k t v=some (xs,is)) : ∃ i,is = [i]∧q = .row i xs.length∧p.b i=some (rwU e k t xs)∧∃ e' k' t' xs' pins,lkB s.bx i=some (.rw e' k' t' xs' pins)∧xs'.length=xs.length:=by
 unfold tv at h
 split at h
 ·rename_i i
  split at h
  ·rename_i e' k' t' xs' pins hb
   split at h
   ·rename_i hty _
    obtain ⟨m2,h⟩:=aq h
    obtain ⟨m3,h⟩:=aq h
    injection h with h
    injection h with e1 e2
    subst e1 e2 hty
    have m2:=zd m2
    have m3:=zd m3
    subst m2 m3
    have hbx:=hs.bx i
    rw [hb] at hbx
    cases hv with
    | row _ n e2 k2' ty2 xs2 pins2 hb2 hn =>
     rw [hb] at hb2
     injection hb2 with hb2
     injection hb2 with q1 q2 q3 q4 q5
     subst q3
     have q4:=eq_of_heq q4
     subst q4
     exact ⟨i,rfl,by rw [← hn]; rfl,hbx.1,_,_,_,_,_,hb,rfl⟩
   ·cases h
  ·cases h
 ·cases h
theorem Zv (hs:Sim s p) {pt:PT} {v:SV} {q:PV} {x:pt.den} {is:List Nat} (hv:bj s.bx v q) (h:M9 s pt v=some (x,is)) : is = []∧qJ q=pH pt x:=by
 unfold M9 at h
 obtain ⟨h1,h⟩:=aq h
 split at h
 ·rename_i x' hx
  injection h with h
  injection h with e1 e2
  subst e1 e2
  obtain ⟨k1,k2⟩:=(DB hs hv hx).2 h1
  exact ⟨rfl,by rw [← IZ eb q k1]; exact k2⟩
 ·cases h
theorem Kj (hs:Sim s p) : ∀ {pt:PT} {v:SV} {q:PV} {x:pt.den} {is:List Nat},bj s.bx v q→P1 s pt v=some (x,is)→abx p pt q x is:=by
 intro pt v q x is hv h
 have plain:∀ {pt:PT} {x:pt.den},pt.nI=0→(toI pt [] x)=(pH pt x,[])→M9 s pt v=some (x,is)→abx p pt q x is:=fun {pt x} h0 h1 h=>by
  obtain ⟨rfl,h2⟩:=Zv hs hv h
  exact ⟨h0.symm,by rw [h1]; exact h2,by rw [h1]; exact fun _ _ h=>by cases h⟩
 have row:∀ {e k:Nat} {t:Ty} {xs:List t.den},tv s e k t v=some (xs,is)→is.length=1∧∃ i,is = [i]∧q = .row i xs.length∧p.b i=some (rwU e k t xs):=fun {e k t xs} h=>by
  obtain ⟨i,rfl,h1,h2,_⟩:=Bq hs hv h
  exact ⟨rfl,i,rfl,h1,h2⟩
 cases pt with
 | lf t=>exact plain rfl rfl h
 | ag i=>exact plain rfl rfl h
 | pl t=>exact plain rfl rfl h
 | ps i=>exact plain rfl rfl h
 | fn f a b=>exact plain rfl rfl h
 | io l=>exact dQ (x:=(x,is)) h
 | own e k t =>
  obtain ⟨h1,i,rfl,h2,h3⟩:=row (xs:=x) h
  refine ⟨h1,by rw [h2]; rfl,fun t' Bx hm=>?_⟩
  simp only [toI,List.mem_cons,List.not_mem_nil,or_false,Prod.mk.injEq] at hm
  obtain ⟨rfl,rfl⟩:=hm
  exact ⟨_,h3,rfl⟩
 | mv e k t =>
  obtain ⟨h1,i,rfl,h2,h3⟩:=row (xs:=x) h
  refine ⟨h1,by rw [h2]; rfl,fun t' Bx hm=>?_⟩
  simp only [toI,List.mem_cons,List.not_mem_nil,or_false,Prod.mk.injEq] at hm
  obtain ⟨rfl,rfl⟩:=hm
  exact ⟨_,h3,rfl⟩
 | bx ty n rows =>
  replace h:Nd s ty n rows v=some (x,is):=h
  unfold Nd at h
  split at h
  ·rename_i i
   split at h
   ·rename_i ty' cs hb
    obtain ⟨m1,h⟩:=aq h
    have m1:=zd m1
    subst m1
    split at h
    ·rename_i x' is' hd
     injection h with h
     injection h with e1 e2
     subst e1 e2
     have hbx:=hs.bx i
     rw [hb] at hbx
     obtain ⟨qs,k1,k2⟩:=hbx
     obtain ⟨k3,k4,k5⟩:=FB hs k2 hd
     cases hv with
     | ptr _ _ _ _ _ =>
      refine ⟨by simp [k3,PT.nI],rfl,fun t' Bx hm=>?_⟩
      simp only [toI,List.mem_cons,Prod.mk.injEq] at hm
      rcases hm with ⟨rfl,rfl⟩ | hm
      ·exact ⟨_,k1,by rw [sg,k4]⟩
      ·have:=k5 t' Bx hm
       refine ⟨Bx,this,?_⟩
       have:∀ {rows:List (Nat×Nat×Nat×Nat×Ty)} {ds:List D} {j:Nat},(t',Bx)∈ci rows j ds→sg Bx=Bx:=by
        intro rows ds
        induction ds with
        | nil=>intro j h; cases h
        | cons d ds ih =>
         intro j h
         simp only [ci] at h
         split at h
         ·split at h
          ·rcases List.mem_cons.1 h with e | h
           ·injection e with _ e; subst e; rfl
           ·exact ih h
          ·exact ih h
         ·exact ih h
       exact this hm
    ·cases h
   ·cases h
  ·cases h
 | agr n rows =>
  replace h:P2 s n rows v=some (x,is):=h
  unfold P2 at h
  split at h
  ·rename_i cs
   obtain ⟨qs,rfl,hq⟩:=DQ hv
   obtain ⟨k3,k4,k5⟩:=FB hs hq h
   refine ⟨k3,by simp only [qJ,toI,k4],fun t' Bx hm=>?_⟩
   have:=k5 t' Bx hm
   refine ⟨Bx,this,?_⟩
   have:∀ {rows:List (Nat×Nat×Nat×Nat×Ty)} {ds:List D} {j:Nat},(t',Bx)∈ci rows j ds→sg Bx=Bx:=by
    intro rows ds
    induction ds with
    | nil=>intro j h; cases h
    | cons d ds ih =>
     intro j h
     simp only [ci] at h
     split at h
     ·split at h
      ·rcases List.mem_cons.1 h with e | h
       ·injection e with _ e; subst e; rfl
       ·exact ih h
      ·exact ih h
     ·exact ih h
   exact this hm
  ·cases h
theorem Na (hs:Sim s p) : ∀ {ps:List PT} {vs:List SV} {qs:List PV} {x:cE ps} {iss:List (List Nat)},ce s.bx vs qs→IX s ps vs=some (x,iss) →
  i8 ps iss∧dP qs=(dS ps iss x).1∧∀ t Bx,(t,Bx)∈(dS ps iss x).2→∃ B',p.b t=some B'∧sg B' = Bx
 | [],[],qs,x,iss,hv,h=>by
  rcases hv.cases with ⟨_,rfl⟩ | ⟨_,_,_,_,h1,_⟩
  ·injection h with h
   injection h with _ h
   subst h
   exact ⟨trivial,rfl,fun _ _ h=>by cases h⟩
  ·cases h1
 | [],_ :: _,_,_,_,_,h=>by cases h
 | _ :: _,[],_,_,_,_,h=>by cases h
 | pt::ps,v::vs,qs,x,iss,hv,h=>by
  rcases hv.cases with ⟨h1,_⟩ | ⟨v',q,vs',qs',h1,rfl,h2,h3⟩
  ·cases h1
  ·injection h1 with e1 e2
   subst e1 e2
   simp only [IX] at h
   split at h
   ·rename_i y is ys iss' m1 m2
    injection h with h
    injection h with e1 e2
    subst e1 e2
    obtain ⟨k1,k2,k3⟩:=Kj hs h2 m1
    obtain ⟨k4,k5,k6⟩:=Na hs h3 m2
    refine ⟨⟨k1,k4⟩,by simp only [dP,dS,k2,k5],fun t Bx hm=>?_⟩
    simp only [dS,List.mem_append] at hm
    rcases hm with hm | hm
    ·exact k3 t Bx hm
    ·exact k6 t Bx hm
   ·cases h
end
section
variable {B B':List (Nat×Option bc)} {s:SS} {p:PS} {P:Program} {ρ : Type} {G:List Nat} {sc:List Nat}
def wm (B':List (Nat×Option bc)) (bx:List (Nat×Option bc)) : Prop:=∀ t x,(t,some x)∈bx→lkB B' t=some x
theorem wm.app {a b:List (Nat×Option bc)} (h:wm B' (a++b)) : wm B' a∧wm B' b:=⟨fun t x hm=>h t x (List.mem_append_left _ hm),fun t x hm=>h t x (List.mem_append_right _ hm)⟩
theorem Pg {rows:List (Nat×Nat×Nat×Nat×Ty)} : ∀ {cs:List SD} {j:Nat} {vs:List SV} {bx:List (Nat×Option bc)},gf rows j cs [] = some (vs,bx)→(∀ c∈cs,c≠.nl) →
  UAl G B' bx (ci rows j (cs.map SD.toD))∧(wm B' bx→ce B' vs (ej rows j (cs.map SD.toD)))
 | [],j,vs,bx,h,_=>by
  simp only [gf] at h
  injection h with h
  injection h with e1 e2
  subst e1 e2
  exact ⟨.nil,fun _=>.nil⟩
 | c::cs,j,vs,bx,h,hn=>by
  simp only [gf] at h
  have hn':=fun c' hc=>hn c' (List.mem_cons_of_mem _ hc)
  split at h
  ·rename_i R e k t hf
   split at h
   ·rename_i xs vs' bx' hx hr
    injection h with h
    injection h with e1 e2
    subst e1 e2
    obtain ⟨k1,k2⟩:=Pg hr hn'
    have hD:c.toD = .sl ((show List t.den from xs).map (bH t)):=by
     rw [← Dx hx]; rfl
    simp only [List.map_cons,ci,ej,hf,hD]
    refine ⟨.cons R _ _ _ _ (fun x hx=>?_) (fun h=>by cases h) k1,fun hs=>.cons ?_ (k2 fun t x hm=>hs t x (List.mem_cons_of_mem _ hm))⟩
    ·injection hx with hx
     subst hx
     exact ⟨rfl,fun p pin h=>by cases h⟩
    ·exact .row R _ e k t xs [] (hs R _ List.mem_cons_self) (show List.length (show List t.den from xs) = _ from (List.length_map _).symm)
   ·cases h
  ·rename_i hf
   split at h
   ·rename_i vs' bx' hr
    injection h with h
    injection h with e1 e2
    subst e1 e2
    obtain ⟨k1,k2⟩:=Pg hr hn'
    simp only [List.map_cons,ci,ej,hf]
    exact ⟨k1,fun hs=>.cons (.d _ _ (Ly.of (hn c List.mem_cons_self))) (k2 hs)⟩
   ·cases h
theorem Fd {rows:List (Nat×Nat×Nat×Ty)} {is:List Nat} {n:Nat} {x:ST n} {vs:List SV} {bx:List (Nat×Option bc)} (h:MS rows is n x=some (vs,bx)) :
  UAl G B' bx (ci (mu rows is) 0 (stD n x))∧(wm B' bx→ce B' vs (ej (mu rows is) 0 (stD n x))):=by
 rw [← ut n x]
 exact Pg h (xk n x)
theorem IJ {e k:Nat} {t:Ty} (xs:List t.den) {is:List Nat} {v:SV} {bx:List (Nat×Option bc)} (h:(match is with | [i]=>some (SV.row i,[(i,some (bc.rw e k t xs []))]) | _=>none)=some (v,bx)) (hs:wm B' bx) :
  ∃ i,is = [i]∧v = .row i∧UAl G B' bx [(i,rwU e k t xs)]∧bj B' v (.row i xs.length):=by
 split at h
 ·rename_i i
  injection h with h
  injection h with e1 e2
  subst e1 e2
  exact ⟨i,rfl,rfl,.cons i _ _ _ _ (fun x hx=>by injection hx with hx; subst hx; exact ⟨rfl,fun p pin h=>by cases h⟩) (fun h=>by cases h) .nil,.row i _ e k t xs [] (hs i _ List.mem_cons_self) rfl⟩
 ·cases h
theorem Ke {pt:PT} {is:List Nat} {x:pt.den} {v:SV} {bx:List (Nat×Option bc)} (hp:(pt.isM||TU pt)=true) (h:MX pt is x=some (v,bx)) (hs:wm B' bx) :
  UAl G B' bx (toI pt is x).2∧bj B' v (toI pt is x).1:=by
 have plain:∀ {pt:PT} {x:pt.den},pt.isM=false→(pt.isM||TU pt)=true→(toI pt is x)=(pH pt x,[])→v=Up pt x→bx = []→UAl G B' bx (toI pt is x).2∧bj B' v (toI pt is x).1:=fun {pt x} h1 h2 h3 h4 h5=>by
  subst h4 h5
  rw [h1,Bool.false_or] at h2
  rw [h3]
  exact ⟨.nil,yY pt x h2⟩
 cases pt with
 | lf t=>injection h with h; injection h with e1 e2; exact plain rfl hp rfl e1.symm e2.symm
 | ag t=>injection h with h; injection h with e1 e2; exact plain rfl hp rfl e1.symm e2.symm
 | pl t=>injection h with h; injection h with e1 e2; exact plain rfl hp rfl e1.symm e2.symm
 | ps t=>injection h with h; injection h with e1 e2; exact plain rfl hp rfl e1.symm e2.symm
 | fn f a b=>injection h with h; injection h with e1 e2; exact plain rfl hp rfl e1.symm e2.symm
 | io l=>cases h
 | own e k t=>obtain ⟨i,rfl,rfl,k1,k2⟩:=IJ (G:=G) (B':=B') (show List t.den from x) h hs; exact ⟨k1,k2⟩
 | mv e k t=>obtain ⟨i,rfl,rfl,k1,k2⟩:=IJ (G:=G) (B':=B') (show List t.den from x) h hs; exact ⟨k1,k2⟩
 | bx ty n rows =>
  simp only [MX] at h
  split at h
  ·rename_i i is'
   split at h
   ·rename_i vs bx' he
    injection h with h
    injection h with e1 e2
    subst e1 e2
    obtain ⟨k1,k2⟩:=Fd (G:=G) (B':=B') he
    have hc:=k2 fun t x hm=>hs t x (List.mem_cons_of_mem _ hm)
    exact ⟨.cons i _ _ _ _ (fun x hx=>by injection hx with hx; subst hx; exact ⟨_,rfl,hc⟩) (fun h=>by cases h) k1,.ptr i 0 _ _ (hs i _ List.mem_cons_self)⟩
   ·cases h
  ·cases h
 | agr n rows =>
  simp only [MX] at h
  split at h
  ·rename_i vs bx' he
   injection h with h
   injection h with e1 e2
   subst e1 e2
   obtain ⟨k1,k2⟩:=Fd (G:=G) (B':=B') he
   have hc:=k2 hs
   exact ⟨k1,.ag _ _ hc.len hc.rep⟩
  ·cases h
theorem IK:∀ {rs:List PT} {jss:List (List Nat)} {r:bl rs} {vs:List SV} {bs:List (Nat×Option bc)},ta rs=true→Kd rs jss r=some (vs,bs)→wm B' bs→UAl G B' bs (cR rs jss r).2∧ce B' vs (cR rs jss r).1
 | [],[],r,vs,bs,_,h,_=>by
  have h:some (([] : List SV),([] : List (Nat×Option bc)))=some (vs,bs):=h
  injection h with h
  injection h with e1 e2
  subst e1 e2
  exact ⟨.nil,.nil⟩
 | [],_ :: _,r,vs,bs,_,h,_=>by cases h
 | [pt],[],r,vs,bs,_,h,_=>by cases h
 | [pt],[is],r,vs,bs,hp,h,hs=>by
  have h:(match MX pt is r with | some (v,b)=>some ([v],b) | none=>none)=some (vs,bs):=h
  simp only [ta] at hp
  split at hp
  ·rename_i hp1
   split at h
   ·rename_i v b he
    injection h with h
    injection h with e1 e2
    subst e1 e2
    obtain ⟨k1,k2⟩:=Ke (G:=G) (B':=B') hp1 he hs
    exact ⟨k1,.cons k2 .nil⟩
   ·cases h
  ·cases hp
 | [pt],_ :: _ :: _,r,vs,bs,_,h,_=>by cases h
 | pt::q::l,[],r,vs,bs,_,h,_=>by cases h
 | pt::q::l,is::iss,r,vs,bs,hp,h,hs=>by
  have h:(match MX pt is r.1,Kd (q::l) iss r.2 with | some (v,b),some (vs,bs)=>some (v::vs,b++bs) | _,_=>none)=some (vs,bs):=h
  rw [ta] at hp
  split at hp
  ·rename_i hp1
   split at h
   ·rename_i v b vs' bs' he hr
    injection h with h
    injection h with e1 e2
    subst e1 e2
    obtain ⟨s1,s2⟩:=hs.app
    obtain ⟨k1,k2⟩:=Ke (G:=G) (B':=B') hp1 he s1
    obtain ⟨k3,k4⟩:=IK hp hr s2
    exact ⟨k1.app k3,.cons k2 k4⟩
   ·cases h
  ·cases hp
theorem WH {vs:List SV} {qs:List PV} (h:ce B vs qs) : bj B (WI vs) (yJ qs):=by
 match vs,qs,h with
 | [],[],h=>exact .tup _ _ rfl (fun j c q h1=>by simp at h1)
 | [v],[q],h=>exact h.head
 | v::v' :: vs,q::q' :: qs,h=>exact .tup _ _ h.len h.rep
 | [],_ :: _,h=>have:=h.len; simp at this
 | _ :: _,[],h=>have:=h.len; simp at this
 | [_],_ :: _ :: _,h=>have:=h.len; simp at this
 | _ :: _ :: _,[_],h=>have:=h.len; simp at this
def Bw (s:SS) (ks js:List Nat) (t:Nat) (sb:Option bc) : Prop :=
 aF ks t=true∨t∈js∨(∃ ty cs,lkB s.bx t=some (.st ty cs))∨∃ e k ty xs pins e' k' ty' xs',lkB s.bx t=some (.rw e k ty xs pins)∧sb=some (.rw e' k' ty' xs' (wJ pins))∧xs'.length=xs.length
theorem DK:∀ {rows:List (Nat×Nat×Nat×Ty)} {is:List Nat} {j R e k:Nat} {t:Ty},pV (mu rows is) j=some (R,e,k,t)→R∈is
 | [],is,j,R,e,k,t,h=>by cases is <;> cases h
 | (j0,e0,k0,t0)::rows,[],j,R,e,k,t,h=>by cases h
 | (j0,e0,k0,t0)::rows,R0::is,j,R,e,k,t,h=>by
  simp only [mu,pV] at h
  split at h
  ·injection h with h
   injection h with h _
   subst h
   exact List.mem_cons_self
  ·exact List.mem_cons_of_mem _ (DK h)
theorem JO {rows:List (Nat×Nat×Nat×Ty)} {is:List Nat} : ∀ {cs:List SD} {j:Nat} {vs:List SV} {bx:List (Nat×Option bc)},gf (mu rows is) j cs [] = some (vs,bx)→∀ t sb,(t,sb)∈bx→t∈is
 | [],j,vs,bx,h,t,sb,hm=>by
  simp only [gf] at h
  injection h with h
  injection h with e1 e2
  subst e1 e2
  cases hm
 | c::cs,j,vs,bx,h,t,sb,hm=>by
  simp only [gf] at h
  split at h
  ·rename_i R e k t' hf
   split at h
   ·rename_i xs vs' bx' hx hr
    injection h with h
    injection h with e1 e2
    subst e1 e2
    rcases List.mem_cons.1 hm with e | hm
    ·injection e with e _
     subst e
     exact DK hf
    ·exact JO hr t sb hm
   ·cases h
  ·split at h
   ·rename_i vs' bx' hr
    injection h with h
    injection h with e1 e2
    subst e1 e2
    exact JO hr t sb hm
   ·cases h
theorem Zm (hs:Sim s p) {pt:PT} {b:IB} {is js:List Nat} {x:pt.den} {o:b.den} {v:SV} {q:PV} {m:MU} (hv:bj s.bx v q) (hd:P1 s pt v=some (x,is)) (hl:aba pt b x o) (h:aaH s pt b is js o=some m) (hsn:wm B' m.us) :
  (UAl G B' m.us (toO pt b is js x o)∧m.gs=EV pt is∧∀ i∈m.gs,aF m.ks i=true)∧∀ t sb,(t,sb)∈m.us→Bw s m.ks js t sb:=by
 have nil:some (⟨[],[],[]⟩ : MU)=some m→toO pt b is js x o = []→EV pt is = []→(UAl G B' m.us (toO pt b is js x o)∧m.gs=EV pt is∧∀ i∈m.gs,aF m.ks i=true)∧∀ t sb,(t,sb)∈m.us→Bw s m.ks js t sb:=fun h1 h2 h3=>by
  injection h1 with h1
  subst h1
  rw [h2,h3]
  exact ⟨⟨.nil,rfl,fun _ h=>by cases h⟩,fun t sb h=>by cases h⟩
 cases pt with
 | lf t=>cases b with
  | no=>exact nil h rfl rfl
  | _=>cases h
 | ag t=>cases b with
  | no=>exact nil h rfl rfl
  | _=>cases h
 | pl t=>cases b with
  | no=>exact nil h rfl rfl
  | _=>cases h
 | ps t=>cases b with
  | no=>exact nil h rfl rfl
  | _=>cases h
 | fn f a c=>cases b with
  | no=>exact nil h rfl rfl
  | _=>cases h
 | io l=>cases b <;> cases h
 | agr n rows=>cases b <;> cases h
 | own e k t=>cases b with
  | no=>cases h
  | bx=>cases h
  | own e' k' t' =>
   obtain ⟨i,rfl,h1,h2,e2,k2,t2,xs2,pins,h3,h4⟩:=Bq hs hv (show tv s e k t v=some (x,is) from hd)
   have h:some (⟨[],[(i,some (.rw e' k' t' o (JT s i)))],[]⟩ : MU)=some m:=h
   injection h with h
   subst h
   have hp:JT s i=wJ pins:=by unfold JT; rw [h3]
   rw [hp]
   have hl:(show List t'.den from o).length=(show List t.den from x).length:=hl
   refine ⟨⟨.cons i _ _ _ _ (fun y hy=>?_) (fun h=>by cases h) .nil,rfl,fun _ h=>by cases h⟩,fun t sb hm=>?_⟩
   ·injection hy with hy
    subst hy
    refine ⟨rfl,fun pp pin hpin=>?_⟩
    rw [mS,zm] at hpin
    obtain ⟨pin0,h5,rfl⟩:=hpin
    have hbx:=hs.bx i
    rw [h3] at hbx
    obtain ⟨h6,_⟩:=hbx.2 pp pin0 h5
    exact ⟨by show pin0.i.toNat < (show List t'.den from o).length; rw [hl]; show _ < List.length _; rw [← h4]; exact h6,fun cs h=>by cases h⟩
   ·simp only [List.mem_cons,List.not_mem_nil,or_false,Prod.mk.injEq] at hm
    obtain ⟨rfl,rfl⟩:=hm
    exact .inr (.inr (.inr ⟨_,_,_,_,_,_,_,_,_,h3,rfl,by show (show List t'.den from o).length = _; rw [hl]; exact h4.symm⟩))
 | mv e k t=>cases b with
  | own=>cases h
  | bx=>cases h
  | no =>
   obtain ⟨i,rfl,_⟩:=Bq hs hv (show tv s e k t v=some (x,is) from hd)
   have h:some (⟨[i],[],[i]⟩ : MU)=some m:=h
   injection h with h
   subst h
   exact ⟨⟨.nil,rfl,fun j hj=>d8.2 hj⟩,fun t sb hm=>by cases hm⟩
 | bx ty n rows=>cases b with
  | own=>cases h
  | no=>cases h
  | bx ty' n' rows' =>
   have hb:∃ i is' cs ty0,is=i::is'∧lkB s.bx i=some (.st ty0 cs):=by
    replace hd:Nd s ty n rows v=some (x,is):=hd
    clear h
    unfold Nd at hd
    split at hd
    ·rename_i i
     split at hd
     ·rename_i ty0 cs hb
      obtain ⟨_,hd⟩:=aq hd
      split at hd
      ·injection hd with hd
       injection hd with _ hd
       exact ⟨i,_,cs,ty0,hd.symm,hb⟩
      ·cases hd
     ·cases hd
    ·cases hd
   obtain ⟨i,is',cs,ty0,rfl,hb⟩:=hb
   have h:(match MS rows' js n' o with | some (vs,bx)=>some (⟨is',(i,some (.st ty' vs))::bx,is'⟩ : MU) | none=>none)=some m:=h
   split at h
   ·rename_i vs bx he
    injection h with h
    subst h
    obtain ⟨k1,k2⟩:=Fd (G:=G) (B':=B') he
    have hc:=k2 fun t x hm=>hsn t x (List.mem_cons_of_mem _ hm)
    refine ⟨⟨.cons i _ _ _ _ (fun x hx=>by injection hx with hx; subst hx; exact ⟨_,rfl,hc⟩) (fun h=>by cases h) k1,rfl,fun j hj=>d8.2 hj⟩,fun t sb hm=>?_⟩
    rcases List.mem_cons.1 hm with e | hm
    ·injection e with e1 e2
     subst e1 e2
     exact .inr (.inr (.inl ⟨_,_,hb⟩))
    ·exact .inr (.inl (JO he t sb hm))
   ·cases h
theorem Bw.more {ks ks' js js':List Nat} {t:Nat} {sb:Option bc} (h:Bw s ks js t sb) (hk:∀ t,aF ks t=true→aF ks' t=true) (hj:∀ t∈js,t∈js') : Bw s ks' js' t sb:=by
 rcases h with h | h | h
 ·exact .inl (hk t h)
 ·exact .inr (.inl (hj t h))
 ·exact .inr (.inr h)
theorem MT (hs:Sim s p) : ∀ {ps:List PT} {ls:List IB} {iss kss:List (List Nat)} {x:cE ps} {o:yI ls} {vs:List SV} {qs:List PV} {m:MU},ce s.bx vs qs→IX s ps vs=some (x,iss)→Mt ps ls x o→S2 s ps ls iss kss o=some m→wm B' m.us →
  (UAl G B' m.us (OV ps ls iss kss x o)∧m.gs=oS ps iss∧∀ i∈m.gs,aF m.ks i=true)∧∀ t sb,(t,sb)∈m.us→Bw s m.ks (bu kss) t sb
 | [],[],[],[],x,o,vs,qs,m,_,_,_,h,_=>by
  have h:some (⟨[],[],[]⟩ : MU)=some m:=h
  injection h with h
  subst h
  exact ⟨⟨.nil,rfl,fun _ h=>by cases h⟩,fun t sb h=>by cases h⟩
 | [],[],[],_ :: _,x,o,vs,qs,m,_,_,_,h,_=>by cases h
 | [],[],_ :: _,_,x,o,vs,qs,m,_,_,_,h,_=>by cases h
 | [],_ :: _,_,_,x,o,vs,qs,m,_,_,_,h,_=>by cases h
 | _ :: _,[],_,_,x,o,vs,qs,m,_,_,_,h,_=>by cases h
 | _ :: _,_ :: _,[],_,x,o,vs,qs,m,_,_,_,h,_=>by cases h
 | _ :: _,_ :: _,_ :: _,[],x,o,vs,qs,m,_,_,_,h,_=>by cases h
 | pt::ps,b::ls,is::iss,js::kss,x,o,vs,qs,m,hv,hd,hl,h,hsn=>by
  have h:(match aaH s pt b is js o.1,S2 s ps ls iss kss o.2 with | some m,some m'=>some (m.app m') | _,_=>none)=some m:=h
  cases vs with
  | nil=>cases hd
  | cons v vs =>
  rcases hv.cases with ⟨h1,_⟩ | ⟨v',q,vs',qs',h1,rfl,h2,h3⟩
  ·cases h1
  ·injection h1 with e1 e2
   subst e1 e2
   simp only [IX] at hd
   split at hd
   ·rename_i y is1 ys iss1 m1 m2
    injection hd with hd
    injection hd with e1 e2
    injection e2 with e2 e3
    subst e1 e2 e3
    split at h
    ·rename_i ma mb ha hb
     injection h with h
     subst h
     have hsn:wm B' (ma.us++mb.us):=hsn
     obtain ⟨s1,s2⟩:=hsn.app
     obtain ⟨⟨k1,g1,g2⟩,k2⟩:=Zm hs h2 m1 hl.1 ha s1
     obtain ⟨⟨k3,g3,g4⟩,k4⟩:=MT hs h3 m2 hl.2 hb s2
     refine ⟨⟨k1.app k3,by show ma.gs++mb.gs = _; rw [g1,g3]; rfl,fun i hi=>?_⟩,fun t sb hm=>?_⟩
     ·have hi:i∈ma.gs++mb.gs:=hi
      rcases List.mem_append.1 hi with hi | hi
      ·exact d8.2 (List.mem_append_left _ (d8.1 (g2 i hi)))
      ·exact d8.2 (List.mem_append_right _ (d8.1 (g4 i hi)))
     have hm:(t,sb)∈ma.us++mb.us:=hm
     rcases List.mem_append.1 hm with hm | hm
     ·exact (k2 t sb hm).more (fun t ht=>d8.2 (List.mem_append_left _ (d8.1 ht))) fun t ht=>List.mem_append_left _ ht
     ·exact (k4 t sb hm).more (fun t ht=>d8.2 (List.mem_append_right _ (d8.1 ht))) fun t ht=>List.mem_append_right _ ht
    ·cases h
   ·cases hd
theorem ME (l:BU) : ∀ (is:List Nat),(∀ i∈is,aF G i=true)→UAl G B' (lC is) (Cf l is)
 | [],_=>.nil
 | a::is,hg=>.cons a _ _ _ _ (fun y hy=>by cases hy) (fun _=>hg a List.mem_cons_self) (ME l is fun i hi=>hg i (List.mem_cons_of_mem _ hi))
theorem sn:∀ {is:List Nat} {t:Nat} {sb:Option bc},(t,sb)∈lC is→t∈is∧sb=none
 | [],t,sb,h=>by cases h
 | a::is,t,sb,h=>by
  rcases List.mem_cons.1 h with e | h
  ·injection e with e1 e2; subst e1 e2; exact ⟨List.mem_cons_self,rfl⟩
  ·obtain ⟨h1,h2⟩:=sn h; exact ⟨List.mem_cons_of_mem _ h1,h2⟩
theorem Iv:∀ {is:List Nat} {t:Nat},t∈is→(t,none)∈lC is
 | a::is,t,h=>by
  rcases List.mem_cons.1 h with rfl | h
  ·exact List.mem_cons_self
  ·exact List.mem_cons_of_mem _ (Iv h)
theorem Ff:∀ {ps:List PT} {iss:List (List Nat)} {x:cE ps} {vs:List SV} {bs:List (Nat×Option bc)},ta ps=true→MW ps iss x=some (vs,bs)→wm B' bs→UAl G B' bs (dS ps iss x).2∧ce B' vs (dS ps iss x).1
 | [],[],x,vs,bs,_,h,_=>by
  injection h with h
  injection h with e1 e2
  subst e1 e2
  exact ⟨.nil,.nil⟩
 | [],_ :: _,x,vs,bs,_,h,_=>by cases h
 | _ :: _,[],x,vs,bs,_,h,_=>by cases h
 | pt::ps,is::iss,x,vs,bs,hp,h,hs=>by
  simp only [MW] at h
  simp only [ta] at hp
  split at hp
  ·rename_i hp1
   split at h
   ·rename_i v b vs' bs' he hr
    injection h with h
    injection h with e1 e2
    subst e1 e2
    obtain ⟨s1,s2⟩:=hs.app
    obtain ⟨k1,k2⟩:=Ke (G:=G) (B':=B') hp1 he s1
    obtain ⟨k3,k4⟩:=Ff hp hr s2
    exact ⟨k1.app k3,.cons k2 k4⟩
   ·cases h
  ·cases hp
theorem UAl.dom {us:List (Nat×Option bc)} {u:BU} (h:UAl G B' us u) : bZ u=idU us:=by
 induction h with
 | nil=>rfl
 | cons t sb b us u h1 h2 h ih=>simp only [bZ,idU,ih]
theorem Dl:∀ {l l':List (Nat×Option bc)},(idU l).Nodup→wm (l++l') l
 | [],_,_,t,x,hm=>by cases hm
 | (i,b)::l,l',hn,t,x,hm=>by
  rw [show idU ((i,b)::l)=i::idU l from rfl,List.nodup_cons] at hn
  rw [List.cons_append,av]
  rcases List.mem_cons.1 hm with e | hm
  ·injection e with e1 e2
   subst e1 e2
   rw [if_pos rfl]
  ·rw [if_neg (fun (e:t=i)=>hn.1 (by rw [← e]; exact ft.2 ⟨_,hm⟩))]
   exact Dl hn.2 t x hm
end
section
variable {B B':List (Nat×Option bc)} {s:SS} {p:PS} {P:Program} {ρ : Type} {G:List Nat} {sc:List Nat}
theorem H3:∀ (rs:List PT) (base:Nat),i8 rs (oA base rs)
 | [],_=>trivial
 | p::l,base=>⟨List.length_range',H3 l _⟩
theorem B3:∀ (ls:List IB) (base:Nat),kp ls (uH base ls)
 | [],_=>trivial
 | p::l,base=>⟨List.length_range',B3 l _⟩
theorem o7:∀ {l:BU} {t:Nat} {B:Box},lkU l t=some B→(t,B)∈l
 | [],t,B,h=>by cases h
 | (j,C)::l,t,B,h=>by
  simp only [lkU] at h
  split at h
  ·rename_i e; subst e; injection h with h; subst h; exact List.mem_cons_self
  ·exact List.mem_cons_of_mem _ (o7 h)
theorem xt {rows:List (Nat×Nat×Nat×Ty)} {is:List Nat} : ∀ {ds:List D} {j t:Nat} {Bx:Box},(t,Bx)∈ci (mu rows is) j ds→t∈is
 | [],j,t,Bx,h=>by cases h
 | d::ds,j,t,Bx,h=>by
  simp only [ci] at h
  split at h
  ·rename_i hf
   split at h
   ·rcases List.mem_cons.1 h with e | h
    ·injection e with e _; subst e; exact DK hf
    ·exact xt h
   ·exact xt h
  ·exact xt h
theorem Jy {pt:PT} {is:List Nat} {x:pt.den} {t:Nat} {Bx:Box} (h:(t,Bx)∈(toI pt is x).2) : t∈is:=by
 cases pt with
 | lf=>cases h
 | ag=>cases h
 | pl=>cases h
 | ps=>cases h
 | fn=>cases h
 | io=>cases h
 | own e k t' =>
  simp only [toI] at h
  split at h
  ·simp only [List.mem_cons,List.not_mem_nil,or_false,Prod.mk.injEq] at h; simp [h.1]
  ·cases h
 | mv e k t' =>
  simp only [toI] at h
  split at h
  ·simp only [List.mem_cons,List.not_mem_nil,or_false,Prod.mk.injEq] at h; simp [h.1]
  ·cases h
 | bx ty n rows =>
  simp only [toI] at h
  split at h
  ·rcases List.mem_cons.1 h with e | h
   ·injection e with e _; subst e; exact List.mem_cons_self
   ·exact List.mem_cons_of_mem _ (xt h)
  ·cases h
 | agr n rows=>exact xt h
theorem su (l:List Nat) (ls:List (List Nat)) : bu (l::ls)=l++bu ls:=rfl
theorem DW:∀ {ps:List PT} {iss:List (List Nat)} {x:cE ps} {t:Nat} {Bx:Box},(t,Bx)∈(dS ps iss x).2→t∈bu iss
 | [],_,_,_,_,h=>by cases h
 | _ :: _,[],_,_,_,h=>by cases h
 | p::ps,is::iss,x,t,Bx,h=>by
  simp only [dS,List.mem_append] at h
  rw [su,List.mem_append]
  exact h.imp Jy DW
def XR (p:PS) : List Nat→BU
 | []=>[]
 | t::l=>match p.b t with | some B=>(t,B)::XR p l | none=>XR p l
theorem vR (p:PS) : ∀ (l:List Nat) (t:Nat),lkU (XR p l) t=if t∈l then p.b t else none
 | [],t=>rfl
 | a::l,t=>by
  simp only [XR]
  cases ha:p.b a with
  | none =>
   rw [vR p l t]
   by_cases h:t=a
   ·subst h; simp [ha]
   ·simp [h]
  | some B =>
   simp only [lkU]
   by_cases h:t=a
   ·subst h; simp [ha]
   ·simp only [h,if_false,List.mem_cons,false_or]; exact vR p l t
structure Z8 (sc:List Nat) (P:Program) (f:Nat) (dst:Option Nat) (s:SS) (p:PS) (qs:List PV) (v:SV) (m:MU) (r:PV) (u:BU) : Prop where
 ro:s.ro=false
 call:Z9 P p.b f qs r u
 sim:Sim (s.updM dst v m) (p.updL dst r u)
 keep:∀ W,(∀ d,dst=some d→aF W d=true)→dN sc W s (s.updM dst v m)
 foot:∀ t Bx,lkU u t=some Bx→t∈idU m.us
theorem XM {T:List (Nat×Ent)} (hT:qY P T) (hpr:mp s) (hs:Sim s p) {f:Nat} {dst:Option Nat} {vs:List SV} {qs:List PV} (hM:T9 T f vs=true) (hv:ce s.bx vs qs) {k:SV→MU→Option ρ} {res : ρ} (h:Tg T f s dst vs k=some res) :
  ∃ v m r u,k v m=some res∧Z8 sc P f dst s p qs v m r u:=by
 unfold Tg at h
 split at h
 ·cases h
 ·rename_i hro
  split at h
  ·rename_i en d hen
   split at h
   ·rename_i x iss hd
    obtain ⟨r,hf,h⟩:=bindS h
    simp only at h
    split at h
    ·rename_i m ws bs hm hbs
     obtain ⟨hc,h⟩:=aq h
     simp only [Bool.and_eq_true] at hc
     obtain ⟨c1,c2,c3,c4,c5,c6,c7,c10,c8,c9,c11⟩:=hc
     have c1:=Es c1
     have c2:=Et c2
     have c3:=jn c3
     have c4:=jn c4
     have c5:=Eu c5
     have c6:=rV c6
     have c7:=rV c7
     have c8:=rV c8
     have hE:(pd en.ps||pd en.rs)=true:=by unfold T9 at hM; rw [hen] at hM; exact hM
     obtain ⟨hlen,hsem⟩:=(hT f _ en hen x r hf).2 hE
     obtain ⟨hsh,hargs,hbox⟩:=Na hs hv hd
     have hall:∀ i∈bu iss,i∈bZ (dS en.ps iss x).2:=fun i hi=>by
      unfold Z4 at c10
      split at c10
      ·rename_i vv bi hbi
       rw [Bool.and_eq_true] at c10
       have hse:=Dl (l':=[]) (jn c10.1)
       obtain ⟨z1,_⟩:=Ff (G:=[]) c11 hbi hse
       rw [z1.dom]
       exact rV c10.2 i hi
      ·cases c10
     obtain ⟨hcb,hsem⟩:=hsem iss (uH (500000 + 64 * d) (cw en.rs)) (oA (500000 + 64 * d + D0 (cw en.rs)) (ff en.rs)) hsh (B3 _ _) (H3 _ _) c3 (fun j hj=>(c2 j (List.mem_append_right _ hj)).2.2) hall
     have hseen:wm ((m.us++(bs++lC m.gs))++xl m.ks s.bx) (m.us++(bs++lC m.gs)):=Dl c4
     have hG:∀ i∈m.gs,aF (m.gs++s.oc) i=true:=fun i hi=>d8.2 (List.mem_append_left _ hi)
     obtain ⟨s1,s23⟩:=hseen.app
     obtain ⟨s2,_⟩:=s23.app
     obtain ⟨⟨k1,g1,g2⟩,k2⟩:=MT (G:=m.gs++s.oc) hs hv hd hlen hm s1
     obtain ⟨k3,k4⟩:=IK (G:=m.gs++s.oc) c9 hbs s2
     have hal:=k1.app (k3.app (ME (dS en.ps iss x).2 m.gs hG))
     have hids:∀ t,t∈idU m.us++m.gs→t∈idU (m.us++(bs++lC m.gs)):=fun t ht=>by
      rcases List.mem_append.1 ht with ht | ht
      ·obtain ⟨sb,h⟩:=ft.1 ht; exact ft.2 ⟨sb,List.mem_append_left _ h⟩
      ·exact ft.2 ⟨none,List.mem_append_right _ (List.mem_append_right _ (Iv ht))⟩
     have hids2:∀ t,t∈idU bs→t∈idU (m.us++(bs++lC m.gs)):=fun t ht=>by obtain ⟨sb,h⟩:=ft.1 ht; exact ft.2 ⟨sb,List.mem_append_right _ (List.mem_append_left _ h)⟩
     have hids3:∀ t,t∈idU (m.us++(bs++lC m.gs))→t∈idU m.us++m.gs∨t∈idU bs:=fun t ht=>by
      obtain ⟨sb,h⟩:=ft.1 ht
      rcases List.mem_append.1 h with h | h
      ·exact .inl (List.mem_append_left _ (ft.2 ⟨sb,h⟩))
      ·rcases List.mem_append.1 h with h | h
       ·exact .inr (ft.2 ⟨sb,h⟩)
       ·exact .inl (List.mem_append_right _ (sn h).1)
     have hlk:=fun t=>V5 hal (xl m.ks s.bx) t
     have hnone2:∀ t,t∈idU bs++(bu (uH (500000 + 64 * d) (cw en.rs))++bu (oA (500000 + 64 * d + D0 (cw en.rs)) (ff en.rs)))→p.b t=none:=fun t ht=>by
      obtain ⟨n1,n2,_⟩:=c2 t ht
      have:=hs.bx t
      rw [n2] at this
      exact this (mQ n1).1
     have hnone:∀ t,t∈idU bs→p.b t=none:=fun t ht=>hnone2 t (List.mem_append_left _ ht)
     have hBL:aaT m.ks s.bx ((m.us++(bs++lC m.gs))++xl m.ks s.bx):=by
      refine ⟨fun t hk e kk ty xs pins hb=>?_,fun t ty cs hb=>?_⟩
      ·rcases hlk t with ⟨m1,sb,b,m2,m3,m4,m5⟩ | ⟨m1,m2,_⟩
       ·obtain ⟨sb',hsb'⟩:=ft.1 m1
        rcases List.mem_append.1 hsb' with hin | hin
        ·rcases k2 t sb' hin with q | q | ⟨ty',cs',q⟩ | ⟨e1,kk1,ty1,xs1,pins1,e2,kk2,ty2,xs2,q1,q2,q3⟩
         ·rw [hk] at q; cases q
         ·have:=(c2 t (List.mem_append_right _ (List.mem_append_left _ q))).2.1
          rw [hb] at this
          cases this
         ·rw [hb] at q; cases q
         ·rw [hb] at q1
          injection q1 with q1
          injection q1 with z1 z2 z3 z4 z5
          subst z3
          have z4:=eq_of_heq z4
          subst z1 z2 z4 z5 q2
          refine ⟨_,_,_,_,_,hseen t _ (List.mem_append_left _ hin),q3,fun pp pin hp=>⟨⟨pin.i,none⟩,by rw [mS,hp]; rfl,rfl⟩⟩
        ·rcases List.mem_append.1 hin with hin | hin
         ·have:=(c2 t (List.mem_append_left _ (ft.2 ⟨_,hin⟩))).2.1
          rw [hb] at this
          cases this
         ·rw [g2 t (sn hin).1] at hk; cases hk
       ·exact ⟨e,kk,ty,xs,pins,by rw [m2,uM,hb]; rfl,rfl,fun _ pin hp=>⟨pin,hp,rfl⟩⟩
      ·rcases hlk t with ⟨m1,sb,b,m2,m3,m4,m5⟩ | ⟨m1,m2,_⟩
       ·obtain ⟨sb',hsb'⟩:=ft.1 m1
        rcases List.mem_append.1 hsb' with hin | hin
        ·obtain ⟨cs',q1,_⟩:=c5 t sb' (List.mem_append_left _ hin) ty cs hb
         subst q1
         exact ⟨ty,cs',hseen t _ (List.mem_append_left _ hin)⟩
        ·rcases List.mem_append.1 hin with hin | hin
         ·have:=(c2 t (List.mem_append_left _ (ft.2 ⟨_,hin⟩))).2.1
          rw [hb] at this
          cases this
         ·obtain ⟨cs',q1,_⟩:=c5 t sb' (List.mem_append_right _ hin) ty cs hb
          rw [(sn hin).2] at q1
          cases q1
       ·exact ⟨ty,_,by rw [m2,uM,hb]; rfl⟩
     have hu:∀ t,lkU (pR en.ps en.rs iss (uH (500000 + 64 * d) (cw en.rs)) (oA (500000 + 64 * d + D0 (cw en.rs)) (ff en.rs)) x r) t=lkU (OV en.ps (cw en.rs) iss (uH (500000 + 64 * d) (cw en.rs)) x (jX en.rs r)++((cR (ff en.rs) (oA (500000 + 64 * d + D0 (cw en.rs)) (ff en.rs)) (ja en.rs r)).2++Cf (dS en.ps iss x).2 m.gs)) t:=fun t=>by unfold pR; rw [g1]
     refine ⟨WI ws,⟨m.ks,m.us++(bs++lC m.gs),m.gs⟩,yJ (cR (ff en.rs) (oA (500000 + 64 * d + D0 (cw en.rs)) (ff en.rs)) (ja en.rs r)).1,pR en.ps en.rs iss (uH (500000 + 64 * d) (cw en.rs)) (oA (500000 + 64 * d + D0 (cw en.rs)) (ff en.rs)) x r,h,hro,⟨hcb,XR p (bu iss),fun t Bx ht=>?_,fun t Bx ht hn=>?_,fun w0 F0 ρ' b w F ws' hb hbn hi hr=>?_⟩,⟨fun i=>?_,fun t=>?_⟩,fun W hW=>?_,fun t Bx ht=>?_⟩
     ·rw [vR] at ht
      split at ht
      ·rename_i hin
       rcases hlk t with ⟨_,_,b,_,m3,_⟩ | ⟨m1,_⟩
       ·exact ⟨⟨b,(hu t).trans m3⟩,ht⟩
       ·exact absurd (hids t (c6 t hin)) m1
      ·cases ht
     ·rw [vR] at hn
      rcases hlk t with ⟨m1,_⟩ | ⟨_,_,m3⟩
      ·rcases hids3 t m1 with m1 | m1
       ·rcases List.mem_append.1 (c7 t m1) with m1 | m1
        ·rw [if_pos m1] at hn; exact hn
        ·exact hnone2 t (List.mem_append_right _ (List.mem_append_left _ m1))
       ·exact hnone t m1
      ·rw [hu,m3] at ht; cases ht
     ·refine hsem w0 F0 ρ' b w F ws' qs hargs (fun t Bx ht=>?_) (fun t ht=>?_) hi hr
      ·have hm:=o7 ht
       obtain ⟨B1,q1,q2⟩:=hbox t Bx hm
       exact ⟨B1,hb t B1 (by rw [vR,if_pos (DW hm)]; exact q1),q2⟩
      ·have hin:=c8 t ht
       rcases hlk t with ⟨_,_,b1,_,m3,_⟩ | ⟨m1,_⟩
       ·refine hbn t b1 ((hu t).trans m3) ?_
        rw [vR,if_neg (fun h1=>?_)]
        exact (List.nodup_append.1 c3).2.2 t h1 t ht rfl
       ·exact absurd ((List.mem_append.1 hin).elim (fun h=>hids t (List.mem_append_left _ h)) (hids2 t)) m1
     ·show bj ((m.us++(bs++lC m.gs))++xl m.ks s.bx) (lkV (sY (Tw m.ks s.sl) (some d) (WI ws)) i) (xi p.t (some d) _ i)
      rw [vK]
      unfold xi
      split
      ·exact WH k4
      ·rw [Px]; exact (hs.sl i).st hBL
     ·show mt ((m.us++(bs++lC m.gs))++xl m.ks s.bx) (aF (m.gs++s.oc) t) (lkB ((m.us++(bs++lC m.gs))++xl m.ks s.bx) t) (dB p.b _ t)
      rcases hlk t with ⟨_,sb,b,m2,m3,m4,m5⟩ | ⟨_,m2,m3⟩
      ·rw [m2]
       have hb:dB p.b (pR en.ps en.rs iss (uH (500000 + 64 * d) (cw en.rs)) (oA (500000 + 64 * d + D0 (cw en.rs)) (ff en.rs)) x r) t=some b:=by simp only [dB,hu,m3]
       rw [hb]
       cases sb with
       | none=>intro ho; rw [m5 rfl] at ho; cases ho
       | some y=>have:=m4 y rfl; cases y <;> exact this
      ·rw [m2,uM]
       have hb:dB p.b (pR en.ps en.rs iss (uH (500000 + 64 * d) (cw en.rs)) (oA (500000 + 64 * d + D0 (cw en.rs)) (ff en.rs)) x r) t=p.b t:=by simp only [dB,hu,m3]
       rw [hb]
       have hbx:=hs.bx t
       cases hl:lkB s.bx t with
       | none =>
        rw [hl] at hbx
        intro ho
        refine hbx (yN.2 fun hi=>?_)
        rw [yN] at ho
        exact ho (List.mem_append_right _ hi)
       | some y =>
        rw [hl] at hbx
        cases y with
        | st ty cs=>obtain ⟨qs',z1,z2⟩:=hbx; exact ⟨qs',z1,z2.st hBL⟩
        | rw e kk ty xs pins=>exact hbx
     ·have hkp:∀ t,aF m.ks t=true→aF s.pr t=false:=fun t ht=>c1 t (List.mem_append_right _ (List.mem_append_left _ (d8.1 ht)))
      refine ⟨rfl,rfl,fun t ht=>?_,fun i hi hsf=>?_,fun t _ ty cs hb=>?_⟩
      ·show kZ _ (lkB ((m.us++(bs++lC m.gs))++xl m.ks s.bx) t)
       rcases hlk t with ⟨m1,_⟩ | ⟨_,m2,_⟩
       ·rcases hids3 t m1 with m1 | m1
        ·have:t∈idU m.us++(m.ks++m.gs):=by
          rcases List.mem_append.1 m1 with m1 | m1
          ·exact List.mem_append_left _ m1
          ·exact List.mem_append_right _ (List.mem_append_right _ m1)
         rw [c1 t this] at ht; cases ht
        ·rw [(mQ (c2 t (List.mem_append_left _ m1)).1).2] at ht; cases ht
       ·rw [m2,uM]
        obtain ⟨b',z1,z2⟩:=hpr t ht
        rw [z1]
        cases b' with
        | st ty cs=>simp only [Option.map_some,aaY]; rw [pn cs z2]; rfl
        | rw e kk ty xs pins=>exact ⟨pins,rfl⟩
      ·show lkV (sY (Tw m.ks s.sl) (some d) (WI ws)) i=lkV s.sl i
       rw [vK,if_neg (fun e=>by rw [hW i e] at hi; cases hi),Px]
       exact R7 hkp _ hsf
      ·show ∃ cs',lkB ((m.us++(bs++lC m.gs))++xl m.ks s.bx) t = _∧_
       rcases hlk t with ⟨m1,sb,b,m2,m3,m4,m5⟩ | ⟨m1,m2,_⟩
       ·obtain ⟨sb',hsb'⟩:=ft.1 m1
        rcases List.mem_append.1 hsb' with hin | hin
        ·obtain ⟨cs',q1,q2⟩:=c5 t sb' (List.mem_append_left _ hin) ty cs hb
         subst q1
         exact ⟨cs',hseen t _ (List.mem_append_left _ hin),q2⟩
        ·rcases List.mem_append.1 hin with hin | hin
         ·have:=(c2 t (List.mem_append_left _ (ft.2 ⟨_,hin⟩))).2.1
          rw [hb] at this
          cases this
         ·obtain ⟨cs',q1,q2⟩:=c5 t sb' (List.mem_append_right _ hin) ty cs hb
          rw [(sn hin).2] at q1
          cases q1
       ·exact ⟨_,by rw [m2,uM,hb]; rfl,pI _ _⟩
     ·rcases hlk t with ⟨m1,_⟩ | ⟨_,_,m3⟩
      ·exact m1
      ·rw [hu,m3] at ht; cases ht
    ·cases h
   ·cases h
  ·cases h
end
section
variable {sc:List Nat} {P:Program} {T:List (Nat×Ent)} {ops:Array Oper}
def LeQ (q:Bool) (p p':PS) : Prop:=match q with | true=>Le p p' | false=>p' = p
theorem LeQ.refl (q:Bool) (p:PS) : LeQ q p p:=by cases q; exact rfl; exact Le.refl p
def wn (q:Bool) (P:Program) (ops:Array Oper) (bd:Nat→Bd) : Nat→List Oper→PS→(PS→Prop)→Prop
 | _,[],s,K=>K s
 | i,o::l,s,K=>∃ s1,LeQ q s s1∧∃ r u,Eff P ops o s1 r u∧(q=false→fL ops o s1 u (bd i))∧wn q P ops bd (i + 1) l (s1.updL o.dst r u) K
theorem Ms {bd:Nat→Bd} {w0:WM} {F0:Nat→Prop} {n:Nat} {Q:Exit→Act→World→Prop} {Qs:Exit→PS→Prop} (hQ:∀ e s a w,Qs e s→ow n w0 F0 s a w→Q e a w) : ∀ (i:Nat) (l:List Oper) (s:PS) (a:Act) (w:World),IP n l=true→wn true P ops bd i l s (Qs .normal)→ow n w0 F0 s a w→wpList P ops Q l a w
 | _,[],s,a,w,_,h,hc=>hQ _ s a w h hc
 | i,o::l,s,a,w,hd,h,hc=>by
  obtain ⟨s1,h1,r,u,h2,_,h3⟩:=h
  have hc1:=(show Le s s1 from h1) n w0 F0 a w hc
  obtain ⟨hd1,hd2⟩:=PZ hd
  exact wpList_step fun K hK=>WF (f:=0) hc1 h2 hd1 (fun a' w' hc'=>hK _ _ (Ms hQ (i + 1) l _ a' w' hd2 h3 hc'))
theorem L2 {bd:Nat→Bd} {n:Nat} {Qs:Exit→PS→Prop} {s:PS} {id:Nat} {l:List Oper} (hd:IP n l=true) (h:wn true P l.toArray bd 0 l s (Qs .normal)) : PWP P n (.region id l.toArray false) Qs s :=
 fun _ _ a w hc=>wp_region_lit (Ms (Qs:=Qs) (fun _ s' _ _ h1 h2=>⟨s',h1,h2⟩) 0 l s a w hd h hc)
theorem AL {bd:Nat→Bd} {K:PS→Prop} : ∀ (l:List Oper) (k:Nat) (s:PS),(∀ j,j < l.length→l[j]? = ops[k + j]?)→wn false P ops bd k l s K→FW P ops bd (List.range' k l.length) s K
 | [],k,s,_,h=>h
 | o::l,k,s,hl,h=>by
  obtain ⟨s1,he,r,u,h1,hf,h2⟩:=h
  have he:s1=s:=he
  subst he
  have h0:ops[k]? = some o:=by simpa using (hl 0 (by simp)).symm
  rw [List.length_cons,List.range'_succ]
  exact ⟨o,r,u,h0,h1,hf rfl,AL l (k + 1) _ (fun j hj=>by have:=hl (j + 1) (by simp; omega); simpa [Nat.add_assoc,Nat.add_comm 1 j] using this) h2⟩
theorem Sb {bd:Nat→Bd} {K:PS→Prop} : ∀ (l:List Oper) (i k:Nat) (s:PS),(∀ j,j < l.length→l[j]? = ops[k + j]?)→wn true P ops bd i l s K→UL P ops (List.range' k l.length) s K
 | [],i,k,s,_,h=>h
 | o::l,i,k,s,hl,h=>by
  obtain ⟨s1,hle,r,u,h1,_,h2⟩:=h
  have h0:ops[k]? = some o:=by simpa using (hl 0 (by simp)).symm
  rw [List.length_cons,List.range'_succ]
  exact ⟨s1,hle,o,r,u,h0,h1,Sb l (i + 1) (k + 1) _ (fun j hj=>by have:=hl (j + 1) (by simp; omega); simpa [Nat.add_assoc,Nat.add_comm 1 j] using this) h2⟩
theorem gb {q:Bool} {bd:Nat→Bd} : ∀ {l:List Oper} {i:Nat} {p:PS} {K K':PS→Prop},wn q P ops bd i l p K→(∀ p',K p'→K' p')→wn q P ops bd i l p K'
 | [],i,p,K,K',h,hk=>hk p h
 | o::l,i,p,K,K',h,hk=>by
  obtain ⟨s1,h1,r,u,h2,hf,h3⟩:=h
  exact ⟨s1,h1,r,u,h2,hf,gb h3 hk⟩
theorem B5 {q:Bool} {bd:Nat→Bd} : ∀ {a b:List Oper} {i:Nat} {p:PS} {K:PS→Prop},wn q P ops bd i a p (fun p'=>wn q P ops bd (i + a.length) b p' K)→wn q P ops bd i (a++b) p K
 | [],b,i,p,K,h=>h
 | o::a,b,i,p,K,h=>by
  obtain ⟨s1,h1,r,u,h2,hf,h3⟩:=h
  refine ⟨s1,h1,r,u,h2,hf,B5 ?_⟩
  rw [List.length_cons] at h3
  rw [show i + 1 + a.length=i + (a.length + 1) by omega]
  exact h3
mutual
theorem pN {B:List (Nat×Option bc)} : ∀ {v:SV} {q:PV} {l:List Nat},bj B v q→wL v=some l→∀ x∈bk q,x∈l
 | .junk,q,l,_,h,x,hx=>by cases h
 | .d c,q,l,hv,h,x,hx=>by cases hv with | d _ y _=>simp [bk] at hx
 | .fe cs,q,l,hv,h,x,hx=>by cases hv with | fe _ ds _ _=>simp [bk] at hx
 | .ptr t o,q,l,hv,h,x,hx=>by
  cases hv with
  | ptr _ _ ty cs hb=>injection h with h; subst h; simpa [bk] using hx
 | .row t,q,l,hv,h,x,hx=>by
  cases hv with
  | row _ n e k ty xs pins hb hn=>injection h with h; subst h; simpa [bk] using hx
 | .re t p o,q,l,hv,h,x,hx=>by
  cases hv with
  | re _ _ _ n i e k ty xs pins pin hb hn hp hi=>injection h with h; subst h; simpa [bk] using hx
 | .vw t p o,q,l,hv,h,x,hx=>by
  cases hv with
  | vw _ _ _ n e k ty xs pins hb hn=>injection h with h; subst h; simpa [bk] using hx
 | .ag cs,q,l,hv,h,x,hx=>by
  cases hv with
  | ag _ qs hl hr=>exact mO (qs:=qs) ⟨hl,hr⟩ h x (by simpa [bk] using hx)
 | .tup cs,q,l,hv,h,x,hx=>by
  cases hv with
  | tup _ qs hl hr=>exact mO (qs:=qs) ⟨hl,hr⟩ h x (by simpa [bk] using hx)
 | .fn f ps qs,q,l,hv,h,x,hx=>by
  cases hv with
  | fn _ _ _ ps' qs' hl hr hl2 hr2 =>
   simp only [wL] at h
   split at h
   ·rename_i a b ha hb
    injection h with h
    subst h
    simp only [bk,List.mem_append] at hx ⊢
    rcases hx with hx | hx
    ·exact .inl (mO (qs:=ps') ⟨hl,hr⟩ ha x hx)
    ·exact .inr (mO (qs:=qs') ⟨hl2,hr2⟩ hb x hx)
   ·cases h
theorem mO {B:List (Nat×Option bc)} : ∀ {cs:List SV} {qs:List PV} {l:List Nat},ce B cs qs→rq cs=some l→∀ x∈bK qs,x∈l
 | [],qs,l,hv,h,x,hx=>by
  rcases hv.cases with ⟨_,rfl⟩ | ⟨_,_,_,_,h1,_⟩
  ·simp [bK] at hx
  ·cases h1
 | c::cs,qs,l,hv,h,x,hx=>by
  rcases hv.cases with ⟨h1,_⟩ | ⟨c',q,cs',qs',h1,rfl,h2,h3⟩
  ·cases h1
  ·injection h1 with e1 e2
   subst e1 e2
   simp only [rq] at h
   split at h
   ·rename_i a b ha hb
    injection h with h
    subst h
    simp only [bK,List.mem_append] at hx ⊢
    rcases hx with hx | hx
    ·exact .inl (pN h2 ha x hx)
    ·exact .inr (mO h3 hb x hx)
   ·cases h
end
theorem MH {o:Oper} {s:SS} {p:PS} {l:List Nat} (hs:Sim s p) (h:SR o s=some l) : ∀ x∈pU o p,x∈l:=by
 unfold SR at h
 unfold pU
 split at h <;> rename_i ho <;> simp only [ho]
 ·exact pN (bW hs _) h
 ·exact pN (bW hs _) h
 ·exact pN (bW hs _) h
 ·exact pN (bW hs _) h
 ·exact pN (bW hs _) h
 ·rename_i c
  split at h
  ·rename_i f hf
   simp only [hf]
   split at h
   ·rename_i a b ha hb
    injection h with h
    subst h
    intro x hx
    rcases List.mem_append.1 hx with hx | hx
    ·exact List.mem_append_left _ (pN (bW hs f) ha x hx)
    ·exact List.mem_append_right _ (mO (n9 hs c.args.toList) hb x hx)
   ·cases h
  ·rename_i hf
   split
   ·rename_i f hf2
    exact absurd hf2 (hf f)
   ·exact mO (n9 hs c.args.toList) h
 ·intro x hx
  simp at hx
theorem rX:∀ {l m:List Nat},O1 l m=true→∀ x∈l,fL.memL m x=true
 | [],m,_,x,hx=>by cases hx
 | a::l,m,h,x,hx=>by
  simp only [O1] at h
  split at h
  ·rename_i ha
   rcases List.mem_cons.1 hx with rfl | hx
   ·exact ha
   ·exact rX h x hx
  ·cases h
theorem Ih:∀ {l:List Nat} {x:Nat},fL.memL l x=true→x∈l
 | [],x,h=>by cases h
 | a::l,x,h=>by
  rw [A4,Bool.or_eq_true] at h
  rcases h with h | h
  ·have:=zd h; subst this; simp
  ·exact List.mem_cons_of_mem _ (Ih h)
theorem MI {B:List Bd} {i:Nat} {o:Oper} {s:SS} {p:PS} {u:Upd} {w:Option (Nat×Box)} (hs:Sim s p) (hw:OkW s o.dst u w) {q:Bool} (h:Iw q B i o s u=true) : q=false→fL ops o p w.toList (yL B i):=by
 intro hq
 subst hq
 unfold Iw at h
 simp only at h
 split at h
 ·rename_i fs hf
  rw [Bool.and_eq_true] at h
  refine ⟨fun _ x hx=>rX h.1 x (MH hs hf x hx),fun x Bx hx=>?_⟩
  cases w with
  | none=>cases hx
  | some y =>
   obtain ⟨t,b⟩:=y
   simp only [Option.toList,lkU] at hx
   split at hx
   ·rename_i e
    subst e
    exact rX h.2 x (Ih (hw x b rfl).2)
   ·cases hx
 ·cases h
theorem Xn {B:List Bd} {i:Nat} {o:Oper} {s:SS} {p:PS} {m:MU} {u:BU} (hs:Sim s p) (hw:∀ t Bx,lkU u t=some Bx→t∈idU m.us) {q:Bool} (h:SU q B i o s m=true) : q=false→fL ops o p u (yL B i):=by
 intro hq
 subst hq
 unfold SU at h
 simp only at h
 split at h
 ·rename_i fs hf
  rw [Bool.and_eq_true] at h
  exact ⟨fun _ x hx=>rX h.1 x (MH hs hf x hx),fun x Bx hx=>rX h.2 x (hw x Bx hx)⟩
 ·cases h
theorem dh:∀ (a b:List Nat) (i:Nat),aF (a++b) i=(aF a i||aF b i)
 | [],b,i=>rfl
 | j::a,b,i=>by
  simp only [List.cons_append,aF,dh a b i]
  split <;> simp
theorem bf (j:Nat) (l:List Nat) (i:Nat) : aF (j::l) i=(decide (i=j)||aF l i):=by
 simp only [aF,cU]
 by_cases h:i=j
 ·simp [h]
 ·simp [h]
theorem DS:∀ {g:Nat} {l a b:List Oper} {d:Nat},R6 g l=some (a,d,b)→l=a++b∧∃ o∈a,o.dst=some d
 | g,[],a,b,d,h=>by cases h
 | g,o::l,a,b,d,h=>by
  simp only [R6] at h
  split at h
  ·rename_i d' hd
   injection h with h
   injection h with h1 h2
   injection h2 with h2 h3
   subst h1 h2 h3
   refine ⟨rfl,o,List.mem_cons_self,?_⟩
   split at hd
   ·rename_i g' d2 e1 e2 hdst
    split at hd
    ·injection hd with hd; subst hd; exact hdst
    ·cases hd
   ·cases hd
  ·split at h
   ·rename_i a' d' b' h'
    injection h with h
    injection h with h1 h2
    injection h2 with h2 h3
    subst h1 h2 h3
    obtain ⟨h4,o',h5,h6⟩:=DS h'
    exact ⟨by rw [h4]; rfl,o',List.mem_cons_of_mem _ h5,h6⟩
   ·cases h
theorem tt:∀ {l:List Oper} {o:Oper} {d:Nat},o∈l→o.dst=some d→aF (cm l) d=true
 | [],o,d,h,_=>by cases h
 | x::l,o,d,h,hd=>by
  rcases List.mem_cons.1 h with rfl | h
  ·simp only [cm,hd,bf,decide_true,Bool.true_or]
  ·have:=tt h hd
   simp only [cm]
   split
   ·simp [bf,this]
   ·exact this
theorem Bp:∀ {l:List Oper} {d:Nat},aF (cm l) d=true→∃ o∈l,o.dst=some d
 | [],d,h=>by cases h
 | x::l,d,h=>by
  simp only [cm] at h
  split at h
  ·rename_i d' hd'
   rw [bf,Bool.or_eq_true] at h
   rcases h with h | h
   ·have:=zd h
    subst this
    exact ⟨x,List.mem_cons_self,hd'⟩
   ·obtain ⟨o,h1,h2⟩:=Bp h
    exact ⟨o,List.mem_cons_of_mem _ h1,h2⟩
  ·obtain ⟨o,h1,h2⟩:=Bp h
   exact ⟨o,List.mem_cons_of_mem _ h1,h2⟩
theorem xM:∀ (a b:List Oper),cm (a++b)=cm a++cm b
 | [],b=>rfl
 | o::a,b=>by
  simp only [List.cons_append,cm,xM a b]
  split <;> rfl
theorem uK:∀ (ds:List Nat) (l:List (Nat×SV)) (i:Nat),lkV (pa ds l) i=if aF ds i=true then .junk else lkV l i
 | [],l,i=>by simp [pa,aF]
 | d::ds,l,i=>by
  simp only [pa,cT,uK ds l i,bf]
  by_cases h:i=d
  ·simp [h]
  ·simp [h]
structure Fr (l:List Oper) (s:SS) (p p':PS) : Prop where
 t:s.ro=true→∀ i,aF (cm l) i=false→p'.t i=p.t i
 b:s.ro=true→∀ t,(lkB s.bx t≠none∨aF (cm l) t=false)→p'.b t=p.b t
theorem aad {s:SS} {dst:Option Nat} {v:SV} {u:Upd} {t:Nat} (h:lkB s.bx t≠none) : lkB (s.upd dst v u).bx t≠none:=by
 cases u with
 | no=>exact h
 | grow t' b =>
  show lkB ((t',some b)::oz t' s.bx) t≠none
  rw [av]
  split
  ·simp
  ·rw [jE]; simpa using h
 | _ =>
  rename_i t' b
  show lkB ((t',some b)::s.bx) t≠none
  rw [av]
  split
  ·simp
  ·exact h
theorem V1 {s:SS} {dst:Option Nat} {v:SV} {u:Upd} : (s.upd dst v u).ro=s.ro:=by cases u <;> rfl
theorem Zi {o:Oper} {l:List Oper} {s:SS} {p p':PS} {v:SV} {u:Upd} {q:PV} {w:Option (Nat×Box)} (hw:OkW s o.dst u w) (h:Fr l (s.upd o.dst v u) (p.upd o.dst q w) p') : Fr (o::l) s p p':=by
 have sub:∀ i,aF (cm (o::l)) i=false→aF (cm l) i=false∧o.dst≠some i:=fun i hi=>by
  simp only [cm] at hi
  split at hi
  ·rename_i d hd
   rw [bf,Bool.or_eq_false_iff] at hi
   refine ⟨hi.2,fun e=>?_⟩
   rw [hd] at e
   injection e with e
   have:=of_decide_eq_false hi.1
   exact this e.symm
  ·rename_i hd
   exact ⟨hi,fun e=>by rw [hd] at e; cases e⟩
 refine ⟨fun hro i hi=>?_,fun hro t ht=>?_⟩
 ·obtain ⟨h1,h2⟩:=sub i hi
  rw [h.t (by rw [V1]; exact hro) i h1]
  simp only [PS.upd,xi,if_neg h2]
 ·have hb:(p.upd o.dst q w).b t=p.b t:=by
   show dc p.b w t=p.b t
   unfold dc
   split
   ·rename_i j Bx
    rcases (hw j Bx rfl).1 with ⟨h1,h2⟩ | h1
    ·split
     ·rename_i e
      subst e
      rcases ht with ht | ht
      ·exact absurd h1 ht
      ·exact absurd h2 (sub t ht).2
     ·rfl
    ·rw [hro] at h1; cases h1
   ·rfl
  rw [h.b (by rw [V1]; exact hro) t (ht.imp aad fun ht=>(sub t ht).1),hb]
def GL (sc W:List Nat) (l:List Oper) (s:SS) (p:PS) {ρ : Type} (k:SS→Option ρ) (res : ρ) (p':PS) : Prop:=∃ s',Sim s' p'∧dN sc W s s'∧mp s'∧k s' = some res∧Fr l s p p'
theorem AR {W:List Nat} {o:Oper} {l:List Oper} {s:SS} {p p':PS} {ρ : Type} {k:SS→Option ρ} {res : ρ} {v:SV} {u:Upd} {q:PV} {w:Option (Nat×Box)} (hW:∀ d,o.dst=some d→aF W d=true) (hpr:mp s) (hu:OkU s u) (hw:OkW s o.dst u w)
  (h:GL sc W l (s.upd o.dst v u) (p.upd o.dst q w) k res p') : GL sc W (o::l) s p k res p':=by
 obtain ⟨s',h1,h2,h3,h4,h5⟩:=h
 exact ⟨s',h1,(yS hu hW hpr).trans h2,h3,h4,Zi hw h5⟩
theorem Pj {W:List Nat} {f:Nat} {qs:List PV} {o:Oper} {l:List Oper} {s:SS} {p p':PS} {ρ : Type} {k:SS→Option ρ} {res : ρ} {v:SV} {m:MU} {r:PV} {u:BU} (hW:∀ d,o.dst=some d→aF W d=true) (hR:Z8 sc P f o.dst s p qs v m r u)
  (h:GL sc W l (s.updM o.dst v m) (p.updL o.dst r u) k res p') : GL sc W (o::l) s p k res p':=by
 obtain ⟨s',h1,h2,h3,h4,h5⟩:=h
 exact ⟨s',h1,(hR.keep W hW).trans h2,h3,h4,fun hro=>(by rw [hR.ro] at hro; cases hro),fun hro=>(by rw [hR.ro] at hro; cases hro)⟩
theorem YW {q:Bool} {o:Oper} {s s':SS} {p:PS} (hpr:mp s) (hs:Sim s p) (h:YX q T o s=some s') : ∃ p',LeQ q p p'∧Sim s' p'∧(∀ W,dN sc W s s')∧(s.ro=true→s' = s∧p' = p)∧(o.guard=none∨p' = p):=by
 have triv:s' = s→∃ p',LeQ q p p'∧Sim s' p'∧(∀ W,dN sc W s s')∧(s.ro=true→s' = s∧p' = p)∧(o.guard=none∨p' = p):=fun e=>by
  subst e; exact ⟨p,.refl _ _,hs,fun W=>.refl W s',fun _=>⟨rfl,rfl⟩,.inr rfl⟩
 unfold YX at h
 split at h
 ·rename_i hro hg
  have froz:∀ {l:List Nat},lD l s=some s'→∃ p',LeQ true p p'∧Sim s' p'∧(∀ W,dN sc W s s')∧(s.ro=true→s' = s∧p' = p)∧(o.guard=none∨p' = p):=fun h=>by
   obtain ⟨p',k1,k2,k3,k4⟩:=xG (sc:=sc) hpr hs h
   exact ⟨p',k1,k2,k3,fun h=>(by rw [hro] at h; cases h),.inl hg⟩
  split at h
  ·exact froz h
  ·split at h
   ·split at h
    ·split at h
     ·exact froz h
     ·split at h
      ·injection h with h; exact triv h.symm
      ·exact froz h
    ·injection h with h; exact triv h.symm
   ·injection h with h; exact triv h.symm
  ·injection h with h; exact triv h.symm
 ·injection h with h; exact triv h.symm
theorem Eh {W:List Nat} {l:List Oper} {s s1:SS} {p p1 p':PS} {ρ : Type} {k:SS→Option ρ} {res : ρ} (hk:dN sc W s s1) (hro:s.ro=true→s1=s∧p1=p) (h:GL sc W l s1 p1 k res p') : GL sc W l s p k res p':=by
 obtain ⟨s',h1,h2,h3,h4,h5⟩:=h
 refine ⟨s',h1,hk.trans h2,h3,h4,fun hr=>?_,fun hr=>?_⟩
 ·obtain ⟨e1,e2⟩:=hro hr
  subst e1 e2
  exact h5.t hr
 ·obtain ⟨e1,e2⟩:=hro hr
  subst e1 e2
  exact h5.b hr
theorem Dm {q:Bool} {B:List Bd} (hT:qY P T) {W:List Nat} : ∀ (n i:Nat) (kn:List Nat) (l:List Oper) {ρ : Type} {s:SS} {p:PS} {k:SS→Option ρ} {res : ρ},(∀ o∈l,∀ d,o.dst=some d→aF W d=true)→(∀ (j:Nat) (o:Oper),ops[j]? = some o→∀ d,o.dst=some d→aF W d=true) →
  (∀ o∈l,∀ t x y,o.op = .store t x y→o.dst=none)→mp s→Sim s p→uy q P T ops B n i kn l s k=some res→wn q P ops (yL B) i l p (GL sc W l s p k res):=by
 intro n
 induction n with
 | zero =>
  intro i kn l ρ s p k res hW hO hst hpr hs h
  cases l with
  | nil=>exact ⟨s,hs,.refl _ _,hpr,h,fun _ _ _=>rfl,fun _ _ _=>rfl⟩
  | cons o l=>cases h
 | succ n ih =>
  intro i kn l ρ s p k res hW hO hst hpr hs h
  cases l with
  | nil=>exact ⟨s,hs,.refl _ _,hpr,h,fun _ _ _=>rfl,fun _ _ _=>rfl⟩
  | cons o l =>
   have hWo:=hW o List.mem_cons_self
   have hWl:∀ o∈l,∀ d,o.dst=some d→aF W d=true:=fun o ho=>hW o (List.mem_cons_of_mem _ ho)
   have hstl:∀ o∈l,∀ t x y,o.op = .store t x y→o.dst=none:=fun o ho=>hst o (List.mem_cons_of_mem _ ho)
   have goOk:kK ops o p=some true→(match YX q T o s with
     | none=>none
     | some s=>(match uX o with
      | some (x,xs)=>(match evX s x with
       | .fn f ps qs=>(match T9 T f (ps++wl s xs++qs) with
        | false=>chk (Iw q B i o s .no) (Tf T f s (ps++wl s xs++qs) fun r=>uy q P T ops B n (i + 1) kn l (s.upd o.dst r .no) k)
        | true=>Tg T f s o.dst (ps++wl s xs++qs) fun v m=>chk (SU q B i o s m) (uy q P T ops B n (i + 1) kn l (s.updM o.dst v m) k))
       | _=>none)
      | none=>Zp P o s fun v u=>chk (Iw q B i o s u) (uy q P T ops B n (i + 1) kn l (s.upd o.dst v u) k)))=some res→wn q P ops (yL B) i (o::l) p (GL sc W (o::l) s p k res):=by
    intro hg h
    split at h
    ·cases h
    ·rename_i s1 hfz
     obtain ⟨p1,hle,hs1,hk1,hro,hgn⟩:=YW (sc:=sc) hpr hs hfz
     have hg1:kK ops o p1=some true:=by
      rcases hgn with hgn | hgn
      ·simp [kK,hgn]
      ·rw [hgn]; exact hg
     have hpr1:mp s1:=(hk1 []).prOk hpr
     have mk:∀ {r:PV} {u:BU},Lx P o p1 r u→Eff P ops o p1 r u:=fun h=>by unfold Eff; rw [hg1]; exact h
     split at h
     ·rename_i x xs hc
      have hx:=bW hs1 x
      split at h
      rotate_left
      ·cases h
      rename_i f ps qs hev
      rw [hev] at hx
      obtain ⟨ps',qs',e1,e2,e3⟩:=ZN hx
      split at h
      rotate_left
      ·rename_i hM
       obtain ⟨v,m,r,u,h,hR⟩:=XM (sc:=sc) hT hpr1 hs1 hM ((e2.append (n9 hs1 xs)).append e3) h
       obtain ⟨hfb,h⟩:=aq h
       refine ⟨p1,hle,r,u,mk ?_,Xn hs1 hR.foot hfb,?_⟩
       ·unfold Lx
        simp only [hc,e1,CR]
        exact .inr hR.call
       exact gb (ih (i + 1) kn l hWl hO hstl ((hR.keep W hWo).prOk hpr1) hR.sim h) fun p' hp=>Eh (hk1 W) hro (Pj hWo hR hp)
      rename_i hM
      obtain ⟨hfb,h⟩:=aq h
      obtain ⟨v,r,h1,h2,h3⟩:=XK hT hs1 hM ((e2.append (n9 hs1 xs)).append e3) h
      refine ⟨p1,hle,r,[],mk ?_,MI (w:=none) hs1 dF hfb,?_⟩
      ·unfold Lx
       simp only [hc,e1,CR]
       exact .inl ⟨trivial,h1⟩
      have hs':Sim (s1.upd o.dst v .no) (p1.upd o.dst r none):=kI hs1 h3
      rw [show ([] : BU)=(none:Option (Nat×Box)).toList from rfl,DU]
      exact gb (ih (i + 1) kn l hWl hO hstl ((yS (sc:=sc) (u:=.no) trivial hWo hpr1).prOk hpr1) hs' h2) fun p' hp=>Eh (hk1 W) hro (AR (u:=.no) hWo hpr1 trivial dF hp)
     ·rename_i hc
      obtain ⟨v,u,qv,w,h1,h2,h3,h4,h5⟩:=Zo hs1 (hst o List.mem_cons_self) h
      obtain ⟨hfb,h2⟩:=aq h2
      refine ⟨p1,hle,qv,w.toList,mk ?_,MI hs1 h5 hfb,?_⟩
      ·unfold Lx
       simp only [hc]
       exact ⟨w,h1,rfl⟩
      rw [DU]
      exact gb (ih (i + 1) kn l hWl hO hstl ((yS (sc:=sc) h4 hWo hpr1).prOk hpr1) h3 h2) fun p' hp=>Eh (hk1 W) hro (AR hWo hpr1 h4 h5 hp)
   have skipOk:kK ops o p=some false→uy q P T ops B n (i + 1) kn l (s.upd o.dst (.tup []) .no) k=some res→wn q P ops (yL B) i (o::l) p (GL sc W (o::l) s p k res):=by
    intro hg h
    refine ⟨p,.refl _ _,.tup [],[],by unfold Eff; rw [hg]; exact ⟨rfl,rfl⟩,fun _=>⟨fun h=>(by rw [hg] at h; cases h),fun x Bx h=>(by cases h)⟩,?_⟩
    rw [show ([] : BU)=(none:Option (Nat×Box)).toList from rfl,DU]
    have hs':Sim (s.upd o.dst (.tup []) .no) (p.upd o.dst (.tup []) none):=kI hs (.tup [] [] rfl (fun j c q h=>by simp at h))
    exact gb (ih (i + 1) kn l hWl hO hstl ((yS (sc:=sc) (u:=.no) trivial hWo hpr).prOk hpr) hs' h) fun p' hp=>AR (u:=.no) hWo hpr trivial dF hp
   unfold uy at h
   simp only at h
   split at h
   ·rename_i hg
    exact goOk (by simp [kK,hg]) h
   ·rename_i j want hg
    split at h
    ·cases h
    ·rename_i g hgd
     have hsg:=hs.sl g
     split at h
     ·rename_i hv
      rw [hv] at hsg
      obtain ⟨qs,h1,h2⟩:=VY hsg
      have:qs = []:=by have:=h2.len; simpa using this.symm
      subst this
      exact skipOk (by simp [kK,hg,hgd,h1]) h
     ·rename_i b hv
      rw [hv] at hsg
      have hpg:=ld hsg
      have hgb:kK ops o p=some (b==want):=by simp [kK,hg,hgd,hpg,asB]
      split at h
      ·split at h
       ·split at h
        ·exact goOk (by rw [hgb]; rfl) h
        ·exact skipOk (by rw [hgb]; rfl) h
       ·split at h
        ·exact skipOk (by rw [hgb]; rfl) h
        ·exact goOk (by rw [hgb]; rfl) h
      ·split at h
       ·cases h
       ·rename_i l1 d l2 hup
        obtain ⟨h1,o1,h2,h3⟩:=DS hup
        obtain ⟨qb,h4,h5⟩:=bindS h
        have hg0:∃ o',ops[j]? = some o'∧o'.dst=some g:=by
         cases ho:ops[j]? with
         | none=>simp [ho] at hgd
         | some o'=>exact ⟨o',rfl,by simpa [ho] using hgd⟩
        obtain ⟨o',ho',hdo'⟩:=hg0
        have hWg:aF W g=true:=hO j o' ho' g hdo'
        rw [h1]
        have hW1:∀ o∈l1,∀ d,o.dst=some d→aF W d=true:=fun o ho=>hW o (by rw [h1]; exact List.mem_append_left _ ho)
        have hW2:∀ o∈l2,∀ d,o.dst=some d→aF W d=true:=fun o ho=>hW o (by rw [h1]; exact List.mem_append_right _ ho)
        have hst1:∀ o∈l1,∀ t x y,o.op = .store t x y→o.dst=none:=fun o ho=>hst o (by rw [h1]; exact List.mem_append_left _ ho)
        have hst2:∀ o∈l2,∀ t x y,o.op = .store t x y→o.dst=none:=fun o ho=>hst o (by rw [h1]; exact List.mem_append_right _ ho)
        have hsb:Sim ⟨(g,.d (.bool b))::s.sl,s.bx,s.pr,true,s.oc⟩ p:=by
         refine ⟨fun i=>?_,hs.bx⟩
         show bj s.bx (lkV ((g,.d (.bool b))::s.sl) i) (p.t i)
         rw [cT]
         split
         ·rename_i e; subst e; exact hsg
         ·exact hs.sl i
        have hA:wn q P ops (yL B) i l1 p (GL sc W l1 ⟨(g,.d (.bool b))::s.sl,s.bx,s.pr,true,s.oc⟩ p (Dj d) qb):=by
         cases b
         ·exact ih i (g::kn) l1 hW1 hO hst1 hpr hsb (by simpa using h4)
         ·exact ih i (g::kn) l1 hW1 hO hst1 hpr hsb (by simpa using h4)
        refine B5 (gb hA fun p1 hp1=>?_)
        obtain ⟨s1,k1,k2,k3,k4,k5⟩:=hp1
        have hd:aF (cm l1) d=true:=tt h2 h3
        have hpd:p1.t d = .d (.v (.bool qb)):=by
         have:=k1.sl d
         unfold Dj at k4
         split at k4
         ·rename_i b' hb'
          injection k4 with k4
          subst k4
          rw [hb'] at this
          exact ld this
         ·cases k4
        have hs2:Sim ⟨(d,.d (.bool qb))::pa (cm l1) s.sl,s.bx,s.pr,s.ro,cm l1++s.oc⟩ p1:=by
         refine ⟨fun i=>?_,fun t=>?_⟩
         ·show bj s.bx (lkV ((d,.d (.bool qb))::pa (cm l1) s.sl) i) (p1.t i)
          rw [cT]
          split
          ·rename_i e; subst e; rw [hpd]; exact fc qb
          ·rw [uK]
           split
           ·exact .junk _
           ·rename_i hi
            rw [k5.t rfl i (by simpa using hi)]
            exact hs.sl i
         ·show mt s.bx (aF (cm l1++s.oc) t) (lkB s.bx t) (p1.b t)
          have hbt:=hs.bx t
          cases hl:lkB s.bx t with
          | none =>
           rw [hl] at hbt
           intro hoc
           rw [dh,Bool.or_eq_false_iff] at hoc
           rw [k5.b rfl t (.inr hoc.1)]
           exact hbt hoc.2
          | some bx =>
           rw [hl] at hbt
           rw [k5.b rfl t (.inl (by show lkB s.bx t≠none; rw [hl]; simp))]
           cases bx <;> exact hbt
        have hk2:dN sc W s ⟨(d,.d (.bool qb))::pa (cm l1) s.sl,s.bx,s.pr,s.ro,cm l1++s.oc⟩:=by
         refine ⟨rfl,rfl,fun _ _=>.refl _,fun i hi _=>?_,fun _ _ _ cs h=>⟨cs,h,rfl⟩⟩
         show lkV ((d,.d (.bool qb))::pa (cm l1) s.sl) i = _
         rw [cT,if_neg (fun e=>by rw [e,hW1 o1 h2 d h3] at hi; cases hi),uK]
         rw [if_neg (fun e=>by
          obtain ⟨o2,m1,m2⟩:=Bp e
          rw [hW1 o2 m1 i m2] at hi
          cases hi)]
        refine gb (ih (i + l1.length) kn l2 hW2 hO hst2 (hk2.prOk hpr) hs2 h5) fun p2 hp2=>?_
        obtain ⟨s3,m1,m2,m3,m4,m5⟩:=hp2
        refine ⟨s3,m1,hk2.trans m2,m3,m4,fun hro i hi=>?_,fun hro t ht=>?_⟩
        ·rw [xM,dh,Bool.or_eq_false_iff] at hi
         rw [m5.t hro i hi.2,k5.t rfl i hi.1]
        ·rw [xM,dh,Bool.or_eq_false_iff] at ht
         rw [m5.b hro t (ht.imp id fun h=>h.2),k5.b rfl t (ht.imp id fun h=>h.1)]
     ·cases h
end
theorem T6 {p:PS} (i e k:Nat) (ht:p.t i = .d (.v (.slice none 0 0))) (hb:p.b i=none) (hi0:i < 1000000) (hk : 0 < k) : Le p (p.upd (some i) (.row i 0) (some (i,.rw e k []))):=by
 intro n w0 F0 a w ⟨h1,h2,ρ,F,hi,hev⟩
 have hx:=(hev i)
 rw [ht] at hx
 obtain ⟨hx,_⟩:=hx.vv
 have hnew:=Ez (P:=default) (t:=i) (e:=e) (k:=k) (es:=[]) (xs:=[]) (v:=.slice none 0 0) (w':=w) hi hi0 hb hk (Ext.refl w) (fun g hg=>by cases hg) (World.ownsRow_nil w _ e k) (by simp) rfl (by simp)
 obtain ⟨v,w',ρ',hok,k1,k2,k3⟩:=hnew
 injection hok with e1 e2
 subst e1 e2
 refine ⟨h1,h2,ρ',F,k1,fun j=>?_⟩
 by_cases hj:i=j
 ·subst hj
  rw [hx]
  simpa [PS.upd,xi] using k3
 ·have:(p.upd (some i) (.row i 0) (some (i,.rw e k []))).t j=p.t j:=by simp [PS.upd,xi,hj]
  rw [this]
  exact (hev j).mono k2
theorem PA {p:PS} (i t j e k:Nat) {ty:TypeId} {cs:List PV} (hb:p.b t=some (.st ty cs)) (hc:cs[j]? = some (.d (.v (.slice none 0 0)))) (hi:p.b i=none) (hi0:i < 1000000) (hk : 0 < k) :
  Le p ⟨p.t,dc (dc p.b (some (i,.rw e k []))) (some (t,.st ty (cs.set j (.row i 0))))⟩:=by
 intro n w0 F0 a w ⟨h1,h2,ρ,F,hinv,hev⟩
 have hnew:=Ez (P:=default) (t:=i) (e:=e) (k:=k) (es:=[]) (xs:=[]) (v:=.slice none 0 0) (w':=w) hinv hi0 hi hk (Ext.refl w) (fun g hg=>by cases hg) (World.ownsRow_nil w _ e k) (by simp) rfl (by simp)
 obtain ⟨v,w',ρ',hok,k1,k2,k3⟩:=hnew
 injection hok with e1 e2
 subst e1 e2
 have hti:t≠i:=fun e=>by rw [e,hi] at hb; cases hb
 have hb1:(dc p.b (some (i,.rw e k []))) t=some (.st ty cs):=by rw [ct _ _ hti]; exact hb
 have hs2:Stp ρ' (dc p.b (some (i,.rw e k []))) w F ρ' (dc (dc p.b (some (i,.rw e k []))) (some (t,.st ty (cs.set j (.row i 0))))) w F:=by
  refine ⟨fun _ h=>h,fun _ _=>rfl,fun t' ty' cs' h=>⟨?_,rfl⟩,fun t' e' k' es h=>?_⟩
  ·by_cases h':t' = t
   ·subst h'; rw [cZ]; exact ⟨_,_,rfl⟩
   ·rw [ct _ _ h']; exact ⟨_,_,h⟩
  ·have h':t'≠t:=fun e=>by rw [e,hb1] at h; cases h
   rw [ct _ _ h']
   exact ⟨e',es,h,Nat.le_refl _,fun _=>rfl⟩
 have hinv2:Inv w0 F0 ρ' (dc (dc p.b (some (i,.rw e k []))) (some (t,.st ty (cs.set j (.row i 0))))) w F:=by
  have hs3:=hs2
  rw [← cC ρ' t] at hs3
  have:=Inv.turn (v:=ρ' t) (B':=.st ty (cs.set j (.row i 0))) (w':=w) k1 hb1 (by rw [cC] at hs3 ⊢; exact hs2) k1.ext (Nat.le_refl _) (fun _ _ _=>rfl) (fun g hg=>.inl hg) ?_
  ·rw [cC] at this; exact this
  ·rw [cC]
   cases k1.box t _ hb1 with
   | st _ _ g xs hρ hg hF hh hl h1x hr =>
    refine .st ty _ g xs hρ hg hF hh (by rw [List.length_set]; exact hl) h1x (fun p x c h4 h5=>?_)
    rw [List.getElem?_set] at h5
    split at h5
    ·rename_i hjp
     subst hjp
     split at h5
     ·injection h5 with h5
      subst h5
      have hx:=hr j x _ h4 hc
      obtain ⟨hx,_⟩:=hx.vv
      rw [hx]
      exact k3.mono hs2
     ·cases h5
    ·exact (hr p x c h4 h5).mono hs2
 exact ⟨h1,h2,ρ',F,hinv2,fun q=>((hev q).mono k2).mono hs2⟩
theorem BLe.trans {B B' B'':List (Nat×Option bc)} (h:BLe B B') (h':BLe B' B'') : BLe B B'':=by
 refine ⟨fun t e k ty xs pins h1=>?_,fun t ty cs h1=>?_⟩
 ·obtain ⟨e1,k1,ty1,xs1,pins1,h2,h3,h4⟩:=h.rw t e k ty xs pins h1
  obtain ⟨e2,k2,ty2,xs2,pins2,h5,h6,h7⟩:=h'.rw t e1 k1 ty1 xs1 pins1 h2
  refine ⟨e2,k2,ty2,xs2,pins2,h5,h6.trans h3,fun p pin hp=>?_⟩
  obtain ⟨pin1,h8,h9⟩:=h4 p pin hp
  obtain ⟨pin2,h10,h11⟩:=h7 p pin1 h8
  exact ⟨pin2,h10,h11.trans h9⟩
 ·obtain ⟨ty1,cs1,h2⟩:=h.st t ty cs h1
  exact h'.st t ty1 cs1 h2
theorem Zd {B:List (Nat×Option bc)} {b:Nat} {x:Option bc} (h:lkB B b=x) (t:Nat) : lkB ((b,x)::B) t=lkB B t:=by
 rw [av]
 split
 ·rename_i e; subst e; exact h.symm
 ·rfl
theorem bj.lk {B B':List (Nat×Option bc)} (h:∀ t,lkB B' t=lkB B t) {v:SV} {q:PV} (hv:bj B v q) : bj B' v q :=
 hv.mono ⟨fun t e k ty xs pins h1=>⟨e,k,ty,xs,pins,by rw [h]; exact h1,rfl,fun _ pin hp=>⟨pin,hp,rfl⟩⟩,fun t ty cs h1=>⟨ty,cs,by rw [h]; exact h1⟩⟩
theorem mt.lk {B B':List (Nat×Option bc)} (h:∀ t,lkB B' t=lkB B t) {o:Bool} {b:Option bc} {q:Option Box} (hv:mt B o b q) : mt B' o b q :=
 hv.mono ⟨fun t e k ty xs pins h1=>⟨e,k,ty,xs,pins,by rw [h]; exact h1,rfl,fun _ pin hp=>⟨pin,hp,rfl⟩⟩,fun t ty cs h1=>⟨ty,cs,by rw [h]; exact h1⟩⟩
theorem Sim.lk {sl:List (Nat×SV)} {B B':List (Nat×Option bc)} {pr oc:List Nat} {ro:Bool} {p:PS} (h:∀ t,lkB B' t=lkB B t) (hs:Sim ⟨sl,B,pr,ro,oc⟩ p) : Sim ⟨sl,B',pr,ro,oc⟩ p :=
 ⟨fun i=>(hs.sl i).lk h,fun t=>by show mt B' _ (lkB B' t) _; rw [h]; exact (hs.bx t).lk h⟩
theorem uF {s:SS} {b:Nat} {ty:TypeId} : ∀ {rows:List (Nat×Nat×Nat×Nat×Ty)} {cs cs':List SV} {bx bx':List (Nat×Option bc)} {p:PS},(∃ x,lkB bx b=some x)→Sim ⟨s.sl,(b,some (.st ty cs))::bx,s.pr,s.ro,[]⟩ p→uG s rows cs bx=some (cs',bx') →
  ∃ p',Le p p'∧Sim ⟨s.sl,(b,some (.st ty cs'))::bx',s.pr,s.ro,[]⟩ p'∧(∀ t,aF s.pr t=true→lkB bx' t=lkB bx t)∧cs'.length=cs.length∧∀ t x,lkB bx t=some x→lkB bx' t=some x
 | [],cs,cs',bx,bx',p,_,hs,h=>by
  injection h with h
  injection h with e1 e2
  subst e1 e2
  exact ⟨p,.refl p,hs,fun _ _=>rfl,rfl,fun _ _ h=>h⟩
 | (j,R,e,k,t)::l,cs,cs',bx,bx',p,hb,hs,h=>by
  simp only [uG] at h
  split at h
  ·rename_i hj
   split at h
   ·rename_i hR hk hp
    have hk:=zd hk
    obtain ⟨xb,hxb⟩:=hb
    have hRb : ¬ R=b:=fun e=>by rw [e,hxb] at hR; cases hR
    have hbx:=hs.bx b
    have hbx:mt ((b,some (.st ty cs))::bx) (aF [] b) (lkB ((b,some (.st ty cs))::bx) b) (p.b b):=hbx
    rw [av,if_pos rfl] at hbx
    obtain ⟨qs,h1,h2⟩:=hbx
    have hRn:lkB ((b,some (.st ty cs))::bx) R=none:=by rw [av,if_neg hRb]; exact hR
    have hpR:p.b R=none:=by
     have h3:=hs.bx R
     have h3:mt ((b,some (.st ty cs))::bx) (aF [] R) (lkB ((b,some (.st ty cs))::bx) R) (p.b R):=h3
     rw [hRn] at h3
     exact h3 rfl
    have hlt:j < qs.length:=by rw [← h2.len]; exact (zg.1 hj).1
    have hqj:qs[j]? = some (.d (.v (.slice none 0 0))):=by
     have h3:qs[j]? = some qs[j]:=by simp [hlt]
     rw [h3,R4 (h2.rep j _ _ hj h3)]
    have hle:=PA R b j e k h1 hqj hpR hk.2 hk.1
    have hB1:BLe ((b,some (.st ty cs))::bx) ((R,some (.rw e k t [] []))::(b,some (.st ty cs))::bx):=qX hRn
    have hB2:BLe ((R,some (.rw e k t [] []))::(b,some (.st ty cs))::bx) ((b,some (.st ty (cs.set j (.row R))))::(R,some (.rw e k t [] []))::(b,some (.st ty cs))::bx):=P6 (ty:=ty) (cs:=cs) (by rw [av,if_neg (fun e=>hRb e.symm),av,if_pos rfl])
    have hB:=hB1.trans hB2
    have hsame:∀ t',lkB ((b,some (.st ty (cs.set j (.row R))))::(R,some (.rw e k t [] []))::bx) t' = lkB ((b,some (.st ty (cs.set j (.row R))))::(R,some (.rw e k t [] []))::(b,some (.st ty cs))::bx) t':=fun t'=>by
     simp only [av]
     split
     ·rfl
     ·rename_i h'; split
      ·rfl
      ·rfl
    have hs1:Sim ⟨s.sl,(b,some (.st ty (cs.set j (.row R))))::(R,some (.rw e k t [] []))::(b,some (.st ty cs))::bx,s.pr,s.ro,[]⟩ ⟨p.t,dc (dc p.b (some (R,.rw e k []))) (some (b,.st ty (qs.set j (.row R 0))))⟩:=by
     refine ⟨fun i=>(hs.sl i).mono hB,fun t'=>?_⟩
     show mt _ (aF [] t') (lkB ((b,some (.st ty (cs.set j (.row R))))::(R,some (.rw e k t [] []))::(b,some (.st ty cs))::bx) t') (dc (dc p.b (some (R,.rw e k []))) (some (b,.st ty (qs.set j (.row R 0)))) t')
     rw [av]
     by_cases e1:t' = b
     ·subst e1
      rw [if_pos rfl,cZ]
      refine ⟨_,rfl,by simpa using h2.len,fun j' c q m1 m2=>?_⟩
      rw [List.getElem?_set] at m1 m2
      by_cases e2:j=j'
      ·subst e2
       have hlc:j < cs.length:=by rw [h2.len]; exact hlt
       rw [if_pos rfl,if_pos hlc] at m1
       rw [if_pos rfl,if_pos hlt] at m2
       injection m1 with m1
       injection m2 with m2
       subst m1 m2
       exact .row R 0 e k t [] [] (by rw [av,if_neg hRb,av,if_pos rfl]) rfl
      ·rw [if_neg e2] at m1 m2
       exact (h2.rep j' c q m1 m2).mono hB
     ·rw [if_neg e1,ct _ _ e1,av]
      by_cases e2:t' = R
      ·subst e2
       rw [if_pos rfl,cZ]
       exact ⟨rfl,fun p pin hp=>by cases hp⟩
      ·rw [if_neg e2,ct _ _ e2]
       exact (hs.bx t').mono hB
    have hs2:=hs1.lk hsame
    obtain ⟨p',k1,k2,k3,k4,k5⟩:=uF (s:=s) (b:=b) (ty:=ty) ⟨xb,by rw [av,if_neg (fun e=>hRb e.symm)]; exact hxb⟩ hs2 h
    refine ⟨p',hle.trans k1,k2,fun t' ht'=>?_,by rw [k4,List.length_set],fun t' x hx=>k5 t' x ?_⟩
    ·rw [k3 t' ht',av,if_neg (fun e=>by rw [e,hp] at ht'; cases ht')]
    ·rw [av,if_neg (fun e=>by rw [e,hR] at hx; cases hx)]; exact hx
   ·cases h
  ·exact uF hb hs h
theorem qQ {sc wr:List Nat} : ∀ {ms:List Mod} {s s':SS} {p:PS},s.oc = []→mp s→Sim s p→G4 wr ms s=some s'→∃ p',Le p p'∧Sim s' p'∧dN sc wr s s'∧s'.oc = []
 | [],s,s',p,ho,_,hs,h=>by injection h with h; subst h; exact ⟨p,.refl p,hs,.refl _ _,ho⟩
 | .leaf _ _ :: l,s,s',p,ho,hpr,hs,h=>qQ (ms:=l) ho hpr hs h
 | .agg _ _ :: l,s,s',p,ho,hpr,hs,h=>qQ (ms:=l) ho hpr hs h
 | .box _ _ _ [] :: l,s,s',p,ho,hpr,hs,h=>qQ (ms:=l) ho hpr hs h
 | .box b _ _ (r::rows)::l,s,s',p,ho,hpr,hs,h=>by
  simp only [G4] at h
  split at h
  ·rename_i ty cs hb
   split at h
   ·rename_i cs' bx' hp hn
    have hs0:Sim ⟨s.sl,(b,some (.st ty cs))::s.bx,s.pr,s.ro,[]⟩ p:=by
     have:Sim ⟨s.sl,s.bx,s.pr,s.ro,[]⟩ p:=by rw [← ho]; exact hs
     exact this.lk (Zd hb)
    obtain ⟨p1,k1,k2,k3,k4,k5⟩:=uF ⟨_,hb⟩ hs0 hn
    have hk:dN sc wr s ⟨s.sl,(b,some (.st ty cs'))::bx',s.pr,s.ro,s.oc⟩:=by
     refine ⟨rfl,rfl,fun t ht=>?_,fun _ _ _=>rfl,fun t _ ty2 cs2 h2=>?_⟩
     ·show kZ _ (lkB ((b,some (.st ty cs'))::bx') t)
      rw [av,if_neg (fun e=>by rw [e,hp] at ht; cases ht),k3 t ht]
      exact .refl _
     ·show ∃ cs3,lkB ((b,some (.st ty cs'))::bx') t = _∧_
      rw [av]
      by_cases e:t=b
      ·rw [e,hb] at h2
       injection h2 with h2
       injection h2 with e1 e2
       subst e1 e2
       rw [if_pos e]
       exact ⟨_,rfl,k4⟩
      ·rw [if_neg e]
       exact ⟨cs2,k5 t _ h2,rfl⟩
    obtain ⟨p2,m1,m2,m3,m4⟩:=qQ (ms:=l) (s:=⟨s.sl,(b,some (.st ty cs'))::bx',s.pr,s.ro,s.oc⟩) ho (hk.prOk hpr) (by rw [ho]; exact k2) h
    exact ⟨p2,k1.trans m1,m2,hk.trans m3,m4⟩
   ·cases h
  ·cases h
 | .row i R e k t::l,s,s',p,ho,hpr,hs,h=>by
  simp only [G4] at h
  split at h
  ·rename_i hv
   split at h
   ·rename_i hR hb hk hw hp
    have hk:=zd hk
    have hsi:=hs.sl i
    rw [hv] at hsi
    have hpt:=R4 hsi
    have hpb:p.b i=none:=by
     have:=hs.bx i
     rw [hb] at this
     exact this (by rw [ho]; rfl)
    have hle:=T6 (p:=p) i e k hpt hpb hk.2 hk.1
    have hs1:Sim ⟨sY s.sl (some i) (.row i),(i,some (.rw e k t [] []))::s.bx,s.pr,s.ro,s.oc⟩ (p.upd (some i) (.row i 0) (some (i,.rw e k (([] : List t.den).map (bH t))))) :=
     o0 hs (qX hb) (fun _=>⟨rfl,fun p pin hp=>by cases hp⟩) (.row i 0 e k t [] [] (by rw [av,if_pos rfl]) rfl)
    have hkp:dN sc wr s ⟨(i,.row i)::s.sl,(i,some (.rw e k t [] []))::s.bx,s.pr,s.ro,s.oc⟩:=by
     refine ⟨rfl,rfl,fun t' ht'=>?_,fun j hj _=>?_,fun t' _ ty2 cs2 h2=>⟨cs2,by show lkB ((i,some (.rw e k t [] []))::s.bx) t' = _; rw [av,if_neg (fun e=>by rw [e,hb] at h2; cases h2)]; exact h2,rfl⟩⟩
     ·show kZ _ (lkB ((i,some (.rw e k t [] []))::s.bx) t')
      rw [av,if_neg (fun e=>by rw [e,hp] at ht'; cases ht')]
      exact .refl _
     ·show lkV ((i,.row i)::s.sl) j = _
      rw [cT,if_neg (fun e=>by rw [e,hw] at hj; cases hj)]
    obtain ⟨p2,m1,m2,m3,m4⟩:=qQ (ms:=l) (s:=⟨(i,.row i)::s.sl,(i,some (.rw e k t [] []))::s.bx,s.pr,s.ro,s.oc⟩) ho (hkp.prOk hpr) hs1 h
    exact ⟨p2,hle.trans m1,m2,hkp.trans m3,m4⟩
   ·cases h
  ·exact qQ (ms:=l) ho hpr hs h
theorem n6 (wr pr kb:List Nat) : ∀ (l:List (Nat×SV)) (seen:List Nat) (i:Nat),lkV (te wr pr kb l seen) i=if aF seen i=true then .junk else if aF wr i=true then .junk else if G2 pr kb (lkV l i)=true then lkV l i else .junk
 | [],seen,i=>by simp [te,lkV,G2]
 | (j,v)::l,seen,i=>by
  simp only [te]
  have hc:=cT j v l i
  split
  ·rename_i hs
   rw [n6 wr pr kb l seen i,hc]
   by_cases e:i=j
   ·subst e; simp [hs]
   ·simp [e]
  ·rename_i hs
   split
   ·rename_i hw
    rw [n6 wr pr kb l (j::seen) i,hc,bf]
    by_cases e:i=j
    ·subst e; simp [hw]
    ·simp [e]
   ·rename_i hw
    split
    ·rename_i hf
     rw [cT,n6 wr pr kb l (j::seen) i,hc,bf]
     by_cases e:i=j
     ·subst e; simp [hs,hw,hf]
     ·simp [e]
    ·rename_i hf
     rw [n6 wr pr kb l (j::seen) i,hc,bf]
     by_cases e:i=j
     ·subst e; simp [hf]
     ·simp [e]
theorem n7 (pr:List Nat) : ∀ (l:List (Nat×Option bc)) (seen:List Nat) (t:Nat),lkB (tf pr l seen) t=if aF seen t=true then none else if aF pr t=true then Jv (lkB l t) else none
 | [],seen,t=>by simp [tf,lkB,Jv]
 | (j,b)::l,seen,t=>by
  simp only [tf]
  have hc:=av j b l t
  split
  ·rename_i hs
   rw [n7 pr l seen t,hc]
   by_cases e:t=j
   ·subst e; simp [hs]
   ·simp [e]
  ·rename_i hs
   split
   ·rename_i hw
    rw [av,n7 pr l (j::seen) t,hc,bf]
    by_cases e:t=j
    ·subst e; simp [hs,hw]
    ·simp [e]
   ·rename_i hw
    rw [n7 pr l (j::seen) t,hc,bf]
    by_cases e:t=j
    ·subst e; simp [hw]
    ·simp [e]
theorem lw (mb:List Nat) : ∀ (l:List (Nat×Option bc)) (seen:List Nat) (t:Nat),aF (o4 mb l seen) t=true↔aF seen t=false∧aF mb t=false∧∃ b,lkB l t=some b∧yF b=true
 | [],seen,t=>by simp [o4,aF,lkB]
 | (j,b)::l,seen,t=>by
  have hc:=av j b l t
  simp only [o4]
  split
  ·rename_i hs
   rw [lw mb l seen t,hc]
   by_cases e:t=j
   ·subst e; simp [hs]
   ·simp [e]
  ·rename_i hs
   split
   ·rw [lw mb l (j::seen) t,hc,bf]
    by_cases e:t=j
    ·subst e; simp
    ·simp [e]
   ·rename_i b'
    split
    ·rename_i h1 h2
     rw [bf,Bool.or_eq_true,lw mb l (j::seen) t,hc,bf]
     by_cases e:t=j
     ·subst e; simp [hs,h1,h2]
     ·simp [e]
    ·rename_i h12
     rw [lw mb l (j::seen) t,hc,bf]
     by_cases e:t=j
     ·subst e
      simp only [decide_true,Bool.true_or,Bool.true_eq_false,false_and,if_true,Option.some.injEq,exists_eq_left',false_iff,not_and]
      intro _ h3 h4
      exact h12 h3 h4
     ·simp [e]
theorem vG (bx:List (Nat×Option bc)) : ∀ (l:List Nat) (r:List (Nat×Option bc)) (t:Nat),(aF l t=true→∀ ty cs,lkB bx t=some (.st ty cs)→lkB (LR bx l r) t=some (.st ty (wP cs)))∧((aF l t=false∨∀ ty cs,lkB bx t≠some (.st ty cs))→lkB (LR bx l r) t=lkB r t)
 | [],r,t=>⟨fun h=>(by cases h),fun _=>rfl⟩
 | b::l,r,t=>by
  obtain ⟨h1,h2⟩:=vG bx l r t
  simp only [LR]
  split
  ·rename_i ty cs hb
   refine ⟨fun hm ty2 cs2 h=>?_,fun h=>?_⟩
   ·rw [av]
    by_cases e:t=b
    ·subst e
     rw [hb] at h
     injection h with h
     injection h with e1 e2
     subst e1 e2
     rw [if_pos rfl]
    ·rw [if_neg e]
     rw [bf] at hm
     exact h1 (by simpa [e] using hm) ty2 cs2 h
   ·rw [av]
    by_cases e:t=b
    ·subst e
     rcases h with h | h
     ·rw [bf] at h; simp at h
     ·exact absurd hb (h ty cs)
    ·rw [if_neg e]
     rw [bf] at h
     exact h2 (h.imp (by simp [e]) id)
  ·rename_i hb
   refine ⟨fun hm ty2 cs2 h=>?_,fun h=>?_⟩
   ·by_cases e:t=b
    ·subst e; exact absurd h (hb ty2 cs2)
    ·rw [bf] at hm
     exact h1 (by simpa [e] using hm) ty2 cs2 h
   ·rw [bf] at h
    by_cases e:t=b
    ·subst e; exact h2 (.inr fun ty cs=>hb ty cs)
    ·exact h2 (h.imp (by simp [e]) id)
theorem qL (bx:List (Nat×Option bc)) : ∀ (l:List Nat) (t:Nat),aF (s8 bx l) t=true↔aF l t=true∧∃ ty cs,lkB bx t=some (.st ty cs)
 | [],t=>by simp [s8,aF]
 | b::l,t=>by
  have ih:=qL bx l t
  simp only [s8]
  split
  ·rename_i ty cs hb
   rw [bf,bf,Bool.or_eq_true,Bool.or_eq_true,ih]
   by_cases e:t=b
   ·subst e; simp [hb]
   ·simp [e]
  ·rename_i hb
   rw [ih,bf,Bool.or_eq_true]
   by_cases e:t=b
   ·subst e
    refine ⟨fun h=>⟨.inl (by simp),h.2⟩,fun h=>?_⟩
    obtain ⟨ty,cs,h⟩:=h.2
    exact absurd h (hb ty cs)
   ·simp [e]
theorem A9:∀ cs:List SV,(wP cs).length=cs.length
 | []=>rfl
 | c::cs=>by simp [wP,A9 cs]
theorem Im:∀ (cs:List SV) (j:Nat) (c:SV),(wP cs)[j]? = some c→c = .junk
 | [],j,c,h=>by simp [wP] at h
 | _ :: cs,0,c,h=>by simp [wP] at h; exact h.symm
 | _ :: cs,j + 1,c,h=>by simp [wP] at h; exact Im cs j c h
theorem o9 (mb sc:List Nat) : ∀ (l:List (Nat×Option bc)) (seen:List Nat),vM mb sc l seen=true→∀ t ty cs,aF seen t=false→lkB l t=some (.st ty cs)→aF mb t=true∨aF sc t=true∨cy cs=true
 | [],seen,_,t,ty,cs,_,h=>by cases h
 | (j,b)::l,seen,hk,t,ty,cs,hs,h=>by
  simp only [vM] at hk
  rw [av] at h
  split at hk
  ·rename_i hj
   have e : ¬ t=j:=fun e=>by rw [e,hj] at hs; cases hs
   rw [if_neg e] at h
   exact o9 mb sc l seen hk t ty cs hs h
  ·split at hk
   ·split at hk
    ·rename_i hm
     by_cases e:t=j
     ·rw [if_pos e] at h
      injection h with h
      injection h with e1 e2
      subst e1 e2 e
      simpa [Bool.or_eq_true] using hm
     ·rw [if_neg e] at h
      exact o9 mb sc l (j::seen) hk t ty cs (by rw [bf]; simp [e,hs]) h
    ·cases hk
   ·rename_i hb
    by_cases e:t=j
    ·rw [if_pos e] at h
     exact absurd h (hb ty cs)
    ·rw [if_neg e] at h
     exact o9 mb sc l (j::seen) hk t ty cs (by rw [bf]; simp [e,hs]) h
theorem tu:∀ {a b:List Nat},IQ a b=true→∀ t,aF a t=true→aF b t=false
 | [],b,_,t,h=>by cases h
 | x::a,b,hd,t,h=>by
  simp only [IQ] at hd
  split at hd
  ·cases hd
  ·rename_i hx
   rw [bf,Bool.or_eq_true] at h
   rcases h with h | h
   ·have:=zd h; subst this; exact hx
   ·exact tu hd t h
theorem sd {pr kb:List Nat} : ∀ {cs:List SV} (_:lq pr kb cs=true) {j:Nat} {c:SV},cs[j]? = some c→G2 pr kb c=true
 | [],_,j,c,h=>by simp at h
 | d::cs,h,j,c,hj=>by
  simp only [lq] at h
  split at h
  ·rename_i h1
   cases j with
   | zero=>simp at hj; subst hj; exact h1
   | succ j=>simp at hj; exact sd h hj
  ·cases h
theorem Tp {B B':List (Nat×Option bc)} {pr kb:List Nat} (hrw:∀ t,aF pr t=true→∀ e k ty xs pins,lkB B t=some (.rw e k ty xs pins)→∃ e' k' ty' xs' pins',lkB B' t=some (.rw e' k' ty' xs' pins')∧xs'.length=xs.length)
  (hst:∀ t,aF kb t=true→∀ ty cs,lkB B t=some (.st ty cs)→∃ ty' cs',lkB B' t=some (.st ty' cs')) {v:SV} {q:PV} (h:bj B v q) : G2 pr kb v=true→bj B' v q:=by
 induction h with
 | junk q=>exact fun _=>.junk q
 | d c y h=>exact fun _=>.d c y h
 | ag cs qs hl hr ih=>exact fun hs=>.ag cs qs hl fun j c q h1 h2=>ih j c q h1 h2 (sd hs h1)
 | tup cs qs hl hr ih=>exact fun hs=>.tup cs qs hl fun j c q h1 h2=>ih j c q h1 h2 (sd hs h1)
 | ptr t o ty cs hb=>exact fun hs=>by obtain ⟨ty',cs',h1⟩:=hst t hs ty cs hb; exact .ptr t o ty' cs' h1
 | row t n e k ty xs pins hb hn =>
  intro hs
  obtain ⟨e',k',ty',xs',pins',h1,h2⟩:=hrw t hs e k ty xs pins hb
  exact .row t n e' k' ty' xs' pins' h1 (h2.trans hn)
 | re t p o n i e k ty xs pins pin hb hn hp hi=>exact fun hs=>by cases hs
 | vw t lo hi n e k ty xs pins hb hn=>exact fun hs=>by cases hs
 | fe cs ds h hn=>exact fun _=>.fe cs ds h hn
 | fn f ps qs ps' qs' hl hr hl2 hr2 ih ih2 =>
  intro hs
  have hs:(match lq pr kb ps with | true=>lq pr kb qs | false=>false)=true:=hs
  split at hs
  ·rename_i h1
   exact .fn f ps qs ps' qs' hl (fun j c q h2 h3=>ih j c q h2 h3 (sd h1 h2)) hl2 (fun j c q h2 h3=>ih2 j c q h2 h3 (sd hs h2))
  ·cases hs
mutual
theorem We {pr pr' kb:List Nat} (h:∀ t,aF pr t=true→aF pr' t=true) : ∀ v:SV,G2 pr kb v=true→lr pr' v=true
 | .junk,_=>rfl
 | .d _,_=>rfl
 | .fe _,_=>rfl
 | .ptr _ _,_=>rfl
 | .row t,hs=>h t hs
 | .re _ _ _,hs=>by cases hs
 | .vw _ _ _,hs=>by cases hs
 | .ag cs,hs=>by simp only [lr]; exact yB h cs hs
 | .tup cs,hs=>by simp only [lr]; exact yB h cs hs
 | .fn f ps qs,hs=>by
  have hs:(match lq pr kb ps with | true=>lq pr kb qs | false=>false)=true:=hs
  split at hs
  ·rename_i h1
   simp only [lr,Bool.and_eq_true]
   exact ⟨yB h ps h1,yB h qs hs⟩
  ·cases hs
theorem yB {pr pr' kb:List Nat} (h:∀ t,aF pr t=true→aF pr' t=true) : ∀ cs:List SV,lq pr kb cs=true→ei pr' cs=true
 | [],_=>rfl
 | c::cs,hs=>by
  simp only [lq] at hs
  split at hs
  ·rename_i h1
   simp only [ei,Bool.and_eq_true]
   exact ⟨We h c h1,yB h cs hs⟩
  ·cases hs
end
theorem pK {pr:List Nat} : ∀ {cs:List SV} (_:ei pr cs=true) {j:Nat} {c:SV},cs[j]? = some c→lr pr c=true
 | [],_,j,c,h=>by simp at h
 | d::cs,h,j,c,hj=>by
  simp only [ei,Bool.and_eq_true] at h
  cases j with
  | zero=>simp at hj; subst hj; exact h.1
  | succ j=>simp at hj; exact pK h.2 hj
theorem uw {pr kb:List Nat} : ∀ {cs:List SV},(∀ (j:Nat) c,cs[j]? = some c→G2 pr kb c=true)→lq pr kb cs=true
 | [],_=>rfl
 | c::cs,h=>by
  simp only [lq]
  rw [h 0 c rfl]
  exact uw fun j d hj=>h (j + 1) d (by simpa using hj)
theorem O9 {B:List (Nat×Option bc)} {pr pr' kb:List Nat} (h:∀ t,aF pr t=true→aF pr' t=true) (hst:∀ t ty cs,lkB B t=some (.st ty cs)→aF kb t=true) {v:SV} {q:PV} (hv:bj B v q) : lr pr v=true→G2 pr' kb v=true:=by
 induction hv with
 | junk q=>exact fun _=>rfl
 | d c y h=>exact fun _=>rfl
 | ag cs qs hl hr ih =>
  refine fun hs=>uw fun j c hj=>?_
  have hlt:j < qs.length:=by rw [← hl]; exact (zg.1 hj).1
  exact ih j c qs[j] hj (by simp [hlt]) (pK hs hj)
 | tup cs qs hl hr ih =>
  refine fun hs=>uw fun j c hj=>?_
  have hlt:j < qs.length:=by rw [← hl]; exact (zg.1 hj).1
  exact ih j c qs[j] hj (by simp [hlt]) (pK hs hj)
 | ptr t o ty cs hb=>exact fun _=>hst t ty cs hb
 | row t n e k ty xs pins hb hn=>exact fun hs=>h t hs
 | re t p o n i e k ty xs pins pin hb hn hp hi=>exact fun hs=>by cases hs
 | vw t lo hi n e k ty xs pins hb hn=>exact fun hs=>by cases hs
 | fe cs ds h hn=>exact fun _=>rfl
 | fn f ps qs ps' qs' hl hr hl2 hr2 ih ih2 =>
  intro hs
  simp only [lr,Bool.and_eq_true] at hs
  have k1:lq pr' kb ps=true:=uw fun j c hj=>by
   have hlt:j < ps'.length:=by rw [← hl]; exact (zg.1 hj).1
   exact ih j c ps'[j] hj (by simp [hlt]) (pK hs.1 hj)
  have k2:lq pr' kb qs=true:=uw fun j c hj=>by
   have hlt:j < qs'.length:=by rw [← hl2]; exact (zg.1 hj).1
   exact ih2 j c qs'[j] hj (by simp [hlt]) (pK hs.2 hj)
  show (match lq pr' kb ps with | true=>lq pr' kb qs | false=>false)=true
  rw [k1]
  exact k2
theorem abD {B:List (Nat×Option bc)} {c:SD} {q:PV} (h:bj B (.d c) q) : ∃ y,q = .d y∧Ly c y:=by
 cases h with
 | d _ y h=>exact ⟨y,rfl,h⟩
theorem aaa {B:List (Nat×Option bc)} {t:Nat} {q:PV} (h:bj B (.row t) q) : ∃ n,q = .row t n:=by
 cases h with
 | row _ n=>exact ⟨n,rfl⟩
def mr (bx:List (Nat×Option bc)) : Prop:=∀ t e k ty xs pins,lkB bx t=some (.rw e k ty xs pins)→pins = []
theorem mr.cons_rw {bx:List (Nat×Option bc)} (h:mr bx) {R e k:Nat} {t:Ty} {xs:List t.den} : mr ((R,some (.rw e k t xs []))::bx):=by
 intro t' e' k' ty' xs' pins' h1
 rw [av] at h1
 split at h1
 ·injection h1 with h1
  injection h1 with q1 q2 q3 q4 q5
  exact q5.symm
 ·exact h t' e' k' ty' xs' pins' h1
theorem mr.cons_st {bx:List (Nat×Option bc)} (h:mr bx) {R:Nat} {ty:TypeId} {cs:List SV} : mr ((R,some (.st ty cs))::bx):=by
 intro t' e' k' ty' xs' pins' h1
 rw [av] at h1
 split at h1
 ·cases h1
 ·exact h t' e' k' ty' xs' pins' h1
def HM (bx:List (Nat×Option bc)) (p:PS) : Prop:=∀ t b,lkB bx t=some b→mt bx true (some b) (p.b t)
theorem I5 {bx:List (Nat×Option bc)} {p:PS} (hn:mr bx) (hb:HM bx p) {R e k:Nat} {t:Ty} {xs:List t.den} (hR:p.b R=some (.rw e k (xs.map (bH t)))) : BLe bx ((R,some (.rw e k t xs []))::bx):=by
 refine ⟨fun t' e2 k2 ty2 xs2 pins2 h=>?_,fun t' ty2 cs2 h=>?_⟩
 ·rw [av]
  by_cases e1:t' = R
  ·subst e1
   rw [if_pos rfl]
   have h1:=(hb t' _ h).1
   rw [hR] at h1
   injection h1 with h1
   injection h1 with q1 q2 q3
   refine ⟨e,k,t,xs,[],rfl,by simpa using congrArg List.length q3,fun p pin hp=>?_⟩
   rw [hn _ _ _ _ _ _ h] at hp
   cases hp
  ·rw [if_neg e1]; exact ⟨_,_,_,_,_,h,rfl,fun p pin hp=>⟨pin,hp,rfl⟩⟩
 ·rw [av]
  by_cases e1:t' = R
  ·subst e1
   obtain ⟨qs,h1,_⟩:=hb t' _ h
   rw [hR] at h1
   cases h1
  ·rw [if_neg e1]; exact ⟨_,_,h⟩
theorem XQ {bx:List (Nat×Option bc)} {p:PS} (hb:HM bx p) {b:Nat} {ty:TypeId} {cs:List SV} {qs:List PV} (hR:p.b b=some (.st ty qs)) : BLe bx ((b,some (.st ty cs))::bx):=by
 refine ⟨fun t' e2 k2 ty2 xs2 pins2 h=>?_,fun t' ty2 cs2 h=>?_⟩
 ·rw [av]
  by_cases e1:t' = b
  ·subst e1
   have h1:=(hb t' _ h).1
   rw [hR] at h1
   cases h1
  ·rw [if_neg e1]; exact ⟨_,_,_,_,_,h,rfl,fun p pin hp=>⟨pin,hp,rfl⟩⟩
 ·rw [av]
  by_cases e1:t' = b
  ·rw [if_pos e1]; exact ⟨_,_,rfl⟩
  ·rw [if_neg e1]; exact ⟨_,_,h⟩
theorem HM.cons {bx:List (Nat×Option bc)} {p:PS} (h:HM bx p) {R:Nat} {b:bc} (hB:BLe bx ((R,some b)::bx)) (hb:mt ((R,some b)::bx) true (some b) (p.b R)) : HM ((R,some b)::bx) p:=by
 intro t b' h1
 rw [av] at h1
 by_cases e:t=R
 ·subst e
  rw [if_pos rfl] at h1
  injection h1 with h1
  subst h1
  exact hb
 ·rw [if_neg e] at h1
  exact (h t b' h1).mono hB
theorem Ze {t:Ty} {xs ys:List t.den} (h:xs.map (bH t)=ys.map (bH t)) : xs.length=ys.length:=by
 have h9:=congrArg List.length h
 rw [List.length_map,List.length_map] at h9
 exact h9
theorem aai {t t':Ty} {xs:List t.den} {ys:List t'.den} {c:SD} (h:c.as (.sl t)=some xs) (hd:c.toD = .sl (ys.map (bH t'))) : xs.map (bH t)=ys.map (bH t'):=by
 have h1:=SD.as_ok h
 rw [hd] at h1
 have h2 : [D.sl (xs.map (bH t))] = [D.sl (ys.map (bH t'))]:=h1
 injection h2 with h2
 injection h2
theorem uD {s':SS} {p:PS} (hs':ib s' p) {rows:List (Nat×Nat×Nat×Nat×Ty)} : ∀ {cs:List SV} {qs:List PV} {ds0 ds:List SD} {j:Nat} {bx bx':List (Nat×Option bc)} {vs:List SV},ce s'.bx cs qs→cellsOf s' rows j cs=some ds0→ds0.map SD.toD=ds.map SD.toD→(∀ c∈ds,c≠.nl) →
  mr bx→HM bx p→gf rows j ds bx=some (vs,bx')→mr bx'∧HM bx' p∧BLe bx bx'∧ce bx' vs qs∧(∀ t,(∀ r∈rows,r.2.1≠t)→lkB bx' t=lkB bx t)
 | [],qs,ds0,ds,j,bx,bx',vs,hc,h0,hd,_,hn,hb,h=>by
  rcases hc.cases with ⟨_,rfl⟩ | ⟨_,_,_,_,h1,_⟩
  ·injection h0 with h0
   subst h0
   have:ds = []:=by simpa using hd.symm
   subst this
   injection h with h
   injection h with e1 e2
   subst e1 e2
   exact ⟨hn,hb,.refl _,.nil,fun _ _=>rfl⟩
  ·cases h1
 | c::cs,qs,ds0,ds,j,bx,bx',vs,hc,h0,hd,hnl,hn,hb,h=>by
  rcases hc.cases with ⟨h1,_⟩ | ⟨c',q,cs',qs',h1,rfl,hq,hcs⟩
  ·cases h1
  injection h1 with e1 e2
  subst e1 e2
  have findR_mem:∀ {rows:List (Nat×Nat×Nat×Nat×Ty)} {j R e k:Nat} {t:Ty},pV rows j=some (R,e,k,t)→∃ r∈rows,r.2.1=R:=by
   intro rows
   induction rows with
   | nil=>intro j R e k t h; cases h
   | cons r rows ih =>
    intro j R e k t h
    obtain ⟨j',R',e',k',t'⟩:=r
    simp only [pV] at h
    split at h
    ·injection h with h
     injection h with h _
     exact ⟨_,List.mem_cons_self,h⟩
    ·obtain ⟨r,h1,h2⟩:=ih h
     exact ⟨r,List.mem_cons_of_mem _ h1,h2⟩
  simp only [cellsOf] at h0
  split at h0
  ·rename_i R e k t hf
   split at h0
   ·rename_i R' e' k' t' xs pins hbR
    split at h0
    ·rename_i ht hsame
     have k1:=(aq h0).1
     replace h0:=(aq h0).2
     have k2:=(aq h0).1
     replace h0:=(aq h0).2
     have k3:=(aq h0).1
     replace h0:=(aq h0).2
     replace k1:R' = R:=by simpa [cU] using k1
     replace k2:e' = e:=by simpa using k2
     replace k3:k' = k:=by simpa using k3
     subst k1 k2 k3 ht
     split at h0
     ·rename_i r hr
      injection h0 with h0
      subst h0
      cases ds with
      | nil=>simp at hd
      | cons d ds =>
       simp only [List.map_cons,List.cons.injEq] at hd
       obtain ⟨hd1,hd2⟩:=hd
       simp only [gf,hf] at h
       split at h
       ·rename_i xs' vs' bx1 hxs hp
        injection h with h
        injection h with e1 e2
        subst e1 e2
        obtain ⟨m1,m2,m3,m4,m5⟩:=uD hs' hcs hr hd2 (fun c hc=>hnl c (List.mem_cons_of_mem _ hc)) hn hb hp
        have hpR:p.b R' = some (.rw e' k' (xs.map (bH t'))):=(hs'.bx R' _ hbR).1
        have hx:xs'.map (bH t')=xs.map (bH t'):=aai hxs (by rw [← hd1]; rfl)
        have hpR':p.b R' = some (.rw e' k' (xs'.map (bH t'))):=by rw [hx]; exact hpR
        have hB:=I5 m1 m2 hpR'
        refine ⟨m1.cons_rw,m2.cons hB ⟨hpR',fun p pin hp=>by cases hp⟩,m3.trans hB,.cons ?_ (m4.mono hB),fun t2 ht2=>?_⟩
        ·cases hq with
         | row _ n e2 k2 ty2 xs2 pins2 hb2 hn2 =>
          rw [hbR] at hb2
          injection hb2 with hb2
          injection hb2 with q1 q2 q3 q4 q5
          subst q3
          have q4:=eq_of_heq q4
          subst q4
          refine .row R' n e' k' t' xs' [] (by rw [av,if_pos rfl]) ?_
          rw [← hn2]
          exact Ze hx
        ·rw [av,if_neg (fun e=>by
          obtain ⟨r,h1,h2⟩:=findR_mem hf
          exact ht2 r h1 (h2.trans e.symm))]
         exact m5 t2 ht2
       ·cases h
     ·cases h0
    ·cases h0
   ·cases h0
  ·rename_i hf
   split at h0
   ·rename_i x r hr
    injection h0 with h0
    subst h0
    cases ds with
    | nil=>simp at hd
    | cons d ds =>
     simp only [List.map_cons,List.cons.injEq] at hd
     obtain ⟨hd1,hd2⟩:=hd
     simp only [gf,hf] at h
     split at h
     ·rename_i vs' bx1 hp
      injection h with h
      injection h with e1 e2
      subst e1 e2
      obtain ⟨m1,m2,m3,m4,m5⟩:=uD hs' hcs hr hd2 (fun c hc=>hnl c (List.mem_cons_of_mem _ hc)) hn hb hp
      refine ⟨m1,m2,m3,.cons ?_ m4,m5⟩
      cases hq with
      | d _ y hy =>
       refine .d d y ?_
       have h1:=hy.nrm
       rw [hd1] at h1
       have h2:=hnl d List.mem_cons_self
       cases d <;> first | exact h1 | exact absurd rfl h2
     ·cases h
   ·cases h0
theorem Zn {t:Ty} {c:SD} {x:t.den} (h:c.as t=some x) : qK t x≠.nl:=by
 cases t with
 | st i=>simp [SD.as] at h
 | _=>intro e; cases e
theorem Mo {t:Nat} : ∀ {rows:List (Nat×Nat×Nat×Nat×Ty)} {r:Nat×Nat×Nat×Nat×Ty},r∈rows→r.2.1=t→aF (rows.map (·.2.1)) t=true
 | [],r,h,_=>by cases h
 | a::rows,r,h,e=>by
  rw [List.map_cons,bf,Bool.or_eq_true]
  rcases List.mem_cons.1 h with rfl | h
  ·exact .inl (by simp [e])
  ·exact .inr (Mo h e)
theorem Sk {s':SS} {p:PS} (hs':ib s' p) {m:Mod} {x:m.den} {c c':SS} (hg:Be s' m=some x) (hc:ib c p) (hn:mr c.bx) (h:sf m x c=some c') :
  ib c' p∧mr c'.bx∧BLe c.bx c'.bx∧(∀ t,aF (bB [m]) t=false→lkB c'.bx t=lkB c.bx t):=by
 cases m with
 | leaf i t =>
  simp only [sf] at h
  injection h with h
  subst h
  refine ⟨⟨fun j=>?_,hc.bx⟩,hn,.refl _,fun _ _=>rfl⟩
  show bj c.bx (lkV ((i,.d (qK t x))::c.sl) j) (p.t j)
  rw [cT]
  split
  ·rename_i e
   subst e
   have h1:=hs'.sl j
   have hg:(match lkV s'.sl j with | .d c=>c.as t | _=>none)=some (show t.den from x):=hg
   split at hg
   ·rename_i c0 hc0
    rw [hc0] at h1
    obtain ⟨y,hp,hy⟩:=abD h1
    rw [hp]
    refine .d _ y ?_
    have h2:=hy.nrm
    rw [← Dx hg] at h2
    have h3:=Zn hg
    revert h2 h3
    generalize qK t x=z
    intro h2 h3
    cases z <;> first | exact h2 | exact absurd rfl h3
   ·exact dQ hg
  ·exact hc.sl j
 | agg i n =>
  simp only [sf] at h
  injection h with h
  subst h
  refine ⟨⟨fun j=>?_,hc.bx⟩,hn,.refl _,fun _ _=>rfl⟩
  show bj c.bx (lkV ((i,.ag (A6 (stC n x)))::c.sl) j) (p.t j)
  rw [cT]
  split
  ·rename_i e
   subst e
   have h1:=hs'.sl j
   simp only [Be] at hg
   split at hg
   ·rename_i cs hcs
    split at hg
    ·rename_i ds hds
     rw [hcs] at h1
     obtain ⟨qs,h2,h3⟩:=DQ h1
     rw [h2]
     have h4:=vH h3 hds
     have h5:=AI hg
     have hlen:qs.length=(stC n x).length:=by
      have a:=AN hds
      have b:=h3.len
      have c:=congrArg List.length h5
      have d:=congrArg List.length (ut n x)
      simp only [List.length_map] at c d
      omega
     refine .ag _ qs (by rw [JY,List.length_map]; exact hlen.symm) (fun k v q k1 k2=>?_)
     rw [JY,List.getElem?_map,zm] at k1
     obtain ⟨z,k3,rfl⟩:=k1
     obtain ⟨y,k4,k5⟩:=yO qs _ h4 |>.2 k (z.toD) (by
      have h7:(stC n x).map SD.toD=stD n x:=ut n x
      rw [h5,← h7,List.getElem?_map,k3]
      rfl)
     rw [k2] at k4
     injection k4 with k4
     subst k4
     have h6:=xk n x z (List.mem_of_getElem? k3)
     refine .d z y ?_
     cases z <;> first | exact k5.symm | exact absurd rfl h6
    ·exact dQ hg
   ·exact dQ hg
  ·exact hc.sl j
 | row i R e k t =>
  simp only [sf] at h
  injection h with h
  subst h
  simp only [Be] at hg
  split at hg
  ·rename_i R' e' k' t' xs pins hv hb
   split at hg
   ·rename_i ht hsame
    have k1:=(aq hg).1
    replace hg:=(aq hg).2
    have k2:=(aq hg).1
    replace hg:=(aq hg).2
    have k3:=(aq hg).1
    replace hg:=(aq hg).2
    replace k1:R' = R:=by simpa [cU] using k1
    replace k2:e' = e:=by simpa using k2
    replace k3:k' = k:=by simpa using k3
    subst k1 k2 k3 ht
    injection hg with hg
    subst hg
    have hpR:p.b R' = some (.rw e' k' (xs.map (bH t'))):=(hs'.bx R' _ hb).1
    have hB:=I5 hn hc.bx hpR
    refine ⟨⟨fun j=>?_,HM.cons hc.bx hB ⟨hpR,fun p pin hp=>by cases hp⟩⟩,hn.cons_rw,hB,fun t2 ht2=>?_⟩
    ·show bj _ (lkV ((i,.row R')::c.sl) j) (p.t j)
     rw [cT]
     split
     ·rename_i e
      subst e
      have h1:=hs'.sl j
      rw [hv] at h1
      obtain ⟨n,h2⟩:=aaa h1
      rw [h2] at h1 ⊢
      cases h1 with
      | row _ _ e2 k2 ty2 xs2 pins2 hb2 hn2 =>
       rw [hb] at hb2
       injection hb2 with hb2
       injection hb2 with q1 q2 q3 q4 q5
       subst q3
       have q4:=eq_of_heq q4
       subst q4
       exact .row R' n e' k' t' xs [] (by rw [av,if_pos rfl]; rfl) hn2
     ·exact (hc.sl j).mono hB
    ·show lkB ((R',_)::c.bx) t2 = _
     rw [av,if_neg (fun e=>by subst e; simp [bB,bf] at ht2)]
   ·exact dQ hg
  ·exact dQ hg
 | box b ty n rows =>
  simp only [sf] at h
  split at h
  ·rename_i vs bx hp
   injection h with h
   subst h
   simp only [Be] at hg
   split at hg
   ·rename_i ty' cs hb
    have k1:=(aq hg).1
    replace hg:=(aq hg).2
    replace k1:ty' = ty:=by simpa using k1
    subst k1
    replace hg:=(aq hg).2
    split at hg
    ·rename_i ds hds
     obtain ⟨qs,h1,h2⟩:=hs'.bx b _ hb
     have h3:=AI hg
     obtain ⟨m1,m2,m3,m4,m5⟩:=uD hs' h2 hds (h3.trans (ut n x).symm) (xk n x) hn hc.bx hp
     have hB:=XQ (cs:=vs) m2 h1
     refine ⟨⟨fun j=>((hc.sl j).mono m3).mono hB,HM.cons m2 hB ⟨qs,h1,m4.mono hB⟩⟩,m1.cons_st,m3.trans hB,fun t2 ht2=>?_⟩
     simp only [bB,bf,dh,Bool.or_eq_false_iff] at ht2
     show lkB ((b,_)::bx) t2 = _
     rw [av,if_neg (fun e=>by have:=ht2.1; simp [e] at this)]
     refine m5 t2 fun r hr e=>?_
     have:=Mo hr e
     rw [this] at ht2
     cases ht2.2.1
    ·exact dQ hg
   ·exact dQ hg
  ·cases h
section
variable {sc wr:List Nat}
theorem kg (m:Mod) (l:List Mod) (t:Nat) : aF (bB (m::l)) t=(aF (bB [m]) t||aF (bB l) t):=by
 cases m with
 | leaf i t'=>simp [bB,aF]
 | agg i n=>simp [bB,aF]
 | row i R e k t'=>simp [bB,bf,aF]
 | box b ty n rows=>simp [bB,bf,dh,aF,Bool.or_assoc]
def xA:Mod→Option Nat
 | .leaf i _=>some i
 | .agg i _=>some i
 | .row i _ _ _ _=>some i
 | .box ..=>none
theorem Sj {m:Mod} {x:m.den} {l:List (Nat×SV)} {bx:List (Nat×Option bc)} {pr oc:List Nat} {ro:Bool} {s2:SS} (h:sf m x ⟨l,bx,pr,ro,oc⟩=some s2) :
  ∃ X bx2,s2=⟨X++l,bx2,pr,ro,oc⟩∧(∀ l',sf m x ⟨l',bx,pr,ro,oc⟩=some ⟨X++l',bx2,pr,ro,oc⟩)∧∀ i,aF (X.map (·.1)) i=true→xA m=some i:=by
 cases m with
 | leaf i t=>simp only [sf] at h ⊢; injection h with h; subst h; exact ⟨[(i,.d (qK t x))],bx,rfl,fun _=>rfl,fun j hj=>by simp [bf,aF] at hj; simp [xA,hj]⟩
 | agg i n=>simp only [sf] at h ⊢; injection h with h; subst h; exact ⟨[(i,.ag (A6 (stC n x)))],bx,rfl,fun _=>rfl,fun j hj=>by simp [bf,aF] at hj; simp [xA,hj]⟩
 | row i R e k t=>simp only [sf] at h ⊢; injection h with h; subst h; exact ⟨[(i,.row R)],_,rfl,fun _=>rfl,fun j hj=>by simp [bf,aF] at hj; simp [xA,hj]⟩
 | box b ty n rows =>
  simp only [sf] at h ⊢
  split at h
  ·rename_i vs bx' hp
   injection h with h
   subst h
   exact ⟨[],_,rfl,fun _=>rfl,fun j hj=>by cases hj⟩
  ·cases h
theorem L4:∀ {ms:List Mod} {st:ke ms} {l:List (Nat×SV)} {bx:List (Nat×Option bc)} {pr oc:List Nat} {ro:Bool} {s2:SS},jW ms st ⟨l,bx,pr,ro,oc⟩=some s2 →
  ∃ X bx2,s2=⟨X++l,bx2,pr,ro,oc⟩∧(∀ l',jW ms st ⟨l',bx,pr,ro,oc⟩=some ⟨X++l',bx2,pr,ro,oc⟩)∧∀ i,aF (X.map (·.1)) i=true→∃ m∈ms,xA m=some i
 | [],st,l,bx,pr,oc,ro,s2,h=>by injection h with h; subst h; exact ⟨[],bx,rfl,fun _=>rfl,fun j hj=>by cases hj⟩
 | [m],st,l,bx,pr,oc,ro,s2,h=>by
  obtain ⟨X,bx2,h1,h2,h3⟩:=Sj (show sf m st _ = some s2 from h)
  exact ⟨X,bx2,h1,h2,fun i hi=>⟨m,List.mem_cons_self,h3 i hi⟩⟩
 | m::m' :: ms,st,l,bx,pr,oc,ro,s2,h=>by
  have h:(match jW (m' :: ms) st.2 ⟨l,bx,pr,ro,oc⟩ with | some s=>sf m st.1 s | none=>none)=some s2:=h
  split at h
  ·rename_i s1 h1
   obtain ⟨X,bx2,rfl,k2,k3⟩:=L4 h1
   obtain ⟨Y,bx3,rfl,m2,m3⟩:=Sj h
   refine ⟨Y++X,bx3,by simp,fun l'=>?_,fun i hi=>?_⟩
   ·show (match jW (m' :: ms) st.2 ⟨l',bx,pr,ro,oc⟩ with | some s=>sf m st.1 s | none=>none) = _
    rw [k2 l']
    simp only
    rw [m2]
    simp
   ·rw [List.map_append,dh,Bool.or_eq_true] at hi
    rcases hi with hi | hi
    ·exact ⟨m,List.mem_cons_self,m3 i hi⟩
    ·obtain ⟨m0,h4,h5⟩:=k3 i hi
     exact ⟨m0,List.mem_cons_of_mem _ h4,h5⟩
  ·cases h
theorem J0:∀ (X l:List (Nat×SV)) (i:Nat),lkV (X++l) i=if aF (X.map (·.1)) i=true then lkV X i else lkV l i
 | [],l,i=>by simp [aF]
 | (j,v)::X,l,i=>by
  simp only [List.cons_append,cT,J0 X l i,List.map_cons,bf]
  by_cases e:i=j
  ·simp [e]
  ·simp [e]
theorem SM {s':SS} {m:Mod} {x:m.den} (hg:Be s' m=some x) {t:Nat} (ht:aF (bB [m]) t=true) {ty:TypeId} {cs:List SV} (hb:lkB s'.bx t=some (.st ty cs)) : ∃ ty n rows,m = .box t ty n rows:=by
 cases m with
 | leaf i t'=>cases ht
 | agg i n=>cases ht
 | row i R e k t' =>
  simp only [bB,bf,aF,Bool.or_false,decide_eq_true_eq] at ht
  subst ht
  have hg:(match lkV s'.sl i,lkB s'.bx t with | .row R',some (.rw e' k' t2 xs _)=>(match Ty.same t2 t' with | some ⟨h⟩=>chk (Nat.beq R' t) (chk (e' == e) (chk (k' == k) (some (y6 h xs)))) | none=>none) | _,_=>none)=some (show List t'.den from x):=hg
  rw [hb] at hg
  split at hg
  ·rename_i h2; cases h2
  ·cases hg
 | box b ty' n rows =>
  simp only [bB,bf,dh,aF,Bool.or_false,Bool.or_eq_true,decide_eq_true_eq] at ht
  rcases ht with ht | ht
  ·subst ht; exact ⟨_,_,_,rfl⟩
  ·exfalso
   simp only [Be] at hg
   split at hg
   ·have h1:=(aq (aq hg).2).1
    have key:∀ rows:List (Nat×Nat×Nat×Nat×Ty),aF (rows.map (·.2.1)) t=true→(rows.all fun r=>aaB (lkB s'.bx r.2.1))=true→aaB (lkB s'.bx t)=true:=by
     intro rows
     induction rows with
     | nil=>intro h; cases h
     | cons r rows ih =>
      intro h h2
      rw [List.all_cons,Bool.and_eq_true] at h2
      rw [List.map_cons,bf,Bool.or_eq_true] at h
      rcases h with h | h
      ·have:=zd h
       rw [this]; exact h2.1
      ·exact ih h h2.2
    have h2:=key rows ht h1
    rw [hb] at h2
    cases h2
   ·exact dQ hg
theorem Md {s':SS} {p:PS} (hs':ib s' p) : ∀ {ms:List Mod} {st:ke ms} {c c':SS},tT s' ms=some st→ib c p→mr c.bx→jW ms st c=some c' →
  ib c' p∧mr c'.bx∧BLe c.bx c'.bx∧(∀ t,aF (bB ms) t=false→lkB c'.bx t=lkB c.bx t)∧∀ t,aF (bB ms) t=true→∀ ty cs,lkB s'.bx t=some (.st ty cs)→∃ ty' cs',lkB c'.bx t=some (.st ty' cs')
 | [],st,c,c',_,hc,hn,h=>by injection h with h; subst h; exact ⟨hc,hn,.refl _,fun _ _=>rfl,fun t ht=>by cases ht⟩
 | [m],st,c,c',hp,hc,hn,h=>by
  have hg:Be s' m=some st:=hp
  have h:sf m st c=some c':=h
  obtain ⟨h1,h2,h3,h4⟩:=Sk hs' hg hc hn h
  refine ⟨h1,h2,h3,h4,fun t ht ty cs hb=>?_⟩
  obtain ⟨ty',n,rows,rfl⟩:=SM hg ht hb
  simp only [sf] at h
  split at h
  ·injection h with h
   subst h
   exact ⟨_,_,by show lkB ((t,_) :: _) t = _; rw [av,if_pos rfl]⟩
  ·cases h
 | m::m' :: ms,st,c,c',hp,hc,hn,h=>by
  have hp:Option.bind (Be s' m) (fun x=>Option.bind (tT s' (m' :: ms)) fun xs=>some (x,xs))=some st:=hp
  obtain ⟨x,hg,hp2⟩:=bindS hp
  obtain ⟨xs,hp3,he⟩:=bindS hp2
  injection he with he
  subst he
  have h:(match jW (m' :: ms) xs c with | some s=>sf m x s | none=>none)=some c':=h
  split at h
  ·rename_i c1 h1
   obtain ⟨k1,k2,k3,k4,k5⟩:=Md hs' hp3 hc hn h1
   obtain ⟨n1,n2,n3,n4⟩:=Sk hs' hg k1 k2 h
   refine ⟨n1,n2,k3.trans n3,fun t ht=>?_,fun t ht ty cs hb=>?_⟩
   ·rw [kg,Bool.or_eq_false_iff] at ht
    rw [n4 t ht.1,k4 t ht.2]
   ·rw [kg,Bool.or_eq_true] at ht
    rcases ht with ht | ht
    ·obtain ⟨ty',n,rows,rfl⟩:=SM hg ht hb
     simp only [sf] at h
     split at h
     ·injection h with h
      subst h
      exact ⟨_,_,by show lkB ((t,_) :: _) t = _; rw [av,if_pos rfl]⟩
     ·cases h
    ·obtain ⟨ty',cs',h5⟩:=k5 t ht ty cs hb
     exact n3.st t ty' cs' h5
  ·cases h
theorem uI {s:SS} : ∀ {ms:List Mod},pP wr s ms=true→(∀ m∈ms,∀ i,xA m=some i→aF wr i=true∨∃ R,aF (bB ms) R=true∧lkV s.sl i = .row R)∧∀ t,aF (bB ms) t=true→aF s.pr t=false
 | [],_=>⟨fun m hm=>(by cases hm),fun t ht=>(by cases ht)⟩
 | m::ms,h=>by
  have key:pP wr s ms=true∧(∀ i,xA m=some i→aF wr i=true∨∃ R,aF (bB [m]) R=true∧lkV s.sl i = .row R)∧∀ t,aF (bB [m]) t=true→aF s.pr t=false:=by
   cases m with
   | leaf i t =>
    simp only [pP] at h
    split at h
    ·rename_i hw; exact ⟨h,fun j hj=>by injection hj with hj; subst hj; exact .inl hw,fun t ht=>by cases ht⟩
    ·cases h
   | agg i n =>
    simp only [pP] at h
    split at h
    ·rename_i hw; exact ⟨h,fun j hj=>by injection hj with hj; subst hj; exact .inl hw,fun t ht=>by cases ht⟩
    ·cases h
   | row i R e k t =>
    simp only [pP] at h
    split at h
    ·rename_i hp hw
     refine ⟨h,fun j hj=>?_,fun t ht=>?_⟩
     ·injection hj with hj
      subst hj
      rw [Bool.or_eq_true] at hw
      rcases hw with hw | hw
      ·exact .inl hw
      ·unfold ZW at hw
       split at hw
       ·rename_i R' hv
        rw [cU] at hw
        have:=zd hw
        subst this
        exact .inr ⟨R',by simp [bB,bf],hv⟩
       ·cases hw
     ·simp only [bB,bf,aF,Bool.or_false,decide_eq_true_eq] at ht
      subst ht; exact hp
    ·cases h
   | box b ty n rows =>
    simp only [pP] at h
    split at h
    ·rename_i hp hr
     refine ⟨h,fun j hj=>(by cases hj),fun t ht=>?_⟩
     simp only [bB,bf,dh,aF,Bool.or_false,Bool.or_eq_true,decide_eq_true_eq] at ht
     rcases ht with ht | ht
     ·subst ht; exact hp
     ·clear h
      induction rows with
      | nil=>cases ht
      | cons r rows ih =>
       rw [List.all_cons,Bool.and_eq_true] at hr
       rw [List.map_cons,bf,Bool.or_eq_true] at ht
       rcases ht with ht | ht
       ·have:=zd ht
        rw [this]; simpa using hr.1
       ·exact ih hr.2 ht
    ·cases h
  obtain ⟨h1,h2,h3⟩:=key
  obtain ⟨h4,h5⟩:=uI h1
  refine ⟨fun m0 hm i hi=>?_,fun t ht=>?_⟩
  ·rcases List.mem_cons.1 hm with rfl | hm
   ·rcases h2 i hi with h | ⟨R,h6,h7⟩
    ·exact .inl h
    ·exact .inr ⟨R,by rw [kg,h6]; rfl,h7⟩
   ·rcases h4 m0 hm i hi with h | ⟨R,h6,h7⟩
    ·exact .inl h
    ·exact .inr ⟨R,by rw [kg,h6]; simp,h7⟩
  ·rw [kg,Bool.or_eq_true] at ht
   exact ht.elim (h3 t) (h5 t)
theorem mP:∀ {cs:List SV} (_:cy cs=true) {j:Nat} {c:SV},cs[j]? = some c→pO c=true
 | [],_,j,c,h=>by simp at h
 | d::cs,h,j,c,hj=>by
  simp only [cy] at h
  split at h
  ·rename_i h1
   cases j with
   | zero=>simp at hj; subst hj; exact h1
   | succ j=>simp at hj; exact mP h hj
  ·cases h
theorem OO {B B':List (Nat×Option bc)} {v:SV} {q:PV} (h:bj B v q) : pO v=true→bj B' v q:=by
 induction h with
 | junk q=>exact fun _=>.junk q
 | d c y h=>exact fun _=>.d c y h
 | ag cs qs hl hr ih=>exact fun hs=>.ag cs qs hl fun j c q h1 h2=>ih j c q h1 h2 (mP hs h1)
 | tup cs qs hl hr ih=>exact fun hs=>.tup cs qs hl fun j c q h1 h2=>ih j c q h1 h2 (mP hs h1)
 | ptr t o ty cs hb=>exact fun hs=>by cases hs
 | row t n e k ty xs pins hb hn=>exact fun hs=>by cases hs
 | re t p o n i e k ty xs pins pin hb hn hp hi=>exact fun hs=>by cases hs
 | vw t lo hi n e k ty xs pins hb hn=>exact fun hs=>by cases hs
 | fe cs ds h hn=>exact fun _=>.fe cs ds h hn
 | fn f ps qs ps' qs' hl hr hl2 hr2 ih ih2 =>
  intro hs
  have hs:(match cy ps with | true=>cy qs | false=>false)=true:=hs
  split at hs
  ·rename_i h1
   exact .fn f ps qs ps' qs' hl (fun j c q h2 h3=>ih j c q h2 h3 (mP h1 h2)) hl2 (fun j c q h2 h3=>ih2 j c q h2 h3 (mP hs h2))
  ·cases hs
def tU (sc wr:List Nat) (ms:List Mod) (s1:SS) : SS:=⟨s1.sl,s1.bx,(ch sc wr ms s1).pr,s1.ro,s1.oc⟩
theorem qM (ms:List Mod) (s1:SS) (t:Nat) : aF (ch sc wr ms s1).pr t=true↔aF (bB ms) t=false∧aF sc t=false∧∃ b,lkB s1.bx t=some b∧yF b=true:=by
 show aF (o4 (bB ms++sc) s1.bx []) t=true↔_
 rw [lw,dh,Bool.or_eq_false_iff]
 simp [aF,and_assoc]
theorem Bc (ms:List Mod) (s1:SS) : mp (tU sc wr ms s1):=fun t ht=>((qM (wr:=wr) ms s1 t).1 ht).2.2
theorem y9 {ms:List Mod} {s1:SS} {t:Nat} (h:aF (ch sc wr ms s1).pr t=true) : lkB (ch sc wr ms s1).bx t=Jv (lkB s1.bx t):=by
 obtain ⟨_,h2,_⟩:=(qM ms s1 t).1 h
 show lkB (LR s1.bx sc (tf (ch sc wr ms s1).pr s1.bx [])) t = _
 rw [(vG s1.bx sc _ t).2 (.inl h2),n7,h]
 simp [aF]
theorem DC {ms:List Mod} {s1:SS} {t:Nat} (h:aF sc t=true) {ty:TypeId} {cs:List SV} (hb:lkB s1.bx t=some (.st ty cs)) : lkB (ch sc wr ms s1).bx t=some (.st ty (wP cs)) :=
 (vG s1.bx sc _ t).1 h ty cs hb
theorem FV {ms:List Mod} {s1:SS} {t:Nat} {b:bc} (h:lkB (ch sc wr ms s1).bx t=some b) : aF (ch sc wr ms s1).pr t=true∨aF sc t=true∧∃ ty cs,lkB s1.bx t=some (.st ty cs):=by
 by_cases h1:aF sc t=true∧∃ ty cs,lkB s1.bx t=some (.st ty cs)
 ·exact .inr h1
 ·left
  have h2:aF sc t=false∨∀ ty cs,lkB s1.bx t≠some (.st ty cs):=by
   by_cases h3:aF sc t=true
   ·exact .inr fun ty cs h4=>h1 ⟨h3,ty,cs,h4⟩
   ·exact .inl (by simpa using h3)
  have h:lkB (LR s1.bx sc (tf (ch sc wr ms s1).pr s1.bx [])) t=some b:=h
  rw [(vG s1.bx sc _ t).2 h2,n7] at h
  cases h4:aF (ch sc wr ms s1).pr t with
  | true=>rfl
  | false=>rw [h4] at h; simp [aF] at h
theorem JX {ms:List Mod} {s1 s':SS} {p1 p':PS} {st:ke ms} {s2:SS} (hs1:ib s1 p1) (hchk:tc sc wr ms s1.pr s1=true) (hk:dN sc wr (tU sc wr ms s1) s') (hs':ib s' p') (hpk:tT s' ms=some st) (hput:jW ms st (ch sc wr ms s1)=some s2) :
  ib s2 p'∧dN sc wr (tU sc wr ms s1) s2∧s2.pr=(ch sc wr ms s1).pr:=by
 unfold tc at hchk
 simp only [Bool.and_eq_true] at hchk
 obtain ⟨c1,c2,c3,c4⟩:=hchk
 obtain ⟨o1,o2⟩:=uI c1
 have hscm:=tu c3
 obtain ⟨X,bx2,rfl,hX,hkeys⟩:=L4 (show jW ms st ⟨(ch sc wr ms s1).sl,(ch sc wr ms s1).bx,(ch sc wr ms s1).pr,(ch sc wr ms s1).ro,(ch sc wr ms s1).oc⟩=some s2 from hput)
 have hX0:=hX []
 rw [List.append_nil] at hX0
 have hsame:∀ t,aF (ch sc wr ms s1).pr t=true→kZ (lkB s1.bx t) (lkB s'.bx t):=hk.bx
 have hbx:HM (ch sc wr ms s1).bx p':=by
  intro t b hb
  rcases FV hb with h | ⟨h,ty,cs,h1⟩
  ·obtain ⟨_,_,b1,h2,h3⟩:=(qM ms s1 t).1 h
   have h4:=hsame t h
   rw [y9 h,h2] at hb
   rw [h2] at h4
   cases b1 with
   | st ty cs =>
    injection hb with hb
    subst hb
    obtain ⟨qs,h5,h6⟩:=hs'.bx t _ h4
    exact ⟨qs,h5,h6.len,fun j c q m1 m2=>OO (h6.rep j c q m1 m2) (mP h3 m1)⟩
   | rw e k ty xs pins =>
    injection hb with hb
    subst hb
    obtain ⟨pins',h4⟩:=h4
    exact ⟨(hs'.bx t _ h4).1,fun p pin hp=>by cases hp⟩
  ·rw [DC h h1] at hb
   injection hb with hb
   subst hb
   obtain ⟨cs',h2,h3⟩:=hk.st t h ty cs h1
   obtain ⟨qs,h4,h5⟩:=hs'.bx t _ h2
   refine ⟨qs,h4,by rw [A9,← h3]; exact h5.len,fun j c q m1 m2=>?_⟩
   rw [Im cs j c m1]
   exact .junk q
 have hnp:mr (ch sc wr ms s1).bx:=by
  intro t e k ty xs pins hb
  rcases FV hb with h | ⟨h,ty2,cs,h1⟩
  ·rw [y9 h] at hb
   cases hl:lkB s1.bx t with
   | none=>rw [hl] at hb; cases hb
   | some b =>
    rw [hl] at hb
    cases b with
    | st=>cases hb
    | rw e2 k2 ty2 xs2 pins2 =>
     injection hb with hb
     injection hb with q1 q2 q3 q4 q5
     exact q5.symm
  ·rw [DC h h1] at hb; cases hb
 have hc0:ib ⟨[],(ch sc wr ms s1).bx,(ch sc wr ms s1).pr,(ch sc wr ms s1).ro,(ch sc wr ms s1).oc⟩ p':=⟨fun i=>.junk _,hbx⟩
 obtain ⟨k1,k2,k3,k4,k5⟩:=Md hs' hpk hc0 hnp hX0
 have k4:∀ t,aF (bB ms) t=false→lkB bx2 t=lkB (ch sc wr ms s1).bx t:=k4
 have hprm:∀ t,aF (ch sc wr ms s1).pr t=true→aF (bB ms) t=false:=fun t ht=>((qM ms s1 t).1 ht).1
 have hkb:∀ t,aF (bB ms++(s8 s1.bx sc++(ch sc wr ms s1).pr)) t=true→∀ ty cs,lkB s'.bx t=some (.st ty cs)→∃ ty' cs',lkB bx2 t=some (.st ty' cs'):=by
  intro t ht ty cs hb
  rw [dh,dh,Bool.or_eq_true,Bool.or_eq_true] at ht
  rcases ht with ht | ht | ht
  ·exact k5 t ht ty cs hb
  ·obtain ⟨h1,ty2,cs2,h2⟩:=(qL s1.bx sc t).1 ht
   rw [k4 t (hscm t h1),DC h1 h2]
   exact ⟨_,_,rfl⟩
  ·rw [k4 t (hprm t ht),y9 ht]
   have h1:=hsame t ht
   obtain ⟨_,_,b1,h2,h3⟩:=(qM ms s1 t).1 ht
   rw [h2] at h1 ⊢
   cases b1 with
   | st ty2 cs2=>exact ⟨_,_,rfl⟩
   | rw e k ty2 xs pins =>
    obtain ⟨pins',h1⟩:=h1
    rw [h1] at hb
    cases hb
 have hbase:∀ i,lkV (ch sc wr ms s1).sl i=if aF wr i=true then .junk else if G2 (ch sc wr ms s1).pr (bB ms++(s8 s1.bx sc++(ch sc wr ms s1).pr)) (lkV s1.sl i)=true then lkV s1.sl i else .junk:=fun i=>by
  show lkV (te wr (ch sc wr ms s1).pr (bB ms++(s8 s1.bx sc++(ch sc wr ms s1).pr)) s1.sl []) i = _
  rw [n6]
  simp [aF]
 refine ⟨⟨fun i=>?_,k1.bx⟩,⟨rfl,rfl,fun t ht=>?_,fun i hi hsf=>?_,fun t ht ty cs hb=>?_⟩,rfl⟩
 ·show bj bx2 (lkV (X++(ch sc wr ms s1).sl) i) (p'.t i)
  rw [J0]
  split
  ·exact k1.sl i
  ·rw [hbase]
   split
   ·exact .junk _
   ·rename_i hw
    split
    ·rename_i hsf
     have e:=hk.sl i (by simpa using hw) (We (fun t h=>h) _ hsf)
     have h1:=hs'.sl i
     rw [e] at h1
     refine Tp (fun t ht e k ty xs pins hb=>?_) hkb h1 hsf
     rw [k4 t (hprm t ht),y9 ht]
     have h2:=hsame t ht
     obtain ⟨_,_,b1,h3,h4⟩:=(qM ms s1 t).1 ht
     rw [h3] at h2 ⊢
     cases b1 with
     | st ty2 cs2=>have h2:lkB s'.bx t=some (.st ty2 cs2):=h2; rw [h2] at hb; cases hb
     | rw e2 k2 ty2 xs2 pins2 =>
      obtain ⟨pins',h2⟩:=h2
      rw [h2] at hb
      injection hb with hb
      injection hb with q1 q2 q3 q4 q5
      subst q3
      have q4:=eq_of_heq q4
      subst q4
      exact ⟨_,_,_,_,_,rfl,rfl⟩
    ·exact .junk _
 ·show kZ (lkB s1.bx t) (lkB bx2 t)
  have ht:aF (ch sc wr ms s1).pr t=true:=ht
  rw [k4 t (hprm t ht),y9 ht]
  match lkB s1.bx t with
  | none=>rfl
  | some (.st _ _)=>rfl
  | some (.rw _ _ _ _ _)=>exact ⟨[],rfl⟩
 ·show lkV (X++(ch sc wr ms s1).sl) i=lkV s1.sl i
  have hsf:lr (ch sc wr ms s1).pr (lkV s1.sl i)=true:=hsf
  rw [J0,if_neg,hbase,if_neg (by simp [hi]),if_pos]
  ·refine O9 (fun t h=>h) (fun t ty cs hb=>?_) (hs1.sl i) hsf
   rw [dh,dh,Bool.or_eq_true,Bool.or_eq_true]
   rcases o9 _ _ _ _ c4 t ty cs rfl hb with h | h | h
   ·exact .inl h
   ·exact .inr (.inl ((qL s1.bx sc t).2 ⟨h,ty,cs,hb⟩))
   ·by_cases hm:aF (bB ms) t=true
    ·exact .inl hm
    ·by_cases hsc:aF sc t=true
     ·exact .inr (.inl ((qL s1.bx sc t).2 ⟨hsc,ty,cs,hb⟩))
     ·exact .inr (.inr ((qM ms s1 t).2 ⟨by simpa using hm,by simpa using hsc,_,hb,h⟩))
  ·intro hX1
   obtain ⟨m,hm,hkey⟩:=hkeys i hX1
   rcases o1 m hm i hkey with h | ⟨R,h1,h2⟩
   ·rw [h] at hi; cases hi
   ·rw [h2] at hsf
    have hsf:aF (ch sc wr ms s1).pr R=true:=hsf
    rw [hprm R hsf] at h1
    cases h1
 ·show ∃ cs',lkB bx2 t = _∧_
  rw [k4 t (hscm t ht),DC ht (show lkB s1.bx t = _ from hb)]
  exact ⟨_,rfl,A9 cs⟩
end
section
theorem Dq {P:Program} {s:SS} {p:PS} (hs:Sim s p) : ∀ {l:List ResultVar} {vs:List SV},LV P s l=some vs→∃ qs,l.mapM (CS P p)=some qs∧ce s.bx vs qs
 | [],vs,h=>by injection h with h; subst h; exact ⟨[],rfl,.nil⟩
 | .tmp t::l,vs,h=>by
  simp only [LV] at h
  split at h
  ·rename_i vs' h1
   injection h with h
   subst h
   obtain ⟨qs,h2,h3⟩:=Dq hs h1
   exact ⟨p.t t::qs,by simp [List.mapM_cons,CS,h2],.cons (hs.sl t) h3⟩
  ·cases h
 | .cell t ty::l,vs,h=>by
  simp only [LV] at h
  split at h
  ·rename_i v vs' h0 h1
   injection h with h
   subst h
   obtain ⟨qs,h2,h3⟩:=Dq hs h1
   obtain ⟨r,h4,h5⟩:=Mq hs (hs.sl t) h0
   exact ⟨r::qs,by simp [List.mapM_cons,CS,h4,h2],.cons h5 h3⟩
  ·cases h
theorem M8 {s:SS} {p:PS} (hs:Sim s p) : ∀ {rs:List PT} {vs:List SV} {qs:List PV} {x:bl rs},ce s.bx vs qs→IV s rs vs=some x→bO p.b qs=yy rs x
 | [],[],qs,x,hv,h=>by
  rcases hv.cases with ⟨_,rfl⟩ | ⟨_,_,_,_,h1,_⟩
  ·rfl
  ·cases h1
 | [],_ :: _,_,x,_,h=>dQ (x:=x) h
 | [t],[],_,x,_,h=>dQ (x:=x) h
 | [t],[v],qs,x,hv,h=>by
  rcases hv.cases with ⟨h1,_⟩ | ⟨v',q,vs',qs',h1,rfl,h2,h3⟩
  ·cases h1
  ·injection h1 with e1 e2
   subst e1 e2
   rcases h3.cases with ⟨_,rfl⟩ | ⟨_,_,_,_,h4,_⟩
   ·have:=(DB hs h2 (show Ng s t v=some x from h)).1
    simp only [bO,yy,this]
   ·cases h4
 | [t],_ :: _ :: _,_,x,_,h=>dQ (x:=x) h
 | t::t' :: rs,[],_,x,_,h=>dQ (x:=x) h
 | t::t' :: rs,v::vs,qs,x,hv,h=>by
  rcases hv.cases with ⟨h1,_⟩ | ⟨v',q,vs',qs',h1,rfl,h2,h3⟩
  ·cases h1
  ·injection h1 with e1 e2
   subst e1 e2
   have h:Option.bind (Ng s t v) (fun x=>Option.bind (IV s (t' :: rs) vs) fun xs=>some (x,xs))=some x:=h
   obtain ⟨y,h4,h5⟩:=bindS h
   obtain ⟨ys,h6,h7⟩:=bindS h5
   injection h7 with h7
   subst h7
   simp only [bO,yy,(DB hs h2 h4).1,M8 hs h3 h6]
theorem IU {s:SS} : ∀ {rs:List PT} {vs:List SV} {x:bl rs},IV s rs vs=some x→vs.length=rs.length
 | [],[],x,_=>rfl
 | [],_ :: _,x,h=>dQ (x:=x) h
 | [t],[],x,h=>dQ (x:=x) h
 | [t],[v],x,_=>rfl
 | [t],_ :: _ :: _,x,h=>dQ (x:=x) h
 | t::t' :: rs,[],x,h=>dQ (x:=x) h
 | t::t' :: rs,v::vs,x,h=>by
  have h:Option.bind (Ng s t v) (fun x=>Option.bind (IV s (t' :: rs) vs) fun xs=>some (x,xs))=some x:=h
  obtain ⟨y,h4,h5⟩:=bindS h
  obtain ⟨ys,h6,h7⟩:=bindS h5
  simp only [List.length_cons,IU h6]
theorem Mx {C:Cx} {fn:Func} (hv:fn.results.toList=C.vars) {s:SS} {p:PS} (hs:Sim (clr s) p) {r:bl C.rs} (hM:pd C.rs=false) (h:Cc C s=some r) : ∃ q,rp C.P fn p=some q∧asData p.b q=toR C.rs r:=by
 unfold Cc at h
 rw [hM] at h
 simp only at h
 split at h
 ·rename_i vs hvs
  obtain ⟨qs,h1,h2⟩:=Dq hs hvs
  have h3:=M8 hs h2 h
  have h4:=IU h
  have h5:=h2.len
  unfold rp
  rw [hv,h1]
  match qs,h3,h5 with
  | [],h3,h5 =>
   refine ⟨.tup [],rfl,?_⟩
   rcases rT C.rs r with ⟨q,k1,_⟩ | k1
   ·rw [k1] at h3; simp [bO] at h3
   ·rw [k1,← h3]; rfl
  | [q],h3,h5 =>
   refine ⟨q,rfl,?_⟩
   have:C.rs.length=1:=by rw [← h4,h5]; rfl
   rcases rT C.rs r with ⟨q',k1,k2⟩ | k1
   ·rw [k1] at h3
    rw [k2]
    simpa [bO] using h3
   ·exfalso
    match C.rs,r,this,k1 with
    | [t],r,_,k1=>cases t <;> simp [toR,pH] at k1
  | q::q' :: qs,h3,h5 =>
   refine ⟨.tup (q::q' :: qs),rfl,?_⟩
   rcases rT C.rs r with ⟨q2,k1,_⟩ | k1
   ·rw [k1] at h3; simp [bO] at h3
   ·rw [k1,← h3]; rfl
 ·cases h
theorem Pr:∀ (rs:List PT) (o:yI (cw rs)) (r:bl (ff rs)),jX rs (W4 rs o r)=o∧ja rs (W4 rs o r)=r
 | [],_,_=>⟨rfl,rfl⟩
 | [.io _],_,_=>⟨rfl,rfl⟩
 | .io _ :: _ :: _,_,_=>⟨rfl,rfl⟩
 | .own .. :: _,_,_=>⟨rfl,rfl⟩
 | .mv .. :: _,_,_=>⟨rfl,rfl⟩
 | .bx .. :: _,_,_=>⟨rfl,rfl⟩
 | .agr .. :: _,_,_=>⟨rfl,rfl⟩
 | .lf _ :: _,_,_=>⟨rfl,rfl⟩
 | .ag _ :: _,_,_=>⟨rfl,rfl⟩
 | .pl _ :: _,_,_=>⟨rfl,rfl⟩
 | .ps _ :: _,_,_=>⟨rfl,rfl⟩
 | .fn .. :: _,_,_=>⟨rfl,rfl⟩
def boI (i:Nat) : (b:IB)→List Nat→b.den→BU
 | .no,_,_=>[]
 | .own e k t,_,xs=>[(uh i,rwU e k t xs)]
 | .bx ty n rows,js,x=>(uh i,.st ty (ej (mu rows js) 0 (stD n x)))::ci (mu rows js) 0 (stD n x)
def sE:Nat→(ls:List IB)→List (List Nat)→yI ls→BU
 | i,b::ls,js::kss,o=>boI i b js o.1++sE (i + 1) ls kss o.2
 | _,_,_,_=>[]
def Tk (C:Cx) (fn:Func) (p:PS) (r:bl C.rs) : Prop :=
 (pd C.rs=false→∃ q,rp C.P fn p=some q∧asData p.b q=toR C.rs r) ∧
 (pd C.rs=true→∃ kss jss,kp (cw C.rs) kss∧i8 (ff C.rs) jss∧(dA 0 (cw C.rs)++(bu kss++bu jss)).Nodup∧(∃ q,rp C.P fn p=some q∧qJ q=yJ (cR (ff C.rs) jss (ja C.rs r)).1) ∧
  ∀ t Bx,(t,Bx)∈sE 0 (cw C.rs) kss (jX C.rs r)++(cR (ff C.rs) jss (ja C.rs r)).2→∃ B',p.b t=some B'∧sg B' = Bx)
theorem JS {rows:List (Nat×Nat×Nat×Nat×Ty)} {t:Nat} {Bx:Box} : ∀ {ds:List D} {j:Nat},(t,Bx)∈ci rows j ds→sg Bx=Bx
 | [],j,h=>by cases h
 | d::ds,j,h=>by
  simp only [ci] at h
  split at h
  ·split at h
   ·rcases List.mem_cons.1 h with e | h
    ·injection e with _ e; subst e; rfl
    ·exact JS h
   ·exact JS h
  ·exact JS h
theorem Zy {s:SS} {p:PS} (hs:Sim s p) {i:Nat} {b:IB} {o:b.den} {js:List Nat} (h:Zz s i b=some (o,js)) : js.length=b.nJ∧∀ t Bx,(t,Bx)∈boI i b js o→∃ B',p.b t=some B'∧sg B' = Bx:=by
 cases b with
 | no =>
  injection h with h
  injection h with _ h
  subst h
  exact ⟨rfl,fun _ _ h=>by cases h⟩
 | own e k t =>
  simp only [Zz] at h
  split at h
  ·rename_i xs is hd
   injection h with h
   injection h with e1 e2
   subst e1 e2
   refine ⟨rfl,fun t' Bx hm=>?_⟩
   have hbx:=hs.bx (uh i)
   unfold tv at hd
   simp only at hd
   split at hd
   ·rename_i e' k' t2 xs' pins hb
    split at hd
    ·rename_i hty _
     obtain ⟨m2,hd⟩:=aq hd
     obtain ⟨m3,hd⟩:=aq hd
     injection hd with hd
     injection hd with e1 e2
     subst e1 hty
     have m2:=zd m2
     have m3:=zd m3
     subst m2 m3
     rw [hb] at hbx
     simp only [boI,List.mem_cons,List.not_mem_nil,or_false,Prod.mk.injEq] at hm
     obtain ⟨rfl,rfl⟩:=hm
     exact ⟨_,hbx.1,rfl⟩
    ·cases hd
   ·cases hd
  ·cases h
 | bx ty n rows =>
  simp only [Zz] at h
  split at h
  ·rename_i ty' cs hb
   obtain ⟨m1,h⟩:=aq h
   have m1:=zd m1
   subst m1
   have hbx:=hs.bx (uh i)
   rw [hb] at hbx
   obtain ⟨qs,k1,k2⟩:=hbx
   obtain ⟨k3,k4,k5⟩:=FB hs k2 h
   refine ⟨k3,fun t Bx hm=>?_⟩
   rcases List.mem_cons.1 hm with e | hm
   ·injection e with e1 e2
    subst e1 e2
    exact ⟨_,k1,by rw [sg,k4]⟩
   ·exact ⟨_,k5 t Bx hm,JS hm⟩
  ·cases h
theorem Nb {s:SS} {p:PS} (hs:Sim s p) : ∀ {ls:List IB} {i:Nat} {o:yI ls} {kss:List (List Nat)},S8 s i ls=some (o,kss)→kp ls kss∧∀ t Bx,(t,Bx)∈sE i ls kss o→∃ B',p.b t=some B'∧sg B' = Bx
 | [],i,o,kss,h=>by
  injection h with h
  injection h with _ h
  subst h
  exact ⟨trivial,fun _ _ h=>by cases h⟩
 | b::ls,i,o,kss,h=>by
  simp only [S8] at h
  split at h
  ·rename_i o1 js os kss' h1 h2
   injection h with h
   injection h with e1 e2
   subst e1 e2
   obtain ⟨k1,k2⟩:=Zy hs h1
   obtain ⟨k3,k4⟩:=Nb hs h2
   refine ⟨⟨k1,k3⟩,fun t Bx hm=>?_⟩
   rcases List.mem_append.1 hm with hm | hm
   ·exact k2 t Bx hm
   ·exact k4 t Bx hm
  ·cases h
theorem IW {s:SS} {p:PS} (hs:Sim s p) : ∀ {rs:List PT} {vs:List SV} {qs:List PV} {x:bl rs} {jss:List (List Nat)},ce s.bx vs qs→Ki s rs vs=some (x,jss) →
  i8 rs jss∧dP qs=(cR rs jss x).1∧∀ t Bx,(t,Bx)∈(cR rs jss x).2→∃ B',p.b t=some B'∧sg B' = Bx
 | [],[],qs,x,jss,hv,h=>by
  rcases hv.cases with ⟨_,rfl⟩ | ⟨_,_,_,_,h1,_⟩
  ·injection h with h
   injection h with _ h
   subst h
   exact ⟨trivial,rfl,fun _ _ h=>by cases h⟩
  ·cases h1
 | [],_ :: _,_,x,jss,_,h=>dQ (x:=(x,jss)) h
 | [pt],[],_,x,jss,_,h=>dQ (x:=(x,jss)) h
 | [pt],[v],qs,x,jss,hv,h=>by
  rcases hv.cases with ⟨h1,_⟩ | ⟨v',q,vs',qs',h1,rfl,h2,h3⟩
  ·cases h1
  ·injection h1 with e1 e2
   subst e1 e2
   rcases h3.cases with ⟨_,rfl⟩ | ⟨_,_,_,_,h4,_⟩
   ·have h:(match P1 s pt v with | some (x,is)=>some (x,[is]) | none=>none)=some (x,jss):=h
    split at h
    ·rename_i y is hd
     injection h with h
     injection h with e1 e2
     subst e1 e2
     obtain ⟨k1,k2,k3⟩:=Kj hs h2 hd
     exact ⟨⟨k1,trivial⟩,by simp only [dP,cR,k2],k3⟩
    ·cases h
   ·cases h4
 | [pt],_ :: _ :: _,_,x,jss,_,h=>dQ (x:=(x,jss)) h
 | pt::q::l,[],_,x,jss,_,h=>dQ (x:=(x,jss)) h
 | pt::q::l,v::vs,qs,x,jss,hv,h=>by
  rcases hv.cases with ⟨h1,_⟩ | ⟨v',qv,vs',qs',h1,rfl,h2,h3⟩
  ·cases h1
  ·injection h1 with e1 e2
   subst e1 e2
   have h:(match P1 s pt v,Ki s (q::l) vs with | some (x,is),some (xs,iss)=>some ((x,xs),is::iss) | _,_=>none)=some (x,jss):=h
   split at h
   ·rename_i y is ys iss hd hr
    injection h with h
    injection h with e1 e2
    subst e1 e2
    obtain ⟨k1,k2,k3⟩:=Kj hs h2 hd
    obtain ⟨k4,k5,k6⟩:=IW hs h3 hr
    refine ⟨⟨k1,k4⟩,by simp only [dP,cR,k2,k5],fun t Bx hm=>?_⟩
    rcases List.mem_append.1 hm with hm | hm
    ·exact k3 t Bx hm
    ·exact k6 t Bx hm
   ·cases h
theorem Pe {P:Program} {fn:Func} {p:PS} {qs:List PV} (h:fn.results.toList.mapM (CS P p)=some qs) : rp P fn p=some (yJ qs):=by
 unfold rp
 rw [h]
 match qs with
 | []=>rfl
 | [q]=>rfl
 | q::q' :: qs=>rfl
theorem Y8 (qs:List PV) : qJ (yJ qs)=yJ (dP qs):=by
 match qs with
 | []=>rfl
 | [q]=>rfl
 | q::q' :: qs=>rfl
theorem SG {C:Cx} {fn:Func} (hv:fn.results.toList=C.vars) {s:SS} {p:PS} (hpr:mp (clr s)) (hs:Sim (clr s) p) {r:bl C.rs} (h:Cc C s=some r) : ∃ p',Le p p'∧Tk C fn p' r:=by
 cases hM:pd C.rs with
 | false=>exact ⟨p,.refl p,fun _=>Mx hv hs hM h,fun e=>by rw [hM] at e; cases e⟩
 | true =>
  unfold Cc at h
  rw [hM] at h
  simp only [ZV] at h
  split at h
  ·split at h
   ·rename_i s1 hf
    obtain ⟨p1,k1,k2,_,_⟩:=xG (sc:=C.sc) hpr hs hf
    split at h
    ·rename_i ws hws
     obtain ⟨qs,k3,k4⟩:=Dq k2 hws
     split at h
     ·rename_i o kss r' jss ho hr
      obtain ⟨hn,h⟩:=aq h
      injection h with h
      obtain ⟨e1,e2⟩:=Pr C.rs o r'
      rw [h] at e1 e2
      obtain ⟨m1,m2⟩:=Nb k2 ho
      obtain ⟨m3,m4,m5⟩:=IW k2 k4 hr
      refine ⟨p1,k1,fun e=>(by rw [hM] at e; cases e),fun _=>⟨kss,jss,m1,m3,jn hn,⟨_,Pe (by rw [hv]; exact k3),by rw [Y8,m4,e2]⟩,fun t Bx hm=>?_⟩⟩
      rw [e1,e2] at hm
      rcases List.mem_append.1 hm with hm | hm
      ·exact m2 t Bx hm
      ·exact m5 t Bx hm
     ·cases h
    ·cases h
   ·cases h
  ·cases h
def w6 (C:Cx) (fn:Func) (W:List Nat) (s:SS) {ρ : Type} (k:Exit→SS→Option ρ) (kr:bl C.rs→Option ρ) (res : ρ) : Exit→PS→Prop
 | .ret,p'=>∃ r,Tk C fn p' r∧kr r=some res
 | e,p'=>∃ s',ib s' p'∧dN C.sc W s s'∧k e s' = some res
theorem Za {a b:List Nat} {i:Nat} (h:aF a i=true) : aF (a++b) i=true:=by rw [dh,h]; rfl
theorem WO {a b:List Nat} {i:Nat} (h:aF b i=true) : aF (a++b) i=true:=by rw [dh,h]; simp
variable {C:Cx} {fn:Func}
theorem qN {W:List Nat} {s:SS} {ρ : Type} {k:Exit→SS→Option ρ} {kr:bl C.rs→Option ρ} {res : ρ} {e:Exit} {p:PS} (he:e≠.ret) (h:w6 C fn W s k kr res e p) : ∃ s',ib s' p∧dN C.sc W s s'∧k e s' = some res:=by
 cases e <;> first | exact h | exact absurd rfl he
theorem L8 {W:List Nat} {s s':SS} {ρ : Type} {k:Exit→SS→Option ρ} {kr:bl C.rs→Option ρ} {res : ρ} {e:Exit} {p:PS} (he:e≠.ret) (h1:ib s' p) (h2:dN C.sc W s s') (h3:k e s' = some res) : w6 C fn W s k kr res e p:=by
 cases e <;> first | exact ⟨s',h1,h2,h3⟩ | exact absurd rfl he
def VM (C:Cx) (fn:Func) (c:Code) (W:List Nat) (body:(ρ : Type)→SS→(Exit→SS→Option ρ)→(bl C.rs→Option ρ)→Option ρ) : Prop :=
 ∀ (ρ : Type) (s:SS) (p:PS) (k:Exit→SS→Option ρ) (kr:bl C.rs→Option ρ) (res : ρ),mp s→ib s p→body ρ s k kr=some res→PWP C.P C.n c (w6 C fn W s k kr res) p
theorem Pi {wr:List Nat} {ms:List Mod} {s s1:SS} (hpr:mp s) (hk:dN C.sc wr s s1) (hchk:tc C.sc wr ms s.pr s1=true) : ∀ t,aF s.pr t=true→aF (ch C.sc wr ms s1).pr t=true:=by
 intro t ht
 unfold tc at hchk
 simp only [Bool.and_eq_true] at hchk
 obtain ⟨c1,c2,c3,c4⟩:=hchk
 rw [qM]
 refine ⟨?_,?_,hk.prOk hpr t (by rw [hk.pr]; exact ht)⟩
 ·cases hm:aF (bB ms) t with
  | false=>rfl
  | true =>
   have:=(uI c1).2 t hm
   rw [hk.pr,ht] at this
   cases this
 ·cases hm:aF C.sc t with
  | false=>rfl
  | true =>
   have:=tu c2 t hm
   rw [ht] at this
   cases this
mutual
theorem D7 {pr pr':List Nat} (h:∀ t,aF pr t=true→aF pr' t=true) : ∀ v:SV,lr pr v=true→lr pr' v=true
 | .junk,_=>rfl
 | .d _,_=>rfl
 | .fe _,_=>rfl
 | .ptr _ _,_=>rfl
 | .row t,hs=>h t hs
 | .re _ _ _,hs=>by cases hs
 | .vw _ _ _,hs=>by cases hs
 | .ag cs,hs=>by simp only [lr] at hs ⊢; exact nY h cs hs
 | .tup cs,hs=>by simp only [lr] at hs ⊢; exact nY h cs hs
 | .fn f ps qs,hs=>by simp only [lr,Bool.and_eq_true] at hs ⊢; exact ⟨nY h ps hs.1,nY h qs hs.2⟩
theorem nY {pr pr':List Nat} (h:∀ t,aF pr t=true→aF pr' t=true) : ∀ cs:List SV,ei pr cs=true→ei pr' cs=true
 | [],_=>rfl
 | c::cs,hs=>by
  simp only [ei,Bool.and_eq_true] at hs ⊢
  exact ⟨D7 h c hs.1,nY h cs hs.2⟩
end
theorem xD {wr:List Nat} {ms:List Mod} {s s1 s2:SS} {oc:List Nat} (hk:dN C.sc wr s s1) (hsub:∀ t,aF s.pr t=true→aF (ch C.sc wr ms s1).pr t=true) (hk2:dN C.sc wr (tU C.sc wr ms s1) s2) : dN C.sc wr s ⟨s2.sl,s2.bx,s.pr,s.ro,oc⟩:=by
 refine ⟨rfl,rfl,fun t ht=>(hk.bx t ht).trans (hk2.bx t (hsub t ht)),fun i hi hsf=>?_,fun t ht ty cs hb=>?_⟩
 ·have e:=hk.sl i hi hsf
  have:=hk2.sl i hi (D7 hsub _ (by show lr s.pr (lkV s1.sl i)=true; rw [e]; exact hsf))
  exact this.trans e
 ·obtain ⟨cs1,h1,h2⟩:=hk.st t ht ty cs hb
  obtain ⟨cs2,h3,h4⟩:=hk2.st t ht ty cs1 h1
  exact ⟨cs2,h3,h4.trans h2⟩
theorem yE {s:SS} (h:mp s) : mp (clr s):=h
theorem Mz {W:List Nat} {s s':SS} (h:dN C.sc W (clr s) s') : dN C.sc W s s':=⟨h.pr,h.ro,h.bx,h.sl,h.st⟩
theorem yo {c:Code} {wr:List Nat} {h:um} {body:(ρ : Type)→SS→(Exit→SS→Option ρ)→(bl C.rs→Option ρ)→Option ρ} (hb:VM C fn c wr body) : VM C fn c wr (HQ C wr h body):=by
 intro ρ s p k kr res hpr hs hx
 unfold HQ at hx
 split at hx
 ·rename_i ms h'
  split at hx
  ·cases hx
  ·rename_i s1 hnil
   obtain ⟨hchk,hx⟩:=aq hx
   obtain ⟨st,h1,h2⟩:=bindS hx
   split at h2
   ·rename_i s2 hput
    refine uB (A8 hs) ?_
    obtain ⟨p2,k1,k2,k3,k4⟩:=qQ (sc:=C.sc) (s:=clr s) rfl (yE hpr) (sa hs) hnil
    refine uB k1 ?_
    have hk1:dN C.sc wr s s1:=Mz k3
    have hw:ib (tU C.sc wr ms s1) p2:=⟨k2.w.sl,k2.w.bx⟩
    refine fM (hb _ (tU C.sc wr ms s1) p2 _ _ st (Bc ms s1) hw h1) fun e p' hq=>?_
    by_cases he:e = .ret
    ·subst he
     obtain ⟨r,_,h⟩:=hq
     cases h
    ·obtain ⟨s',m1,m2,m3⟩:=qN he hq
     cases e with
     | normal =>
      have m3:qO ms s' = some st:=m3
      unfold qO at m3
      split at m3
      ·rename_i s'' hf
       obtain ⟨p'',n1,n2,n3⟩:=sq (sc:=C.sc) (m2.prOk (Bc ms s1)) m1 hf
       have hchk':tc C.sc wr ms s1.pr s1=true:=by rw [hk1.pr]; exact hchk
       obtain ⟨o1,o2,o3⟩:=JX k2.w hchk' (m2.trans (n3 wr)) n2 m3 hput
       exact ⟨p'',n1,⟨s2.sl,s2.bx,s.pr,s.ro,s.oc⟩,⟨o1.sl,o1.bx⟩,xD hk1 (Pi hpr hk1 hchk) o2,h2⟩
      ·cases m3
     | ret=>exact absurd rfl he
     | _=>cases m3
   ·cases h2
 ·exact hb ρ s p k kr res hpr hs hx
end
section
variable {C:Cx} {fn:Func}
theorem rZ:∀ {l:List Oper},V9 l=true→∀ o∈l,∀ t x y,o.op = .store t x y→o.dst=none
 | [],_,o,ho,_,_,_,_=>by cases ho
 | x::l,h,o,ho,t,a,b,hop=>by
  simp only [V9] at h
  rcases List.mem_cons.1 ho with rfl | ho
  ·cases hd:o.dst with
   | none=>rfl
   | some d=>rw [hop,hd] at h; cases h
  ·split at h
   ·cases h
   ·exact rZ h o ho t a b hop
theorem Sh (hT:qY C.P C.T) (hm:C.P.follows .mixedOrders=true) (id:Nat) (ops:Array Oper) (draw:Bool) : VM C fn (.region id ops draw) (cm ops.toList) (fun _ s k _=>Wm C id ops draw s fun s=>k .normal s):=by
 intro ρ s p k kr res hpr hs h
 have ha:ops.toList.toArray=ops:=by simp
 have hW:∀ o∈ops.toList,∀ d,o.dst=some d→aF (cm ops.toList) d=true:=fun o ho d hd=>tt ho hd
 have hO:∀ (j:Nat) (o:Oper),ops[j]? = some o→∀ d,o.dst=some d→aF (cm ops.toList) d=true:=fun j o ho d hd=>tt (by
  rw [Array.mem_toList_iff]
  exact Array.mem_of_getElem? ho) hd
 replace h:Wm C id ops draw s (fun s=>k .normal s)=some res:=h
 unfold Wm at h
 cases hf:lD (lkF C.fz id) s with
 | none=>rw [hf] at h; cases h
 | some s0 =>
  rw [hf] at h
  obtain ⟨p1,k1,k2,k3⟩:=sq (sc:=C.sc) hpr hs hf
  refine uB k1 (uB (A8 k2) ?_)
  have hs2:=sa k2
  have hpr2:mp ⟨s0.sl,s0.bx,s0.pr,s0.ro,[]⟩:=(k3 []).prOk hpr
  have fin:∀ p',GL C.sc (cm ops.toList) ops.toList ⟨s0.sl,s0.bx,s0.pr,s0.ro,[]⟩ (xN s0 p1) (fun s=>k .normal s) res p'→w6 C fn (cm ops.toList) s k kr res .normal p':=by
   rintro p' ⟨s',m1,m2,m3,m4,_⟩
   exact ⟨s',m1.w,(k3 _).trans ⟨m2.pr,m2.ro,m2.bx,m2.sl,m2.st⟩,m4⟩
  simp only at h
  cases draw <;> simp only at h
  ·obtain ⟨h1,h2⟩:=aq h
   rw [Bool.and_eq_true] at h1
   have hrun:=Dm (q:=true) (sc:=C.sc) hT (ops:=ops) 1000 0 [] ops.toList hW hO (rZ h1.1) hpr2 hs2 h2
   have:=L2 (P:=C.P) (n:=C.n) (id:=id) (Qs:=w6 C fn (cm ops.toList) s k kr res) (s:=xN s0 p1) h1.2 (by rw [ha]; exact gb hrun fin)
   rw [ha] at this
   exact this
  ·obtain ⟨h1,h2⟩:=aq h
   obtain ⟨h3,h4⟩:=aq h2
   split at h4
   ·have hrun:=Dm (q:=false) (sc:=C.sc) hT (ops:=ops) 1000 0 [] ops.toList hW hO (rZ h1) hpr2 hs2 h4
    have:=Wq (P:=C.P) (n:=C.n) (id:=id) (l:=ops.toList) (Qs:=w6 C fn (cm ops.toList) s k kr res) (s:=xN s0 p1) _ hm (by rw [ha]; exact h3) (by
     rw [ha]
     exact AL (P:=C.P) (ops:=ops) ops.toList 0 (xN s0 p1) (fun j hj=>by simp) (gb hrun fin))
    rw [ha] at this
    exact this
   ·obtain ⟨h5,h6⟩:=aq h4
    rw [Bool.and_eq_true] at h5
    have hle:=zd h5.2
    have hsub1:∀ o∈ops.toList.take (jl ops),o∈ops.toList:=fun o ho=>List.mem_of_mem_take ho
    have hsub2:∀ o∈ops.toList.drop (jl ops),o∈ops.toList:=fun o ho=>List.mem_of_mem_drop ho
    have hrun1:=Dm (q:=false) (sc:=C.sc) hT (ops:=ops) 1000 0 [] (ops.toList.take (jl ops)) (fun o ho=>hW o (hsub1 o ho)) hO (fun o ho=>rZ h1 o (hsub1 o ho)) hpr2 hs2 h6
    have hrun:wn false C.P ops (yL (lb C.T ⟨s0.sl,s0.bx,s0.pr,s0.ro,[]⟩ ops.toList [] [])) 0 (ops.toList.take (jl ops)) (xN s0 p1) fun p'=>wn true C.P ops (yL []) 0 (ops.toList.drop (jl ops)) p' (w6 C fn (cm ops.toList) s k kr res .normal):=by
     refine gb hrun1 fun p' hp=>?_
     obtain ⟨s',m1,m2,m3,m4,_⟩:=hp
     have hrun2:=Dm (q:=true) (sc:=C.sc) hT (ops:=ops) 1000 0 [] (ops.toList.drop (jl ops)) (fun o ho=>hW o (hsub2 o ho)) hO (fun o ho=>rZ h1 o (hsub2 o ho)) m3 m1 m4
     refine gb hrun2 fun p2 hp2=>?_
     obtain ⟨s3,n1,n2,n3,n4,_⟩:=hp2
     exact ⟨s3,n1.w,(k3 _).trans ((show dN C.sc (cm ops.toList) s0 s' from ⟨m2.pr,m2.ro,m2.bx,m2.sl,m2.st⟩).trans n2),n4⟩
    have:=TQ (P:=C.P) (n:=C.n) (id:=id) (l:=ops.toList) (Qs:=w6 C fn (cm ops.toList) s k kr res) (s:=xN s0 p1) _ (jl ops) hle hm (by rw [ha]; exact h3) (by rw [ha]; exact h5.1) (by
     rw [ha]
     have e1:(ops.toList.take (jl ops)).length=jl ops:=by rw [List.length_take]; exact Nat.min_eq_left (by simpa using hle)
     have e2:(ops.toList.drop (jl ops)).length=ops.toList.length - jl ops:=by simp
     rw [← e2]
     have r1:=AL (P:=C.P) (ops:=ops) (ops.toList.take (jl ops)) 0 (xN s0 p1) (fun j hj=>by
      rw [e1] at hj
      rw [List.getElem?_take,if_pos hj]
      simp) hrun
     rw [e1] at r1
     refine H7 r1 fun p' hp=>Sb _ _ _ _ (fun j hj=>by rw [List.getElem?_drop]; simp) hp)
    rw [ha] at this
    exact this
theorem YR (hT:qY C.P C.T) (hm:C.P.follows .mixedOrders=true) (id:Nat) (ops:Array Oper) (draw:Bool) : VM C fn (.region id ops draw) (cm ops.toList) (fun _ s k _=>YS C id ops draw s fun s=>k .normal s):=by
 intro ρ s p k kr res hpr hs h
 replace h:YS C id ops draw s (fun s=>k .normal s)=some res:=h
 unfold YS at h
 split at h
 ·exact Sh hT hm id ops draw ρ s p k kr res hpr hs h
 ·rename_i t l _
  obtain ⟨h1,h2⟩:=aq h
  have h3:=Sh (fn:=fn) hT hm id ops draw ρ s p (fun e s=>match e with | .normal=>(match IE C.sc (t::l) s with | some s=>k .normal s | none=>none) | e=>k e s) kr res hpr hs h2
  refine fM h3 fun e p' hq=>?_
  by_cases he:e = .ret
  ·subst he; exact ⟨p',.refl _,hq⟩
  ·obtain ⟨s',m1,m2,m3⟩:=qN he hq
   cases e with
   | ret=>exact absurd rfl he
   | normal =>
    have m3:(match IE C.sc (t::l) s' with | some s=>k .normal s | none=>none)=some res:=m3
    split at m3
    ·rename_i s2 hfb
     obtain ⟨p2,k1,k2,k3⟩:=MP hs (m2.prOk hpr) h1 m2 m1 hfb
     exact ⟨p2,k1,s2,k2,k3,m3⟩
    ·cases m3
   | _=>exact ⟨p',.refl _,L8 he m1 m2 m3⟩
theorem D3 {s:SS} {p:PS} (hs:ib s p) {x:Operand} {b:Bool} (h:evX s x = .d (.bool b)) : ib (wO s x b) p:=by
 unfold wO
 split
 ·rename_i i
  refine ⟨fun j=>?_,hs.bx⟩
  show bj s.bx (lkV ((i,.d (.bool b))::s.sl) j) (p.t j)
  rw [cT]
  split
  ·rename_i e
   subst e
   have:=hs.sl j
   rw [show lkV s.sl j = .d (.bool b) from h] at this
   exact this
  ·exact hs.sl j
 ·exact hs
theorem EN {W:List Nat} {s:SS} {x:Operand} {b:Bool} (h:∀ i,x = .tmp i→aF W i=true) : dN C.sc W s (wO s x b):=by
 unfold wO
 split
 ·rename_i i
  refine ⟨rfl,rfl,fun _ _=>.refl _,fun j hj _=>?_,fun _ _ _ cs h=>⟨cs,h,rfl⟩⟩
  show lkV ((i,.d (.bool b))::s.sl) j = _
  rw [cT,if_neg (fun e=>by rw [e,h i rfl] at hj; cases hj)]
 ·exact .refl _ _
theorem EJ {s:SS} {x:Operand} {b:Bool} (h:mp s) : mp (wO s x b):=by unfold wO; split <;> exact h
theorem Xt {s:SS} {p:PS} (hs:ib s p) (x:Operand) : bj s.bx (evX s x) (ev p x):=by
 cases x with
 | tmp i=>exact hs.sl i
 | const v=>exact FG v
 | global g=>exact .junk _
 | func f=>exact .fn f [] [] [] [] rfl (fun j c q h=>by simp at h) rfl (fun j c q h=>by simp at h)
theorem xu {W W':List Nat} {s s0:SS} {ρ : Type} {k:Exit→SS→Option ρ} {kr:bl C.rs→Option ρ} {res : ρ} (hW:∀ i,aF W i=true→aF W' i=true) (hk:dN C.sc W' s0 s) {e:Exit} {p:PS} (h:w6 C fn W s k kr res e p) : w6 C fn W' s0 k kr res e p:=by
 by_cases he:e = .ret
 ·subst he; exact h
 ·obtain ⟨s',h1,h2,h3⟩:=qN he h
  exact L8 he h1 (hk.trans (h2.wide hW)) h3
theorem EG {σ τ : Type} {f : σ→Option (σ⊕τ)} {m:Nat} {st : σ} {out : τ} (h:ah f m st=some out) : ∃ m',m=m' + 1∧((∃ st',f st=some (.inl st')∧ah f m' st' = some out)∨f st=some (.inr out)):=by
 cases m with
 | zero=>cases h
 | succ m =>
  refine ⟨m,rfl,?_⟩
  unfold ah at h
  split at h
  ·cases h
  ·rename_i st' hf; exact .inl ⟨st',hf,h⟩
  ·rename_i r hf; injection h with h; subst h; exact .inr hf
theorem SA {c:Code} {ms:List Mod} {id:Nat} {τ : Type} {inr:ke ms→τ} {ret:bl C.rs→Option τ} {step:ke ms→Option (ke ms⊕τ)} {body:(ρ : Type)→SS→(Exit→SS→Option ρ)→(bl C.rs→Option ρ)→Option ρ} (hb:VM C fn c (wrC c) body)
  {s0:SS} (hstep:step=fun st=>match jW ms st (ch C.sc (wrC c) ms s0) with
   | none=>none
   | some sh=>body (ke ms⊕τ) sh (fun e s'=>match e with
    | .normal=>Option.bind (qO ms s') fun st'=>some (.inl st')
    | .exit id'=>(match Nat.beq id' id with | true=>Option.bind (qO ms s') fun st'=>some (.inr (inr st')) | false=>none)
    | _=>none) (fun r=>(ret r).map .inr))
  {st0:ke ms} {p:PS} (hs0:ib s0 p) (hchk:tc C.sc (wrC c) ms s0.pr s0=true) (hpack:tT s0 ms=some st0) {out : τ} (hl:ah step ab st0=some out)
  (hput:∀ st,inr st=out→∃ s2,jW ms st (ch C.sc (wrC c) ms s0)=some s2) {Q:Exit→PS→Prop} (hexit:∀ st s2 p',inr st=out→jW ms st (ch C.sc (wrC c) ms s0)=some s2→ib s2 p'→dN C.sc (wrC c) (tU C.sc (wrC c) ms s0) s2→Q (.exit id) p')
  (hret:∀ r p',ret r=some out→Tk C fn p' r→Q .ret p') : PWP C.P C.n (.loop c) Q p:=by
 have put_of:∀ {m st out},ah step m st=some out→∃ sh,jW ms st (ch C.sc (wrC c) ms s0)=some sh:=by
  intro m st out h
  obtain ⟨m',_,h⟩:=EG h
  have:∃ r,step st=some r:=by rcases h with ⟨st',h,_⟩ | h <;> exact ⟨_,h⟩
  obtain ⟨r,hr⟩:=this
  rw [hstep] at hr
  simp only at hr
  split at hr
  ·cases hr
  ·rename_i sh hsh; exact ⟨sh,hsh⟩
 refine TO (ks:=[]) (bs:=[]) (fun q m=>∃ st sh,jW ms st (ch C.sc (wrC c) ms s0)=some sh∧ib sh q∧dN C.sc (wrC c) (tU C.sc (wrC c) ms s0) sh∧ah step m st=some out) ab ?_ ?_
 ·obtain ⟨sh,hsh⟩:=put_of hl
  obtain ⟨o1,o2,o3⟩:=JX hs0 hchk (.refl _ _) (s':=tU C.sc (wrC c) ms s0) ⟨hs0.sl,hs0.bx⟩ (show tT (tU C.sc (wrC c) ms s0) ms=some st0 from (by
   have:∀ (l:List Mod) (s s':SS),s.sl=s'.sl→s.bx=s'.bx→tT s l=tT s' l:=by
    intro l s s' h1 h2
    have cells:∀ (rows:List (Nat×Nat×Nat×Nat×Ty)) (cs:List SV) (j:Nat),cellsOf s rows j cs=cellsOf s' rows j cs:=by
     intro rows cs
     induction cs with
     | nil=>intro j; rfl
     | cons c cs ih=>intro j; simp only [cellsOf,h2,ih]
    have one:∀ m:Mod,Be s m=Be s' m:=by
     intro m
     cases m <;> simp only [Be,h1,h2,cells]
    induction l with
    | nil=>rfl
    | cons m l ih =>
     cases l with
     | nil=>exact one m
     | cons m' l=>simp only [tT,one,ih]
   exact (this ms (tU C.sc (wrC c) ms s0) s0 rfl rfl).trans hpack)) hsh
  exact ⟨st0,sh,hsh,o1,o2,hl⟩
 ·rintro q m ⟨st,sh,hsh,hq,hk,hlo⟩
  obtain ⟨m',rfl,hcase⟩:=EG hlo
  have hrun:∃ fr,step st=some fr∧((∃ st',fr = .inl st'∧ah step m' st' = some out)∨fr = .inr out):=by
   rcases hcase with ⟨st',h1,h2⟩ | h1
   ·exact ⟨_,h1,.inl ⟨st',rfl,h2⟩⟩
   ·exact ⟨_,h1,.inr rfl⟩
  obtain ⟨fr,hfr,hcase⟩:=hrun
  have hbody:body (ke ms⊕τ) sh (fun e s'=>match e with
    | .normal=>Option.bind (qO ms s') fun st'=>some (.inl st')
    | .exit id'=>(match Nat.beq id' id with | true=>Option.bind (qO ms s') fun st'=>some (.inr (inr st')) | false=>none)
    | _=>none) (fun r=>(ret r).map .inr)=some fr:=by
   rw [hstep] at hfr
   simp only [hsh] at hfr
   exact hfr
  have hprh:mp sh:=hk.prOk (Bc ms s0)
  have meet:∀ {s':SS} {p':PS} {st':ke ms} {s2:SS},ib s' p'→dN C.sc (wrC c) sh s'→qO ms s' = some st'→jW ms st' (ch C.sc (wrC c) ms s0)=some s2→∃ p'',Le p' p''∧ib s2 p''∧dN C.sc (wrC c) (tU C.sc (wrC c) ms s0) s2:=by
   intro s' p' st' s2 m1 m2 m3 m4
   unfold qO at m3
   split at m3
   ·rename_i s'' hf
    obtain ⟨p'',n1,n2,n3⟩:=sq (sc:=C.sc) (m2.prOk hprh) m1 hf
    obtain ⟨o1,o2,o3⟩:=JX hs0 hchk ((hk.trans m2).trans (n3 (wrC c))) n2 m3 m4
    exact ⟨p'',n1,o1,o2⟩
   ·cases m3
  refine fM (hb _ sh q _ _ fr hprh hq hbody) fun e p' hpost=>?_
  by_cases he:e = .ret
  ·subst he
   obtain ⟨r,h1,h3⟩:=hpost
   rw [zm] at h3
   obtain ⟨v,h4,h5⟩:=h3
   rcases hcase with ⟨st',rfl,_⟩ | rfl
   ·cases h5
   ·injection h5 with h5
    subst h5
    exact ⟨p',.refl _,hret r p' h4 h1⟩
  ·obtain ⟨s',m1,m2,m3⟩:=qN he hpost
   cases e with
   | normal =>
    obtain ⟨st',m4,m5⟩:=bindS m3
    injection m5 with m5
    rcases hcase with ⟨st2,h1,h2⟩ | h1
    ·rw [← m5] at h1
     injection h1 with h1
     subst h1
     obtain ⟨sh',hsh'⟩:=put_of h2
     obtain ⟨p'',n1,n2,n3⟩:=meet m1 m2 m4 hsh'
     exact ⟨p'',n1,p'',fun _ _ _ _ _ h=>h,m',⟨st',sh',hsh',n2,n3,h2⟩,Nat.lt_succ_self _⟩
    ·rw [← m5] at h1; cases h1
   | exit id' =>
    replace m3:(match Nat.beq id' id with | true=>Option.bind (qO ms s') fun st'=>some (.inr (inr st')) | false=>none)=some fr:=m3
    split at m3
    ·rename_i hid
     rw [cU] at hid
     have hid:=zd hid
     subst hid
     obtain ⟨st',m4,m5⟩:=bindS m3
     injection m5 with m5
     rcases hcase with ⟨st2,h1,h2⟩ | h1
     ·rw [← m5] at h1; cases h1
     ·rw [← m5] at h1
      injection h1 with h1
      obtain ⟨s2,hs2⟩:=hput st' h1
      obtain ⟨p'',n1,n2,n3⟩:=meet m1 m2 m4 hs2
      exact ⟨p'',n1,hexit st' s2 p'' h1 hs2 n2 n3⟩
    ·cases m3
   | ret=>exact absurd rfl he
   | _=>cases m3
end
section
variable {C:Cx} {fn:Func}
theorem pb (hT:qY C.P C.T) (hm:C.P.follows .mixedOrders=true) (hv:fn.results.toList=C.vars) : ∀ (c:Code) (h:um),VM C fn c (wrC c) (xJ C c h)
 | .skip,h=>fun ρ s p k kr res hpr hs hx=>Wo ⟨s,hs,.refl _ _,hx⟩
 | .label l,h=>fun ρ s p k kr res hpr hs hx=>TP ⟨s,hs,.refl _ _,hx⟩
 | .exit id,h=>fun ρ s p k kr res hpr hs hx=>Wp ⟨s,hs,.refl _ _,hx⟩
 | .ret,h=>fun ρ s p k kr res hpr hs hx=>by
  obtain ⟨r,h1,h2⟩:=bindS (show Option.bind (Cc C s) kr=some res from hx)
  obtain ⟨p',h3,h4⟩:=SG hv (yE hpr) (sa hs) h1
  exact uB ((A8 hs).trans h3) (YV ⟨r,h4,h2⟩)
 | .region id ops draw,h=>yo (YR hT hm id ops draw)
 | .seq a b,h=>by
  refine yo (c:=.seq a b) (wr:=wrC a++wrC b) fun ρ s p k kr res hpr hs hx=>?_
  refine YU (fM (pb hT hm hv a h.l ρ s p _ _ res hpr hs hx) fun e p' hq=>⟨p',.refl _,?_⟩)
  by_cases he:e = .ret
  ·subst he; exact hq
  ·obtain ⟨s',m1,m2,m3⟩:=qN he hq
   have hk:dN C.sc (wrC a++wrC b) s s':=m2.wide fun i hi=>Za hi
   cases e with
   | normal =>
    refine fM (pb hT hm hv b h.r ρ s' p' k kr res (hk.prOk hpr) m1 m3) fun e p2 hq2=>⟨p2,.refl _,?_⟩
    exact xu (fun i hi=>WO hi) hk hq2
   | ret=>exact absurd rfl he
   | _=>exact ⟨s',m1,hk,m3⟩
 | .cond x a b,h=>by
  have hwA:∀ i,aF (wrC a) i=true→aF (wrC (.cond x a b)) i=true:=fun i hi=>by
   cases x <;> simp only [wrC,bf,dh,hi,Bool.true_or,Bool.or_true]
  have hwB:∀ i,aF (wrC b) i=true→aF (wrC (.cond x a b)) i=true:=fun i hi=>by
   cases x <;> simp only [wrC,bf,dh,hi,Bool.or_true]
  have hwx:∀ i,x = .tmp i→aF (wrC (.cond x a b)) i=true:=fun i hi=>by
   subst hi; simp only [wrC,bf,decide_true,Bool.true_or]
  refine yo (c:=.cond x a b) (wr:=wrC (.cond x a b)) fun ρ s p k kr res hpr hs hx=>?_
  have hx:(match evX s x with | .d (.bool t)=>if t=true then xJ C a h.l ρ (wO s x true) k kr else xJ C b h.r ρ (wO s x false) k kr | _=>none)=some res:=hx
  split at hx
  ·rename_i t ht
   have hq:=Xt hs x
   rw [ht] at hq
   have hb:=ld hq
   cases t
   ·rw [if_neg (by simp)] at hx
    refine L3 false (by rw [hb]; rfl) ?_
    rw [if_neg (by simp)]
    exact fM (pb hT hm hv b h.r ρ _ p k kr res (EJ hpr) (D3 hs ht) hx) fun e p' hq=>⟨p',.refl _,xu hwB (EN hwx) hq⟩
   ·rw [if_pos rfl] at hx
    refine L3 true (by rw [hb]; rfl) ?_
    rw [if_pos rfl]
    exact fM (pb hT hm hv a h.l ρ _ p k kr res (EJ hpr) (D3 hs ht) hx) fun e p' hq=>⟨p',.refl _,xu hwA (EN hwx) hq⟩
  ·cases hx
 | .block id c,h=>by
  refine yo (c:=.block id c) (wr:=wrC c) fun ρ s p k kr res hpr hs hx=>?_
  refine TR (fM (pb hT hm hv c h.l ρ s p _ _ res hpr hs hx) fun e p' hq=>⟨p',.refl _,?_⟩)
  by_cases he:e = .ret
  ·subst he; exact hq
  ·obtain ⟨s',m1,m2,m3⟩:=qN he hq
   cases e with
   | exit id' =>
    have m3:(match Nat.beq id' id with | true=>k .normal s' | false=>k (.exit id') s')=some res:=m3
    simp only [EP]
    rw [cU] at m3
    by_cases hid:id' = id
    ·rw [if_pos hid]
     simp only [hid,decide_true] at m3
     exact ⟨s',m1,m2,m3⟩
    ·rw [if_neg hid]
     simp only [hid,decide_false] at m3
     exact ⟨s',m1,m2,m3⟩
   | ret=>exact absurd rfl he
   | _=>exact ⟨s',m1,m2,m3⟩
 | .loop c,h=>fun ρ s p k kr res hpr hs hx=>by
  cases h with
  | lp ms id ret hb =>
   unfold xJ at hx
   cases he:PR (wrC c) ms (clr s) with
   | none=>rw [he] at hx; cases hx
   | some s0 =>
    rw [he] at hx
    obtain ⟨hchk,hx⟩:=aq hx
    refine uB (A8 hs) ?_
    unfold PR at he
    split at he
    ·rename_i s1 hnil
     obtain ⟨p2,k1,k2,k3,k4⟩:=qQ (sc:=C.sc) (s:=clr s) rfl (yE hpr) (sa hs) hnil
     refine uB k1 ?_
     have hk1:dN C.sc (wrC c) s s1:=Mz k3
     obtain ⟨p3,n1,n2,n3⟩:=sq (sc:=C.sc) (hk1.prOk hpr) k2.w he
     refine uB n1 ?_
     have hk0:dN C.sc (wrC c) s s0:=hk1.trans (n3 _)
     have hchk':tc C.sc (wrC c) ms s0.pr s0=true:=by rw [hk0.pr]; exact hchk
     cases hpk:tT s0 ms with
     | none=>rw [hpk] at hx; cases hx
     | some st0 =>
      rw [hpk] at hx
      cases ret with
      | false =>
       obtain ⟨out,h1,h2⟩:=bindS hx
       refine SA (C:=C) (fn:=fn) (c:=c) (ms:=ms) (id:=id) (τ:=ke ms) (inr:=fun st=>st) (ret:=fun _=>none) (body:=xJ C c hb) (pb hT hm hv c hb) rfl n2 hchk' hpk h1 ?_ ?_ ?_
       ·intro st hst
        subst hst
        split at h2
        ·rename_i s2 hs2; exact ⟨s2,hs2⟩
        ·cases h2
       ·intro st s2 p' hst hs2 m1 m2
        subst hst
        rw [hs2] at h2
        exact ⟨⟨s2.sl,s2.bx,s.pr,s.ro,s.oc⟩,⟨m1.sl,m1.bx⟩,xD hk0 (Pi hpr hk0 hchk) m2,h2⟩
       ·intro r p' hr; cases hr
      | true =>
       obtain ⟨out,h1,h2⟩:=bindS hx
       refine SA (C:=C) (fn:=fn) (c:=c) (ms:=ms) (id:=id) (τ:=ke ms⊕bl C.rs) (inr:=.inl) (ret:=fun r=>some (.inr r)) (body:=xJ C c hb) (pb hT hm hv c hb) rfl n2 hchk' hpk h1 ?_ ?_ ?_
       ·intro st hst
        subst hst
        have h2:(match jW ms st (ch C.sc (wrC c) ms s0) with | some s2=>k (.exit id) ⟨s2.sl,s2.bx,s.pr,s.ro,s.oc⟩ | none=>none)=some res:=h2
        split at h2
        ·rename_i s2 hs2; exact ⟨s2,hs2⟩
        ·cases h2
       ·intro st s2 p' hst hs2 m1 m2
        subst hst
        have h2:(match jW ms st (ch C.sc (wrC c) ms s0) with | some s2=>k (.exit id) ⟨s2.sl,s2.bx,s.pr,s.ro,s.oc⟩ | none=>none)=some res:=h2
        rw [hs2] at h2
        exact ⟨⟨s2.sl,s2.bx,s.pr,s.ro,s.oc⟩,⟨m1.sl,m1.bx⟩,xD hk0 (Pi hpr hk0 hchk) m2,h2⟩
       ·intro r p' hr h3
        injection hr with hr
        subst hr
        exact ⟨r,h3,h2⟩
    ·cases he
  | _=>cases hx
 | .rangeFunc ..,h=>fun ρ s p k kr res hpr hs hx=>by cases hx
 | .scope ..,h=>fun ρ s p k kr res hpr hs hx=>by cases hx
 | .goto ..,h=>fun ρ s p k kr res hpr hs hx=>by cases hx
 | .refuse ..,h=>fun ρ s p k kr res hpr hs hx=>by cases hx
theorem KD:∀ (vs:List SV) (i j:Nat),lkV (Bv i vs) (i + j)=(vs[j]?).getD .junk
 | [],i,j=>by simp [Bv,lkV]
 | v::vs,i,0=>by simp [Bv,cT]
 | v::vs,i,j + 1=>by
  simp only [Bv,cT]
  rw [if_neg (by omega),show i + (j + 1)=i + 1 + j by omega,KD vs (i + 1) j]
  simp
theorem HU:∀ (ps:List PT) (x:cE ps),(rU ps x).length=ps.length
 | [],_=>rfl
 | p::ps,x=>by simp [rU,HU ps]
theorem cF {P:Program} {T:List (Nat×Ent)} {n:Nat} {ps rs:List PT} {vars:List ResultVar} {fz:List (Nat×List Nat)} {sc:List Nat} {fb:List (Nat×List Nat)} {h:um} {f:FuncId} {fn:Func} {c:Code} (hT:qY P T) (hm:P.follows .mixedOrders=true) (hf:P.funcs[f]? = some fn) (hb:fn.body=some c) (hcb:d9 P f=true) (hn:fn.ntmps=n) (hv:fn.results.toList=vars) (hl:((decide (ps.length≤n)&&uE ps) && !(pd ps||pd rs))=true)
  {F:cE ps→Option (bl rs)} (hF:∀ x,jm ⟨P,T,n,rs,vars,fz,sc,fb⟩ c h ps x=F x) : bR P f ps rs F:=by
 intro x r hx
 rw [Bool.and_eq_true] at hl
 obtain ⟨hl,hl3⟩:=hl
 refine ⟨fun hnM=>?_,fun h=>by rw [h] at hl3; cases hl3⟩
 have hrs:pd rs=false:=by rw [Bool.or_eq_false_iff] at hnM; exact hnM.2
 rw [← hF] at hx
 rw [Bool.and_eq_true] at hl
 have hlen:=zd hl.1
 subst hn
 refine Wv hf hb hcb (by rw [HU]; exact hlen) ?_
 have hargs:=IM (B:=[]) ps x hl.2
 have hs:ib ⟨Bv 0 (Cl ps x),[],[],false,[]⟩ ⟨mD (rU ps x),eb⟩:=by
  refine ⟨fun i=>?_,fun t b hb=>by cases hb⟩
  show bj [] (lkV (Bv 0 (Cl ps x)) i) (mD (rU ps x) i)
  have:=KD (Cl ps x) 0 i
  rw [Nat.zero_add] at this
  rw [this]
  unfold mD
  cases h1:(Cl ps x)[i]? with
  | none=>exact .junk _
  | some v =>
   have hlt:i < (rU ps x).length:=by rw [← hargs.len]; exact (zg.1 h1).1
   rw [zq hlt]
   exact hargs.rep i v _ h1 (zq hlt)
 have hpr:mp ⟨Bv 0 (Cl ps x),[],[],false,[]⟩:=fun t ht=>by cases ht
 refine fM (pb (C:=⟨P,T,fn.ntmps,rs,vars,fz,sc,fb⟩) (fn:=fn) hT hm hv c h _ _ _ _ _ r hpr hs hx) fun e p' hq=>?_
 by_cases he:e = .ret
 ·subst he
  obtain ⟨r',h1,h3⟩:=hq
  injection h3 with h3
  subst h3
  obtain ⟨q,h1,h2⟩:=h1.1 hrs
  exact ⟨p',.refl _,trivial,q,h1,h2⟩
 ·obtain ⟨s',m1,m2,m3⟩:=qN he hq
  cases e with
  | normal =>
   obtain ⟨q,h1,h2⟩:=Mx (C:=⟨P,T,fn.ntmps,rs,vars,fz,sc,fb⟩) hv (sa m1) hrs m3
   exact ⟨xN s' p',A8 m1,trivial,q,h1,h2⟩
  | ret=>exact absurd rfl he
  | _=>cases m3
end
def WR:List Nat→List Nat→Nat→Nat
 | a::xs,b::bs,t=>if t=a then b else WR xs bs t
 | _,_,t=>t
theorem ED:∀ {xs bs:List Nat},xs.Nodup→xs.length=bs.length→xs.map (WR xs bs)=bs
 | [],[],_,_=>rfl
 | [],_ :: _,_,h=>by cases h
 | _ :: _,[],_,h=>by cases h
 | a::xs,b::bs,hn,hl=>by
  rw [List.nodup_cons] at hn
  have ih:=ED (xs:=xs) (bs:=bs) hn.2 (by simpa using hl)
  simp only [List.map_cons,WR,if_true]
  congr 1
  conv=>rhs; rw [← ih]
  apply List.map_congr_left
  intro t ht
  rw [if_neg (fun (e:t=a)=>hn.1 (by rw [← e]; exact ht))]
theorem A0 {f:Nat→Nat} : ∀ {l:List Nat},(l.map f).Nodup→∀ x∈l,∀ y∈l,f x=f y→x=y
 | [],_,x,hx,_,_=>by cases hx
 | a::l,h,x,hx,y,hy=>by
  rw [List.map_cons,List.nodup_cons] at h
  intro e
  have hm:∀ z∈l,f z≠f a:=fun z hz e=>h.1 (by rw [← e]; exact List.mem_map_of_mem hz)
  rcases List.mem_cons.1 hx with h1 | h1
  ·rcases List.mem_cons.1 hy with h2 | h2
   ·rw [h1,h2]
   ·exact absurd (by rw [← e,h1]) (hm y h2)
  ·rcases List.mem_cons.1 hy with h2 | h2
   ·exact absurd (by rw [e,h2]) (hm x h1)
   ·exact A0 h.2 x h1 y h2 e
theorem vQ {τ : Nat→Nat} : ∀ {xs bs:List (List Nat)},xs.map List.length=bs.map List.length→(bu xs).map τ = bu bs→xs.map (·.map τ)=bs
 | [],[],_,_=>rfl
 | [],_ :: _,h,_=>by cases h
 | _ :: _,[],h,_=>by cases h
 | a::xs,b::bs,hl,h=>by
  simp only [List.map_cons,List.cons.injEq] at hl
  simp only [bu,List.map_append] at h
  obtain ⟨h1,h2⟩:=List.append_inj h (by simpa using hl.1)
  rw [List.map_cons,h1,vQ hl.2 h2]
theorem xn:∀ {ps:List PT} {xs bs:List (List Nat)},i8 ps xs→i8 ps bs→xs.map List.length=bs.map List.length
 | [],[],[],_,_=>rfl
 | [],_ :: _,_,h,_=>h.elim
 | [],[],_ :: _,_,h=>h.elim
 | _ :: _,[],_,h,_=>h.elim
 | _ :: _,_ :: _,[],_,h=>h.elim
 | p::ps,a::xs,b::bs,h1,h2=>by simp only [List.map_cons,h1.1,h2.1,xn h1.2 h2.2]
theorem yA:∀ {ls:List IB} {xs bs:List (List Nat)},kp ls xs→kp ls bs→xs.map List.length=bs.map List.length
 | [],[],[],_,_=>rfl
 | [],_ :: _,_,h,_=>h.elim
 | [],[],_ :: _,_,h=>h.elim
 | _ :: _,[],_,h,_=>h.elim
 | _ :: _,_ :: _,[],_,h=>h.elim
 | p::ps,a::xs,b::bs,h1,h2=>by simp only [List.map_cons,h1.1,h2.1,yA h1.2 h2.2]
theorem sj:∀ {xs bs:List (List Nat)},xs.map List.length=bs.map List.length→(bu xs).length=(bu bs).length
 | [],[],_=>rfl
 | [],_ :: _,h=>by cases h
 | _ :: _,[],h=>by cases h
 | a::xs,b::bs,h=>by
  simp only [List.map_cons,List.cons.injEq] at h
  simp only [bu,List.length_append,h.1,sj h.2]
theorem BZ:∀ (ps:List PT) (i:Nat),i8 ps (bm i ps)
 | [],_=>trivial
 | p::ps,i=>⟨by cases p <;> first | rfl | simp [mH,PT.nI],BZ ps (i + 1)⟩
mutual
theorem kY (τ : Nat→Nat) : ∀ q:PV,clean q=true→mz τ q=q∧bk q = []
 | .junk,_=>⟨rfl,rfl⟩
 | .d _,_=>⟨rfl,rfl⟩
 | .fe _,_=>⟨rfl,rfl⟩
 | .ptr _ _,h=>by cases h
 | .row _ _,h=>by cases h
 | .re _ _ _ _,h=>by cases h
 | .vw _ _ _ _,h=>by cases h
 | .ag cs,h=>by simp only [mz,bk]; rw [(fT τ cs h).1,(fT τ cs h).2]; exact ⟨rfl,rfl⟩
 | .tup cs,h=>by simp only [mz,bk]; rw [(fT τ cs h).1,(fT τ cs h).2]; exact ⟨rfl,rfl⟩
 | .fn f ps qs,h=>by
  have h:(cK ps&&cK qs)=true:=h
  rw [Bool.and_eq_true] at h
  simp only [mz,bk]; rw [(fT τ ps h.1).1,(fT τ qs h.2).1,(fT τ ps h.1).2,(fT τ qs h.2).2]; exact ⟨rfl,rfl⟩
theorem fT (τ : Nat→Nat) : ∀ cs:List PV,cK cs=true→fp τ cs=cs∧bK cs = []
 | [],_=>⟨rfl,rfl⟩
 | c::cs,h=>by
  simp only [cK,Bool.and_eq_true] at h
  simp only [fp,bK]; rw [(kY τ c h.1).1,(fT τ cs h.2).1,(kY τ c h.1).2,(fT τ cs h.2).2]; exact ⟨rfl,rfl⟩
end
theorem E8 (τ : Nat→Nat) : ∀ (rows:List (Nat×Nat×Nat×Ty)) (is:List Nat) (j:Nat),pV (mu rows (is.map τ)) j=(pV (mu rows is) j).map fun r=>(τ r.1,r.2)
 | [],is,j=>by cases is <;> rfl
 | (j0,e,k,t)::rows,[],j=>rfl
 | (j0,e,k,t)::rows,R::is,j=>by
  simp only [List.map_cons,mu,pV]
  split
  ·rfl
  ·exact E8 τ rows is j
theorem JM (τ : Nat→Nat) (rows:List (Nat×Nat×Nat×Ty)) (is:List Nat) : ∀ (ds:List D) (j:Nat),ej (mu rows (is.map τ)) j ds=fp τ (ej (mu rows is) j ds)
 | [],_=>rfl
 | d::ds,j=>by
  simp only [ej,fp,JM τ rows is ds (j + 1),E8]
  congr 1
  cases pV (mu rows is) j with
  | none=>rfl
  | some r =>
   obtain ⟨R,e,k,t⟩:=r
   cases d <;> rfl
theorem AQ (τ : Nat→Nat) (rows:List (Nat×Nat×Nat×Ty)) (is:List Nat) : ∀ (ds:List D) (j:Nat),ci (mu rows (is.map τ)) j ds=my τ (ci (mu rows is) j ds)
 | [],_=>rfl
 | d::ds,j=>by
  simp only [ci,E8]
  cases pV (mu rows is) j with
  | none=>exact AQ τ rows is ds (j + 1)
  | some r =>
   obtain ⟨R,e,k,t⟩:=r
   cases d with
   | v=>exact AQ τ rows is ds (j + 1)
   | sl es=>simp only [Option.map_some,my,AQ τ rows is ds (j + 1)]; rfl
theorem uz (τ : Nat→Nat) : ∀ (a b:BU),my τ (a++b)=my τ a++my τ b
 | [],b=>rfl
 | (t,B)::a,b=>by simp only [List.cons_append,my,uz τ a b]
theorem iA:∀ (a b:BU),bZ (a++b)=bZ a++bZ b
 | [],b=>rfl
 | (t,B)::a,b=>by simp only [List.cons_append,bZ,iA a b]
theorem M6 (τ : Nat→Nat) : ∀ (a:BU),bZ (my τ a)=(bZ a).map τ
 | []=>rfl
 | (t,B)::a=>by simp only [my,bZ,M6 τ a,List.map_cons]
theorem Jx (τ : Nat→Nat) (p:PT) (is:List Nat) (x:p.den) : toI p (is.map τ) x=(mz τ (toI p is x).1,my τ (toI p is x).2):=by
 cases p with
 | io=>rfl
 | lf t=>simp only [toI]; rw [(kY τ _ (dV (.lf t) x)).1]; rfl
 | ag t=>simp only [toI]; rw [(kY τ _ (dV (.ag t) x)).1]; rfl
 | pl t=>simp only [toI]; rw [(kY τ _ (dV (.pl t) x)).1]; rfl
 | ps t=>simp only [toI]; rw [(kY τ _ (dV (.ps t) x)).1]; rfl
 | fn f a b=>simp only [toI]; rw [(kY τ _ (dV (.fn f a b) x)).1]; rfl
 | own e k t=>match is with
  | []=>rfl
  | [i]=>rfl
  | _ :: _ :: _=>rfl
 | mv e k t=>match is with
  | []=>rfl
  | [i]=>rfl
  | _ :: _ :: _=>rfl
 | bx ty n rows=>match is with
  | []=>rfl
  | i::is=>simp only [toI,List.map_cons,JM,AQ]; rfl
 | agr n rows=>simp only [toI,JM,AQ]; rfl
theorem LJ (τ : Nat→Nat) : ∀ (ps:List PT) (iss:List (List Nat)) (x:cE ps),dS ps (iss.map (·.map τ)) x=(fp τ (dS ps iss x).1,my τ (dS ps iss x).2)
 | [],iss,x=>by cases iss <;> rfl
 | p::ps,[],x=>rfl
 | p::ps,is::iss,x=>by simp only [List.map_cons,dS,Jx,LJ τ ps iss x.2,fp,uz]
theorem AF (τ : Nat→Nat) : ∀ (rs:List PT) (iss:List (List Nat)) (x:bl rs),cR rs (iss.map (·.map τ)) x=(fp τ (cR rs iss x).1,my τ (cR rs iss x).2)
 | [],iss,x=>by cases iss <;> rfl
 | [p],[],x=>rfl
 | [p],is::iss,x=>by
  have h:=Jx τ p is x
  show ([(toI p (is.map τ) x).1],(toI p (is.map τ) x).2)=([mz τ (toI p is x).1],my τ (toI p is x).2)
  exact congrArg (fun z:PV×BU=>([z.1],z.2)) h
 | p::q::l,[],x=>rfl
 | p::q::l,is::iss,x=>by
  have h1:=Jx τ p is x.1
  have h2:=AF τ (q::l) iss x.2
  have h3:((toI p (is.map τ) x.1).1::(cR (q::l) (iss.map (·.map τ)) x.2).1,(toI p (is.map τ) x.1).2++(cR (q::l) (iss.map (·.map τ)) x.2).2)=(mz τ (toI p is x.1).1::fp τ (cR (q::l) iss x.2).1,my τ (toI p is x.1).2++my τ (cR (q::l) iss x.2).2) :=
   congr (f₁:=fun (y:List PV×BU)=>((toI p (is.map τ) x.1).1::y.1,(toI p (is.map τ) x.1).2++y.2)) (f₂:=fun (y:List PV×BU)=>(mz τ (toI p is x.1).1::y.1,my τ (toI p is x.1).2++y.2)) (congrArg (fun (z:PV×BU) (y:List PV×BU)=>(z.1::y.1,z.2++y.2)) h1) h2
  refine h3.trans ?_
  rw [← uz]; rfl
theorem Y7 (τ : Nat→Nat) (qs:List PV) : mz τ (yJ qs)=yJ (fp τ qs):=by
 match qs with
 | []=>rfl
 | [q]=>rfl
 | q::q' :: qs=>rfl
theorem LI (τi τ : Nat→Nat) : ∀ (ps:List PT) (ls:List IB) (i:Nat) (iss kss:List (List Nat)) (x:cE ps) (o:yI ls),Pv ps ls=true→i8 ps iss→kp ls kss→(∀ s∈dA i ls,τ s = τi s)→(bm i ps).map (·.map τi)=iss→OV ps ls iss (kss.map (·.map τ)) x o=my τ (sE i ls kss o)
 | [],[],i,iss,kss,x,o,_,_,_,_,_=>rfl
 | [],_ :: _,_,_,_,_,_,h,_,_,_,_=>by cases h
 | _ :: _,[],_,_,_,_,_,h,_,_,_,_=>by cases h
 | p::ps,b::ls,i,[],kss,x,o,_,h,_,_,_=>h.elim
 | p::ps,b::ls,i,is::iss,[],x,o,_,_,h,_,_=>h.elim
 | p::ps,b::ls,i,is::iss,js::kss,x,o,hio,hs,hk,hkk,he=>by
  simp only [Pv] at hio
  split at hio
  ·rename_i h1
   simp only [bm,List.map_cons,List.cons.injEq] at he
   obtain ⟨e1,e2⟩:=he
   have hk2:∀ s∈dA (i + 1) ls,τ s = τi s:=fun s hs=>hkk s (by cases b <;> simp [dA,hs])
   have ih:=LI τi τ ps ls (i + 1) iss kss x.2 o.2 hio hs.2 hk.2 hk2 e2
   simp only [List.map_cons,OV,sE,uz,ih]
   congr 1
   cases p with
   | own e k t=>cases b with
    | own e' k' t' =>
     subst e1
     have:=hkk (uh i) (by simp [dA])
     simp only [toO,mH,List.map_cons,List.map_nil,boI,my,this]; rfl
    | _=>cases h1
   | bx ty n rows=>cases b with
    | bx ty' n' rows' =>
     subst e1
     have:=hkk (uh i) (by simp [dA])
     simp only [toO,mH,List.map_cons,boI,my,JM,AQ,this]; rfl
    | _=>cases h1
   | mv=>cases b <;> first | rfl | cases h1
   | lf=>cases b <;> first | rfl | cases h1
   | ag=>cases b <;> first | rfl | cases h1
   | pl=>cases b <;> first | rfl | cases h1
   | ps=>cases b <;> first | rfl | cases h1
   | fn=>cases b <;> first | rfl | cases h1
   | agr=>cases h1
   | io=>cases h1
  ·cases hio
def hZ (l:BU) : Prop:=∀ t B,(t,B)∈l→∀ s∈LZ B,s∈bZ l
theorem hZ.app {a b:BU} (h:hZ a) (h':hZ b) : hZ (a++b):=fun t B hm s hs=>by
 rw [iA,List.mem_append]
 rcases List.mem_append.1 hm with hm | hm
 ·exact .inl (h t B hm s hs)
 ·exact .inr (h' t B hm s hs)
theorem hZ.u {l:BU} (h:hZ l) : Kp l:=fun t B hl=>h t B (o7 hl)
theorem JN {rows:List (Nat×Nat×Nat×Nat×Ty)} : ∀ (ds:List D) (j:Nat),∀ s∈bK (ej rows j ds),s∈bZ (ci rows j ds)
 | [],_,s,h=>by cases h
 | d::ds,j,s,h=>by
  simp only [ej,bK,List.mem_append] at h
  simp only [ci]
  have ih:=JN (rows:=rows) ds (j + 1) s
  cases hf:pV rows j with
  | none =>
   rw [hf] at h
   exact ih (h.resolve_left (by simp [bk]))
  | some r =>
   obtain ⟨R,e,k,t⟩:=r
   rw [hf] at h
   cases d with
   | v=>exact ih (h.resolve_left (by simp [bk]))
   | sl es =>
    simp only [bZ,List.mem_cons]
    rcases h with h | h
    ·simp only [bk,List.mem_cons,List.not_mem_nil,or_false] at h; exact .inl h
    ·exact .inr (ih h)
theorem pu {rows:List (Nat×Nat×Nat×Nat×Ty)} : ∀ (ds:List D) (j:Nat) t B,(t,B)∈ci rows j ds→LZ B = []∧∃ e k es,B = .rw e k es
 | [],_,t,B,h=>by cases h
 | d::ds,j,t,B,h=>by
  simp only [ci] at h
  split at h
  ·split at h
   ·rcases List.mem_cons.1 h with e | h
    ·injection e with _ e; subst e; exact ⟨rfl,_,_,_,rfl⟩
    ·exact pu ds (j + 1) t B h
   ·exact pu ds (j + 1) t B h
  ·exact pu ds (j + 1) t B h
theorem H0 {rows:List (Nat×Nat×Nat×Nat×Ty)} (i:Nat) (ty:TypeId) (ds:List D) : hZ ((i,.st ty (ej rows 0 ds))::ci rows 0 ds):=fun t B hm s hs=>by
 simp only [bZ,List.mem_cons]
 rcases List.mem_cons.1 hm with e | hm
 ·injection e with _ e
  subst e
  exact .inr (JN ds 0 s hs)
 ·rw [(pu ds 0 t B hm).1] at hs; cases hs
theorem xy (i:Nat) (e k:Nat) (t:Ty) (xs:List t.den) : hZ [(i,rwU e k t xs)]:=fun t B hm s hs=>by
 simp only [List.mem_cons,List.not_mem_nil,or_false,Prod.mk.injEq] at hm
 rw [hm.2] at hs
 cases hs
theorem cY:hZ []:=fun t B hm=>by cases hm
theorem DX (p:PT) (is:List Nat) (x:p.den) : (∀ s∈bk (toI p is x).1,s∈bZ (toI p is x).2)∧hZ (toI p is x).2:=by
 have plain:∀ {q:PV},clean q=true→(∀ s∈bk q,s∈bZ [])∧hZ []:=fun hq=>⟨fun s h=>(by rw [(kY id _ hq).2] at h; cases h),cY⟩
 cases p with
 | io=>exact ⟨fun s h=>(by cases h),cY⟩
 | lf t=>exact plain (dV (.lf t) x)
 | ag t=>exact plain (dV (.ag t) x)
 | pl t=>exact plain (dV (.pl t) x)
 | ps t=>exact plain (dV (.ps t) x)
 | fn f a b=>exact plain (dV (.fn f a b) x)
 | own e k t=>match is with
  | []=>exact ⟨fun s h=>(by cases h),cY⟩
  | [i]=>exact ⟨fun s h=>h,xy i e k t x⟩
  | _ :: _ :: _=>exact ⟨fun s h=>(by cases h),cY⟩
 | mv e k t=>match is with
  | []=>exact ⟨fun s h=>(by cases h),cY⟩
  | [i]=>exact ⟨fun s h=>h,xy i e k t x⟩
  | _ :: _ :: _=>exact ⟨fun s h=>(by cases h),cY⟩
 | bx ty n rows=>match is with
  | []=>exact ⟨fun s h=>(by cases h),cY⟩
  | i::is=>exact ⟨fun s h=>by simp only [toI,bk,List.mem_cons,List.not_mem_nil,or_false] at h; simp only [toI,bZ,List.mem_cons]; exact .inl h,H0 i ty _⟩
 | agr n rows=>exact ⟨fun s h=>JN _ 0 s h,fun t B hm s hs=>by rw [(pu _ 0 t B hm).1] at hs; cases hs⟩
theorem HV:∀ (ps:List PT) (iss:List (List Nat)) (x:cE ps),(∀ s∈bK (dS ps iss x).1,s∈bZ (dS ps iss x).2)∧hZ (dS ps iss x).2
 | [],iss,x=>⟨fun s h=>(by cases h),cY⟩
 | p::ps,[],x=>⟨fun s h=>(by cases h),cY⟩
 | p::ps,is::iss,x=>by
  obtain ⟨h1,h2⟩:=DX p is x.1
  obtain ⟨h3,h4⟩:=HV ps iss x.2
  refine ⟨fun s h=>?_,h2.app h4⟩
  simp only [dS,bK,List.mem_append] at h
  simp only [dS,iA,List.mem_append]
  exact h.imp (h1 s) (h3 s)
theorem DV:∀ (rs:List PT) (iss:List (List Nat)) (x:bl rs),(∀ s∈bK (cR rs iss x).1,s∈bZ (cR rs iss x).2)∧hZ (cR rs iss x).2
 | [],iss,x=>⟨fun s h=>(by cases h),cY⟩
 | [p],[],x=>⟨fun s h=>(by cases h),cY⟩
 | [p],is::iss,x=>by
  obtain ⟨h1,h2⟩:=DX p is (show p.den from x)
  refine ⟨fun s h=>?_,h2⟩
  have h:s∈bk (toI p is (show p.den from x)).1 ++ []:=h
  rw [List.append_nil] at h
  exact h1 s h
 | p::q::l,[],x=>⟨fun s h=>(by cases h),cY⟩
 | p::q::l,is::iss,x=>by
  obtain ⟨h1,h2⟩:=DX p is x.1
  obtain ⟨h3,h4⟩:=DV (q::l) iss x.2
  refine ⟨fun s h=>?_,h2.app h4⟩
  have h:s∈bk (toI p is x.1).1++bK (cR (q::l) iss x.2).1:=h
  show s∈bZ ((toI p is x.1).2++(cR (q::l) iss x.2).2)
  rw [iA,List.mem_append]
  exact (List.mem_append.1 h).imp (h1 s) (h3 s)
theorem WG (qs:List PV) : ∀ s∈bk (yJ qs),s∈bK qs:=by
 match qs with
 | []=>exact fun s h=>by cases h
 | [q]=>exact fun s h=>by simpa [bK,yJ] using h
 | q::q' :: qs=>exact fun s h=>h
theorem HR:∀ {rs:List PT} {iss:List (List Nat)} {x:bl rs} {t:Nat},t∈bZ (cR rs iss x).2→t∈bu iss
 | [],iss,x,t,h=>by cases h
 | [p],[],x,t,h=>by cases h
 | [p],is::iss,x,t,h=>by
  have h:t∈bZ (toI p is (show p.den from x)).2:=h
  rw [su,List.mem_append]
  obtain ⟨B,hB⟩:=cO.1 h
  exact .inl (Jy (o7 hB))
 | p::q::l,[],x,t,h=>by cases h
 | p::q::l,is::iss,x,t,h=>by
  have h:t∈bZ ((toI p is x.1).2++(cR (q::l) iss x.2).2):=h
  rw [iA,List.mem_append] at h
  rw [su,List.mem_append]
  rcases h with h | h
  ·obtain ⟨B,hB⟩:=cO.1 h
   exact .inl (Jy (o7 hB))
  ·exact .inr (HR h)
theorem ZG (i:Nat) (b:IB) (js:List Nat) (o:b.den) : hZ (boI i b js o)∧∀ t∈bZ (boI i b js o),t=uh i∧b≠.no∨t∈js:=by
 cases b with
 | no=>exact ⟨cY,fun t h=>by cases h⟩
 | own e k t=>exact ⟨xy _ _ _ _ _,fun t' h=>by simp only [boI,bZ,List.mem_cons,List.not_mem_nil,or_false] at h; exact .inl ⟨h,fun e=>by cases e⟩⟩
 | bx ty n rows =>
  refine ⟨H0 _ _ _,fun t h=>?_⟩
  simp only [boI,bZ,List.mem_cons] at h
  rcases h with h | h
  ·exact .inl ⟨h,fun e=>by cases e⟩
  ·obtain ⟨B,hB⟩:=cO.1 h
   exact .inr (xt (o7 hB))
theorem uO {i:Nat} {b:IB} {ls:List IB} {s:Nat} : s∈dA i (b::ls)↔(s=uh i∧b≠.no)∨s∈dA (i + 1) ls:=by
 cases b <;> simp [dA]
theorem FU:∀ (ls:List IB) (i:Nat) (kss:List (List Nat)) (o:yI ls),kp ls kss→hZ (sE i ls kss o)∧(∀ t∈bZ (sE i ls kss o),t∈dA i ls∨t∈bu kss)∧∀ t∈dA i ls,t∈bZ (sE i ls kss o)
 | [],i,kss,o,_=>⟨cY,fun t h=>(by cases h),fun t h=>by cases h⟩
 | b::ls,i,[],o,h=>h.elim
 | b::ls,i,js::kss,o,h=>by
  obtain ⟨h1,h2⟩:=ZG i b js o.1
  obtain ⟨h3,h4,h5⟩:=FU ls (i + 1) kss o.2 h.2
  refine ⟨h1.app h3,fun t ht=>?_,fun t ht=>?_⟩
  ·simp only [sE,iA,List.mem_append] at ht
   rw [uO,su,List.mem_append]
   rcases ht with ht | ht
   ·rcases h2 t ht with h6 | h6
    ·exact .inl (.inl h6)
    ·exact .inr (.inl h6)
   ·rcases h4 t ht with h6 | h6
    ·exact .inl (.inr h6)
    ·exact .inr (.inr h6)
  ·rw [uO] at ht
   simp only [sE,iA,List.mem_append]
   rcases ht with ⟨rfl,hb⟩ | ht
   ·left
    cases b with
    | no=>exact absurd rfl hb
    | own=>simp [boI,bZ]
    | bx=>simp [boI,bZ]
   ·exact .inr (h5 t ht)
theorem My:∀ (ls:List IB) (i:Nat),∀ s∈dA i ls,1000000≤s
 | [],i,s,h=>by cases h
 | b::ls,i,s,h=>by
  rw [uO] at h
  rcases h with ⟨rfl,_⟩ | h
  ·unfold uh; omega
  ·exact My ls (i + 1) s h
theorem BV:∀ (ps:List PT) (ls:List IB) (i:Nat) (x:cE ps),Pv ps ls=true →
  (∀ s∈dA i ls,s∈bZ (dS ps (bm i ps) x).2)∧∀ t B,(t,B)∈(dS ps (bm i ps) x).2→t ∉ dA i ls→(∃ e k es,B = .rw e k es)∧t∈oS ps (bm i ps)
 | [],[],i,x,_=>⟨fun s h=>(by cases h),fun t B h=>by cases h⟩
 | [],_ :: _,_,_,h=>by cases h
 | _ :: _,[],_,_,h=>by cases h
 | p::ps,b::ls,i,x,hio=>by
  simp only [Pv] at hio
  split at hio
  ·rename_i h1
   obtain ⟨k1,k2⟩:=BV ps ls (i + 1) x.2 hio
   have head:(b≠.no→uh i∈bZ (toI p (mH i p) x.1).2)∧∀ t B,(t,B)∈(toI p (mH i p) x.1).2→¬ (t=uh i∧b≠.no)→(∃ e k es,B = .rw e k es)∧t∈EV p (mH i p):=by
    cases p with
    | own e k t=>cases b with
     | own e' k' t' =>
      refine ⟨fun _=>by simp [toI,mH,bZ],fun t B hm hn=>?_⟩
      simp only [toI,mH,List.mem_cons,List.not_mem_nil,or_false,Prod.mk.injEq] at hm
      exact absurd ⟨hm.1,fun e=>by cases e⟩ hn
     | _=>cases h1
    | mv e k t=>cases b with
     | no =>
      refine ⟨fun h=>absurd rfl h,fun t B hm _=>?_⟩
      simp only [toI,mH,List.mem_cons,List.not_mem_nil,or_false,Prod.mk.injEq] at hm
      obtain ⟨rfl,rfl⟩:=hm
      exact ⟨⟨_,_,_,rfl⟩,by simp [EV,mH]⟩
     | _=>cases h1
    | bx ty n rows=>cases b with
     | bx ty' n' rows' =>
      refine ⟨fun _=>by simp [toI,mH,bZ],fun t B hm hn=>?_⟩
      simp only [toI,mH] at hm
      rcases List.mem_cons.1 hm with e | hm
      ·injection e with e _
       exact absurd ⟨e,fun e=>by cases e⟩ hn
      ·exact ⟨(pu _ 0 t B hm).2,xt hm⟩
     | _=>cases h1
    | lf=>cases b <;> first | exact ⟨fun h=>absurd rfl h,fun t B hm=>by cases hm⟩ | cases h1
    | ag=>cases b <;> first | exact ⟨fun h=>absurd rfl h,fun t B hm=>by cases hm⟩ | cases h1
    | pl=>cases b <;> first | exact ⟨fun h=>absurd rfl h,fun t B hm=>by cases hm⟩ | cases h1
    | ps=>cases b <;> first | exact ⟨fun h=>absurd rfl h,fun t B hm=>by cases hm⟩ | cases h1
    | fn=>cases b <;> first | exact ⟨fun h=>absurd rfl h,fun t B hm=>by cases hm⟩ | cases h1
    | agr=>cases h1
    | io=>cases h1
   refine ⟨fun s hs=>?_,fun t B hm hn=>?_⟩
   ·simp only [bm,dS,iA,List.mem_append]
    rcases uO.1 hs with ⟨rfl,h⟩ | h
    ·exact .inl (head.1 h)
    ·exact .inr (k1 s h)
   ·simp only [bm,dS] at hm
    simp only [bm,oS,List.mem_append]
    rw [uO,not_or] at hn
    rcases List.mem_append.1 hm with hm | hm
    ·obtain ⟨q1,q2⟩:=head.2 t B hm hn.1
     exact ⟨q1,.inl q2⟩
    ·obtain ⟨q1,q2⟩:=k2 t B hm hn.2
     exact ⟨q1,.inr q2⟩
  ·cases hio
theorem Iu (τ : Nat→Nat) : ∀ (ps:List PT) (iss:List (List Nat)),oS ps (iss.map (·.map τ))=(oS ps iss).map τ
 | [],iss=>by cases iss <;> rfl
 | p::ps,[]=>rfl
 | p::ps,is::iss=>by
  simp only [List.map_cons,oS,Iu τ ps iss,List.map_append]
  congr 1
  cases p with
  | bx=>cases is <;> rfl
  | _=>rfl
theorem ET:∀ (ps:List PT) (iss:List (List Nat)),∀ s∈oS ps iss,s∈bu iss
 | [],iss,s,h=>by cases iss <;> cases h
 | p::ps,[],s,h=>by cases h
 | p::ps,is::iss,s,h=>by
  simp only [oS,List.mem_append] at h
  rw [su,List.mem_append]
  rcases h with h | h
  ·left
   cases p with
   | mv=>exact h
   | bx=>cases is with
    | nil=>cases h
    | cons a is=>exact List.mem_cons_of_mem _ h
   | _=>cases h
  ·exact .inr (ET ps iss s h)
theorem EU (l:BU) : ∀ (is:List Nat) (t:Nat),lkU (Cf l is) t=if t∈is then some (match lkU l t with | some B=>ZX B | none=>.st 0 []) else none
 | [],t=>rfl
 | a::is,t=>by
  simp only [Cf,lkU]
  by_cases h:t=a
  ·subst h; simp only [if_true,List.mem_cons,true_or]; rfl
  ·simp only [h,if_false,List.mem_cons,false_or]; exact EU l is t
theorem J1 (a b:BU) (t:Nat) : lkU (a++b) t=match lkU a t with | some B=>some B | none=>lkU b t:=by
 induction a with
 | nil=>rfl
 | cons x a ih =>
  obtain ⟨j,B⟩:=x
  simp only [List.cons_append,lkU]
  split
  ·rfl
  ·exact ih
theorem ZD {P:Program} {f:FuncId} {ps rs:List PT} {x:cE ps} {r:bl rs} (hio:Pv ps (cw rs)=true) (hlen:Mt ps (cw rs) x (jX rs r)) (hn0:(bu (bm 0 ps)).Nodup) (hgk:∀ s∈oS ps (bm 0 ps),s ∉ dA 0 (cw rs))
  (h:PCm P f (dS ps (bm 0 ps) x).1 (dS ps (bm 0 ps) x).2 (dA 0 (cw rs)) fun q bo=>∃ kss jss,kp (cw rs) kss∧i8 (ff rs) jss∧(dA 0 (cw rs)++(bu kss++bu jss)).Nodup∧q=yJ (cR (ff rs) jss (ja rs r)).1∧bo=sE 0 (cw rs) kss (jX rs r)++(cR (ff rs) jss (ja rs r)).2) : abA P f ps rs x r:=by
 refine ⟨hlen,fun iss kss jss hsi hsk hsj hnd hlt hall=>⟨h.1,fun w0 F0 ρ b w F vs args hargs hb hbn hi hv=>?_⟩⟩
 have hK:=BV ps (cw rs) 0 x hio
 have hl0:=xn (BZ ps 0) hsi
 let τi:=WR (bu (bm 0 ps)) (bu iss)
 have e1:(bu (bm 0 ps)).map τi=bu iss:=ED hn0 (sj hl0)
 have e2:(bm 0 ps).map (·.map τi)=iss:=vQ hl0 e1
 obtain ⟨n1,n2,n3⟩:=List.nodup_append.1 hnd
 have hinj:∀ s∈bu (bm 0 ps),∀ s'∈bu (bm 0 ps),τi s = τi s'→s=s':=A0 (by rw [e1]; exact n1)
 have hdom:∀ s∈bZ (dS ps (bm 0 ps) x).2,s∈bu (bm 0 ps):=fun s hs=>by
  obtain ⟨B,hB⟩:=cO.1 hs
  exact DW (o7 hB)
 have hren:=LJ τi ps (bm 0 ps) x
 rw [e2] at hren
 have hfl:∀ s∈bu (bm 0 ps),s∈bZ (dS ps (bm 0 ps) x).2:=fun s hs=>by
  have h1 : τi s∈bu iss:=by rw [← e1]; exact List.mem_map_of_mem hs
  have h2:=hall _ h1
  rw [hren] at h2
  simp only [M6] at h2
  obtain ⟨s',h3,h4⟩:=List.mem_map.1 h2
  rw [← hinj s' (hdom s' h3) s hs h4]
  exact h3
 have hii:∀ s∈bZ (dS ps (bm 0 ps) x).2,∀ s'∈bZ (dS ps (bm 0 ps) x).2,τi s = τi s'→s=s':=fun s h1 s' h2=>hinj s (hdom s h1) s' (hdom s' h2)
 have hcl:=HV ps (bm 0 ps) x
 refine XN (τi:=τi) (N:=bu kss++bu jss) (u:=pR ps rs iss kss jss x r) h hii ?_ hlt hcl.1 (by rw [hargs,hren]) hcl.2.u w0 F0 ρ b w F vs (fun s B hs=>?_) hbn hi hv
 rotate_left
 ·have:=Ds (σ:=τi) hii hs
  rw [show my τi (dS ps (bm 0 ps) x).2=(dS ps iss x).2 from by rw [hren]] at this
  exact hb _ _ this
 rintro q bo ⟨kss0,jss0,m1,m2,m3,rfl,rfl⟩
 have hl1:=yA m1 hsk
 have hl2:=xn m2 hsj
 have hKf:∀ s∈dA 0 (cw rs),s∈bu (bm 0 ps):=fun s hs=>hdom s (hK.1 s hs)
 have ⟨p1,p2,p3⟩:=List.nodup_append.1 m3
 have hKn:((dA 0 (cw rs)).map τi).Nodup:=by
  have:∀ l:List Nat,l.Nodup→(∀ s∈l,s∈bu (bm 0 ps))→(l.map τi).Nodup:=fun l=>by
   induction l with
   | nil=>intro _ _; exact List.nodup_nil
   | cons a l ih =>
    intro hn hs
    rw [List.nodup_cons] at hn
    rw [List.map_cons,List.nodup_cons]
    refine ⟨fun hm=>?_,ih hn.2 fun s h=>hs s (List.mem_cons_of_mem _ h)⟩
    obtain ⟨s,h1,h2⟩:=List.mem_map.1 hm
    have:=hinj s (hs s (List.mem_cons_of_mem _ h1)) a (hs a List.mem_cons_self) h2
    rw [this] at h1
    exact hn.1 h1
  exact this _ p1 hKf
 have htg:((dA 0 (cw rs)).map τi++(bu kss++bu jss)).Nodup:=by
  refine List.nodup_append.2 ⟨hKn,n2,fun a ha b' hb'=>?_⟩
  obtain ⟨s,h1,rfl⟩:=List.mem_map.1 ha
  exact n3 _ (by rw [← e1]; exact List.mem_map_of_mem (hKf s h1)) _ hb'
 let τ:=WR (dA 0 (cw rs)++(bu kss0++bu jss0)) ((dA 0 (cw rs)).map τi++(bu kss++bu jss))
 have et:(dA 0 (cw rs)++(bu kss0++bu jss0)).map τ = (dA 0 (cw rs)).map τi++(bu kss++bu jss):=ED m3 (by simp [sj hl1,sj hl2])
 have hinjo:=A0 (f:=τ) (l:=dA 0 (cw rs)++(bu kss0++bu jss0)) (by rw [et]; exact htg)
 have et2:=et
 rw [List.map_append,List.map_append] at et2
 obtain ⟨q1,q2⟩:=List.append_inj et2 (by simp)
 obtain ⟨q2,q3⟩:=List.append_inj q2 (by simp [sj hl1])
 have hτK:∀ s∈dA 0 (cw rs),τ s = τi s:=List.map_inj_left.1 q1
 have b1:=vQ hl1 q2
 have b2:=vQ hl2 q3
 obtain ⟨c1,c2,c3⟩:=FU (cw rs) 0 kss0 (jX rs r) m1
 have hbo:∀ s∈bZ (sE 0 (cw rs) kss0 (jX rs r)++(cR (ff rs) jss0 (ja rs r)).2),s∈dA 0 (cw rs)∨s∈bu kss0++bu jss0:=fun s hs=>by
  rw [iA,List.mem_append] at hs
  rw [List.mem_append]
  rcases hs with hs | hs
  ·rcases c2 s hs with h | h
   ·exact .inl h
   ·exact .inr (.inl h)
  ·exact .inr (.inr (HR hs))
 have hbo':∀ s∈bZ (sE 0 (cw rs) kss0 (jX rs r)++(cR (ff rs) jss0 (ja rs r)).2),s∈dA 0 (cw rs)++(bu kss0++bu jss0):=fun s hs=>List.mem_append.2 (hbo s hs)
 have hnewm:∀ s∈bu kss0++bu jss0,τ s∈bu kss++bu jss:=fun s hs=>by
  rw [← q2,← q3,← List.map_append]
  exact List.mem_map_of_mem hs
 have hoo:∀ s∈bZ (sE 0 (cw rs) kss0 (jX rs r)++(cR (ff rs) jss0 (ja rs r)).2),∀ s'∈bZ (sE 0 (cw rs) kss0 (jX rs r)++(cR (ff rs) jss0 (ja rs r)).2),τ s = τ s'→s=s':=fun s h1 s' h2=>hinjo s (hbo' s h1) s' (hbo' s' h2)
 have hfit:abz τi τ (dS ps (bm 0 ps) x).2 (sE 0 (cw rs) kss0 (jX rs r)++(cR (ff rs) jss0 (ja rs r)).2) (dA 0 (cw rs)):=by
  refine ⟨hii,hoo,fun s hs s' hs' e=>?_,fun s hs=>⟨hK.1 s hs,by rw [iA,List.mem_append]; exact .inl (c3 s hs),(hτK s hs).symm⟩⟩
  rcases hbo s' hs' with h1 | h1
  ·rw [hτK s' h1] at e
   have:=hii s hs s' (hK.1 s' h1) e
   subst this
   exact ⟨rfl,h1⟩
  ·exact absurd e (n3 _ (by rw [← e1]; exact List.mem_map_of_mem (hdom s hs)) _ (hnewm s' h1))
 have hgo:oS ps iss=(oS ps (bm 0 ps)).map τi:=by rw [← Iu,e2]
 have hu:pR ps rs iss kss jss x r=my τ (sE 0 (cw rs) kss0 (jX rs r)++(cR (ff rs) jss0 (ja rs r)).2)++Cf (my τi (dS ps (bm 0 ps) x).2) (oS ps iss):=by
  unfold pR
  rw [hren]
  have h1:=LI τi τ ps (cw rs) 0 iss kss0 x (jX rs r) hio hsi m1 hτK e2
  rw [b1] at h1
  have h2:=AF τ (ff rs) jss0 (ja rs r)
  rw [b2] at h2
  rw [h1,h2,uz,List.append_assoc]
 refine ⟨τ,hfit,⟨fun s B hs=>?_,fun s B hs hk=>?_,fun i B hB=>?_⟩,?_,fun s hs hk=>?_⟩
 ·rw [hu,J1,Ds hoo hs]
 ·have hm:=o7 hs
  obtain ⟨⟨e,k,es,rfl⟩,hg⟩:=hK.2 s B hm hk
  have hnone:lkU (my τ (sE 0 (cw rs) kss0 (jX rs r)++(cR (ff rs) jss0 (ja rs r)).2)) (τi s)=none:=by
   cases hl:lkU (my τ (sE 0 (cw rs) kss0 (jX rs r)++(cR (ff rs) jss0 (ja rs r)).2)) (τi s) with
   | none=>rfl
   | some C =>
    obtain ⟨s',h1,h2⟩:=uL hl
    exact absurd (hfit.io s (cO.2 ⟨_,hs⟩) s' h1 h2).2 hk
  refine ⟨e,k,es,es ++ [[]],rfl,?_,by simp⟩
  rw [hu,J1,hnone]
  simp only
  rw [EU,if_pos (by rw [hgo]; exact List.mem_map_of_mem hg),Ds hii hs]
  rfl
 ·rw [hu,J1] at hB
  split at hB
  ·rename_i C hC
   obtain ⟨s',h1,h2⟩:=uL hC
   exact .inl ⟨s',h1,h2⟩
  ·rw [EU] at hB
   split at hB
   ·rename_i hm
    rw [hgo] at hm
    obtain ⟨s,h1,h2⟩:=List.mem_map.1 hm
    exact .inr ⟨s,hfl s (ET _ _ s h1),hgk s h1,h2.symm⟩
   ·cases hB
 ·have h2:=AF τ (ff rs) jss0 (ja rs r)
  rw [b2] at h2
  rw [Y7,h2]
 ·exact hnewm s ((hbo s hs).resolve_left hk)
theorem Td {P:Program} {T:List (Nat×Ent)} {n:Nat} {ps rs:List PT} {vars:List ResultVar} {fz:List (Nat×List Nat)} {sc:List Nat} {fb:List (Nat×List Nat)} {h:um} {f:FuncId} {fn:Func} {c:Code} (hT:qY P T) (hm:P.follows .mixedOrders=true) (hf:P.funcs[f]? = some fn) (hb:fn.body=some c) (hcb:d9 P f=true) (hn:fn.ntmps=n) (hv:fn.results.toList=vars)
  (hl:(decide (ps.length≤n)&&(ta ps&&(pd rs&&(Pv ps (cw rs)&&(tb (bu (bm 0 ps))&&IQ (oS ps (bm 0 ps)) (dA 0 (cw rs)))))))=true)
  {F:cE ps→Option (bl rs)} (hlen:∀ x r,F x=some r→Mt ps (cw rs) x (jX rs r)) (hF:∀ x,Sc ⟨P,T,n,rs,vars,fz,sc,fb⟩ c h ps x=F x) : bR P f ps rs F:=by
 intro x r hx
 simp only [Bool.and_eq_true] at hl
 obtain ⟨hl1,hl2,hl3,hl4,hl5,hl6⟩:=hl
 refine ⟨fun hnM=>(by rw [Bool.or_eq_false_iff,hl3] at hnM; cases hnM.2),fun _=>?_⟩
 have hln:=hlen x r hx
 rw [← hF] at hx
 have hlen:=zd hl1
 subst hn
 unfold Sc at hx
 split at hx
 rotate_left
 ·cases hx
 rename_i vs bx hen
 obtain ⟨hnd,hx⟩:=aq hx
 have hseen:wm bx bx:=by have:=Dl (l':=[]) (jn hnd); rw [List.append_nil] at this; exact this
 obtain ⟨hal,hargs⟩:=Ff (G:=[]) hl2 hen hseen
 have halen:(dS ps (bm 0 ps) x).1.length=ps.length:=by
  have:∀ (ps:List PT) (i:Nat) (x:cE ps),(dS ps (bm i ps) x).1.length=ps.length:=fun ps=>by
   induction ps with
   | nil=>intro i x; rfl
   | cons p ps ih=>intro i x; simp only [bm,dS,List.length_cons,ih]
  exact this ps 0 x
 refine ZD hl4 hln (jn hl5) (fun s hs hk=>?_) ?_
 ·have:=tu hl6 s (d8.2 hs)
  rw [yN] at this
  exact this hk
 refine TX hf hb hcb (by rw [halen]; exact hlen) (My _ 0) ?_
 have hs:ib ⟨Bv 0 vs,bx,[],false,[]⟩ ⟨mD (dS ps (bm 0 ps) x).1,lkU (dS ps (bm 0 ps) x).2⟩:=by
  refine ⟨fun i=>?_,fun t b hbl=>?_⟩
  ·show bj bx (lkV (Bv 0 vs) i) (mD (dS ps (bm 0 ps) x).1 i)
   have:=KD vs 0 i
   rw [Nat.zero_add] at this
   rw [this]
   unfold mD
   cases h1:vs[i]? with
   | none=>exact .junk _
   | some v =>
    have hlt:i < (dS ps (bm 0 ps) x).1.length:=by rw [← hargs.len]; exact (zg.1 h1).1
    rw [zq hlt]
    exact hargs.rep i v _ h1 (zq hlt)
  ·show mt bx true (some b) (lkU (dS ps (bm 0 ps) x).2 t)
   have hbl:lkB bx t=some b:=hbl
   rcases V5 hal [] t with ⟨_,sb,b',m2,m3,m4,_⟩ | ⟨_,m2,_⟩
   ·rw [List.append_nil,hbl] at m2
    rw [m3]
    exact m4 b m2.symm
   ·rw [List.append_nil,hbl] at m2
    cases m2
 have hpr:mp ⟨Bv 0 vs,bx,[],false,[]⟩:=fun t ht=>by cases ht
 have fin:∀ {e:Exit} {p':PS},(match e with | .normal=>True | .ret=>True | _=>False)→Tk ⟨P,T,fn.ntmps,rs,vars,fz,sc,fb⟩ fn p' r→abu P fn (dA 0 (cw rs)) (fun q bo=>∃ kss jss,kp (cw rs) kss∧i8 (ff rs) jss∧(dA 0 (cw rs)++(bu kss++bu jss)).Nodup∧q=yJ (cR (ff rs) jss (ja rs r)).1∧bo=sE 0 (cw rs) kss (jX rs r)++(cR (ff rs) jss (ja rs r)).2) e p':=fun {e p'} he hr=>by
  obtain ⟨kss,jss,m1,m2,m3,⟨q,m4,m5⟩,m6⟩:=hr.2 hl3
  have m1:kp (cw rs) kss:=m1
  have m2:i8 (ff rs) jss:=m2
  have m5:qJ q=yJ (cR (ff rs) jss (ja rs r)).1:=m5
  obtain ⟨c1,c2,c3⟩:=FU (cw rs) 0 kss (jX rs r) m1
  obtain ⟨d1,d2⟩:=DV (ff rs) jss (ja rs r)
  refine ⟨he,_,_,⟨kss,jss,m1,m2,m3,rfl,rfl⟩,fun t ht=>by rw [iA,List.mem_append]; exact .inl (c3 t ht),fun s hs=>?_,(c1.app d2).u,⟨q,m4,m5⟩,fun t B ht=>m6 t B (o7 ht)⟩
  rw [iA,List.mem_append]
  exact .inr (d1 s (WG _ s hs))
 refine fM (pb (C:=⟨P,T,fn.ntmps,rs,vars,fz,sc,fb⟩) (fn:=fn) hT hm hv c h _ _ _ _ _ r hpr hs hx) fun e p' hq=>?_
 by_cases he:e = .ret
 ·subst he
  obtain ⟨r',h1,h3⟩:=hq
  injection h3 with h3
  subst h3
  exact ⟨p',.refl _,fin trivial h1⟩
 ·obtain ⟨s',m1,m2,m3⟩:=qN he hq
  cases e with
  | normal =>
   obtain ⟨p2,h1,h2⟩:=SG (C:=⟨P,T,fn.ntmps,rs,vars,fz,sc,fb⟩) hv (yE (m2.prOk hpr)) (sa m1) m3
   exact ⟨p2,(A8 m1).trans h1,fin trivial h2⟩
  | ret=>exact absurd rfl he
  | _=>cases m3
theorem Y4 {w:World} {B e k n:Nat} {v:Value} {xs:List Value} (h:w.ownsRow B e k v n xs) : w.ownsRow 0 e k v n xs∧∀ g,blk v=some g→B≤g:=by
 refine ⟨⟨h.1,?_⟩,fun g hg=>?_⟩
 ·rcases h.2 with hn | ⟨g,cap,cur,rfl,hb,hr⟩
  ·exact .inl hn
  ·exact .inr ⟨g,cap,cur,rfl,Nat.zero_le _,hr⟩
 ·rcases h.2 with ⟨rfl,_⟩ | ⟨g',cap,cur,rfl,hb,hr⟩
  ·cases hg
  ·injection hg with hg; subst hg; exact hb
theorem ZC {P:Program} {f:FuncId} {ty:Ty} {e k:Nat} {F:List ty.den→Option (List ty.den)} (hk:tyN ty=k) (hk0 : 0 < k) (hcall:d9 P f=true)
  (H:∀ (xs zs:List ty.den) (w:World) (G:Nat→Prop) (v:Value),F xs=some zs→(∀ g,G g→g < w.heap.size)→d7 w G v (.sl (xs.map (bH ty)))→Calls P f #[v] w fun en w'=>∃ v' us,en = .returned v'∧w'.ownsRow w.heap.size e k v' zs.length us∧Ext w w'∧us.length=zs.length * k∧∀ (j:Nat) u d,us[j]? = some u→(zs.map (bH ty)).flatten[j]? = some d→d7 w G u d) :
  bR P f [.lf (.sl ty)] [.io [.no],.own e k ty] (fun x=>(F x.1).bind fun z=>some (((),()),z)):=by
 rintro ⟨xs,⟨⟩⟩ zz hF
 change List ty.den at xs
 obtain ⟨zs,hz,hF⟩:=bindS hF
 injection hF with hF
 subst hF
 refine ⟨fun h=>(by cases h),fun _=>⟨⟨trivial,trivial⟩,fun iss kss jss h1 h2 h3 h4 h5 h6=>⟨hcall,?_⟩⟩⟩
 match iss,h1 with
 | [is],h1 =>
 match is,h1.1 with
 | [],_ =>
 match kss,h2 with
 | [ks],h2 =>
 match ks,h2.1 with
 | [],_ =>
 match jss,h3 with
 | [js],h3 =>
 match js,h3.1 with
 | [j],_ =>
 intro w0 F0 ρ b w G vs args ha hb0 hb hi hr
 have hj:j < 1000000:=h5 j (by simp [bu])
 have hbj:b j=none:=hb j (by simp [bu])
 have hal:args.length=1:=by rw [← gg args,ha]; rfl
 match args,hal with
 | [a],_ =>
 have ha:qJ a = .d (.sl (xs.map (bH ty))):=by
  simp only [dP,dS,toI,List.cons.injEq] at ha
  exact ha.1
 have hvl:vs.toList.length=1:=hr.len
 obtain ⟨v,hv⟩ : ∃ v,vs = #[v]:=by
  match hv:vs.toList,hvl with
  | [v],_=>exact ⟨v,by apply Array.ext'; simpa using hv⟩
 subst hv
 have hrep:=(hr.rep 0 v a rfl rfl).nrmd
 rw [ha] at hrep
 have hd:d7 w G v (.sl (xs.map (bH ty))):=by
  cases hrep with
  | d _ _ h=>exact h
 refine (H xs zs w G v hz hi.flt hd).mono ?_
 rintro en w' ⟨v',us,rfl,ho,hx,hl,hu⟩
 obtain ⟨ho0,hbase⟩:=Y4 ho
 have hzl:∀ x∈zs.map (bH ty),x.length=k:=fun x hx=>by
  obtain ⟨y,_,rfl⟩:=List.mem_map.1 hx
  rw [lG,hk]
 have:=Ez (P:=P) (t:=j) (e:=e) (k:=k) (es:=zs.map (bH ty)) (xs:=us) (v:=v') (w':=w') hi hj hbj hk0 hx hbase (by rw [List.length_map]; exact ho0) hzl (by rw [hl,cr k _ hzl,List.length_map]) hu
 obtain ⟨v2,w2,ρ',e1,k1,k2,k3⟩:=this
 injection e1 with e1 e2
 subst e1 e2
 have hU:dB b (pR [.lf (.sl ty)] [.io [.no],.own e k ty] [[]] [[]] [[j]] (xs,()) (((),()),zs))=dc b (some (j,.rw e k (zs.map (bH ty)))):=by
  rw [← Bu]; rfl
 rw [hU]
 refine ⟨v',ρ',G,rfl,k1,k2,?_⟩
 rw [List.length_map] at k3
 exact k3
theorem ZB {P:Program} {f:FuncId} {F:cE [.lf .str]→Option (bl [.lf .str])} (hcall:d9 P f=true)
  (H:∀ (x z:ByteArray) (w:World),F (x,())=some z→Calls P f #[.string x] w fun en w'=>en = .returned (.string z)∧Ext w w') : bR P f [.lf .str] [.lf .str] F:=by
 rintro ⟨x,⟨⟩⟩ z hF
 refine ⟨fun _=>⟨hcall,fun w G vs hG hr=>?_⟩,fun h=>(by cases h)⟩
 have hvl:vs.toList.length=1:=hr.len
 obtain ⟨v,hv⟩ : ∃ v,vs = #[v]:=by
  match hv:vs.toList,hvl with
  | [v],_=>exact ⟨v,by apply Array.ext'; simpa using hv⟩
 subst hv
 obtain ⟨rfl,_⟩:=aR.vv (hr.rep 0 v _ rfl rfl)
 refine (H x z w hF).mono ?_
 rintro en w' ⟨rfl,hx⟩
 exact ⟨_,G,rfl,hx,fun _ h=>h,fun g hg=>Nat.lt_of_lt_of_le (hG g hg) hx.size,fun _ h=>.inl h,.d _ _ (.v _ rfl)⟩
end Go.Proofs.YtaknepbdbappdaaGreat
