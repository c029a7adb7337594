/- My texts, in one. -/
import Derived.Test.YtchddofjajgopaaGreatZB
set_option linter.all false
set_option maxRecDepth 100000
set_option maxHeartbeats 4000000
namespace Go.Proofs.YtchddofjajgopaaGreat
open Go.RowKit
open IntKind (i64)
open Go.Proofs.Tryz (prog)
section
def Le (p p':PS) : Prop:=∀ (n:Nat) (w0:WM) (F0:Nat→Prop) (a:Act) (w:World),nX n w0 F0 p a w→nX n w0 F0 p' a w
theorem Le.refl (p:PS) : Le p p:=fun _ _ _ _ _ h=>h
theorem Le.trans {p p' p'':PS} (h:Le p p') (h':Le p' p'') : Le p p'':=fun n w0 F0 a w hc=>h' n w0 F0 a w (h n w0 F0 a w hc)
theorem ug {P:Program} {n:Nat} {c:Code} {Q:Exit→PS→Prop} {p p':PS} (hl:Le p p') (h:PWP P n c Q p') : PWP P n c Q p:=fun w0 F0 a w hc=>h w0 F0 a w (hl n w0 F0 a w hc)
theorem fm {P:Program} {n:Nat} {c:Code} {Q Q':Exit→PS→Prop} {p:PS} (h:PWP P n c Q p) (hq:∀ e p',Q e p'→∃ p'',Le p' p''∧Q' e p'') : PWP P n c Q' p :=
 fun w0 F0 a w hc=>wp_mono (h w0 F0 a w hc) fun e a' w' ⟨s',h1,h2⟩=>by
  obtain ⟨p'',h3,h4⟩:=hq e s' h1
  exact ⟨p'',h4,h3 n w0 F0 a' w' h2⟩
structure gJ (s:SS) (p:PS) : Prop where
 sl:∀ i,be s.bx (lkV s.sl i) (p.t i)
 bx:∀ t b,lkB s.bx t=some b→mj s.bx true (some b) (p.b t)
theorem mj.some {B:List (Nat×Option a6)} {o o':Bool} {b:a6} {q:Option Box} (h:mj B o (some b) q) : mj B o' (some b) q:=by cases b <;> exact h
theorem Sim.w {s:SS} {p:PS} (h:Sim s p) : gJ s p:=⟨h.sl,fun t b hb=>by have:=h.bx t; rw [hb] at this; exact this.some⟩
mutual
def Wy:SV→PV→PV
 | .junk,_=>.junk
 | .ag cs,.ag qs=>.ag (oG cs qs)
 | .tup cs,.tup qs=>.tup (oG cs qs)
 | .fn _ ps qs,.fn f ps' qs'=>.fn f (oG ps ps') (oG qs qs')
 | _,q=>q
def oG:List SV→List PV→List PV
 | [],_=>[]
 | _,[]=>[]
 | c::cs,q::qs=>Wy c q::oG cs qs
end
def Kl:a6→Box→Box
 | .st _ cs,.st ty qs=>.st ty (oG cs qs)
 | _,b=>b
def xD (s:SS) (p:PS) : PS:=⟨fun i=>Wy (lkV s.sl i) (p.t i),fun t=>match lkB s.bx t with | none=>none | some b=>(p.b t).map (Kl b)⟩
theorem fR:∀ (cs:List SV) (qs:List PV),cs.length=qs.length→(oG cs qs).length=qs.length
 | [],[],_=>rfl
 | [],_ :: _,h=>by simp at h
 | _ :: _,[],h=>by simp at h
 | c::cs,q::qs,h=>by simp only [oG,List.length_cons,fR cs qs (by simpa using h)]
theorem fT:∀ (cs:List SV) (qs:List PV) (j:Nat) (r:PV),(oG cs qs)[j]? = some r→∃ c q,cs[j]? = some c∧qs[j]? = some q∧r=Wy c q
 | [],qs,j,r,h=>by simp [oG] at h
 | _ :: _,[],j,r,h=>by simp [oG] at h
 | c::cs,q::qs,0,r,h=>by simp [oG] at h; exact ⟨c,q,rfl,rfl,h.symm⟩
 | c::cs,q::qs,j + 1,r,h=>by
  simp [oG] at h
  simpa using fT cs qs j r h
theorem Lq {B:List (Nat×Option a6)} {v:SV} {q:PV} (h:be B v q) : be B v (Wy v q):=by
 induction h with
 | junk q=>exact .junk _
 | d c y h=>exact .d c y h
 | ag cs qs hl hr ih =>
  refine .ag cs _ (by rw [fR cs qs hl]; exact hl) (fun j c r h1 h2=>?_)
  obtain ⟨c',q',h3,h4,rfl⟩:=fT cs qs j r h2
  rw [h1] at h3
  injection h3 with h3
  subst h3
  exact ih j c q' h1 h4
 | tup cs qs hl hr ih =>
  refine .tup cs _ (by rw [fR cs qs hl]; exact hl) (fun j c r h1 h2=>?_)
  obtain ⟨c',q',h3,h4,rfl⟩:=fT cs qs j r h2
  rw [h1] at h3
  injection h3 with h3
  subst h3
  exact ih j c q' h1 h4
 | ptr t o ty cs hb=>exact .ptr t o ty cs hb
 | row t n e k ty xs pins hb hn=>exact .row t n e k ty xs pins hb hn
 | re t p o n i e k ty xs pins pin hb hn hp hi=>exact .re t p o n i e k ty xs pins pin hb hn hp hi
 | vw t lo hi n e k ty xs pins hb hn=>exact .vw t lo hi n e k ty xs pins hb hn
 | fe cs ds h hn=>exact .fe cs ds h hn
 | fn f ps qs ps' qs' hl hr hl2 hr2 ih ih2 =>
  refine .fn f ps qs _ _ (by rw [fR ps ps' hl]; exact hl) (fun j c r h1 h2=>?_) (by rw [fR qs qs' hl2]; exact hl2) (fun j c r h1 h2=>?_)
  ·obtain ⟨c',q',h3,h4,rfl⟩:=fT ps ps' j r h2
   rw [h1] at h3
   injection h3 with h3
   subst h3
   exact ih j c q' h1 h4
  ·obtain ⟨c',q',h3,h4,rfl⟩:=fT qs qs' j r h2
   rw [h1] at h3
   injection h3 with h3
   subst h3
   exact ih2 j c q' h1 h4
theorem Wz {B:List (Nat×Option a6)} {cs:List SV} {qs:List PV} (h:bZ B cs qs) : bZ B cs (oG cs qs) :=
 ⟨by rw [fR cs qs h.len]; exact h.len,fun j c r h1 h2=>by
  obtain ⟨c',q',h3,h4,rfl⟩:=fT cs qs j r h2
  rw [h1] at h3
  injection h3 with h3
  subst h3
  exact Lq (h.rep j c q' h1 h4)⟩
section
variable {ρ : Nat→Value} {b b':Nat→Option Box} {w:World} {F:Nat→Prop} {B:List (Nat×Option a6)}
theorem LW (hst:∀ t ty cs ty' qs,lkB B t=some (.st ty cs)→b t=some (.st ty' qs)→∃ ty2 qs2,b' t=some (.st ty2 qs2)) (hrw:∀ t e k ty xs pins,lkB B t=some (.rw e k ty xs pins)→b' t=b t) {v:SV} {q:PV} (hv:be B v q) :
  ∀ {x:Value},aM ρ b w F x q→aM ρ b' w F x (Wy v q):=by
 induction hv with
 | junk q=>exact fun _=>.junk _
 | d c y h =>
  intro x hp
  cases hp with
  | d _ _ h=>exact .d _ _ h
 | ag cs qs hl hr ih =>
  intro x hp
  cases hp with
  | ag xs _ hl2 h1 hr2 =>
   refine .ag xs _ (by rw [fR cs qs hl]; exact hl2) h1 (fun j x r h2 h3=>?_)
   obtain ⟨c,q,h4,h5,rfl⟩:=fT cs qs j r h3
   exact ih j c q h4 h5 (hr2 j x q h2 h5)
 | tup cs qs hl hr ih =>
  intro x hp
  cases hp with
  | tup xs _ hl2 hr2 =>
   refine .tup xs _ (by rw [fR cs qs hl]; exact hl2) (fun j x r h2 h3=>?_)
   obtain ⟨c,q,h4,h5,rfl⟩:=fT cs qs j r h3
   exact ih j c q h4 h5 (hr2 j x q h2 h5)
 | ptr t o ty cs hb =>
  intro x hp
  cases hp with
  | ptr _ _ g ty' qs h1 h2 =>
   obtain ⟨ty2,qs2,h3⟩:=hst t ty cs ty' qs hb h1
   exact .ptr t o g ty2 qs2 h3 h2
 | row t n e k ty xs pins hb hn =>
  intro x hp
  cases hp with
  | row _ _ A c e2 k2 es h1 h2 h3 h4 h5=>exact .row t n A c e2 k2 es (by rw [hrw t e k ty xs pins hb]; exact h1) h2 h3 h4 h5
 | re t p o n i e k ty xs pins pin hb hn hp hi =>
  intro x hx
  cases hx with
  | re _ _ _ _ a e2 k2 es h1 h2 h3 h4=>exact .re t n i o a e2 k2 es (by rw [hrw t e k ty xs pins hb]; exact h1) h2 h3 h4
 | vw t lo hi n e k ty xs pins hb hn=>
  intro x hp
  cases hp with
  | vw _ _ _ _ A m c e2 k2 es h1 h2 h3 h4 h5 h6=>exact .vw t n lo hi A m c e2 k2 es (by rw [hrw t e k ty xs pins hb]; exact h1) h2 h3 h4 h5 h6
 | fe cs ds h hn =>
  intro x hx
  cases hx with
  | fe a _ us h1 h2 h3=>exact .fe a ds us h1 h2 h3
 | fn f ps qs ps' qs' hl hr hl2 hr2 ih ih2 =>
  intro x hx
  cases hx with
  | fn _ xs ys _ _ m1 m2 m3 m4 =>
   refine .fn f xs ys _ _ (by rw [fR ps ps' hl]; exact m1) (fun j x r h2 h3=>?_) (by rw [fR qs qs' hl2]; exact m3) (fun j x r h2 h3=>?_)
   ·obtain ⟨c,q,h4,h5,rfl⟩:=fT ps ps' j r h3
    exact ih j c q h4 h5 (m2 j x q h2 h5)
   ·obtain ⟨c,q,h4,h5,rfl⟩:=fT qs qs' j r h3
    exact ih2 j c q h4 h5 (m4 j x q h2 h5)
end
theorem rF {s:SS} {p:PS} (h:gJ s p) : Sim ⟨s.sl,s.bx,s.pr,s.ro,[]⟩ (xD s p):=by
 refine ⟨fun i=>Lq (h.sl i),fun t=>?_⟩
 show mj s.bx (aD [] t) (lkB s.bx t) (match lkB s.bx t with | none=>none | some b=>(p.b t).map (Kl b))
 cases hb:lkB s.bx t with
 | none=>exact fun _=>rfl
 | some bx =>
  have h1:=h.bx t bx hb
  cases bx with
  | st ty cs =>
   obtain ⟨qs,h2,h3⟩:=h1
   rw [h2]
   exact ⟨oG cs qs,rfl,Wz h3⟩
  | rw e k ty xs pins =>
   obtain ⟨h2,h3⟩:=h1
   rw [h2]
   exact ⟨rfl,h3⟩
theorem A7 {s:SS} {p:PS} (h:gJ s p) : Le p (xD s p):=by
 intro n w0 F0 a w ⟨h1,h2,ρ,F,hi,hev⟩
 have hst:∀ t ty cs ty' qs,lkB s.bx t=some (.st ty cs)→p.b t=some (.st ty' qs)→∃ ty2 qs2,(xD s p).b t=some (.st ty2 qs2):=fun t ty cs ty' qs k1 k2=>by
  refine ⟨ty',oG cs qs,?_⟩
  show (match lkB s.bx t with | none=>none | some b=>(p.b t).map (Kl b)) = _
  rw [k1,k2]; rfl
 have hrw:∀ t e k ty xs pins,lkB s.bx t=some (.rw e k ty xs pins)→(xD s p).b t=p.b t:=fun t e k ty xs pins k1=>by
  show (match lkB s.bx t with | none=>none | some b=>(p.b t).map (Kl b)) = _
  rw [k1,(h.bx t _ k1).1]; rfl
 have hreg:∀ t q,pJ ρ p.b t q→pJ ρ (xD s p).b t q:=fun t q k=>by
  cases hl:lkB s.bx t with
  | none=>exact k.less (.inl (by show (match lkB s.bx t with | none=>none | some b=>(p.b t).map (Kl b)) = _; rw [hl]))
  | some b =>
   have hc:(xD s p).b t=(p.b t).map (Kl b):=by show (match lkB s.bx t with | none=>none | some b=>(p.b t).map (Kl b)) = _; rw [hl]
   cases b with
   | st ty cs =>
    refine k.mono (fun e=>by rw [hc,e]; rfl) (fun ty' qs e=>⟨⟨ty',_,by rw [hc,e]; rfl⟩,rfl⟩) (fun e k' es he=>⟨e,es,by rw [hc,he]; rfl,Nat.le_refl _,fun _=>rfl⟩)
   | rw e k' ty xs pins=>exact k.same (hrw t e k' ty xs pins hl) rfl
 have hb:∀ t Bx,(xD s p).b t=some Bx→∃ b B0,lkB s.bx t=some b∧p.b t=some B0∧Bx=Kl b B0:=fun t Bx k=>by
  have k:(match lkB s.bx t with | none=>none | some b=>(p.b t).map (Kl b))=some Bx:=k
  cases hl:lkB s.bx t with
  | none=>rw [hl] at k; cases k
  | some b =>
   rw [hl] at k
   rw [zm] at k
   obtain ⟨B0,k1,k2⟩:=k
   exact ⟨b,B0,rfl,k1,k2.symm⟩
 refine ⟨h1,h2,ρ,F,⟨hi.ext,hi.f0,hi.flt,hi.fnew,fun t Bx k=>?_,fun t t' Bx Bx' g k1 k2=>?_,fun t q hq=>⟨(hi.reg t q hq).1,hreg t q (hi.reg t q hq).2⟩⟩,fun i=>LW hst hrw (h.sl i) (hev i)⟩
 ·obtain ⟨b,B0,k1,k2,rfl⟩:=hb t Bx k
  have hbx:=hi.box t B0 k2
  have hs:=h.bx t b k1
  cases b with
  | st ty cs =>
   obtain ⟨qs,k3,k4⟩:=hs
   rw [k2] at k3
   injection k3 with k3
   subst k3
   cases hbx with
   | st _ _ g xs hρ hg hF hh hl h1x hr =>
    refine .st ty _ g xs hρ hg hF hh (by rw [fR cs qs k4.len]; exact hl) h1x (fun j x r m1 m2=>?_)
    obtain ⟨c,q,m3,m4,rfl⟩:=fT cs qs j r m2
    exact LW hst hrw (k4.rep j c q m3 m4) (hr j x q m1 m4)
  | rw e k ty xs pins =>
   obtain ⟨k3,_⟩:=hs
   rw [k2] at k3
   injection k3 with k3
   subst k3
   cases hbx with
   | rw _ _ _ xs' hk0 ho hF hk hl hr hown=>exact .rw _ _ _ xs' hk0 ho hF hk hl hr hown
   | gn _ _ _ hρ=>exact .gn _ _ _ hρ
 ·obtain ⟨_,B1,_,m1,_⟩:=hb t Bx k1
  obtain ⟨_,B2,_,m2,_⟩:=hb t' Bx' k2
  exact hi.dist t t' B1 B2 g m1 m2
def aaa (t:Nat) (es:List (List D)) (p:PS) : PS:=⟨fun i=>frz t es (p.t i),fun i=>if i=t then none else (p.b i).map (Be t es)⟩
theorem VZ {p:PS} (t:Nat) {e k:Nat} {es:List (List D)} (hb0:p.b t=some (.rw e k es)) : Le p (aaa t es p):=by
 intro n w0 F0 a w ⟨h1,h2,ρ,F,hi,hev⟩
 have hb':∀ i,(aaa t es p).b i=if i=t then none else (p.b i).map (Be t es):=fun i=>rfl
 have hbt:=(hi.box t _ hb0)
 refine ⟨h1,h2,ρ,fun g=>F g∨blk (ρ t)=some g,⟨hi.ext,fun g hg=>.inl (hi.f0 g hg),?_,?_,fun t' B h=>?_,fun t1 t2 B1 B2 g k1 k2 hne=>?_,hi.reg_frz hb'⟩,fun i=>(hev i).frz hi hb0 hb'⟩
 ·rintro g (hg | hg)
  ·exact hi.flt g hg
  ·exact (hbt.lt hg).1
 ·rintro g (hg | hg)
  ·exact hi.fnew g hg
  ·exact .inr (hbt.lt hg).2.1
 ·rw [hb'] at h
  split at h
  ·cases h
  ·rename_i ht
   rw [zm] at h
   obtain ⟨B0,hB0,rfl⟩:=h
   have hnF:∀ g,blk (ρ t')=some g→¬ (F g∨blk (ρ t)=some g):=by
    rintro g hg (h | h)
    ·exact ((hi.box t' B0 hB0).lt hg).2.2 h
    ·exact hi.dist t' t B0 _ g hB0 hb0 ht hg h
   cases hi.box t' B0 hB0 with
   | st ty cs g xs hρ hg hF hh hl h1 hr =>
    refine .st ty _ g xs hρ hg (hnF g (by rw [hρ]; rfl)) hh (by rw [gV]; exact hl) h1 (fun j x c k1 k2=>?_)
    obtain ⟨d,h4,rfl⟩:=gW t es cs j c k2
    exact (hr j x d k1 h4).frz hi hb0 hb'
   | rw e' k' es' xs hk0 ho hF hk hl hr hown=>exact .rw e' k' es' xs hk0 ho hnF hk hl (fun j x d k1 k2=>(hr j x d k1 k2).mono (fun g h=>.inl h) (fun _ _=>rfl)) hown
   | gn e' k' es' hρ=>exact .gn e' k' es' hρ
 ·rw [hb'] at k1 k2
  split at k1
  ·cases k1
  ·split at k2
   ·cases k2
   ·rw [zm] at k1 k2
    obtain ⟨B1',k1,_⟩:=k1
    obtain ⟨B2',k2,_⟩:=k2
    exact hi.dist t1 t2 B1' B2' g k1 k2 hne
def Wd (t:Nat) (c:SD) : a6→a6
 | .st ty cs=>.st ty (nK t c cs)
 | b=>b
theorem lm (t:Nat) (c:SD) : ∀ (l:List (Nat×Option a6)) (i:Nat),lkB (rP t c l) i=(lkB l i).map (Wd t c)
 | [],_=>rfl
 | (j,none)::l,i=>by simp only [rP,ar,lm t c l i]; split <;> rfl
 | (j,some (.st ty cs))::l,i=>by simp only [rP,ar,lm t c l i]; split <;> rfl
 | (j,some (.rw e k ty xs pins))::l,i=>by simp only [rP,ar,lm t c l i]; split <;> rfl
theorem Dq (t:Nat) (c:SD) : ∀ (l:List (Nat×SV)) (i:Nat),lkV (ES t c l) i=uz t c (lkV l i)
 | [],_=>rfl
 | (j,v)::l,i=>by simp only [ES,cQ,Dq t c l i]; split <;> rfl
theorem mN (t:Nat) (c:SD) : ∀ (cs:List SV) (j:Nat),(nK t c cs)[j]? = (cs[j]?).map (uz t c)
 | [],j=>by simp [nK]
 | v::cs,0=>by simp [nK]
 | v::cs,j + 1=>by simpa [nK] using mN t c cs j
theorem kM (t:Nat) (c:SD) : ∀ cs:List SV,(nK t c cs).length=cs.length
 | []=>rfl
 | v::cs=>by simp [nK,kM t c cs]
theorem be.frz {B B':List (Nat×Option a6)} {t e k:Nat} {ty:Ty} {xs:List ty.den} {pins:List (Nat×Pin)} (ht:lkB B t=some (.rw e k ty xs pins)) (hB:U0 t B B') {v:SV} {q:PV} (h:be B v q) : be B' (uz t (.sl ty xs) v) (Go.Proofs.YtchddofjajgopaaGreat.frz t (xs.map (bR ty)) q):=by
 induction h with
 | junk q=>exact .junk _
 | d c y h=>exact .d c y h
 | ag cs qs hl hr ih =>
  refine .ag _ _ (by rw [kM,gV]; exact hl) (fun j c r h1 h2=>?_)
  rw [mN,zm] at h1
  obtain ⟨c',h3,rfl⟩:=h1
  obtain ⟨q',h4,rfl⟩:=gW _ _ qs j r h2
  exact ih j c' q' h3 h4
 | tup cs qs hl hr ih =>
  refine .tup _ _ (by rw [kM,gV]; exact hl) (fun j c r h1 h2=>?_)
  rw [mN,zm] at h1
  obtain ⟨c',h3,rfl⟩:=h1
  obtain ⟨q',h4,rfl⟩:=gW _ _ qs j r h2
  exact ih j c' q' h3 h4
 | ptr t' o ty2 cs hb=>obtain ⟨ty',cs',h1⟩:=hB.st t' ty2 cs hb; exact .ptr t' o ty' cs' h1
 | row t' n e2 k2 ty2 xs2 pins2 hb hn =>
  simp only [uz,Go.Proofs.YtchddofjajgopaaGreat.frz,cR]
  by_cases h:t' = t
  ·subst h
   rw [ht] at hb
   injection hb with hb
   injection hb with e1 e2 e3 e4 e5
   subst e3
   have e4:=eq_of_heq e4
   subst e4
   simp only [decide_true,if_true,List.length_map,hn]
   exact Od ty xs
  ·simp only [h,decide_false,if_false]
   exact .row t' n e2 k2 ty2 xs2 pins2 (hB.rw t' h _ _ _ _ _ hb) hn
 | re t' p o n i e2 k2 ty2 xs2 pins2 pin hb hn hp hi =>
  simp only [uz,Go.Proofs.YtchddofjajgopaaGreat.frz,cR]
  by_cases h:t' = t
  ·simp only [h,decide_true]; exact .junk _
  ·simp only [h,decide_false,if_false]
   exact .re t' p o n i e2 k2 ty2 xs2 pins2 pin (hB.rw t' h _ _ _ _ _ hb) hn hp hi
 | vw t' lo hi n e2 k2 ty2 xs2 pins2 hb hn=>
  simp only [uz,Go.Proofs.YtchddofjajgopaaGreat.frz,cR]
  by_cases h:t' = t
  ·simp only [h,decide_true]; exact .junk _
  ·simp only [h,decide_false,if_false]
   exact .vw t' lo hi n e2 k2 ty2 xs2 pins2 (hB.rw t' h _ _ _ _ _ hb) hn
 | fe cs ds h hn=>exact .fe cs ds h hn
 | fn f ps qs ps' qs' hl hr hl2 hr2 ih ih2 =>
  refine .fn f _ _ _ _ (by rw [kM,gV]; exact hl) (fun j c r h1 h2=>?_) (by rw [kM,gV]; exact hl2) (fun j c r h1 h2=>?_)
  ·rw [mN,zm] at h1
   obtain ⟨c',h3,rfl⟩:=h1
   obtain ⟨q',h4,rfl⟩:=gW _ _ ps' j r h2
   exact ih j c' q' h3 h4
  ·rw [mN,zm] at h1
   obtain ⟨c',h3,rfl⟩:=h1
   obtain ⟨q',h4,rfl⟩:=gW _ _ qs' j r h2
   exact ih2 j c' q' h3 h4
mutual
theorem Mp {pr:List Nat} {t:Nat} {c:SD} (ht:aD pr t=false) : ∀ v:SV,lb pr v=true→uz t c v=v
 | .junk,_=>rfl
 | .d _,_=>rfl
 | .fe _,_=>rfl
 | .ptr _ _,_=>rfl
 | .row t',h=>by
  have:=En ht (show aD pr t' = true from h)
  simp only [uz,cR,this,decide_false]
 | .re _ _ _,h=>by cases h
 | .vw _ _ _,h=>by cases h
 | .ag cs,h=>by simp only [uz]; rw [rO ht cs h]
 | .tup cs,h=>by simp only [uz]; rw [rO ht cs h]
 | .fn f ps qs,h=>by
  have h:(dV pr ps&&dV pr qs)=true:=h
  rw [Bool.and_eq_true] at h
  simp only [uz]; rw [rO ht ps h.1,rO ht qs h.2]
theorem rO {pr:List Nat} {t:Nat} {c:SD} (ht:aD pr t=false) : ∀ cs:List SV,dV pr cs=true→nK t c cs=cs
 | [],_=>rfl
 | v::cs,h=>by
  simp only [dV,Bool.and_eq_true] at h
  simp only [nK]
  rw [Mp ht v h.1,rO ht cs h.2]
end
mutual
theorem To {t:Nat} {c:SD} : ∀ v:SV,pw v=true→uz t c v=v
 | .junk,_=>rfl
 | .d _,_=>rfl
 | .fe _,_=>rfl
 | .ptr _ _,_=>rfl
 | .row _,h=>by cases h
 | .re _ _ _,h=>by cases h
 | .vw _ _ _,h=>by cases h
 | .ag cs,h=>by simp only [uz]; rw [mM cs h]
 | .tup cs,h=>by simp only [uz]; rw [mM cs h]
 | .fn f ps qs,h=>by
  have h:(match cy ps with | true=>cy qs | false=>false)=true:=h
  split at h
  ·rename_i h1; simp only [uz]; rw [mM ps h1,mM qs h]
  ·cases h
theorem mM {t:Nat} {c:SD} : ∀ cs:List SV,cy cs=true→nK t c cs=cs
 | [],_=>rfl
 | v::cs,h=>by
  simp only [cy] at h
  split at h
  ·rename_i h1
   simp only [nK]
   rw [To v h1,mM cs h]
  ·cases h
end
theorem RS {sc:List Nat} {s s':SS} {p:PS} {t:Nat} (hpr:mf s) (hs:gJ s p) (h:O2 t s=some s') : ∃ p',Le p p'∧gJ s' p'∧∀ W,dA sc W s s':=by
 unfold O2 at h
 split at h
 ·rename_i e k ty xs pins hb
  split at h
  ·rename_i ht
   injection h with h
   subst h
   have hpb:p.b t=some (.rw e k (xs.map (bR ty))):=(hs.bx t _ hb).1
   have hX:U0 t s.bx ((t,none)::rP t (.sl ty xs) s.bx):=by
    refine ⟨fun t' ht' e2 k2 ty2 xs2 pins2 h=>?_,fun t' ty2 cs2 h=>?_⟩
    ·rw [ar,if_neg ht',lm,h]; rfl
    ·have : ¬ t' = t:=fun e=>by rw [e,hb] at h; cases h
     rw [ar,if_neg this,lm,h]
     exact ⟨_,_,rfl⟩
   refine ⟨_,VZ t hpb,⟨fun i=>?_,fun t' b h=>?_⟩,fun W=>⟨rfl,rfl,fun t' ht'=>?_,fun i _ hsf=>?_,fun t' _ ty2 cs2 h=>?_⟩⟩
   ·show be _ (lkV (ES t (.sl ty xs) s.sl) i) (frz t (xs.map (bR ty)) (p.t i))
    rw [Dq]
    exact (hs.sl i).frz hb hX
   ·have h:lkB ((t,none)::rP t (.sl ty xs) s.bx) t' = some b:=h
    rw [ar] at h
    split at h
    ·cases h
    ·rename_i hne
     rw [lm,zm] at h
     obtain ⟨b0,h1,rfl⟩:=h
     have h2:=hs.bx t' b0 h1
     show mj _ true (some (Wd t (.sl ty xs) b0)) (if t' = t then none else (p.b t').map (Be t (xs.map (bR ty))))
     rw [if_neg hne]
     cases b0 with
     | st ty2 cs =>
      obtain ⟨qs,h3,h4⟩:=h2
      rw [h3]
      refine ⟨_,rfl,by rw [kM,gV]; exact h4.len,fun j c r k1 k2=>?_⟩
      rw [mN,zm] at k1
      obtain ⟨c',k3,rfl⟩:=k1
      obtain ⟨q',k4,rfl⟩:=gW _ _ qs j r k2
      exact (h4.rep j c' q' k3 k4).frz hb hX
     | rw e2 k2 ty2 xs2 pins2 =>
      obtain ⟨h3,h4⟩:=h2
      rw [h3]
      exact ⟨rfl,h4⟩
   ·show kO _ (lkB ((t,none)::rP t (.sl ty xs) s.bx) t')
    rw [ar,if_neg (fun e=>by rw [e,ht] at ht'; cases ht'),lm]
    obtain ⟨b',h1,h2⟩:=hpr t' ht'
    rw [h1]
    cases b' with
    | st ty2 cs=>simp only [Option.map_some,Wd]; rw [mM cs h2]; rfl
    | rw e2 k2 ty2 xs2 pins2=>exact ⟨pins2,rfl⟩
   ·show lkV (ES t (.sl ty xs) s.sl) i = _
    rw [Dq]
    exact Mp ht _ hsf
   ·show ∃ cs',lkB ((t,none)::rP t (.sl ty xs) s.bx) t' = _∧_
    rw [ar,if_neg (fun e=>by rw [e,hb] at h; cases h),lm,h]
    exact ⟨_,rfl,kM _ _ cs2⟩
  ·injection h with h
   subst h
   exact ⟨p,.refl p,hs,fun W=>.refl W s⟩
 ·injection h with h
  subst h
  exact ⟨p,.refl p,hs,fun W=>.refl W s⟩
theorem Wc {sc:List Nat} {s s':SS} {p:PS} {t:Nat} (hpr:mf s) (hs:Sim s p) (h:O2 t s=some s') : ∃ p',Le p p'∧Sim s' p'∧(∀ W,dA sc W s s')∧s'.oc=s.oc:=by
 unfold O2 at h
 split at h
 ·rename_i e k ty xs pins hb
  split at h
  ·rename_i ht
   have h0:O2 t s=some s':=by unfold O2; rw [hb]; simp only; rw [ht]; exact h
   injection h with h
   have hpb:p.b t=some (.rw e k (xs.map (bR ty))):=by have:=hs.bx t; rw [hb] at this; exact this.1
   obtain ⟨p2,k1,k2,k3⟩:=RS (sc:=sc) hpr hs.w h0
   have hX:U0 t s.bx ((t,none)::rP t (.sl ty xs) s.bx):=by
    refine ⟨fun t' ht' e2 k2 ty2 xs2 pins2 h=>?_,fun t' ty2 cs2 h=>?_⟩
    ·rw [ar,if_neg ht',lm,h]; rfl
    ·have : ¬ t' = t:=fun e=>by rw [e,hb] at h; cases h
     rw [ar,if_neg this,lm,h]
     exact ⟨_,_,rfl⟩
   subst h
   refine ⟨_,VZ t hpb,⟨fun i=>?_,fun t'=>?_⟩,k3,rfl⟩
   ·show be _ (lkV (ES t (.sl ty xs) s.sl) i) (frz t (xs.map (bR ty)) (p.t i))
    rw [Dq]
    exact (hs.sl i).frz hb hX
   ·show mj _ (aD s.oc t') (lkB ((t,none)::rP t (.sl ty xs) s.bx) t') (if t' = t then none else (p.b t').map (Be t (xs.map (bR ty))))
    rw [ar]
    by_cases hne:t' = t
    ·rw [if_pos hne,if_pos hne]; exact fun _=>rfl
    ·rw [if_neg hne,if_neg hne,lm]
     have h2:=hs.bx t'
     cases hl:lkB s.bx t' with
     | none=>rw [hl] at h2; exact fun ho=>by rw [h2 ho]; rfl
     | some b0 =>
      rw [hl] at h2
      cases b0 with
      | st ty2 cs =>
       obtain ⟨qs,h3,h4⟩:=h2
       rw [h3]
       refine ⟨_,rfl,by rw [kM,gV]; exact h4.len,fun j c r k1 k2=>?_⟩
       rw [mN,zm] at k1
       obtain ⟨c',k3,rfl⟩:=k1
       obtain ⟨q',k4,rfl⟩:=gW _ _ qs j r k2
       exact (h4.rep j c' q' k3 k4).frz hb hX
      | rw e2 k2 ty2 xs2 pins2 =>
       obtain ⟨h3,h4⟩:=h2
       rw [h3]
       exact ⟨rfl,h4⟩
  ·injection h with h
   subst h
   exact ⟨p,.refl p,hs,fun W=>.refl W s,rfl⟩
 ·injection h with h
  subst h
  exact ⟨p,.refl p,hs,fun W=>.refl W s,rfl⟩
theorem xw {sc:List Nat} : ∀ {l:List Nat} {s s':SS} {p:PS},mf s→Sim s p→lu l s=some s'→∃ p',Le p p'∧Sim s' p'∧(∀ W,dA sc W s s')∧s'.oc=s.oc
 | [],s,s',p,_,hs,h=>by injection h with h; subst h; exact ⟨p,.refl p,hs,fun W=>.refl W s,rfl⟩
 | t::l,s,s',p,hpr,hs,h=>by
  simp only [lu] at h
  split at h
  ·rename_i s1 h1
   obtain ⟨p1,k1,k2,k3,k4⟩:=Wc (sc:=sc) hpr hs h1
   obtain ⟨p2,m1,m2,m3,m4⟩:=xw (sc:=sc) ((k3 []).prOk hpr) k2 h
   exact ⟨p2,k1.trans m1,m2,fun W=>(k3 W).trans (m3 W),m4.trans k4⟩
  ·cases h
theorem rQ {sc:List Nat} : ∀ {l:List Nat} {s s':SS} {p:PS},mf s→gJ s p→lu l s=some s'→∃ p',Le p p'∧gJ s' p'∧∀ W,dA sc W s s'
 | [],s,s',p,_,hs,h=>by injection h with h; subst h; exact ⟨p,.refl p,hs,fun W=>.refl W s⟩
 | t::l,s,s',p,hpr,hs,h=>by
  simp only [lu] at h
  split at h
  ·rename_i s1 h1
   obtain ⟨p1,k1,k2,k3⟩:=RS hpr hs h1
   obtain ⟨p2,k4,k5,k6⟩:=rQ ((k3 []).prOk hpr) k2 h
   exact ⟨p2,k1.trans k4,k5,fun W=>(k3 W).trans (k6 W)⟩
  ·cases h
mutual
def fzp (t:Nat) (ds:List D) : PV→PV
 | .ptr t' o=>if t' = t then .fe (ds.drop o) else .ptr t' o
 | .ag cs=>.ag (EO t ds cs)
 | .tup cs=>.tup (EO t ds cs)
 | .fn f ps qs=>.fn f (EO t ds ps) (EO t ds qs)
 | p=>p
def EO (t:Nat) (ds:List D) : List PV→List PV
 | []=>[]
 | c::cs=>fzp t ds c::EO t ds cs
end
def EP (t:Nat) (ds:List D) : Box→Box
 | .st ty cs=>.st ty (EO t ds cs)
 | B=>B
def Z9 (t:Nat) (ds:List D) (p:PS) : PS:=⟨fun i=>fzp t ds (p.t i),fun i=>if i=t then none else (p.b i).map (EP t ds)⟩
theorem iT (t:Nat) (ds:List D) : ∀ cs:List PV,(EO t ds cs).length=cs.length
 | []=>rfl
 | c::cs=>by simp [EO,iT t ds cs]
theorem iU (t:Nat) (ds:List D) : ∀ (cs:List PV) (j:Nat) (c:PV),(EO t ds cs)[j]? = some c→∃ d,cs[j]? = some d∧c=fzp t ds d
 | [],j,c,h=>by simp [EO] at h
 | d::cs,j,c,h=>by
  simp only [EO] at h
  cases j with
  | zero=>simp at h; exact ⟨d,rfl,h.symm⟩
  | succ j=>simp at h; simpa using iU t ds cs j c h
section
variable {ρ : Nat→Value} {b b':Nat→Option Box} {w:World} {F F0:Nat→Prop} {w0:WM}
theorem aM.fzp {x:Value} {p:PV} {t:Nat} {ty:TypeId} {cs:List PV} {ds:List D} (hi:Inv w0 F0 ρ b w F) (hb:b t=some (.st ty cs)) (hl:ds.length=cs.length) (hc:∀ (j:Nat) d,ds[j]? = some d→∃ y,cs[j]? = some (.d y)∧nrm y=d) (hb':∀ i,b' i=if i=t then none else (b i).map (EP t ds)) (h:aM ρ b w F x p) :
  aM ρ b' w (fun g=>F g∨blk (ρ t)=some g) x (Go.Proofs.YtchddofjajgopaaGreat.fzp t ds p):=by
 have hF:∀ g,F g→(F g∨blk (ρ t)=some g):=fun g h=>.inl h
 induction h with
 | junk x=>exact .junk x
 | d x d h=>exact .d x d (h.mono hF (fun _ _=>rfl))
 | ag xs cs hl h1 hr ih =>
  refine .ag xs _ (by rw [iT]; exact hl) h1 (fun j x c h2 h3=>?_)
  obtain ⟨d,h4,rfl⟩:=iU t ds cs j c h3
  exact ih j x d h2 h4
 | tup xs cs hl hr ih =>
  refine .tup xs _ (by rw [iT]; exact hl) (fun j x c h2 h3=>?_)
  obtain ⟨d,h4,rfl⟩:=iU t ds cs j c h3
  exact ih j x d h2 h4
 | fn f xs ys ps qs hl hr hl2 hr2 ih ih2 =>
  refine .fn f xs ys _ _ (by rw [iT]; exact hl) (fun j x c h2 h3=>?_) (by rw [iT]; exact hl2) (fun j x c h2 h3=>?_)
  ·obtain ⟨d,h4,rfl⟩:=iU t ds ps j c h3
   exact ih j x d h2 h4
  ·obtain ⟨d,h4,rfl⟩:=iU t ds qs j c h3
   exact ih2 j x d h2 h4
 | row t' m A cc e' k' es' hb2 hn hcc hA hρ =>
  have:t'≠t:=fun e=>by rw [e,hb] at hb2; cases hb2
  exact .row t' m A cc e' k' es' (by rw [hb',if_neg this,hb2]; rfl) hn hcc hA hρ
 | re t' m i o a e' k' es' hb2 hn hi' hρ =>
  have:t'≠t:=fun e=>by rw [e,hb] at hb2; cases hb2
  exact .re t' m i o a e' k' es' (by rw [hb',if_neg this,hb2]; rfl) hn hi' hρ
 | vw t' m lo hi' A mm cc e' k' es' hb2 hn hl hh hm hρ=>
  have:t'≠t:=fun e=>by rw [e,hb] at hb2; cases hb2
  exact .vw t' m lo hi' A mm cc e' k' es' (by rw [hb',if_neg this,hb2]; rfl) hn hl hh hm hρ
 | fe a cs us hF' hcell hrep=>exact .fe a cs us (.inl hF') hcell (fun j d h=>(hrep j d h).mono hF (fun _ _=>rfl))
 | ptr t' off g ty' cs' hb2 hρ =>
  simp only [Go.Proofs.YtchddofjajgopaaGreat.fzp]
  by_cases ht:t' = t
  ·subst ht
   rw [if_pos rfl]
   cases hi.box t' _ hb with
   | st _ _ g' xs hρ' hg hFg hh hlx h1 hr =>
    rw [hρ] at hρ'
    injection hρ' with e
    injection e with e
    injection e with e
    subst e
    have key:∀ (j:Nat) d,(ds.drop off)[j]? = some d→∃ u,w.cell? ⟨g,off + j,none⟩=some u∧ed w F u d:=fun j d hj=>by
     rw [List.getElem?_drop] at hj
     obtain ⟨y,k1,k2⟩:=hc _ d hj
     have hlt:off + j < xs.size:=by rw [hlx,← hl]; exact (zg.1 hj).1
     have k3:=hr (off + j) xs[off + j] _ (by simp [hlt]) k1
     refine ⟨xs[off + j],by rw [cell_of_row w g (off + j) xs ty (0,0) hh]; simp [hlt],?_⟩
     rw [← k2]
     exact k3.dd.nrm
    refine .fe _ _ (fun j=>(w.cell? ⟨g,off + j,none⟩).getD undef) (.inr (by rw [hρ]; rfl)) (fun j d hj=>?_) (fun j d hj=>?_)
    ·obtain ⟨u,k1,_⟩:=key j d hj
     rw [qY,k1]; rfl
    ·obtain ⟨u,k1,k2⟩:=key j d hj
     rw [k1]
     exact k2.mono hF (fun _ _=>rfl)
  ·rw [if_neg ht]
   exact .ptr t' off g ty' _ (by rw [hb',if_neg ht,hb2]; rfl) hρ
end
theorem Inv.reg_fzp {ρ : Nat→Value} {b b':Nat→Option Box} {w:World} {w0:WM} {F F0:Nat→Prop} {t:Nat} {ds:List D} (hi:Inv w0 F0 ρ b w F) (hb':∀ i,b' i=if i=t then none else (b i).map (EP t ds)) : ∀ i q,w0.R i=some q→1000000≤i∧pJ ρ b' i q:=by
 intro i q h
 obtain ⟨h1,h2⟩:=hi.reg i q h
 refine ⟨h1,?_⟩
 by_cases hit:i=t
 ·exact h2.less (.inl (by rw [hb',if_pos hit]))
 ·refine h2.mono (fun e=>by rw [hb',if_neg hit,e]; rfl) (fun ty cs e=>⟨⟨ty,_,by rw [hb',if_neg hit,e]; rfl⟩,rfl⟩) (fun e k es' he=>⟨e,es',by rw [hb',if_neg hit,he]; rfl,Nat.le_refl _,fun _=>rfl⟩)
theorem Zz {p:PS} (t:Nat) {ty:TypeId} {cs:List PV} {ds:List D} (hb0:p.b t=some (.st ty cs)) (hl:ds.length=cs.length) (hc:∀ (j:Nat) d,ds[j]? = some d→∃ y,cs[j]? = some (.d y)∧nrm y=d) : Le p (Z9 t ds p):=by
 intro n w0 F0 a w ⟨h1,h2,ρ,F,hi,hev⟩
 have hb':∀ i,(Z9 t ds p).b i=if i=t then none else (p.b i).map (EP t ds):=fun i=>rfl
 have hbt:=(hi.box t _ hb0)
 refine ⟨h1,h2,ρ,fun g=>F g∨blk (ρ t)=some g,⟨hi.ext,fun g hg=>.inl (hi.f0 g hg),?_,?_,fun t' B h=>?_,fun t1 t2 B1 B2 g k1 k2 hne=>?_,hi.reg_fzp hb'⟩,fun i=>(hev i).fzp hi hb0 hl hc hb'⟩
 ·rintro g (hg | hg)
  ·exact hi.flt g hg
  ·exact (hbt.lt hg).1
 ·rintro g (hg | hg)
  ·exact hi.fnew g hg
  ·exact .inr (hbt.lt hg).2.1
 ·rw [hb'] at h
  split at h
  ·cases h
  ·rename_i ht
   rw [zm] at h
   obtain ⟨B0,hB0,rfl⟩:=h
   have hnF:∀ g,blk (ρ t')=some g→¬ (F g∨blk (ρ t)=some g):=by
    rintro g hg (h | h)
    ·exact ((hi.box t' B0 hB0).lt hg).2.2 h
    ·exact hi.dist t' t B0 _ g hB0 hb0 ht hg h
   cases hi.box t' B0 hB0 with
   | st ty cs g xs hρ hg hF hh hl2 h1 hr =>
    refine .st ty _ g xs hρ hg (hnF g (by rw [hρ]; rfl)) hh (by rw [iT]; exact hl2) h1 (fun j x c k1 k2=>?_)
    obtain ⟨d,h4,rfl⟩:=iU t ds cs j c k2
    exact (hr j x d k1 h4).fzp hi hb0 hl hc hb'
   | rw e' k' es' xs hk0 ho hF hk hl hr hown=>exact .rw e' k' es' xs hk0 ho hnF hk hl (fun j x d k1 k2=>(hr j x d k1 k2).mono (fun g h=>.inl h) (fun _ _=>rfl)) hown
   | gn e' k' es' hρ=>exact .gn e' k' es' hρ
 ·rw [hb'] at k1 k2
  split at k1
  ·cases k1
  ·split at k2
   ·cases k2
   ·rw [zm] at k1 k2
    obtain ⟨B1',k1,_⟩:=k1
    obtain ⟨B2',k2,_⟩:=k2
    exact hi.dist t1 t2 B1' B2' g k1 k2 hne
def RT (t:Nat) (c:List SD) : a6→a6
 | .st ty cs=>.st ty (pA t c cs)
 | b=>b
theorem oS (t:Nat) (c:List SD) : ∀ (l:List (Nat×Option a6)) (i:Nat),lkB (rR t c l) i=(lkB l i).map (RT t c)
 | [],_=>rfl
 | (j,none)::l,i=>by simp only [rR,ar,oS t c l i]; split <;> rfl
 | (j,some (.st ty cs))::l,i=>by simp only [rR,ar,oS t c l i]; split <;> rfl
 | (j,some (.rw e k ty xs pins))::l,i=>by simp only [rR,ar,oS t c l i]; split <;> rfl
theorem JV (t:Nat) (c:List SD) : ∀ (l:List (Nat×SV)) (i:Nat),lkV (ET t c l) i=xx t c (lkV l i)
 | [],_=>rfl
 | (j,v)::l,i=>by simp only [ET,cQ,JV t c l i]; split <;> rfl
theorem im (t:Nat) (c:List SD) : ∀ (cs:List SV) (j:Nat),(pA t c cs)[j]? = (cs[j]?).map (xx t c)
 | [],j=>by simp [pA]
 | v::cs,0=>by simp [pA]
 | v::cs,j + 1=>by simpa [pA] using im t c cs j
theorem fO (t:Nat) (c:List SD) : ∀ cs:List SV,(pA t c cs).length=cs.length
 | []=>rfl
 | v::cs=>by simp [pA,fO t c cs]
structure aas (t:Nat) (B B':List (Nat×Option a6)) : Prop where
 rw:∀ t' e k ty xs pins,lkB B t' = some (.rw e k ty xs pins)→lkB B' t' = some (.rw e k ty xs pins)
 st:∀ t',t'≠t→∀ ty cs,lkB B t' = some (.st ty cs)→∃ ty' cs',lkB B' t' = some (.st ty' cs')
theorem be.frp {B B':List (Nat×Option a6)} {t:Nat} {ds:List SD} (hn:∀ c∈ds,c≠.nl) (hB:aas t B B') {v:SV} {q:PV} (h:be B v q) : be B' (xx t ds v) (fzp t (ds.map SD.toD) q):=by
 induction h with
 | junk q=>exact .junk _
 | d c y h=>exact .d c y h
 | ag cs qs hl hr ih =>
  refine .ag _ _ (by rw [fO,iT]; exact hl) (fun j c r h1 h2=>?_)
  rw [im,zm] at h1
  obtain ⟨c',h3,rfl⟩:=h1
  obtain ⟨q',h4,rfl⟩:=iU _ _ qs j r h2
  exact ih j c' q' h3 h4
 | tup cs qs hl hr ih =>
  refine .tup _ _ (by rw [fO,iT]; exact hl) (fun j c r h1 h2=>?_)
  rw [im,zm] at h1
  obtain ⟨c',h3,rfl⟩:=h1
  obtain ⟨q',h4,rfl⟩:=iU _ _ qs j r h2
  exact ih j c' q' h3 h4
 | fn f ps qs ps' qs' hl hr hl2 hr2 ih ih2 =>
  refine .fn f _ _ _ _ (by rw [fO,iT]; exact hl) (fun j c r h1 h2=>?_) (by rw [fO,iT]; exact hl2) (fun j c r h1 h2=>?_)
  ·rw [im,zm] at h1
   obtain ⟨c',h3,rfl⟩:=h1
   obtain ⟨q',h4,rfl⟩:=iU _ _ ps' j r h2
   exact ih j c' q' h3 h4
  ·rw [im,zm] at h1
   obtain ⟨c',h3,rfl⟩:=h1
   obtain ⟨q',h4,rfl⟩:=iU _ _ qs' j r h2
   exact ih2 j c' q' h3 h4
 | ptr t' o ty2 cs hb =>
  simp only [xx,fzp,cR]
  by_cases h:t' = t
  ·simp only [h,decide_true,if_true]
   exact .fe _ _ (by rw [List.map_drop]) (fun c hc=>hn c (List.mem_of_mem_drop hc))
  ·simp only [h,decide_false,if_false]
   obtain ⟨ty',cs',h1⟩:=hB.st t' h ty2 cs hb
   exact .ptr t' o ty' cs' h1
 | row t' n e2 k2 ty2 xs2 pins2 hb hn=>exact .row t' n e2 k2 ty2 xs2 pins2 (hB.rw t' _ _ _ _ _ hb) hn
 | re t' p o n i e2 k2 ty2 xs2 pins2 pin hb hn hp hi=>exact .re t' p o n i e2 k2 ty2 xs2 pins2 pin (hB.rw t' _ _ _ _ _ hb) hn hp hi
 | vw t' lo hi n e2 k2 ty2 xs2 pins2 hb hn=>exact .vw t' lo hi n e2 k2 ty2 xs2 pins2 (hB.rw t' _ _ _ _ _ hb) hn
 | fe cs ds h hn=>exact .fe cs ds h hn
theorem vB {cs cs':List SV} (hl:cs'.length=cs.length) (h:∀ (j:Nat) c,cs[j]? = some c→cs'[j]? = some c) : cs' = cs:=by
 apply List.ext_getElem?
 intro j
 cases hj:cs[j]? with
 | none=>rw [List.getElem?_eq_none_iff] at hj ⊢; omega
 | some c=>exact h j c hj
theorem Yb {B:List (Nat×Option a6)} {t:Nat} {ds:List SD} (ht:lkB B t=none) {v:SV} {q:PV} (h:be B v q) : xx t ds v=v:=by
 induction h with
 | ag cs qs hl hr ih =>
  simp only [xx]
  rw [vB (fO _ _ _) fun j c hj=>?_]
  rw [im,hj,Option.map_some,ih j c (qs[j]'(by rw [← hl]; exact (zg.1 hj).1)) hj (by simp)]
 | tup cs qs hl hr ih =>
  simp only [xx]
  rw [vB (fO _ _ _) fun j c hj=>?_]
  rw [im,hj,Option.map_some,ih j c (qs[j]'(by rw [← hl]; exact (zg.1 hj).1)) hj (by simp)]
 | fn f ps qs ps' qs' hl hr hl2 hr2 ih ih2 =>
  simp only [xx]
  rw [vB (cs:=ps) (fO _ _ _) fun j c hj=>?_,vB (cs:=qs) (fO _ _ _) fun j c hj=>?_]
  ·rw [im,hj,Option.map_some,ih2 j c (qs'[j]'(by rw [← hl2]; exact (zg.1 hj).1)) hj (by simp)]
  ·rw [im,hj,Option.map_some,ih j c (ps'[j]'(by rw [← hl]; exact (zg.1 hj).1)) hj (by simp)]
 | ptr t' o ty cs hb =>
  have : ¬ t' = t:=fun e=>by rw [e,ht] at hb; cases hb
  simp only [xx,cR,this,decide_false]
 | _=>rfl
mutual
theorem Tp {t:Nat} {c:List SD} : ∀ v:SV,pw v=true→xx t c v=v
 | .junk,_=>rfl
 | .d _,_=>rfl
 | .fe _,_=>rfl
 | .ptr _ _,h=>by cases h
 | .row _,h=>by cases h
 | .re _ _ _,h=>by cases h
 | .vw _ _ _,h=>by cases h
 | .ag cs,h=>by simp only [xx]; rw [kv cs h]
 | .tup cs,h=>by simp only [xx]; rw [kv cs h]
 | .fn f ps qs,h=>by
  have h:(match cy ps with | true=>cy qs | false=>false)=true:=h
  split at h
  ·rename_i h1; simp only [xx]; rw [kv ps h1,kv qs h]
  ·cases h
theorem kv {t:Nat} {c:List SD} : ∀ cs:List SV,cy cs=true→pA t c cs=cs
 | [],_=>rfl
 | v::cs,h=>by
  simp only [cy] at h
  split at h
  ·rename_i h1
   simp only [pA]
   rw [Tp v h1,kv cs h]
  ·cases h
end
theorem HV:∀ {ds:List SD},Zw ds=true→∀ c∈ds,c≠.nl
 | [],_,c,h=>by cases h
 | d::ds,h,c,hc=>by
  rcases List.mem_cons.1 hc with rfl | hc'
  ·intro e; subst e; cases h
  ·cases d with
   | nl=>cases h
   | _=>exact HV (ds:=ds) h c hc'
theorem D5:∀ {cs:List SV} {ds:List SD},tF cs=some ds→cs.length=ds.length∧∀ (j:Nat) d,ds[j]? = some d→cs[j]? = some (.d d)
 | [],ds,h=>by injection h with h; subst h; exact ⟨rfl,fun j d hj=>by simp at hj⟩
 | v::cs,ds,h=>by
  simp only [tF] at h
  split at h
  ·rename_i c l hc hl
   injection h with h
   subst h
   obtain ⟨h1,h2⟩:=D5 hl
   refine ⟨by simp [h1],fun j d hj=>?_⟩
   cases j with
   | zero =>
    simp at hj
    subst hj
    cases v <;> simp [Zm] at hc
    subst hc
    rfl
   | succ j=>simp at hj; simpa using h2 j d hj
  ·cases h
theorem ZC {sc W:List Nat} {s0 s s':SS} {p0 p:PS} {t:Nat} (hpr:mf s) (h0:gJ s0 p0) (hnew:lkB s0.bx t=none) (hk:dA sc W s0 s) (hs:gJ s p) (h:fbX sc t s=some s') : ∃ p',Le p p'∧gJ s' p'∧dA sc W s0 s'∧mf s':=by
 unfold fbX at h
 split at h
 ·rename_i ty cs hb
  split at h
  ·rename_i ds hds
   obtain ⟨h1,h2⟩:=ao h
   injection h2 with h2
   subst h2
   rw [Bool.and_eq_true,Bool.and_eq_true] at h1
   obtain ⟨h1,h3,h4⟩:=h1
   have h3:aD s.pr t=false:=by simpa using h3
   have h4:aD sc t=false:=by simpa using h4
   have hnl:=HV h1
   obtain ⟨hlen,hget⟩:=D5 hds
   obtain ⟨qs,hq,hqs⟩:=hs.bx t _ hb
   have hc:∀ (j:Nat) d,(ds.map SD.toD)[j]? = some d→∃ y,qs[j]? = some (.d y)∧nrm y=d:=fun j d hj=>by
    rw [List.getElem?_map,zm] at hj
    obtain ⟨c,hc,rfl⟩:=hj
    have hc2:=hget j c hc
    have hlt:j < qs.length:=by rw [← hqs.len]; exact (zg.1 hc2).1
    have:=hqs.rep j _ qs[j] hc2 (by simp)
    rw [zq hlt]
    revert this
    generalize qs[j] = q
    intro this
    cases this with
    | d _ y hd=>exact ⟨y,rfl,hd.nrm⟩
   have hl:(ds.map SD.toD).length=qs.length:=by rw [List.length_map,← hlen,hqs.len]
   have hX:aas t s.bx ((t,none)::rR t ds s.bx):=by
    refine ⟨fun t' e k ty2 xs pins h=>?_,fun t' ht' ty2 cs2 h=>?_⟩
    ·have : ¬ t' = t:=fun e=>by rw [e,hb] at h; cases h
     rw [ar,if_neg this,oS,h]; rfl
    ·rw [ar,if_neg ht',oS,h]; exact ⟨_,_,rfl⟩
   have hkp:dA sc W s0 ⟨ET t ds s.sl,(t,none)::rR t ds s.bx,s.pr,s.ro,s.oc⟩:=by
    refine ⟨hk.pr,hk.ro,fun t' ht'=>?_,fun i hi hsf=>?_,fun t' ht' ty2 cs2 h=>?_⟩
    ·have hpt:aD s.pr t' = true:=by rw [hk.pr]; exact ht'
     refine (hk.bx t' ht').trans ?_
     show kO _ (lkB ((t,none)::rR t ds s.bx) t')
     rw [ar,if_neg (fun e=>by rw [e,h3] at hpt; cases hpt),oS]
     obtain ⟨b',k1,k2⟩:=hpr t' hpt
     rw [k1]
     cases b' with
     | st ty2 cs=>simp only [Option.map_some,RT]; rw [kv cs k2]; rfl
     | rw e2 k2 ty2 xs2 pins2=>exact ⟨pins2,rfl⟩
    ·show lkV (ET t ds s.sl) i = _
     rw [JV,hk.sl i hi hsf]
     exact Yb hnew (h0.sl i)
    ·obtain ⟨cs',k1,k2⟩:=hk.st t' ht' ty2 cs2 h
     show ∃ cs',lkB ((t,none)::rR t ds s.bx) t' = _∧_
     rw [ar,if_neg (fun e=>by rw [e,h4] at ht'; cases ht'),oS,k1]
     exact ⟨_,rfl,by rw [fO]; exact k2⟩
   refine ⟨_,Zz t hq hl hc,⟨fun i=>?_,fun t' b h=>?_⟩,hkp,fun t' ht'=>?_⟩
   ·show be _ (lkV (ET t ds s.sl) i) (fzp t (ds.map SD.toD) (p.t i))
    rw [JV]
    exact (hs.sl i).frp hnl hX
   ·have h:lkB ((t,none)::rR t ds s.bx) t' = some b:=h
    rw [ar] at h
    split at h
    ·cases h
    ·rename_i hne
     rw [oS,zm] at h
     obtain ⟨b0,h1,rfl⟩:=h
     have h2:=hs.bx t' b0 h1
     show mj _ true (some (RT t ds b0)) (if t' = t then none else (p.b t').map (EP t (ds.map SD.toD)))
     rw [if_neg hne]
     cases b0 with
     | st ty2 cs =>
      obtain ⟨qs,h3,h4⟩:=h2
      rw [h3]
      refine ⟨_,rfl,by rw [fO,iT]; exact h4.len,fun j c r k1 k2=>?_⟩
      rw [im,zm] at k1
      obtain ⟨c',k3,rfl⟩:=k1
      obtain ⟨q',k4,rfl⟩:=iU _ _ qs j r k2
      exact (h4.rep j c' q' k3 k4).frp hnl hX
     | rw e2 k2 ty2 xs2 pins2 =>
      obtain ⟨h3,h4⟩:=h2
      rw [h3]
      exact ⟨rfl,h4⟩
   ·obtain ⟨b',k1,k2⟩:=hpr t' ht'
    show ∃ b,lkB ((t,none)::rR t ds s.bx) t' = some b∧_
    rw [ar,if_neg (fun e=>by rw [e,h3] at ht'; cases ht'),oS,k1]
    refine ⟨_,rfl,?_⟩
    cases b' with
    | st ty2 cs=>simp only [RT]; rw [kv cs k2]; exact k2
    | rw e2 k2 ty2 xs2 pins2=>rfl
  ·cases h
 ·cases h
theorem Mx {sc W:List Nat} {s0:SS} {p0:PS} (h0:gJ s0 p0) : ∀ {l:List Nat} {s s':SS} {p:PS},mf s→R6 s0 l=true→dA sc W s0 s→gJ s p→It sc l s=some s'→∃ p',Le p p'∧gJ s' p'∧dA sc W s0 s'
 | [],s,s',p,_,_,hk,hs,h=>by injection h with h; subst h; exact ⟨p,.refl p,hs,hk⟩
 | t::l,s,s',p,hpr,hn,hk,hs,h=>by
  simp only [It] at h
  simp only [R6] at hn
  split at hn
  ·rename_i hnew
   split at h
   ·rename_i s1 h1
    obtain ⟨p1,k1,k2,k3,k4⟩:=ZC hpr h0 hnew hk hs h1
    obtain ⟨p2,m1,m2,m3⟩:=Mx h0 k4 hn k3 k2 h
    exact ⟨p2,k1.trans m1,m2,m3⟩
   ·cases h
  ·cases hn
end
section
theorem DU {m:Nat} {ops:Array Oper} (h:Ly m ops=true) {i k:Nat} (hi:i < ops.size) (hm : ¬ i < m) (hk:k < i) : yL ops 4 i k=true:=by
 unfold Ly at h
 rw [List.all_eq_true] at h
 have h:=h i (List.mem_range.2 hi)
 simp only [Bool.or_eq_true,decide_eq_true_eq,List.all_eq_true] at h
 exact (h.resolve_left hm) k (List.mem_range.2 hk)
section
variable {P:Program} {w0:WM} {F0:Nat→Prop} {n:Nat} {ops:Array Oper} {Q:Exit→Act→World→Prop}
def TU (P:Program) (ops:Array Oper) : List Nat→PS→(PS→Prop)→Prop
 | [],s,K=>K s
 | i::l,s,K=>∃ s1,Le s s1∧∃ o r u,ops[i]? = some o∧Eff P ops o s1 r u∧TU P ops l (s1.updL o.dst r u) K
theorem Sq {bd:Nat→Bd} {mT:Nat} {Qs:Exit→PS→Prop} (hQ:∀ e s a w,Qs e s→nX n w0 F0 s a w→Q e a w) (hB:Fo bd n ops=true) (hT:Ly mT ops=true) : ∀ (m:Nat) (l lt:List Nat) (listed:Array Bool) (s:PS) (a:Act) (w:World),(l++lt).length=m→(l++lt).Pairwise (· < ·)→(∀ j∈l,j < mT)→(∀ j∈lt,¬ j < mT)→(∀ j,j∈l++lt↔(j < ops.size∧listed.getD j true=false))→listed.size=ops.size→Q7 ops listed →
  FM P ops bd l s (fun s'=>TU P ops lt s' (Qs .normal))→nX n w0 F0 s a w→wpAny P .any ops Q m listed a w
 | 0,l,lt,listed,s,a,w,hl,_,_,_,hm,hls,_,h,hc=>by
  have h0:l++lt = []:=List.eq_nil_of_length_eq_zero hl
  obtain ⟨rfl,rfl⟩:=List.append_eq_nil_iff.1 h0
  refine ⟨?_,hQ _ s a w h hc⟩
  rw [List.eq_nil_iff_forall_not_mem]
  intro j hj
  obtain ⟨h1,o,h2,_⟩:=mem_ready.1 hj
  have:=(hm j).2 ⟨(Array.getElem?_eq_some_iff.1 h2).1,h1⟩
  simp at this
 | m + 1,l,lt,listed,s,a,w,hl,hs,hlm,hltm,hm,hls,hcl,h,hc=>by
  have notdone:∀ {k:Nat},k∈l++lt→listed.getD k false=false:=fun {k} hk=>by
   have h1:=(hm k).1 hk
   have hsz:k < listed.size:=by rw [hls]; exact h1.1
   have h2:=h1.2
   simp [hsz] at h2 ⊢
   exact h2
  refine ⟨fun h0=>?_,fun i hi=>?_⟩
  ·exfalso
   cases hll:l++lt with
   | nil=>rw [hll] at hl; simp at hl
   | cons k ls =>
    have hk:=(hm k).1 (by rw [hll]; simp)
    have hok:ops[k]? = some ops[k]:=Array.getElem?_eq_getElem hk.1
    have:k∈Region.ready .any ops listed:=by
     refine mem_ready.2 ⟨hk.2,_,hok,fun e he hb=>?_⟩
     have hlt:=(mP hB hok).2.1 e he hb
     cases hx:listed.getD e.on false with
     | true=>rfl
     | false =>
      exfalso
      have hsz:e.on < listed.size:=by rw [hls]; omega
      have h2:listed.getD e.on true=false:=by
       simp [hsz] at hx ⊢; exact hx
      have h3:=(hm e.on).2 ⟨by omega,h2⟩
      rw [hll] at h3 hs
      rcases List.mem_cons.1 h3 with h | h
      ·omega
      ·have:=(List.pairwise_cons.1 hs).1 _ h
       omega
    rw [h0] at this
    cases this
  ·obtain ⟨hun,oi,hoi,hall⟩:=mem_ready.1 hi
   have hisz:=(Array.getElem?_eq_some_iff.1 hoi).1
   have hin:i∈l++lt:=(hm i).2 ⟨hisz,hun⟩
   have hready:∀ k,k∈l++lt→yL ops 4 i k=true→False:=fun k hk hh=>by
    have h1:=xu hcl 4 i k hh (fun o' ho' e he hb=>by rw [hoi] at ho'; cases ho'; exact hall e he hb)
    rw [notdone hk] at h1
    cases h1
   have key:∃ l' lt' s1 r u,Le s s1∧Eff P ops oi s1 r u∧FM P ops bd l' (s1.updL oi.dst r u) (fun s'=>TU P ops lt' s' (Qs .normal))∧(l' ++ lt').length=m∧(l' ++ lt').Pairwise (· < ·)∧(∀ j∈l',j < mT)∧(∀ j∈lt',¬ j < mT)∧(∀ j,j∈l' ++ lt'↔(j∈l++lt∧j≠i)):=by
    by_cases him:i < mT
    ·have hil:i∈l:=by
      rcases List.mem_append.1 hin with h | h
      ·exact h
      ·exact absurd him (hltm i h)
     obtain ⟨l1,l2,rfl⟩:=List.append_of_mem hil
     have hpw0:=List.pairwise_append.1 hs
     have hpw:=List.pairwise_append.1 hpw0.1
     have hfront:=xn (P:=P) (bd:=bd) (K:=fun s'=>TU P ops lt s' (Qs .normal)) hoi l1 l2 s (fun k hk ok hok=>by
      have hlt:k < i:=hpw.2.2 k hk i (by simp)
      rcases (mP hB hoi).2.2 k ok hlt hok with hh | h
      ·exact (hready k (by simp [hk]) hh).elim
      ·exact h) h
     obtain ⟨o',r,u,ho',h1,_,h2⟩:=hfront
     rw [hoi] at ho'
     injection ho' with ho'
     subst ho'
     have hc3:=List.pairwise_cons.1 hpw.2.1
     have hne:∀ x,x∈l1++l2→x≠i:=fun x hx e=>by
      subst e
      rcases List.mem_append.1 hx with h | h
      ·have:=hpw.2.2 x h x (by simp); omega
      ·have:=hc3.1 x h; omega
     refine ⟨l1++l2,lt,s,r,u,.refl s,h1,h2,by simp at hl ⊢; omega,?_,fun j hj=>hlm j (by rcases List.mem_append.1 hj with h | h <;> simp [h]),hltm,fun j=>?_⟩
     ·refine List.pairwise_append.2 ⟨List.pairwise_append.2 ⟨hpw.1,hc3.2,fun x hx y hy=>hpw.2.2 x hx y (by simp [hy])⟩,hpw0.2.1,fun x hx y hy=>hpw0.2.2 x (by rcases List.mem_append.1 hx with h | h <;> simp [h]) y hy⟩
     ·refine ⟨fun hj=>?_,fun ⟨hj,hji⟩=>?_⟩
      ·rcases List.mem_append.1 hj with hj2 | hj2
       ·exact ⟨by rcases List.mem_append.1 hj2 with h | h <;> simp [h],hne j hj2⟩
       ·exact ⟨by simp [hj2],fun e=>by subst e; exact hltm j hj2 him⟩
      ·rcases List.mem_append.1 hj with h | h
       ·rcases List.mem_append.1 h with h | h
        ·simp [h]
        ·rcases List.mem_cons.1 h with h | h
         ·exact absurd h hji
         ·simp [h]
       ·simp [h]
    ·have hnil:l = []:=by
      cases l with
      | nil=>rfl
      | cons k l =>
       exfalso
       have hk:=hlm k (by simp)
       exact hready k (by simp) (DU hT hisz him (by omega))
     subst hnil
     cases lt with
     | nil=>simp at hin
     | cons k lt =>
      have hki:k=i:=by
       rcases List.mem_cons.1 hin with h | h
       ·exact h.symm
       ·exfalso
        have hlt:=(List.pairwise_cons.1 hs).1 i h
        exact hready k (by simp) (DU hT hisz him hlt)
      subst hki
      obtain ⟨s1,hle,o',r,u,ho',h1,h2⟩:=h
      rw [hoi] at ho'
      injection ho' with ho'
      subst ho'
      have hc3:=List.pairwise_cons.1 hs
      refine ⟨[],lt,s1,r,u,hle,h1,h2,by simp at hl ⊢; omega,hc3.2,fun j hj=>(by cases hj),fun j hj=>hltm j (by simp [hj]),fun j=>?_⟩
      refine ⟨fun hj=>⟨by simp at hj; simp [hj],fun e=>by
       subst e
       have:=hc3.1 j (by simpa using hj)
       omega⟩,fun ⟨hj,hji⟩=>?_⟩
      rcases List.mem_cons.1 hj with h | h
      ·exact absurd h hji
      ·simpa using h
   obtain ⟨l',lt',s1,r,u,hle,h1,h2,k1,k2,k3,k4,k5⟩:=key
   have hc1:=hle n w0 F0 a w hc
   have hstep:=VD (f:=0) (Q:=Q) (K:=wpAny P .any ops Q m (listed.setIfInBounds i true)) hc1 h1 (mP hB hoi).1 (fun a' w' hc'=>by
    have hmono:∀ j,listed.getD j false=true→(listed.setIfInBounds i true).getD j false=true:=fun j hj=>by
     by_cases hji:j=i
     ·subst hji
      have hsz:j < listed.size:=by rw [hls]; exact hisz
      simp [hsz]
     ·rw [getD_set_ne false (Ne.symm hji)]; exact hj
    refine Sq hQ hB hT m l' lt' _ _ a' w' k1 k2 k3 k4 (fun j=>?_) (by simpa using hls) (fun j hj o ho e he hb=>?_) h2 hc'
    ·by_cases hji:j=i
     ·subst hji
      have hsz:j < listed.size:=by rw [hls]; exact hisz
      refine ⟨fun hmem=>absurd rfl ((k5 j).1 hmem).2,fun ⟨_,hx⟩=>?_⟩
      simp [hsz] at hx
     ·rw [getD_set_ne true (Ne.symm hji),k5 j,hm j]
      simp [hji]
    ·by_cases hji:j=i
     ·subst hji
      rw [hoi] at ho
      cases ho
      exact hmono _ (hall e he hb)
     ·rw [getD_set_ne false (Ne.symm hji)] at hj
      exact hmono _ (hcl j hj o ho e he hb))
   unfold wpOp
   rw [hoi]
   simp only
   split
   ·rename_i hw
    rw [if_pos hw] at hstep
    exact .inl hstep
   ·rename_i hw
    rw [if_neg hw] at hstep
    exact hstep
theorem S1 (bd:Nat→Bd) {Qs:Exit→PS→Prop} {s:PS} {id:Nat} {l:List Oper} (mT:Nat) (hmT:mT≤l.length) (hm:P.follows .mixedOrders=true) (hB:Fo bd n l.toArray=true) (hT:Ly mT l.toArray=true) (h:FM P l.toArray bd (List.range' 0 mT) s (fun s'=>TU P l.toArray (List.range' mT (l.length - mT)) s' (Qs .normal))) : PWP P n (.region id l.toArray true) Qs s:=by
 intro w0 F0 a w hc
 refine wp_region_any hm ?_
 have hr:List.range' 0 mT++List.range' mT (l.length - mT)=List.range' 0 l.length:=by
  have:=List.range'_append (s:=0) (m:=mT) (n:=l.length - mT) (step:=1)
  simp only [Nat.one_mul,Nat.zero_add] at this
  rw [this]
  congr 1
  omega
 refine Sq (Qs:=Qs) (mT:=mT) (fun _ s' _ _ h1 h2=>⟨s',h1,h2⟩) hB hT l.toArray.size (List.range' 0 mT) (List.range' mT (l.length - mT)) _ s a _ (by rw [hr]; simp) (by rw [hr]; exact List.pairwise_lt_range') (fun j hj=>by simp [List.mem_range'_1] at hj; exact hj) (fun j hj=>by simp [List.mem_range'_1] at hj; omega) (fun j=>?_) (by simp) (fun j hj=>by exfalso; simp only [Array.getD_eq_getD_getElem?,Array.getElem?_replicate] at hj; split at hj <;> cases hj) h (hc.drew _)
 rw [hr]
 simp only [List.mem_range'_1,Nat.zero_le,true_and,Nat.zero_add,List.size_toArray]
 refine ⟨fun h=>⟨h,by simp [h]⟩,fun h=>h.1⟩
end
end
section
variable {B B':List (Nat×Option a6)} {s:SS} {p:PS} {P:Program} {ρ : Type}
theorem rC (ks:List Nat) : ∀ (cs:List SV) (j:Nat),(tR ks cs)[j]? = (cs[j]?).map (stV ks)
 | [],j=>by simp [tR]
 | c::cs,0=>by simp [tR]
 | c::cs,j + 1=>by simpa [tR] using rC ks cs j
theorem po (ks:List Nat) : ∀ cs:List SV,(tR ks cs).length=cs.length
 | []=>rfl
 | c::cs=>by simp [tR,po ks cs]
theorem OQ (ks:List Nat) : ∀ (l:List (Nat×SV)) (i:Nat),lkV (SI ks l) i=stV ks (lkV l i)
 | [],_=>rfl
 | (j,v)::l,i=>by simp only [SI,cQ,OQ ks l i]; split <;> rfl
def ZV (ks:List Nat) : a6→a6
 | .st ty cs=>.st ty (tR ks cs)
 | b=>b
theorem uw (ks:List Nat) : ∀ (l:List (Nat×Option a6)) (i:Nat),lkB (xc ks l) i=(lkB l i).map (ZV ks)
 | [],_=>rfl
 | (j,none)::l,i=>by simp only [xc,ar,uw ks l i]; split <;> rfl
 | (j,some (.st ty cs))::l,i=>by simp only [xc,ar,uw ks l i]; split <;> rfl
 | (j,some (.rw e k ty xs pins))::l,i=>by simp only [xc,ar,uw ks l i]; split <;> rfl
structure ZQ (ks:List Nat) (B B':List (Nat×Option a6)) : Prop where
 rw:∀ t,aD ks t=false→∀ e k ty xs pins,lkB B t=some (.rw e k ty xs pins)→∃ e' k' ty' xs' pins',lkB B' t=some (.rw e' k' ty' xs' pins')∧xs'.length=xs.length∧∀ p pin,lkP pins p=some pin→∃ pin',lkP pins' p=some pin'∧pin'.i=pin.i
 st:∀ t ty cs,lkB B t=some (.st ty cs)→∃ ty' cs',lkB B' t=some (.st ty' cs')
theorem be.st {ks:List Nat} {v:SV} {q:PV} (h:be B v q) (hB:ZQ ks B B') : be B' (stV ks v) q:=by
 induction h with
 | junk q=>exact .junk q
 | d c y h=>exact .d c y h
 | ag cs qs hl hr ih =>
  refine .ag _ qs (by rw [po]; exact hl) (fun j c q h1 h2=>?_)
  rw [rC,zm] at h1
  obtain ⟨c',h3,rfl⟩:=h1
  exact ih j c' q h3 h2
 | tup cs qs hl hr ih =>
  refine .tup _ qs (by rw [po]; exact hl) (fun j c q h1 h2=>?_)
  rw [rC,zm] at h1
  obtain ⟨c',h3,rfl⟩:=h1
  exact ih j c' q h3 h2
 | ptr t' o ty cs hb=>obtain ⟨ty',cs',h1⟩:=hB.st t' ty cs hb; exact .ptr t' o ty' cs' h1
 | row t' n e k ty xs pins hb hn =>
  simp only [stV]
  split
  ·exact .junk _
  ·rename_i h
   obtain ⟨e',k',ty',xs',pins',h1,h2,h3⟩:=hB.rw t' h e k ty xs pins hb
   exact .row t' n e' k' ty' xs' pins' h1 (h2.trans hn)
 | re t' p o n i e k ty xs pins pin hb hn hp hi =>
  simp only [stV]
  split
  ·exact .junk _
  ·rename_i h
   obtain ⟨e',k',ty',xs',pins',h1,h2,h3⟩:=hB.rw t' h e k ty xs pins hb
   obtain ⟨pin',h4,h5⟩:=h3 p pin hp
   exact .re t' p o n i e' k' ty' xs' pins' pin' h1 (h2.trans hn) h4 (by rw [h5]; exact hi)
 | vw t' lo hi n e k ty xs pins hb hn=>
  simp only [stV]
  split
  ·exact .junk _
  ·rename_i h
   obtain ⟨e',k',ty',xs',pins',h1,h2,h3⟩:=hB.rw t' h e k ty xs pins hb
   exact .vw t' lo hi n e' k' ty' xs' pins' h1 (h2.trans hn)
 | fe cs ds h hn=>exact .fe cs ds h hn
 | fn f ps qs ps' qs' hl hr hl2 hr2 ih ih2 =>
  refine .fn f _ _ ps' qs' (by rw [po]; exact hl) (fun j c q h1 h2=>?_) (by rw [po]; exact hl2) (fun j c q h1 h2=>?_)
  ·rw [rC,zm] at h1
   obtain ⟨c',h3,rfl⟩:=h1
   exact ih j c' q h3 h2
  ·rw [rC,zm] at h1
   obtain ⟨c',h3,rfl⟩:=h1
   exact ih2 j c' q h3 h2
theorem bZ.st {ks:List Nat} {cs:List SV} {qs:List PV} (h:bZ B cs qs) (hB:ZQ ks B B') : bZ B' (tR ks cs) qs :=
 ⟨by rw [po]; exact h.len,fun j c q h1 h2=>by
  rw [rC,zm] at h1
  obtain ⟨c',h3,rfl⟩:=h1
  exact (h.rep j c' q h3 h2).st hB⟩
mutual
theorem Ri {pr ks:List Nat} (hk:∀ t,aD ks t=true→aD pr t=false) : ∀ v:SV,lb pr v=true→stV ks v=v
 | .junk,_=>rfl
 | .d _,_=>rfl
 | .fe _,_=>rfl
 | .ptr _ _,_=>rfl
 | .row t,h=>by
  have h:aD pr t=true:=h
  simp only [stV]
  split
  ·rename_i h1; rw [hk t h1] at h; cases h
  ·rfl
 | .re _ _ _,h=>by cases h
 | .vw _ _ _,h=>by cases h
 | .ag cs,h=>by simp only [stV]; rw [tZ hk cs h]
 | .tup cs,h=>by simp only [stV]; rw [tZ hk cs h]
 | .fn f ps qs,h=>by
  have h:(dV pr ps&&dV pr qs)=true:=h
  rw [Bool.and_eq_true] at h
  simp only [stV]; rw [tZ hk ps h.1,tZ hk qs h.2]
theorem tZ {pr ks:List Nat} (hk:∀ t,aD ks t=true→aD pr t=false) : ∀ cs:List SV,dV pr cs=true→tR ks cs=cs
 | [],_=>rfl
 | c::cs,h=>by
  simp only [dV,Bool.and_eq_true] at h
  simp only [tR]
  rw [Ri hk c h.1,tZ hk cs h.2]
end
mutual
theorem Vd {ks:List Nat} : ∀ v:SV,pw v=true→stV ks v=v
 | .junk,_=>rfl
 | .d _,_=>rfl
 | .fe _,_=>rfl
 | .ptr _ _,_=>rfl
 | .row _,h=>by cases h
 | .re _ _ _,h=>by cases h
 | .vw _ _ _,h=>by cases h
 | .ag cs,h=>by simp only [stV]; rw [o7 cs h]
 | .tup cs,h=>by simp only [stV]; rw [o7 cs h]
 | .fn f ps qs,h=>by
  have h:(match cy ps with | true=>cy qs | false=>false)=true:=h
  split at h
  ·rename_i h1; simp only [stV]; rw [o7 ps h1,o7 qs h]
  ·cases h
theorem o7 {ks:List Nat} : ∀ cs:List SV,cy cs=true→tR ks cs=cs
 | [],_=>rfl
 | c::cs,h=>by
  simp only [cy] at h
  split at h
  ·rename_i h1
   simp only [tR]
   rw [Vd c h1,o7 cs h]
  ·cases h
end
inductive UAl (G:List Nat) (B':List (Nat×Option a6)) : List (Nat×Option a6)→BU→Prop
 | nil:UAl G B' [] []
 | cons (t:Nat) (sb:Option a6) (b:Box) (us:List (Nat×Option a6)) (u:BU) (h1:∀ x,sb=some x→mj B' true (some x) (some b)) (h2:sb=none→aD G t=true) (h:UAl G B' us u) : UAl G B' ((t,sb)::us) ((t,b)::u)
variable {G:List Nat}
theorem UAl.app {us us':List (Nat×Option a6)} {u u':BU} (h:UAl G B' us u) (h':UAl G B' us' u') : UAl G B' (us++us') (u++u'):=by
 induction h with
 | nil=>exact h'
 | cons t sb b us u h1 h2 h ih=>exact .cons t sb b _ _ h1 h2 ih
theorem eW:∀ {us:List (Nat×Option a6)} {t:Nat},t∈idU us↔∃ sb,(t,sb)∈us
 | [],t=>by simp [idU]
 | (i,b)::us,t=>by
  simp only [idU,List.mem_cons,Prod.mk.injEq]
  constructor
  ·rintro (rfl | h)
   ·exact ⟨b,.inl ⟨rfl,rfl⟩⟩
   ·obtain ⟨sb,h⟩:=eW.1 h; exact ⟨sb,.inr h⟩
  ·rintro ⟨sb,⟨rfl,_⟩ | h⟩
   ·exact .inl rfl
   ·exact .inr (eW.2 ⟨sb,h⟩)
theorem Va {us:List (Nat×Option a6)} {u:BU} (h:UAl G B' us u) (l:List (Nat×Option a6)) (t:Nat) :
  (t∈idU us∧∃ sb b,lkB (us++l) t=sb∧lkU u t=some b∧(∀ x,sb=some x→mj B' true (some x) (some b))∧(sb=none→aD G t=true))∨(t ∉ idU us∧lkB (us++l) t=lkB l t∧lkU u t=none):=by
 induction h with
 | nil=>exact .inr ⟨by simp [idU],rfl,rfl⟩
 | cons i sb b us u h1 h2 h ih =>
  by_cases hi:t=i
  ·subst hi
   refine .inl ⟨by simp [idU],sb,b,?_,?_,h1,h2⟩
   ·rw [List.cons_append,ar,if_pos rfl]
   ·simp [lkU]
  ·rcases ih with ⟨m1,sb',b',m2,m3,m4⟩ | ⟨m1,m2,m3⟩
   ·refine .inl ⟨by simp [idU,m1],sb',b',?_,?_,m4⟩
    ·rw [List.cons_append,ar,if_neg hi]; exact m2
    ·simp only [lkU,if_neg hi]; exact m3
   ·refine .inr ⟨by simp [idU,m1,hi],?_,?_⟩
    ·rw [List.cons_append,ar,if_neg hi]; exact m2
    ·simp only [lkU,if_neg hi]; exact m3
theorem dK:∀ {l:List Nat} {i:Nat},aD l i=true↔i∈l
 | [],i=>by simp [aD]
 | j::l,i=>by
  simp only [aD,cR,List.mem_cons]
  by_cases h:i=j
  ·simp [h]
  ·simp only [h,decide_false,false_or]; exact dK
theorem yE {l:List Nat} {i:Nat} : aD l i=false↔i ∉ l:=by rw [← dK]; simp
theorem iR:∀ {l:List Nat},sS l=true→l.Nodup
 | [],_=>List.nodup_nil
 | a::l,h=>by
  simp only [sS] at h
  split at h
  ·cases h
  ·rename_i h1
   exact List.nodup_cons.2 ⟨yE.1 h1,iR h⟩
theorem rA:∀ {l m:List Nat},Oi l m=true→∀ x∈l,x∈m
 | [],_,_,x,hx=>by cases hx
 | a::l,m,h,x,hx=>by
  simp only [Oi] at h
  split at h
  ·rename_i h1
   rcases List.mem_cons.1 hx with rfl | hx
   ·exact dK.1 h1
   ·exact rA h x hx
  ·cases h
theorem Ei:∀ {l:List Nat},RB s l=true→∀ i∈l,aD s.pr i=false
 | [],_,i,hi=>by cases hi
 | a::l,h,i,hi=>by
  simp only [RB] at h
  split at h
  ·cases h
  ·rename_i h1
   rcases List.mem_cons.1 hi with rfl | hi
   ·exact h1
   ·exact Ei h i hi
theorem Ej:∀ {l:List Nat},RC s l=true→∀ i∈l,JS s i=true∧lkB s.bx i=none∧i < 1000000
 | [],_,i,hi=>by cases hi
 | a::l,h,i,hi=>by
  simp only [RC] at h
  split at h
  ·rename_i h1 h2 h3
   rcases List.mem_cons.1 hi with rfl | hi
   ·exact ⟨h1,h2,Nat.le_of_ble_eq_true h3⟩
   ·exact Ej h i hi
  ·cases h
theorem Ek:∀ {us:List (Nat×Option a6)},RD s us=true→∀ t sb,(t,sb)∈us→∀ ty cs,lkB s.bx t=some (.st ty cs)→∃ cs',sb=some (.st ty cs')∧cs'.length=cs.length
 | [],_,t,sb,h,_,_,_=>by cases h
 | (i,b)::us,h,t,sb,hm,ty,cs,hl=>by
  simp only [RD,Bool.and_eq_true] at h
  rcases List.mem_cons.1 hm with e | hm
  ·injection e with e1 e2
   subst e1 e2
   have h1:=h.1
   rw [hl] at h1
   simp only at h1
   split at h1
   ·rename_i ty' cs'
    rw [Bool.and_eq_true,Nat.beq_eq] at h1
    have:=zd h1.1
    subst this
    exact ⟨cs',rfl,h1.2.symm⟩
   ·cases h1
  ·exact Ek h.2 t sb hm ty cs hl
mutual
theorem IP (b:Nat→Option Box) : ∀ q:PV,clean q=true→asData b q=qB q
 | .junk,_=>rfl
 | .d _,_=>rfl
 | .fe _,_=>rfl
 | .ptr _ _,h=>by cases h
 | .row _ _,h=>by cases h
 | .re _ _ _ _,h=>by cases h
 | .vw _ _ _ _,h=>by cases h
 | .ag cs,h=>by simp only [asData,qB]; rw [pI b cs h]
 | .tup cs,h=>by simp only [asData,qB]; rw [pI b cs h]
 | .fn f ps qs,h=>by
  have h:(cH ps&&cH qs)=true:=h
  rw [Bool.and_eq_true] at h
  simp only [asData,qB]; rw [pI b ps h.1,pI b qs h.2]
theorem pI (b:Nat→Option Box) : ∀ cs:List PV,cH cs=true→bM b cs=dJ cs
 | [],_=>rfl
 | c::cs,h=>by
  simp only [cH,Bool.and_eq_true] at h
  simp only [bM,dJ]; rw [IP b c h.1,pI b cs h.2]
end
theorem xG (hs:Sim s p) {rows:List (Nat×Nat×Nat×Nat×Ty)} : ∀ {cs:List SV} {qs:List PV} {ds:List SD} {j:Nat},bZ s.bx cs qs→cellsOf s rows j cs=some ds →
  dJ qs=dW rows j (ds.map SD.toD)∧∀ t Bx,(t,Bx)∈cg rows j (ds.map SD.toD)→p.b t=some Bx
 | [],qs,ds,j,hv,h=>by
  rcases hv.cases with ⟨_,rfl⟩ | ⟨_,_,_,_,h1,_⟩
  ·injection h with h; subst h; exact ⟨rfl,fun _ _ h=>by cases h⟩
  ·cases h1
 | c::cs,qs,ds,j,hv,h=>by
  rcases hv.cases with ⟨h1,_⟩ | ⟨c',q,cs',qs',h1,rfl,h2,h3⟩
  ·cases h1
  ·injection h1 with e1 e2
   subst e1 e2
   simp only [cellsOf] at h
   split at h
   ·rename_i R e k t hf
    split at h
    ·rename_i R' e' k' t' xs pins hb
     split at h
     ·rename_i hty _
      obtain ⟨m1,h⟩:=ao h
      obtain ⟨m2,h⟩:=ao h
      obtain ⟨m3,h⟩:=ao h
      split at h
      ·rename_i r hr
       injection h with h
       subst h hty
       rw [Nat.beq_eq] at m1
       have m2:=zd m2
       have m3:=zd m3
       subst m1 m2 m3
       obtain ⟨k1,k2⟩:=xG hs h3 hr
       have hbx:=hs.bx R'
       rw [hb] at hbx
       cases h2 with
       | row _ n e2 k2' ty2 xs2 pins2 hb2 hn =>
        rw [hb] at hb2
        injection hb2 with hb2
        injection hb2 with q1 q2 q3 q4 q5
        subst q3
        have q4:=eq_of_heq q4
        subst q4
        refine ⟨?_,?_⟩
        ·simp only [dJ,qB,List.map_cons,dW,hf,SD.toD,k1]
         simp [yV,hn]
        ·intro t Bx hm
         simp only [List.map_cons,cg,hf,SD.toD,List.mem_cons,Prod.mk.injEq] at hm
         rcases hm with ⟨rfl,rfl⟩ | hm
         ·exact hbx.1
         ·exact k2 t Bx hm
      ·cases h
     ·cases h
    ·cases h
   ·rename_i hf
    split at h
    ·rename_i x r hr
     injection h with h
     subst h
     obtain ⟨k1,k2⟩:=xG hs h3 hr
     cases h2 with
     | d _ y hy =>
      refine ⟨?_,?_⟩
      ·simp only [dJ,qB,List.map_cons,dW,hf,k1,hy.nrm]
      ·intro t Bx hm
       simp only [List.map_cons,cg,hf] at hm
       exact k2 t Bx hm
    ·cases h
theorem Cb:∀ {rows:List (Nat×Nat×Nat×Ty)} {cs:List SV} {is:List Nat},Dm rows cs=some is→is.length=rows.length
 | [],_,is,h=>by injection h with h; subst h; rfl
 | (j,e)::rows,cs,is,h=>by
  simp only [Dm] at h
  split at h
  ·rename_i R is' _ h1
   injection h with h
   subst h
   simp [Cb h1]
  ·cases h
theorem Fq (hs:Sim s p) {rows:List (Nat×Nat×Nat×Ty)} {n:Nat} {cs:List SV} {qs:List PV} {x:ST n} {is:List Nat} (hv:bZ s.bx cs qs) (h:MO s rows n cs=some (x,is)) :
  is.length=rows.length∧dJ qs=dW (ml rows is) 0 (stD n x)∧∀ t Bx,(t,Bx)∈cg (ml rows is) 0 (stD n x)→p.b t=some Bx:=by
 unfold MO at h
 split at h
 ·rename_i is' hi
  split at h
  ·rename_i ds hd
   split at h
   ·rename_i x' hx
    injection h with h
    injection h with e1 e2
    subst e1 e2
    rw [← AK hx]
    exact ⟨Cb hi,xG hs hv hd⟩
   ·cases h
  ·cases h
 ·cases h
structure aao (p:PS) (pt:PT) (q:PV) (x:pt.den) (is:List Nat) : Prop where
 len:is.length=pt.nI
 v:qB q=(toI pt is x).1
 b:∀ t Bx,(t,Bx)∈(toI pt is x).2→∃ B',p.b t=some B'∧rJ B' = Bx
theorem Bp (hs:Sim s p) {e k:Nat} {t:Ty} {v:SV} {q:PV} {xs:List t.den} {is:List Nat} (hv:be s.bx v q) (h:te s e k t v=some (xs,is)) : ∃ i,is = [i]∧q = .row i xs.length∧p.b i=some (rwU e k t xs)∧∃ e' k' t' xs' pins,lkB s.bx i=some (.rw e' k' t' xs' pins)∧xs'.length=xs.length:=by
 unfold te at h
 split at h
 ·rename_i i
  split at h
  ·rename_i e' k' t' xs' pins hb
   split at h
   ·rename_i hty _
    obtain ⟨m2,h⟩:=ao h
    obtain ⟨m3,h⟩:=ao h
    injection h with h
    injection h with e1 e2
    subst e1 e2 hty
    have m2:=zd m2
    have m3:=zd m3
    subst m2 m3
    have hbx:=hs.bx i
    rw [hb] at hbx
    cases hv with
    | row _ n e2 k2' ty2 xs2 pins2 hb2 hn =>
     rw [hb] at hb2
     injection hb2 with hb2
     injection hb2 with q1 q2 q3 q4 q5
     subst q3
     have q4:=eq_of_heq q4
     subst q4
     exact ⟨i,rfl,by rw [← hn]; rfl,hbx.1,_,_,_,_,_,hb,rfl⟩
   ·cases h
  ·cases h
 ·cases h
theorem Yu (hs:Sim s p) {pt:PT} {v:SV} {q:PV} {x:pt.den} {is:List Nat} (hv:be s.bx v q) (h:MQ s pt v=some (x,is)) : is = []∧qB q=pn pt x:=by
 unfold MQ at h
 obtain ⟨h1,h⟩:=ao h
 split at h
 ·rename_i x' hx
  injection h with h
  injection h with e1 e2
  subst e1 e2
  obtain ⟨k1,k2⟩:=(Dx hs hv hx).2 h1
  exact ⟨rfl,by rw [← IP dM q k1]; exact k2⟩
 ·cases h
theorem Kh (hs:Sim s p) : ∀ {pt:PT} {v:SV} {q:PV} {x:pt.den} {is:List Nat},be s.bx v q→Pi s pt v=some (x,is)→aao p pt q x is:=by
 intro pt v q x is hv h
 have plain:∀ {pt:PT} {x:pt.den},pt.nI=0→(toI pt [] x)=(pn pt x,[])→MQ s pt v=some (x,is)→aao p pt q x is:=fun {pt x} h0 h1 h=>by
  obtain ⟨rfl,h2⟩:=Yu hs hv h
  exact ⟨h0.symm,by rw [h1]; exact h2,by rw [h1]; exact fun _ _ h=>by cases h⟩
 have row:∀ {e k:Nat} {t:Ty} {xs:List t.den},te s e k t v=some (xs,is)→is.length=1∧∃ i,is = [i]∧q = .row i xs.length∧p.b i=some (rwU e k t xs):=fun {e k t xs} h=>by
  obtain ⟨i,rfl,h1,h2,_⟩:=Bp hs hv h
  exact ⟨rfl,i,rfl,h1,h2⟩
 cases pt with
 | lf t=>exact plain rfl rfl h
 | ag i=>exact plain rfl rfl h
 | pl t=>exact plain rfl rfl h
 | ps i=>exact plain rfl rfl h
 | fn f a b=>exact plain rfl rfl h
 | io l=>exact dC (x:=(x,is)) h
 | own e k t =>
  obtain ⟨h1,i,rfl,h2,h3⟩:=row (xs:=x) h
  refine ⟨h1,by rw [h2]; rfl,fun t' Bx hm=>?_⟩
  simp only [toI,List.mem_cons,List.not_mem_nil,or_false,Prod.mk.injEq] at hm
  obtain ⟨rfl,rfl⟩:=hm
  exact ⟨_,h3,rfl⟩
 | mv e k t =>
  obtain ⟨h1,i,rfl,h2,h3⟩:=row (xs:=x) h
  refine ⟨h1,by rw [h2]; rfl,fun t' Bx hm=>?_⟩
  simp only [toI,List.mem_cons,List.not_mem_nil,or_false,Prod.mk.injEq] at hm
  obtain ⟨rfl,rfl⟩:=hm
  exact ⟨_,h3,rfl⟩
 | bx ty n rows =>
  replace h:MW s ty n rows v=some (x,is):=h
  unfold MW at h
  split at h
  ·rename_i i
   split at h
   ·rename_i ty' cs hb
    obtain ⟨m1,h⟩:=ao h
    have m1:=zd m1
    subst m1
    split at h
    ·rename_i x' is' hd
     injection h with h
     injection h with e1 e2
     subst e1 e2
     have hbx:=hs.bx i
     rw [hb] at hbx
     obtain ⟨qs,k1,k2⟩:=hbx
     obtain ⟨k3,k4,k5⟩:=Fq hs k2 hd
     cases hv with
     | ptr _ _ _ _ _ =>
      refine ⟨by simp [k3,PT.nI],rfl,fun t' Bx hm=>?_⟩
      simp only [toI,List.mem_cons,Prod.mk.injEq] at hm
      rcases hm with ⟨rfl,rfl⟩ | hm
      ·exact ⟨_,k1,by rw [rJ,k4]⟩
      ·have:=k5 t' Bx hm
       refine ⟨Bx,this,?_⟩
       have:∀ {rows:List (Nat×Nat×Nat×Nat×Ty)} {ds:List D} {j:Nat},(t',Bx)∈cg rows j ds→rJ Bx=Bx:=by
        intro rows ds
        induction ds with
        | nil=>intro j h; cases h
        | cons d ds ih =>
         intro j h
         simp only [cg] at h
         split at h
         ·split at h
          ·rcases List.mem_cons.1 h with e | h
           ·injection e with _ e; subst e; rfl
           ·exact ih h
          ·exact ih h
         ·exact ih h
       exact this hm
    ·cases h
   ·cases h
  ·cases h
 | agr n rows =>
  replace h:Pj s n rows v=some (x,is):=h
  unfold Pj at h
  split at h
  ·rename_i cs
   obtain ⟨qs,rfl,hq⟩:=Hv hv
   obtain ⟨k3,k4,k5⟩:=Fq hs hq h
   refine ⟨k3,by simp only [qB,toI,k4],fun t' Bx hm=>?_⟩
   have:=k5 t' Bx hm
   refine ⟨Bx,this,?_⟩
   have:∀ {rows:List (Nat×Nat×Nat×Nat×Ty)} {ds:List D} {j:Nat},(t',Bx)∈cg rows j ds→rJ Bx=Bx:=by
    intro rows ds
    induction ds with
    | nil=>intro j h; cases h
    | cons d ds ih =>
     intro j h
     simp only [cg] at h
     split at h
     ·split at h
      ·rcases List.mem_cons.1 h with e | h
       ·injection e with _ e; subst e; rfl
       ·exact ih h
      ·exact ih h
     ·exact ih h
   exact this hm
  ·cases h
theorem MR (hs:Sim s p) : ∀ {ps:List PT} {vs:List SV} {qs:List PV} {x:ct ps} {iss:List (List Nat)},bZ s.bx vs qs→IL s ps vs=some (x,iss) →
  iA ps iss∧dJ qs=(dU ps iss x).1∧∀ t Bx,(t,Bx)∈(dU ps iss x).2→∃ B',p.b t=some B'∧rJ B' = Bx
 | [],[],qs,x,iss,hv,h=>by
  rcases hv.cases with ⟨_,rfl⟩ | ⟨_,_,_,_,h1,_⟩
  ·injection h with h
   injection h with _ h
   subst h
   exact ⟨trivial,rfl,fun _ _ h=>by cases h⟩
  ·cases h1
 | [],_ :: _,_,_,_,_,h=>by cases h
 | _ :: _,[],_,_,_,_,h=>by cases h
 | pt::ps,v::vs,qs,x,iss,hv,h=>by
  rcases hv.cases with ⟨h1,_⟩ | ⟨v',q,vs',qs',h1,rfl,h2,h3⟩
  ·cases h1
  ·injection h1 with e1 e2
   subst e1 e2
   simp only [IL] at h
   split at h
   ·rename_i y is ys iss' m1 m2
    injection h with h
    injection h with e1 e2
    subst e1 e2
    obtain ⟨k1,k2,k3⟩:=Kh hs h2 m1
    obtain ⟨k4,k5,k6⟩:=MR hs h3 m2
    refine ⟨⟨k1,k4⟩,by simp only [dJ,dU,k2,k5],fun t Bx hm=>?_⟩
    simp only [dU,List.mem_append] at hm
    rcases hm with hm | hm
    ·exact k3 t Bx hm
    ·exact k6 t Bx hm
   ·cases h
end
section
variable {B B':List (Nat×Option a6)} {s:SS} {p:PS} {P:Program} {ρ : Type} {G:List Nat} {sc:List Nat}
def wg (B':List (Nat×Option a6)) (bx:List (Nat×Option a6)) : Prop:=∀ t x,(t,some x)∈bx→lkB B' t=some x
theorem wg.app {a b:List (Nat×Option a6)} (h:wg B' (a++b)) : wg B' a∧wg B' b:=⟨fun t x hm=>h t x (List.mem_append_left _ hm),fun t x hm=>h t x (List.mem_append_right _ hm)⟩
theorem OD {rows:List (Nat×Nat×Nat×Nat×Ty)} : ∀ {cs:List SD} {j:Nat} {vs:List SV} {bx:List (Nat×Option a6)},fL rows j cs [] = some (vs,bx)→(∀ c∈cs,c≠.nl) →
  UAl G B' bx (cg rows j (cs.map SD.toD))∧(wg B' bx→bZ B' vs (dW rows j (cs.map SD.toD)))
 | [],j,vs,bx,h,_=>by
  simp only [fL] at h
  injection h with h
  injection h with e1 e2
  subst e1 e2
  exact ⟨.nil,fun _=>.nil⟩
 | c::cs,j,vs,bx,h,hn=>by
  simp only [fL] at h
  have hn':=fun c' hc=>hn c' (List.mem_cons_of_mem _ hc)
  split at h
  ·rename_i R e k t hf
   split at h
   ·rename_i xs vs' bx' hx hr
    injection h with h
    injection h with e1 e2
    subst e1 e2
    obtain ⟨k1,k2⟩:=OD hr hn'
    have hD:c.toD = .sl ((show List t.den from xs).map (bR t)):=by
     rw [← Dw hx]; rfl
    simp only [List.map_cons,cg,dW,hf,hD]
    refine ⟨.cons R _ _ _ _ (fun x hx=>?_) (fun h=>by cases h) k1,fun hs=>.cons ?_ (k2 fun t x hm=>hs t x (List.mem_cons_of_mem _ hm))⟩
    ·injection hx with hx
     subst hx
     exact ⟨rfl,fun p pin h=>by cases h⟩
    ·exact .row R _ e k t xs [] (hs R _ List.mem_cons_self) (show List.length (show List t.den from xs) = _ from (List.length_map _).symm)
   ·cases h
  ·rename_i hf
   split at h
   ·rename_i vs' bx' hr
    injection h with h
    injection h with e1 e2
    subst e1 e2
    obtain ⟨k1,k2⟩:=OD hr hn'
    simp only [List.map_cons,cg,dW,hf]
    exact ⟨k1,fun hs=>.cons (.d _ _ (Lk.of (hn c List.mem_cons_self))) (k2 hs)⟩
   ·cases h
theorem E2 {rows:List (Nat×Nat×Nat×Ty)} {is:List Nat} {n:Nat} {x:ST n} {vs:List SV} {bx:List (Nat×Option a6)} (h:MA rows is n x=some (vs,bx)) :
  UAl G B' bx (cg (ml rows is) 0 (stD n x))∧(wg B' bx→bZ B' vs (dW (ml rows is) 0 (stD n x))):=by
 rw [← ua n x]
 exact OD h (xa n x)
theorem Ix {e k:Nat} {t:Ty} (xs:List t.den) {is:List Nat} {v:SV} {bx:List (Nat×Option a6)} (h:(match is with | [i]=>some (SV.row i,[(i,some (a6.rw e k t xs []))]) | _=>none)=some (v,bx)) (hs:wg B' bx) :
  ∃ i,is = [i]∧v = .row i∧UAl G B' bx [(i,rwU e k t xs)]∧be B' v (.row i xs.length):=by
 split at h
 ·rename_i i
  injection h with h
  injection h with e1 e2
  subst e1 e2
  exact ⟨i,rfl,rfl,.cons i _ _ _ _ (fun x hx=>by injection hx with hx; subst hx; exact ⟨rfl,fun p pin h=>by cases h⟩) (fun h=>by cases h) .nil,.row i _ e k t xs [] (hs i _ List.mem_cons_self) rfl⟩
 ·cases h
theorem Ka {pt:PT} {is:List Nat} {x:pt.den} {v:SV} {bx:List (Nat×Option a6)} (hp:(pt.isM||S6 pt)=true) (h:MD pt is x=some (v,bx)) (hs:wg B' bx) :
  UAl G B' bx (toI pt is x).2∧be B' v (toI pt is x).1:=by
 have plain:∀ {pt:PT} {x:pt.den},pt.isM=false→(pt.isM||S6 pt)=true→(toI pt is x)=(pn pt x,[])→v=TC pt x→bx = []→UAl G B' bx (toI pt is x).2∧be B' v (toI pt is x).1:=fun {pt x} h1 h2 h3 h4 h5=>by
  subst h4 h5
  rw [h1,Bool.false_or] at h2
  rw [h3]
  exact ⟨.nil,yR pt x h2⟩
 cases pt with
 | lf t=>injection h with h; injection h with e1 e2; exact plain rfl hp rfl e1.symm e2.symm
 | ag t=>injection h with h; injection h with e1 e2; exact plain rfl hp rfl e1.symm e2.symm
 | pl t=>injection h with h; injection h with e1 e2; exact plain rfl hp rfl e1.symm e2.symm
 | ps t=>injection h with h; injection h with e1 e2; exact plain rfl hp rfl e1.symm e2.symm
 | fn f a b=>injection h with h; injection h with e1 e2; exact plain rfl hp rfl e1.symm e2.symm
 | io l=>cases h
 | own e k t=>obtain ⟨i,rfl,rfl,k1,k2⟩:=Ix (G:=G) (B':=B') (show List t.den from x) h hs; exact ⟨k1,k2⟩
 | mv e k t=>obtain ⟨i,rfl,rfl,k1,k2⟩:=Ix (G:=G) (B':=B') (show List t.den from x) h hs; exact ⟨k1,k2⟩
 | bx ty n rows =>
  simp only [MD] at h
  split at h
  ·rename_i i is'
   split at h
   ·rename_i vs bx' he
    injection h with h
    injection h with e1 e2
    subst e1 e2
    obtain ⟨k1,k2⟩:=E2 (G:=G) (B':=B') he
    have hc:=k2 fun t x hm=>hs t x (List.mem_cons_of_mem _ hm)
    exact ⟨.cons i _ _ _ _ (fun x hx=>by injection hx with hx; subst hx; exact ⟨_,rfl,hc⟩) (fun h=>by cases h) k1,.ptr i 0 _ _ (hs i _ List.mem_cons_self)⟩
   ·cases h
  ·cases h
 | agr n rows =>
  simp only [MD] at h
  split at h
  ·rename_i vs bx' he
   injection h with h
   injection h with e1 e2
   subst e1 e2
   obtain ⟨k1,k2⟩:=E2 (G:=G) (B':=B') he
   have hc:=k2 hs
   exact ⟨k1,.ag _ _ hc.len hc.rep⟩
  ·cases h
theorem Iy:∀ {rs:List PT} {jss:List (List Nat)} {r:bc rs} {vs:List SV} {bs:List (Nat×Option a6)},sR rs=true→J9 rs jss r=some (vs,bs)→wg B' bs→UAl G B' bs (cP rs jss r).2∧bZ B' vs (cP rs jss r).1
 | [],[],r,vs,bs,_,h,_=>by
  have h:some (([] : List SV),([] : List (Nat×Option a6)))=some (vs,bs):=h
  injection h with h
  injection h with e1 e2
  subst e1 e2
  exact ⟨.nil,.nil⟩
 | [],_ :: _,r,vs,bs,_,h,_=>by cases h
 | [pt],[],r,vs,bs,_,h,_=>by cases h
 | [pt],[is],r,vs,bs,hp,h,hs=>by
  have h:(match MD pt is r with | some (v,b)=>some ([v],b) | none=>none)=some (vs,bs):=h
  simp only [sR] at hp
  split at hp
  ·rename_i hp1
   split at h
   ·rename_i v b he
    injection h with h
    injection h with e1 e2
    subst e1 e2
    obtain ⟨k1,k2⟩:=Ka (G:=G) (B':=B') hp1 he hs
    exact ⟨k1,.cons k2 .nil⟩
   ·cases h
  ·cases hp
 | [pt],_ :: _ :: _,r,vs,bs,_,h,_=>by cases h
 | pt::q::l,[],r,vs,bs,_,h,_=>by cases h
 | pt::q::l,is::iss,r,vs,bs,hp,h,hs=>by
  have h:(match MD pt is r.1,J9 (q::l) iss r.2 with | some (v,b),some (vs,bs)=>some (v::vs,b++bs) | _,_=>none)=some (vs,bs):=h
  rw [sR] at hp
  split at hp
  ·rename_i hp1
   split at h
   ·rename_i v b vs' bs' he hr
    injection h with h
    injection h with e1 e2
    subst e1 e2
    obtain ⟨s1,s2⟩:=hs.app
    obtain ⟨k1,k2⟩:=Ka (G:=G) (B':=B') hp1 he s1
    obtain ⟨k3,k4⟩:=Iy hp hr s2
    exact ⟨k1.app k3,.cons k2 k4⟩
   ·cases h
  ·cases hp
theorem VF {vs:List SV} {qs:List PV} (h:bZ B vs qs) : be B (VG vs) (yz qs):=by
 match vs,qs,h with
 | [],[],h=>exact .tup _ _ rfl (fun j c q h1=>by simp at h1)
 | [v],[q],h=>exact h.head
 | v::v' :: vs,q::q' :: qs,h=>exact .tup _ _ h.len h.rep
 | [],_ :: _,h=>have:=h.len; simp at this
 | _ :: _,[],h=>have:=h.len; simp at this
 | [_],_ :: _ :: _,h=>have:=h.len; simp at this
 | _ :: _ :: _,[_],h=>have:=h.len; simp at this
def Bw (s:SS) (ks js:List Nat) (t:Nat) (sb:Option a6) : Prop :=
 aD ks t=true∨t∈js∨(∃ ty cs,lkB s.bx t=some (.st ty cs))∨∃ e k ty xs pins e' k' ty' xs',lkB s.bx t=some (.rw e k ty xs pins)∧sb=some (.rw e' k' ty' xs' (wE pins))∧xs'.length=xs.length
theorem DG:∀ {rows:List (Nat×Nat×Nat×Ty)} {is:List Nat} {j R e k:Nat} {t:Ty},pC (ml rows is) j=some (R,e,k,t)→R∈is
 | [],is,j,R,e,k,t,h=>by cases is <;> cases h
 | (j0,e0,k0,t0)::rows,[],j,R,e,k,t,h=>by cases h
 | (j0,e0,k0,t0)::rows,R0::is,j,R,e,k,t,h=>by
  simp only [ml,pC] at h
  split at h
  ·injection h with h
   injection h with h _
   subst h
   exact List.mem_cons_self
  ·exact List.mem_cons_of_mem _ (DG h)
theorem JK {rows:List (Nat×Nat×Nat×Ty)} {is:List Nat} : ∀ {cs:List SD} {j:Nat} {vs:List SV} {bx:List (Nat×Option a6)},fL (ml rows is) j cs [] = some (vs,bx)→∀ t sb,(t,sb)∈bx→t∈is
 | [],j,vs,bx,h,t,sb,hm=>by
  simp only [fL] at h
  injection h with h
  injection h with e1 e2
  subst e1 e2
  cases hm
 | c::cs,j,vs,bx,h,t,sb,hm=>by
  simp only [fL] at h
  split at h
  ·rename_i R e k t' hf
   split at h
   ·rename_i xs vs' bx' hx hr
    injection h with h
    injection h with e1 e2
    subst e1 e2
    rcases List.mem_cons.1 hm with e | hm
    ·injection e with e _
     subst e
     exact DG hf
    ·exact JK hr t sb hm
   ·cases h
  ·split at h
   ·rename_i vs' bx' hr
    injection h with h
    injection h with e1 e2
    subst e1 e2
    exact JK hr t sb hm
   ·cases h
theorem Yl (hs:Sim s p) {pt:PT} {b:IB} {is js:List Nat} {x:pt.den} {o:b.den} {v:SV} {q:PV} {m:MU} (hv:be s.bx v q) (hd:Pi s pt v=some (x,is)) (hl:Z4 pt b x o) (h:ZF s pt b is js o=some m) (hsn:wg B' m.us) :
  (UAl G B' m.us (toO pt b is js x o)∧m.gs=Ih pt is∧∀ i∈m.gs,aD m.ks i=true)∧∀ t sb,(t,sb)∈m.us→Bw s m.ks js t sb:=by
 have nil:some (⟨[],[],[]⟩ : MU)=some m→toO pt b is js x o = []→Ih pt is = []→(UAl G B' m.us (toO pt b is js x o)∧m.gs=Ih pt is∧∀ i∈m.gs,aD m.ks i=true)∧∀ t sb,(t,sb)∈m.us→Bw s m.ks js t sb:=fun h1 h2 h3=>by
  injection h1 with h1
  subst h1
  rw [h2,h3]
  exact ⟨⟨.nil,rfl,fun _ h=>by cases h⟩,fun t sb h=>by cases h⟩
 cases pt with
 | lf t=>cases b with
  | no=>exact nil h rfl rfl
  | _=>cases h
 | ag t=>cases b with
  | no=>exact nil h rfl rfl
  | _=>cases h
 | pl t=>cases b with
  | no=>exact nil h rfl rfl
  | _=>cases h
 | ps t=>cases b with
  | no=>exact nil h rfl rfl
  | _=>cases h
 | fn f a c=>cases b with
  | no=>exact nil h rfl rfl
  | _=>cases h
 | io l=>cases b <;> cases h
 | agr n rows=>cases b <;> cases h
 | own e k t=>cases b with
  | no=>cases h
  | bx=>cases h
  | own e' k' t' =>
   obtain ⟨i,rfl,h1,h2,e2,k2,t2,xs2,pins,h3,h4⟩:=Bp hs hv (show te s e k t v=some (x,is) from hd)
   have h:some (⟨[],[(i,some (.rw e' k' t' o (JO s i)))],[]⟩ : MU)=some m:=h
   injection h with h
   subst h
   have hp:JO s i=wE pins:=by unfold JO; rw [h3]
   rw [hp]
   have hl:(show List t'.den from o).length=(show List t.den from x).length:=hl
   refine ⟨⟨.cons i _ _ _ _ (fun y hy=>?_) (fun h=>by cases h) .nil,rfl,fun _ h=>by cases h⟩,fun t sb hm=>?_⟩
   ·injection hy with hy
    subst hy
    refine ⟨rfl,fun pp pin hpin=>?_⟩
    rw [mJ,zm] at hpin
    obtain ⟨pin0,h5,rfl⟩:=hpin
    have hbx:=hs.bx i
    rw [h3] at hbx
    obtain ⟨h6,_⟩:=hbx.2 pp pin0 h5
    exact ⟨by show pin0.i.toNat < (show List t'.den from o).length; rw [hl]; show _ < List.length _; rw [← h4]; exact h6,fun cs h=>by cases h⟩
   ·simp only [List.mem_cons,List.not_mem_nil,or_false,Prod.mk.injEq] at hm
    obtain ⟨rfl,rfl⟩:=hm
    exact .inr (.inr (.inr ⟨_,_,_,_,_,_,_,_,_,h3,rfl,by show (show List t'.den from o).length = _; rw [hl]; exact h4.symm⟩))
 | mv e k t=>cases b with
  | own=>cases h
  | bx=>cases h
  | no =>
   obtain ⟨i,rfl,_⟩:=Bp hs hv (show te s e k t v=some (x,is) from hd)
   have h:some (⟨[i],[],[i]⟩ : MU)=some m:=h
   injection h with h
   subst h
   exact ⟨⟨.nil,rfl,fun j hj=>dK.2 hj⟩,fun t sb hm=>by cases hm⟩
 | bx ty n rows=>cases b with
  | own=>cases h
  | no=>cases h
  | bx ty' n' rows' =>
   have hb:∃ i is' cs ty0,is=i::is'∧lkB s.bx i=some (.st ty0 cs):=by
    replace hd:MW s ty n rows v=some (x,is):=hd
    clear h
    unfold MW at hd
    split at hd
    ·rename_i i
     split at hd
     ·rename_i ty0 cs hb
      obtain ⟨_,hd⟩:=ao hd
      split at hd
      ·injection hd with hd
       injection hd with _ hd
       exact ⟨i,_,cs,ty0,hd.symm,hb⟩
      ·cases hd
     ·cases hd
    ·cases hd
   obtain ⟨i,is',cs,ty0,rfl,hb⟩:=hb
   have h:(match MA rows' js n' o with | some (vs,bx)=>some (⟨is',(i,some (.st ty' vs))::bx,is'⟩ : MU) | none=>none)=some m:=h
   split at h
   ·rename_i vs bx he
    injection h with h
    subst h
    obtain ⟨k1,k2⟩:=E2 (G:=G) (B':=B') he
    have hc:=k2 fun t x hm=>hsn t x (List.mem_cons_of_mem _ hm)
    refine ⟨⟨.cons i _ _ _ _ (fun x hx=>by injection hx with hx; subst hx; exact ⟨_,rfl,hc⟩) (fun h=>by cases h) k1,rfl,fun j hj=>dK.2 hj⟩,fun t sb hm=>?_⟩
    rcases List.mem_cons.1 hm with e | hm
    ·injection e with e1 e2
     subst e1 e2
     exact .inr (.inr (.inl ⟨_,_,hb⟩))
    ·exact .inr (.inl (JK he t sb hm))
   ·cases h
theorem Bw.more {ks ks' js js':List Nat} {t:Nat} {sb:Option a6} (h:Bw s ks js t sb) (hk:∀ t,aD ks t=true→aD ks' t=true) (hj:∀ t∈js,t∈js') : Bw s ks' js' t sb:=by
 rcases h with h | h | h
 ·exact .inl (hk t h)
 ·exact .inr (.inl (hj t h))
 ·exact .inr (.inr h)
theorem MB (hs:Sim s p) : ∀ {ps:List PT} {ls:List IB} {iss kss:List (List Nat)} {x:ct ps} {o:yy ls} {vs:List SV} {qs:List PV} {m:MU},bZ s.bx vs qs→IL s ps vs=some (x,iss)→Mb ps ls x o→Sa s ps ls iss kss o=some m→wg B' m.us →
  (UAl G B' m.us (SE ps ls iss kss x o)∧m.gs=pz ps iss∧∀ i∈m.gs,aD m.ks i=true)∧∀ t sb,(t,sb)∈m.us→Bw s m.ks (bm kss) t sb
 | [],[],[],[],x,o,vs,qs,m,_,_,_,h,_=>by
  have h:some (⟨[],[],[]⟩ : MU)=some m:=h
  injection h with h
  subst h
  exact ⟨⟨.nil,rfl,fun _ h=>by cases h⟩,fun t sb h=>by cases h⟩
 | [],[],[],_ :: _,x,o,vs,qs,m,_,_,_,h,_=>by cases h
 | [],[],_ :: _,_,x,o,vs,qs,m,_,_,_,h,_=>by cases h
 | [],_ :: _,_,_,x,o,vs,qs,m,_,_,_,h,_=>by cases h
 | _ :: _,[],_,_,x,o,vs,qs,m,_,_,_,h,_=>by cases h
 | _ :: _,_ :: _,[],_,x,o,vs,qs,m,_,_,_,h,_=>by cases h
 | _ :: _,_ :: _,_ :: _,[],x,o,vs,qs,m,_,_,_,h,_=>by cases h
 | pt::ps,b::ls,is::iss,js::kss,x,o,vs,qs,m,hv,hd,hl,h,hsn=>by
  have h:(match ZF s pt b is js o.1,Sa s ps ls iss kss o.2 with | some m,some m'=>some (m.app m') | _,_=>none)=some m:=h
  cases vs with
  | nil=>cases hd
  | cons v vs =>
  rcases hv.cases with ⟨h1,_⟩ | ⟨v',q,vs',qs',h1,rfl,h2,h3⟩
  ·cases h1
  ·injection h1 with e1 e2
   subst e1 e2
   simp only [IL] at hd
   split at hd
   ·rename_i y is1 ys iss1 m1 m2
    injection hd with hd
    injection hd with e1 e2
    injection e2 with e2 e3
    subst e1 e2 e3
    split at h
    ·rename_i ma mb ha hb
     injection h with h
     subst h
     have hsn:wg B' (ma.us++mb.us):=hsn
     obtain ⟨s1,s2⟩:=hsn.app
     obtain ⟨⟨k1,g1,g2⟩,k2⟩:=Yl hs h2 m1 hl.1 ha s1
     obtain ⟨⟨k3,g3,g4⟩,k4⟩:=MB hs h3 m2 hl.2 hb s2
     refine ⟨⟨k1.app k3,by show ma.gs++mb.gs = _; rw [g1,g3]; rfl,fun i hi=>?_⟩,fun t sb hm=>?_⟩
     ·have hi:i∈ma.gs++mb.gs:=hi
      rcases List.mem_append.1 hi with hi | hi
      ·exact dK.2 (List.mem_append_left _ (dK.1 (g2 i hi)))
      ·exact dK.2 (List.mem_append_right _ (dK.1 (g4 i hi)))
     have hm:(t,sb)∈ma.us++mb.us:=hm
     rcases List.mem_append.1 hm with hm | hm
     ·exact (k2 t sb hm).more (fun t ht=>dK.2 (List.mem_append_left _ (dK.1 ht))) fun t ht=>List.mem_append_left _ ht
     ·exact (k4 t sb hm).more (fun t ht=>dK.2 (List.mem_append_right _ (dK.1 ht))) fun t ht=>List.mem_append_right _ ht
    ·cases h
   ·cases hd
theorem Mo (l:BU) : ∀ (is:List Nat),(∀ i∈is,aD G i=true)→UAl G B' (lr is) (EM l is)
 | [],_=>.nil
 | a::is,hg=>.cons a _ _ _ _ (fun y hy=>by cases hy) (fun _=>hg a List.mem_cons_self) (Mo l is fun i hi=>hg i (List.mem_cons_of_mem _ hi))
theorem rN:∀ {is:List Nat} {t:Nat} {sb:Option a6},(t,sb)∈lr is→t∈is∧sb=none
 | [],t,sb,h=>by cases h
 | a::is,t,sb,h=>by
  rcases List.mem_cons.1 h with e | h
  ·injection e with e1 e2; subst e1 e2; exact ⟨List.mem_cons_self,rfl⟩
  ·obtain ⟨h1,h2⟩:=rN h; exact ⟨List.mem_cons_of_mem _ h1,h2⟩
theorem Ig:∀ {is:List Nat} {t:Nat},t∈is→(t,none)∈lr is
 | a::is,t,h=>by
  rcases List.mem_cons.1 h with rfl | h
  ·exact List.mem_cons_self
  ·exact List.mem_cons_of_mem _ (Ig h)
theorem E6:∀ {ps:List PT} {iss:List (List Nat)} {x:ct ps} {vs:List SV} {bs:List (Nat×Option a6)},sR ps=true→MC ps iss x=some (vs,bs)→wg B' bs→UAl G B' bs (dU ps iss x).2∧bZ B' vs (dU ps iss x).1
 | [],[],x,vs,bs,_,h,_=>by
  injection h with h
  injection h with e1 e2
  subst e1 e2
  exact ⟨.nil,.nil⟩
 | [],_ :: _,x,vs,bs,_,h,_=>by cases h
 | _ :: _,[],x,vs,bs,_,h,_=>by cases h
 | pt::ps,is::iss,x,vs,bs,hp,h,hs=>by
  simp only [MC] at h
  simp only [sR] at hp
  split at hp
  ·rename_i hp1
   split at h
   ·rename_i v b vs' bs' he hr
    injection h with h
    injection h with e1 e2
    subst e1 e2
    obtain ⟨s1,s2⟩:=hs.app
    obtain ⟨k1,k2⟩:=Ka (G:=G) (B':=B') hp1 he s1
    obtain ⟨k3,k4⟩:=E6 hp hr s2
    exact ⟨k1.app k3,.cons k2 k4⟩
   ·cases h
  ·cases hp
theorem UAl.dom {us:List (Nat×Option a6)} {u:BU} (h:UAl G B' us u) : bU u=idU us:=by
 induction h with
 | nil=>rfl
 | cons t sb b us u h1 h2 h ih=>simp only [bU,idU,ih]
theorem Dj:∀ {l l':List (Nat×Option a6)},(idU l).Nodup→wg (l++l') l
 | [],_,_,t,x,hm=>by cases hm
 | (i,b)::l,l',hn,t,x,hm=>by
  rw [show idU ((i,b)::l)=i::idU l from rfl,List.nodup_cons] at hn
  rw [List.cons_append,ar]
  rcases List.mem_cons.1 hm with e | hm
  ·injection e with e1 e2
   subst e1 e2
   rw [if_pos rfl]
  ·rw [if_neg (fun (e:t=i)=>hn.1 (by rw [← e]; exact eW.2 ⟨_,hm⟩))]
   exact Dj hn.2 t x hm
end
section
variable {B B':List (Nat×Option a6)} {s:SS} {p:PS} {P:Program} {ρ : Type} {G:List Nat} {sc:List Nat}
theorem HA:∀ (rs:List PT) (base:Nat),iA rs (n7 base rs)
 | [],_=>trivial
 | p::l,base=>⟨List.length_range',HA l _⟩
theorem B8:∀ (ls:List IB) (base:Nat),jS ls (uo base ls)
 | [],_=>trivial
 | p::l,base=>⟨List.length_range',B8 l _⟩
theorem oQ:∀ {l:BU} {t:Nat} {B:Box},lkU l t=some B→(t,B)∈l
 | [],t,B,h=>by cases h
 | (j,C)::l,t,B,h=>by
  simp only [lkU] at h
  split at h
  ·rename_i e; subst e; injection h with h; subst h; exact List.mem_cons_self
  ·exact List.mem_cons_of_mem _ (oQ h)
theorem xj {rows:List (Nat×Nat×Nat×Ty)} {is:List Nat} : ∀ {ds:List D} {j t:Nat} {Bx:Box},(t,Bx)∈cg (ml rows is) j ds→t∈is
 | [],j,t,Bx,h=>by cases h
 | d::ds,j,t,Bx,h=>by
  simp only [cg] at h
  split at h
  ·rename_i hf
   split at h
   ·rcases List.mem_cons.1 h with e | h
    ·injection e with e _; subst e; exact DG hf
    ·exact xj h
   ·exact xj h
  ·exact xj h
theorem Ju {pt:PT} {is:List Nat} {x:pt.den} {t:Nat} {Bx:Box} (h:(t,Bx)∈(toI pt is x).2) : t∈is:=by
 cases pt with
 | lf=>cases h
 | ag=>cases h
 | pl=>cases h
 | ps=>cases h
 | fn=>cases h
 | io=>cases h
 | own e k t' =>
  simp only [toI] at h
  split at h
  ·simp only [List.mem_cons,List.not_mem_nil,or_false,Prod.mk.injEq] at h; simp [h.1]
  ·cases h
 | mv e k t' =>
  simp only [toI] at h
  split at h
  ·simp only [List.mem_cons,List.not_mem_nil,or_false,Prod.mk.injEq] at h; simp [h.1]
  ·cases h
 | bx ty n rows =>
  simp only [toI] at h
  split at h
  ·rcases List.mem_cons.1 h with e | h
   ·injection e with e _; subst e; exact List.mem_cons_self
   ·exact List.mem_cons_of_mem _ (xj h)
  ·cases h
 | agr n rows=>exact xj h
theorem rS (l:List Nat) (ls:List (List Nat)) : bm (l::ls)=l++bm ls:=rfl
theorem DQ:∀ {ps:List PT} {iss:List (List Nat)} {x:ct ps} {t:Nat} {Bx:Box},(t,Bx)∈(dU ps iss x).2→t∈bm iss
 | [],_,_,_,_,h=>by cases h
 | _ :: _,[],_,_,_,h=>by cases h
 | p::ps,is::iss,x,t,Bx,h=>by
  simp only [dU,List.mem_append] at h
  rw [rS,List.mem_append]
  exact h.imp Ju DQ
def WL (p:PS) : List Nat→BU
 | []=>[]
 | t::l=>match p.b t with | some B=>(t,B)::WL p l | none=>WL p l
theorem vI (p:PS) : ∀ (l:List Nat) (t:Nat),lkU (WL p l) t=if t∈l then p.b t else none
 | [],t=>rfl
 | a::l,t=>by
  simp only [WL]
  cases ha:p.b a with
  | none =>
   rw [vI p l t]
   by_cases h:t=a
   ·subst h; simp [ha]
   ·simp [h]
  | some B =>
   simp only [lkU]
   by_cases h:t=a
   ·subst h; simp [ha]
   ·simp only [h,if_false,List.mem_cons,false_or]; exact vI p l t
structure Za (sc:List Nat) (P:Program) (f:Nat) (dst:Option Nat) (s:SS) (p:PS) (qs:List PV) (v:SV) (m:MU) (r:PV) (u:BU) : Prop where
 ro:s.ro=false
 call:Zb P p.b f qs r u
 sim:Sim (s.updM dst v m) (p.updL dst r u)
 keep:∀ W,(∀ d,dst=some d→aD W d=true)→dA sc W s (s.updM dst v m)
 foot:∀ t Bx,lkU u t=some Bx→t∈idU m.us
theorem WH {T:List (Nat×Ent)} (hT:qQ P T) (hpr:mf s) (hs:Sim s p) {f:Nat} {dst:Option Nat} {vs:List SV} {qs:List PV} (hM:Ti T f vs=true) (hv:bZ s.bx vs qs) {k:SV→MU→Option ρ} {res : ρ} (h:Sn T f s dst vs k=some res) :
  ∃ v m r u,k v m=some res∧Za sc P f dst s p qs v m r u:=by
 unfold Sn at h
 split at h
 ·cases h
 ·rename_i hro
  split at h
  ·rename_i en d hen
   split at h
   ·rename_i x iss hd
    obtain ⟨r,hf,h⟩:=cM h
    simp only at h
    split at h
    ·rename_i m ws bs hm hbs
     obtain ⟨hc,h⟩:=ao h
     simp only [Bool.and_eq_true] at hc
     obtain ⟨c1,c2,c3,c4,c5,c6,c7,c10,c8,c9,c11⟩:=hc
     have c1:=Ei c1
     have c2:=Ej c2
     have c3:=iR c3
     have c4:=iR c4
     have c5:=Ek c5
     have c6:=rA c6
     have c7:=rA c7
     have c8:=rA c8
     have hE:(oW en.ps||oW en.rs)=true:=by unfold Ti at hM; rw [hen] at hM; exact hM
     obtain ⟨hlen,hsem⟩:=(hT f _ en hen x r hf).2 hE
     obtain ⟨hsh,hargs,hbox⟩:=MR hs hv hd
     have hall:∀ i∈bm iss,i∈bU (dU en.ps iss x).2:=fun i hi=>by
      unfold Y6 at c10
      split at c10
      ·rename_i vv bi hbi
       rw [Bool.and_eq_true] at c10
       have hse:=Dj (l':=[]) (iR c10.1)
       obtain ⟨z1,_⟩:=E6 (G:=[]) c11 hbi hse
       rw [z1.dom]
       exact rA c10.2 i hi
      ·cases c10
     obtain ⟨hcb,hsem⟩:=hsem iss (uo (500000 + 64 * d) (cx en.rs)) (n7 (500000 + 64 * d + DV (cx en.rs)) (eT en.rs)) hsh (B8 _ _) (HA _ _) c3 (fun j hj=>(c2 j (List.mem_append_right _ hj)).2.2) hall
     have hseen:wg ((m.us++(bs++lr m.gs))++xc m.ks s.bx) (m.us++(bs++lr m.gs)):=Dj c4
     have hG:∀ i∈m.gs,aD (m.gs++s.oc) i=true:=fun i hi=>dK.2 (List.mem_append_left _ hi)
     obtain ⟨s1,s23⟩:=hseen.app
     obtain ⟨s2,_⟩:=s23.app
     obtain ⟨⟨k1,g1,g2⟩,k2⟩:=MB (G:=m.gs++s.oc) hs hv hd hlen hm s1
     obtain ⟨k3,k4⟩:=Iy (G:=m.gs++s.oc) c9 hbs s2
     have hal:=k1.app (k3.app (Mo (dU en.ps iss x).2 m.gs hG))
     have hids:∀ t,t∈idU m.us++m.gs→t∈idU (m.us++(bs++lr m.gs)):=fun t ht=>by
      rcases List.mem_append.1 ht with ht | ht
      ·obtain ⟨sb,h⟩:=eW.1 ht; exact eW.2 ⟨sb,List.mem_append_left _ h⟩
      ·exact eW.2 ⟨none,List.mem_append_right _ (List.mem_append_right _ (Ig ht))⟩
     have hids2:∀ t,t∈idU bs→t∈idU (m.us++(bs++lr m.gs)):=fun t ht=>by obtain ⟨sb,h⟩:=eW.1 ht; exact eW.2 ⟨sb,List.mem_append_right _ (List.mem_append_left _ h)⟩
     have hids3:∀ t,t∈idU (m.us++(bs++lr m.gs))→t∈idU m.us++m.gs∨t∈idU bs:=fun t ht=>by
      obtain ⟨sb,h⟩:=eW.1 ht
      rcases List.mem_append.1 h with h | h
      ·exact .inl (List.mem_append_left _ (eW.2 ⟨sb,h⟩))
      ·rcases List.mem_append.1 h with h | h
       ·exact .inr (eW.2 ⟨sb,h⟩)
       ·exact .inl (List.mem_append_right _ (rN h).1)
     have hlk:=fun t=>Va hal (xc m.ks s.bx) t
     have hnone2:∀ t,t∈idU bs++(bm (uo (500000 + 64 * d) (cx en.rs))++bm (n7 (500000 + 64 * d + DV (cx en.rs)) (eT en.rs)))→p.b t=none:=fun t ht=>by
      obtain ⟨n1,n2,_⟩:=c2 t ht
      have:=hs.bx t
      rw [n2] at this
      exact this (mH n1).1
     have hnone:∀ t,t∈idU bs→p.b t=none:=fun t ht=>hnone2 t (List.mem_append_left _ ht)
     have hBL:ZQ m.ks s.bx ((m.us++(bs++lr m.gs))++xc m.ks s.bx):=by
      refine ⟨fun t hk e kk ty xs pins hb=>?_,fun t ty cs hb=>?_⟩
      ·rcases hlk t with ⟨m1,sb,b,m2,m3,m4,m5⟩ | ⟨m1,m2,_⟩
       ·obtain ⟨sb',hsb'⟩:=eW.1 m1
        rcases List.mem_append.1 hsb' with hin | hin
        ·rcases k2 t sb' hin with q | q | ⟨ty',cs',q⟩ | ⟨e1,kk1,ty1,xs1,pins1,e2,kk2,ty2,xs2,q1,q2,q3⟩
         ·rw [hk] at q; cases q
         ·have:=(c2 t (List.mem_append_right _ (List.mem_append_left _ q))).2.1
          rw [hb] at this
          cases this
         ·rw [hb] at q; cases q
         ·rw [hb] at q1
          injection q1 with q1
          injection q1 with z1 z2 z3 z4 z5
          subst z3
          have z4:=eq_of_heq z4
          subst z1 z2 z4 z5 q2
          refine ⟨_,_,_,_,_,hseen t _ (List.mem_append_left _ hin),q3,fun pp pin hp=>⟨⟨pin.i,none⟩,by rw [mJ,hp]; rfl,rfl⟩⟩
        ·rcases List.mem_append.1 hin with hin | hin
         ·have:=(c2 t (List.mem_append_left _ (eW.2 ⟨_,hin⟩))).2.1
          rw [hb] at this
          cases this
         ·rw [g2 t (rN hin).1] at hk; cases hk
       ·exact ⟨e,kk,ty,xs,pins,by rw [m2,uw,hb]; rfl,rfl,fun _ pin hp=>⟨pin,hp,rfl⟩⟩
      ·rcases hlk t with ⟨m1,sb,b,m2,m3,m4,m5⟩ | ⟨m1,m2,_⟩
       ·obtain ⟨sb',hsb'⟩:=eW.1 m1
        rcases List.mem_append.1 hsb' with hin | hin
        ·obtain ⟨cs',q1,_⟩:=c5 t sb' (List.mem_append_left _ hin) ty cs hb
         subst q1
         exact ⟨ty,cs',hseen t _ (List.mem_append_left _ hin)⟩
        ·rcases List.mem_append.1 hin with hin | hin
         ·have:=(c2 t (List.mem_append_left _ (eW.2 ⟨_,hin⟩))).2.1
          rw [hb] at this
          cases this
         ·obtain ⟨cs',q1,_⟩:=c5 t sb' (List.mem_append_right _ hin) ty cs hb
          rw [(rN hin).2] at q1
          cases q1
       ·exact ⟨ty,_,by rw [m2,uw,hb]; rfl⟩
     have hu:∀ t,lkU (tH en.ps en.rs iss (uo (500000 + 64 * d) (cx en.rs)) (n7 (500000 + 64 * d + DV (cx en.rs)) (eT en.rs)) x r) t=lkU (SE en.ps (cx en.rs) iss (uo (500000 + 64 * d) (cx en.rs)) x (jN en.rs r)++((cP (eT en.rs) (n7 (500000 + 64 * d + DV (cx en.rs)) (eT en.rs)) (iB en.rs r)).2++EM (dU en.ps iss x).2 m.gs)) t:=fun t=>by unfold tH; rw [g1]
     refine ⟨VG ws,⟨m.ks,m.us++(bs++lr m.gs),m.gs⟩,yz (cP (eT en.rs) (n7 (500000 + 64 * d + DV (cx en.rs)) (eT en.rs)) (iB en.rs r)).1,tH en.ps en.rs iss (uo (500000 + 64 * d) (cx en.rs)) (n7 (500000 + 64 * d + DV (cx en.rs)) (eT en.rs)) x r,h,hro,⟨hcb,WL p (bm iss),fun t Bx ht=>?_,fun t Bx ht hn=>?_,fun w0 F0 ρ' b w F ws' hb hbn hi hr=>?_⟩,⟨fun i=>?_,fun t=>?_⟩,fun W hW=>?_,fun t Bx ht=>?_⟩
     ·rw [vI] at ht
      split at ht
      ·rename_i hin
       rcases hlk t with ⟨_,_,b,_,m3,_⟩ | ⟨m1,_⟩
       ·exact ⟨⟨b,(hu t).trans m3⟩,ht⟩
       ·exact absurd (hids t (c6 t hin)) m1
      ·cases ht
     ·rw [vI] at hn
      rcases hlk t with ⟨m1,_⟩ | ⟨_,_,m3⟩
      ·rcases hids3 t m1 with m1 | m1
       ·rcases List.mem_append.1 (c7 t m1) with m1 | m1
        ·rw [if_pos m1] at hn; exact hn
        ·exact hnone2 t (List.mem_append_right _ (List.mem_append_left _ m1))
       ·exact hnone t m1
      ·rw [hu,m3] at ht; cases ht
     ·refine hsem w0 F0 ρ' b w F ws' qs hargs (fun t Bx ht=>?_) (fun t ht=>?_) hi hr
      ·have hm:=oQ ht
       obtain ⟨B1,q1,q2⟩:=hbox t Bx hm
       exact ⟨B1,hb t B1 (by rw [vI,if_pos (DQ hm)]; exact q1),q2⟩
      ·have hin:=c8 t ht
       rcases hlk t with ⟨_,_,b1,_,m3,_⟩ | ⟨m1,_⟩
       ·refine hbn t b1 ((hu t).trans m3) ?_
        rw [vI,if_neg (fun h1=>?_)]
        exact (List.nodup_append.1 c3).2.2 t h1 t ht rfl
       ·exact absurd ((List.mem_append.1 hin).elim (fun h=>hids t (List.mem_append_left _ h)) (hids2 t)) m1
     ·show be ((m.us++(bs++lr m.gs))++xc m.ks s.bx) (lkV (sH (SI m.ks s.sl) (some d) (VG ws)) i) (w9 p.t (some d) _ i)
      rw [vA]
      unfold w9
      split
      ·exact VF k4
      ·rw [OQ]; exact (hs.sl i).st hBL
     ·show mj ((m.us++(bs++lr m.gs))++xc m.ks s.bx) (aD (m.gs++s.oc) t) (lkB ((m.us++(bs++lr m.gs))++xc m.ks s.bx) t) (dD p.b _ t)
      rcases hlk t with ⟨_,sb,b,m2,m3,m4,m5⟩ | ⟨_,m2,m3⟩
      ·rw [m2]
       have hb:dD p.b (tH en.ps en.rs iss (uo (500000 + 64 * d) (cx en.rs)) (n7 (500000 + 64 * d + DV (cx en.rs)) (eT en.rs)) x r) t=some b:=by simp only [dD,hu,m3]
       rw [hb]
       cases sb with
       | none=>intro ho; rw [m5 rfl] at ho; cases ho
       | some y=>have:=m4 y rfl; cases y <;> exact this
      ·rw [m2,uw]
       have hb:dD p.b (tH en.ps en.rs iss (uo (500000 + 64 * d) (cx en.rs)) (n7 (500000 + 64 * d + DV (cx en.rs)) (eT en.rs)) x r) t=p.b t:=by simp only [dD,hu,m3]
       rw [hb]
       have hbx:=hs.bx t
       cases hl:lkB s.bx t with
       | none =>
        rw [hl] at hbx
        intro ho
        refine hbx (yE.2 fun hi=>?_)
        rw [yE] at ho
        exact ho (List.mem_append_right _ hi)
       | some y =>
        rw [hl] at hbx
        cases y with
        | st ty cs=>obtain ⟨qs',z1,z2⟩:=hbx; exact ⟨qs',z1,z2.st hBL⟩
        | rw e kk ty xs pins=>exact hbx
     ·have hkp:∀ t,aD m.ks t=true→aD s.pr t=false:=fun t ht=>c1 t (List.mem_append_right _ (List.mem_append_left _ (dK.1 ht)))
      refine ⟨rfl,rfl,fun t ht=>?_,fun i hi hsf=>?_,fun t _ ty cs hb=>?_⟩
      ·show kO _ (lkB ((m.us++(bs++lr m.gs))++xc m.ks s.bx) t)
       rcases hlk t with ⟨m1,_⟩ | ⟨_,m2,_⟩
       ·rcases hids3 t m1 with m1 | m1
        ·have:t∈idU m.us++(m.ks++m.gs):=by
          rcases List.mem_append.1 m1 with m1 | m1
          ·exact List.mem_append_left _ m1
          ·exact List.mem_append_right _ (List.mem_append_right _ m1)
         rw [c1 t this] at ht; cases ht
        ·rw [(mH (c2 t (List.mem_append_left _ m1)).1).2] at ht; cases ht
       ·rw [m2,uw]
        obtain ⟨b',z1,z2⟩:=hpr t ht
        rw [z1]
        cases b' with
        | st ty cs=>simp only [Option.map_some,ZV]; rw [o7 cs z2]; rfl
        | rw e kk ty xs pins=>exact ⟨pins,rfl⟩
      ·show lkV (sH (SI m.ks s.sl) (some d) (VG ws)) i=lkV s.sl i
       rw [vA,if_neg (fun e=>by rw [hW i e] at hi; cases hi),OQ]
       exact Ri hkp _ hsf
      ·show ∃ cs',lkB ((m.us++(bs++lr m.gs))++xc m.ks s.bx) t = _∧_
       rcases hlk t with ⟨m1,sb,b,m2,m3,m4,m5⟩ | ⟨m1,m2,_⟩
       ·obtain ⟨sb',hsb'⟩:=eW.1 m1
        rcases List.mem_append.1 hsb' with hin | hin
        ·obtain ⟨cs',q1,q2⟩:=c5 t sb' (List.mem_append_left _ hin) ty cs hb
         subst q1
         exact ⟨cs',hseen t _ (List.mem_append_left _ hin),q2⟩
        ·rcases List.mem_append.1 hin with hin | hin
         ·have:=(c2 t (List.mem_append_left _ (eW.2 ⟨_,hin⟩))).2.1
          rw [hb] at this
          cases this
         ·obtain ⟨cs',q1,q2⟩:=c5 t sb' (List.mem_append_right _ hin) ty cs hb
          rw [(rN hin).2] at q1
          cases q1
       ·exact ⟨_,by rw [m2,uw,hb]; rfl,po _ _⟩
     ·rcases hlk t with ⟨m1,_⟩ | ⟨_,_,m3⟩
      ·exact m1
      ·rw [hu,m3] at ht; cases ht
    ·cases h
   ·cases h
  ·cases h
end
section
variable {sc:List Nat} {P:Program} {T:List (Nat×Ent)} {ops:Array Oper}
def LeQ (q:Bool) (p p':PS) : Prop:=match q with | true=>Le p p' | false=>p' = p
theorem LeQ.refl (q:Bool) (p:PS) : LeQ q p p:=by cases q; exact rfl; exact Le.refl p
def wi (q:Bool) (P:Program) (ops:Array Oper) (bd:Nat→Bd) : Nat→List Oper→PS→(PS→Prop)→Prop
 | _,[],s,K=>K s
 | i,o::l,s,K=>∃ s1,LeQ q s s1∧∃ r u,Eff P ops o s1 r u∧(q=false→fj ops o s1 u (bd i))∧wi q P ops bd (i + 1) l (s1.updL o.dst r u) K
theorem Ma {bd:Nat→Bd} {w0:WM} {F0:Nat→Prop} {n:Nat} {Q:Exit→Act→World→Prop} {Qs:Exit→PS→Prop} (hQ:∀ e s a w,Qs e s→nX n w0 F0 s a w→Q e a w) : ∀ (i:Nat) (l:List Oper) (s:PS) (a:Act) (w:World),IC n l=true→wi true P ops bd i l s (Qs .normal)→nX n w0 F0 s a w→wpList P ops Q l a w
 | _,[],s,a,w,_,h,hc=>hQ _ s a w h hc
 | i,o::l,s,a,w,hd,h,hc=>by
  obtain ⟨s1,h1,r,u,h2,_,h3⟩:=h
  have hc1:=(show Le s s1 from h1) n w0 F0 a w hc
  obtain ⟨hd1,hd2⟩:=Pg hd
  exact wpList_step fun K hK=>VD (f:=0) hc1 h2 hd1 (fun a' w' hc'=>hK _ _ (Ma hQ (i + 1) l _ a' w' hd2 h3 hc'))
theorem LS {bd:Nat→Bd} {n:Nat} {Qs:Exit→PS→Prop} {s:PS} {id:Nat} {l:List Oper} (hd:IC n l=true) (h:wi true P l.toArray bd 0 l s (Qs .normal)) : PWP P n (.region id l.toArray false) Qs s :=
 fun _ _ a w hc=>wp_region_lit (Ma (Qs:=Qs) (fun _ s' _ _ h1 h2=>⟨s',h1,h2⟩) 0 l s a w hd h hc)
theorem AN {bd:Nat→Bd} {K:PS→Prop} : ∀ (l:List Oper) (k:Nat) (s:PS),(∀ j,j < l.length→l[j]? = ops[k + j]?)→wi false P ops bd k l s K→FM P ops bd (List.range' k l.length) s K
 | [],k,s,_,h=>h
 | o::l,k,s,hl,h=>by
  obtain ⟨s1,he,r,u,h1,hf,h2⟩:=h
  have he:s1=s:=he
  subst he
  have h0:ops[k]? = some o:=by simpa using (hl 0 (by simp)).symm
  rw [List.length_cons,List.range'_succ]
  exact ⟨o,r,u,h0,h1,hf rfl,AN l (k + 1) _ (fun j hj=>by have:=hl (j + 1) (by simp; omega); simpa [Nat.add_assoc,Nat.add_comm 1 j] using this) h2⟩
theorem Rn {bd:Nat→Bd} {K:PS→Prop} : ∀ (l:List Oper) (i k:Nat) (s:PS),(∀ j,j < l.length→l[j]? = ops[k + j]?)→wi true P ops bd i l s K→TU P ops (List.range' k l.length) s K
 | [],i,k,s,_,h=>h
 | o::l,i,k,s,hl,h=>by
  obtain ⟨s1,hle,r,u,h1,_,h2⟩:=h
  have h0:ops[k]? = some o:=by simpa using (hl 0 (by simp)).symm
  rw [List.length_cons,List.range'_succ]
  exact ⟨s1,hle,o,r,u,h0,h1,Rn l (i + 1) (k + 1) _ (fun j hj=>by have:=hl (j + 1) (by simp; omega); simpa [Nat.add_assoc,Nat.add_comm 1 j] using this) h2⟩
theorem fJ {q:Bool} {bd:Nat→Bd} : ∀ {l:List Oper} {i:Nat} {p:PS} {K K':PS→Prop},wi q P ops bd i l p K→(∀ p',K p'→K' p')→wi q P ops bd i l p K'
 | [],i,p,K,K',h,hk=>hk p h
 | o::l,i,p,K,K',h,hk=>by
  obtain ⟨s1,h1,r,u,h2,hf,h3⟩:=h
  exact ⟨s1,h1,r,u,h2,hf,fJ h3 hk⟩
theorem Ca {q:Bool} {bd:Nat→Bd} : ∀ {a b:List Oper} {i:Nat} {p:PS} {K:PS→Prop},wi q P ops bd i a p (fun p'=>wi q P ops bd (i + a.length) b p' K)→wi q P ops bd i (a++b) p K
 | [],b,i,p,K,h=>h
 | o::a,b,i,p,K,h=>by
  obtain ⟨s1,h1,r,u,h2,hf,h3⟩:=h
  refine ⟨s1,h1,r,u,h2,hf,Ca ?_⟩
  rw [List.length_cons] at h3
  rw [show i + 1 + a.length=i + (a.length + 1) by omega]
  exact h3
mutual
theorem pv {B:List (Nat×Option a6)} : ∀ {v:SV} {q:PV} {l:List Nat},be B v q→wG v=some l→∀ x∈bf q,x∈l
 | .junk,q,l,_,h,x,hx=>by cases h
 | .d c,q,l,hv,h,x,hx=>by cases hv with | d _ y _=>simp [bf] at hx
 | .fe cs,q,l,hv,h,x,hx=>by cases hv with | fe _ ds _ _=>simp [bf] at hx
 | .ptr t o,q,l,hv,h,x,hx=>by
  cases hv with
  | ptr _ _ ty cs hb=>injection h with h; subst h; simpa [bf] using hx
 | .row t,q,l,hv,h,x,hx=>by
  cases hv with
  | row _ n e k ty xs pins hb hn=>injection h with h; subst h; simpa [bf] using hx
 | .re t p o,q,l,hv,h,x,hx=>by
  cases hv with
  | re _ _ _ n i e k ty xs pins pin hb hn hp hi=>injection h with h; subst h; simpa [bf] using hx
 | .vw t p o,q,l,hv,h,x,hx=>by
  cases hv with
  | vw _ _ _ n e k ty xs pins hb hn=>injection h with h; subst h; simpa [bf] using hx
 | .ag cs,q,l,hv,h,x,hx=>by
  cases hv with
  | ag _ qs hl hr=>exact mF (qs:=qs) ⟨hl,hr⟩ h x (by simpa [bf] using hx)
 | .tup cs,q,l,hv,h,x,hx=>by
  cases hv with
  | tup _ qs hl hr=>exact mF (qs:=qs) ⟨hl,hr⟩ h x (by simpa [bf] using hx)
 | .fn f ps qs,q,l,hv,h,x,hx=>by
  cases hv with
  | fn _ _ _ ps' qs' hl hr hl2 hr2 =>
   simp only [wG] at h
   split at h
   ·rename_i a b ha hb
    injection h with h
    subst h
    simp only [bf,List.mem_append] at hx ⊢
    rcases hx with hx | hx
    ·exact .inl (mF (qs:=ps') ⟨hl,hr⟩ ha x hx)
    ·exact .inr (mF (qs:=qs') ⟨hl2,hr2⟩ hb x hx)
   ·cases h
theorem mF {B:List (Nat×Option a6)} : ∀ {cs:List SV} {qs:List PV} {l:List Nat},bZ B cs qs→qV cs=some l→∀ x∈bJ qs,x∈l
 | [],qs,l,hv,h,x,hx=>by
  rcases hv.cases with ⟨_,rfl⟩ | ⟨_,_,_,_,h1,_⟩
  ·simp [bJ] at hx
  ·cases h1
 | c::cs,qs,l,hv,h,x,hx=>by
  rcases hv.cases with ⟨h1,_⟩ | ⟨c',q,cs',qs',h1,rfl,h2,h3⟩
  ·cases h1
  ·injection h1 with e1 e2
   subst e1 e2
   simp only [qV] at h
   split at h
   ·rename_i a b ha hb
    injection h with h
    subst h
    simp only [bJ,List.mem_append] at hx ⊢
    rcases hx with hx | hx
    ·exact .inl (pv h2 ha x hx)
    ·exact .inr (mF h3 hb x hx)
   ·cases h
end
theorem Mq {o:Oper} {s:SS} {p:PS} {l:List Nat} (hs:Sim s p) (h:RY o s=some l) : ∀ x∈pB o p,x∈l:=by
 unfold RY at h
 unfold pB
 split at h <;> rename_i ho <;> simp only [ho]
 ·exact pv (bW hs _) h
 ·exact pv (bW hs _) h
 ·exact pv (bW hs _) h
 ·exact pv (bW hs _) h
 ·exact pv (bW hs _) h
 ·rename_i c
  split at h
  ·rename_i f hf
   simp only [hf]
   split at h
   ·rename_i a b ha hb
    injection h with h
    subst h
    intro x hx
    rcases List.mem_append.1 hx with hx | hx
    ·exact List.mem_append_left _ (pv (bW hs f) ha x hx)
    ·exact List.mem_append_right _ (mF (nM hs c.args.toList) hb x hx)
   ·cases h
  ·rename_i hf
   split
   ·rename_i f hf2
    exact absurd hf2 (hf f)
   ·exact mF (nM hs c.args.toList) h
 ·intro x hx
  simp at hx
theorem rB:∀ {l m:List Nat},Oj l m=true→∀ x∈l,fj.memL m x=true
 | [],m,_,x,hx=>by cases hx
 | a::l,m,h,x,hx=>by
  simp only [Oj] at h
  split at h
  ·rename_i ha
   rcases List.mem_cons.1 hx with rfl | hx
   ·exact ha
   ·exact rB h x hx
  ·cases h
theorem H0:∀ {l:List Nat} {x:Nat},fj.memL l x=true→x∈l
 | [],x,h=>by cases h
 | a::l,x,h=>by
  rw [A1,Bool.or_eq_true] at h
  rcases h with h | h
  ·have:=zd h; subst this; simp
  ·exact List.mem_cons_of_mem _ (H0 h)
theorem Mr {B:List Bd} {i:Nat} {o:Oper} {s:SS} {p:PS} {u:Upd} {w:Option (Nat×Box)} (hs:Sim s p) (hw:OkW s o.dst u w) {q:Bool} (h:Ij q B i o s u=true) : q=false→fj ops o p w.toList (yB B i):=by
 intro hq
 subst hq
 unfold Ij at h
 simp only at h
 split at h
 ·rename_i fs hf
  rw [Bool.and_eq_true] at h
  refine ⟨fun _ x hx=>rB h.1 x (Mq hs hf x hx),fun x Bx hx=>?_⟩
  cases w with
  | none=>cases hx
  | some y =>
   obtain ⟨t,b⟩:=y
   simp only [Option.toList,lkU] at hx
   split at hx
   ·rename_i e
    subst e
    exact rB h.2 x (H0 (hw x b rfl).2)
   ·cases hx
 ·cases h
theorem Wk {B:List Bd} {i:Nat} {o:Oper} {s:SS} {p:PS} {m:MU} {u:BU} (hs:Sim s p) (hw:∀ t Bx,lkU u t=some Bx→t∈idU m.us) {q:Bool} (h:RZ q B i o s m=true) : q=false→fj ops o p u (yB B i):=by
 intro hq
 subst hq
 unfold RZ at h
 simp only at h
 split at h
 ·rename_i fs hf
  rw [Bool.and_eq_true] at h
  exact ⟨fun _ x hx=>rB h.1 x (Mq hs hf x hx),fun x Bx hx=>rB h.2 x (hw x Bx hx)⟩
 ·cases h
theorem dc:∀ (a b:List Nat) (i:Nat),aD (a++b) i=(aD a i||aD b i)
 | [],b,i=>rfl
 | j::a,b,i=>by
  simp only [List.cons_append,aD,dc a b i]
  split <;> simp
theorem a7 (j:Nat) (l:List Nat) (i:Nat) : aD (j::l) i=(decide (i=j)||aD l i):=by
 simp only [aD,cR]
 by_cases h:i=j
 ·simp [h]
 ·simp [h]
theorem DM:∀ {g:Nat} {l a b:List Oper} {d:Nat},Rh g l=some (a,d,b)→l=a++b∧∃ o∈a,o.dst=some d
 | g,[],a,b,d,h=>by cases h
 | g,o::l,a,b,d,h=>by
  simp only [Rh] at h
  split at h
  ·rename_i d' hd
   injection h with h
   injection h with h1 h2
   injection h2 with h2 h3
   subst h1 h2 h3
   refine ⟨rfl,o,List.mem_cons_self,?_⟩
   split at hd
   ·rename_i g' d2 e1 e2 hdst
    split at hd
    ·injection hd with hd; subst hd; exact hdst
    ·cases hd
   ·cases hd
  ·split at h
   ·rename_i a' d' b' h'
    injection h with h
    injection h with h1 h2
    injection h2 with h2 h3
    subst h1 h2 h3
    obtain ⟨h4,o',h5,h6⟩:=DM h'
    exact ⟨by rw [h4]; rfl,o',List.mem_cons_of_mem _ h5,h6⟩
   ·cases h
theorem tc:∀ {l:List Oper} {o:Oper} {d:Nat},o∈l→o.dst=some d→aD (ci l) d=true
 | [],o,d,h,_=>by cases h
 | x::l,o,d,h,hd=>by
  rcases List.mem_cons.1 h with rfl | h
  ·simp only [ci,hd,a7,decide_true,Bool.true_or]
  ·have:=tc h hd
   simp only [ci]
   split
   ·simp [a7,this]
   ·exact this
theorem Bo:∀ {l:List Oper} {d:Nat},aD (ci l) d=true→∃ o∈l,o.dst=some d
 | [],d,h=>by cases h
 | x::l,d,h=>by
  simp only [ci] at h
  split at h
  ·rename_i d' hd'
   rw [a7,Bool.or_eq_true] at h
   rcases h with h | h
   ·have:=zd h
    subst this
    exact ⟨x,List.mem_cons_self,hd'⟩
   ·obtain ⟨o,h1,h2⟩:=Bo h
    exact ⟨o,List.mem_cons_of_mem _ h1,h2⟩
  ·obtain ⟨o,h1,h2⟩:=Bo h
   exact ⟨o,List.mem_cons_of_mem _ h1,h2⟩
theorem xC:∀ (a b:List Oper),ci (a++b)=ci a++ci b
 | [],b=>rfl
 | o::a,b=>by
  simp only [List.cons_append,ci,xC a b]
  split <;> rfl
theorem ut:∀ (ds:List Nat) (l:List (Nat×SV)) (i:Nat),lkV (oU ds l) i=if aD ds i=true then .junk else lkV l i
 | [],l,i=>by simp [oU,aD]
 | d::ds,l,i=>by
  simp only [oU,cQ,ut ds l i,a7]
  by_cases h:i=d
  ·simp [h]
  ·simp [h]
structure Fr (l:List Oper) (s:SS) (p p':PS) : Prop where
 t:s.ro=true→∀ i,aD (ci l) i=false→p'.t i=p.t i
 b:s.ro=true→∀ t,(lkB s.bx t≠none∨aD (ci l) t=false)→p'.b t=p.b t
theorem Zg {s:SS} {dst:Option Nat} {v:SV} {u:Upd} {t:Nat} (h:lkB s.bx t≠none) : lkB (s.upd dst v u).bx t≠none:=by
 cases u with
 | no=>exact h
 | grow t' b =>
  show lkB ((t',some b)::n5 t' s.bx) t≠none
  rw [ar]
  split
  ·simp
  ·rw [jl]; simpa using h
 | _ =>
  rename_i t' b
  show lkB ((t',some b)::s.bx) t≠none
  rw [ar]
  split
  ·simp
  ·exact h
theorem U6 {s:SS} {dst:Option Nat} {v:SV} {u:Upd} : (s.upd dst v u).ro=s.ro:=by cases u <;> rfl
theorem Yd {o:Oper} {l:List Oper} {s:SS} {p p':PS} {v:SV} {u:Upd} {q:PV} {w:Option (Nat×Box)} (hw:OkW s o.dst u w) (h:Fr l (s.upd o.dst v u) (p.upd o.dst q w) p') : Fr (o::l) s p p':=by
 have sub:∀ i,aD (ci (o::l)) i=false→aD (ci l) i=false∧o.dst≠some i:=fun i hi=>by
  simp only [ci] at hi
  split at hi
  ·rename_i d hd
   rw [a7,Bool.or_eq_false_iff] at hi
   refine ⟨hi.2,fun e=>?_⟩
   rw [hd] at e
   injection e with e
   have:=of_decide_eq_false hi.1
   exact this e.symm
  ·rename_i hd
   exact ⟨hi,fun e=>by rw [hd] at e; cases e⟩
 refine ⟨fun hro i hi=>?_,fun hro t ht=>?_⟩
 ·obtain ⟨h1,h2⟩:=sub i hi
  rw [h.t (by rw [U6]; exact hro) i h1]
  simp only [PS.upd,w9,if_neg h2]
 ·have hb:(p.upd o.dst q w).b t=p.b t:=by
   show dj p.b w t=p.b t
   unfold dj
   split
   ·rename_i j Bx
    rcases (hw j Bx rfl).1 with ⟨h1,h2⟩ | h1
    ·split
     ·rename_i e
      subst e
      rcases ht with ht | ht
      ·exact absurd h1 ht
      ·exact absurd h2 (sub t ht).2
     ·rfl
    ·rw [hro] at h1; cases h1
   ·rfl
  rw [h.b (by rw [U6]; exact hro) t (ht.imp Zg fun ht=>(sub t ht).1),hb]
def Gw (sc W:List Nat) (l:List Oper) (s:SS) (p:PS) {ρ : Type} (k:SS→Option ρ) (res : ρ) (p':PS) : Prop:=∃ s',Sim s' p'∧dA sc W s s'∧mf s'∧k s' = some res∧Fr l s p p'
theorem AV {W:List Nat} {o:Oper} {l:List Oper} {s:SS} {p p':PS} {ρ : Type} {k:SS→Option ρ} {res : ρ} {v:SV} {u:Upd} {q:PV} {w:Option (Nat×Box)} (hW:∀ d,o.dst=some d→aD W d=true) (hpr:mf s) (hu:OkU s u) (hw:OkW s o.dst u w)
  (h:Gw sc W l (s.upd o.dst v u) (p.upd o.dst q w) k res p') : Gw sc W (o::l) s p k res p':=by
 obtain ⟨s',h1,h2,h3,h4,h5⟩:=h
 exact ⟨s',h1,(yK hu hW hpr).trans h2,h3,h4,Yd hw h5⟩
theorem OH {W:List Nat} {f:Nat} {qs:List PV} {o:Oper} {l:List Oper} {s:SS} {p p':PS} {ρ : Type} {k:SS→Option ρ} {res : ρ} {v:SV} {m:MU} {r:PV} {u:BU} (hW:∀ d,o.dst=some d→aD W d=true) (hR:Za sc P f o.dst s p qs v m r u)
  (h:Gw sc W l (s.updM o.dst v m) (p.updL o.dst r u) k res p') : Gw sc W (o::l) s p k res p':=by
 obtain ⟨s',h1,h2,h3,h4,h5⟩:=h
 exact ⟨s',h1,(hR.keep W hW).trans h2,h3,h4,fun hro=>(by rw [hR.ro] at hro; cases hro),fun hro=>(by rw [hR.ro] at hro; cases hro)⟩
theorem XR {q:Bool} {o:Oper} {s s':SS} {p:PS} (hpr:mf s) (hs:Sim s p) (h:XS q T o s=some s') : ∃ p',LeQ q p p'∧Sim s' p'∧(∀ W,dA sc W s s')∧(s.ro=true→s' = s∧p' = p)∧(o.guard=none∨p' = p):=by
 have triv:s' = s→∃ p',LeQ q p p'∧Sim s' p'∧(∀ W,dA sc W s s')∧(s.ro=true→s' = s∧p' = p)∧(o.guard=none∨p' = p):=fun e=>by
  subst e; exact ⟨p,.refl _ _,hs,fun W=>.refl W s',fun _=>⟨rfl,rfl⟩,.inr rfl⟩
 unfold XS at h
 split at h
 ·rename_i hro hg
  have froz:∀ {l:List Nat},lu l s=some s'→∃ p',LeQ true p p'∧Sim s' p'∧(∀ W,dA sc W s s')∧(s.ro=true→s' = s∧p' = p)∧(o.guard=none∨p' = p):=fun h=>by
   obtain ⟨p',k1,k2,k3,k4⟩:=xw (sc:=sc) hpr hs h
   exact ⟨p',k1,k2,k3,fun h=>(by rw [hro] at h; cases h),.inl hg⟩
  split at h
  ·exact froz h
  ·split at h
   ·split at h
    ·split at h
     ·exact froz h
     ·split at h
      ·injection h with h; exact triv h.symm
      ·exact froz h
    ·injection h with h; exact triv h.symm
   ·injection h with h; exact triv h.symm
  ·injection h with h; exact triv h.symm
 ·injection h with h; exact triv h.symm
theorem Ea {W:List Nat} {l:List Oper} {s s1:SS} {p p1 p':PS} {ρ : Type} {k:SS→Option ρ} {res : ρ} (hk:dA sc W s s1) (hro:s.ro=true→s1=s∧p1=p) (h:Gw sc W l s1 p1 k res p') : Gw sc W l s p k res p':=by
 obtain ⟨s',h1,h2,h3,h4,h5⟩:=h
 refine ⟨s',h1,hk.trans h2,h3,h4,fun hr=>?_,fun hr=>?_⟩
 ·obtain ⟨e1,e2⟩:=hro hr
  subst e1 e2
  exact h5.t hr
 ·obtain ⟨e1,e2⟩:=hro hr
  subst e1 e2
  exact h5.b hr
theorem Dk {q:Bool} {B:List Bd} (hT:qQ P T) {W:List Nat} : ∀ (n i:Nat) (kn:List Nat) (l:List Oper) {ρ : Type} {s:SS} {p:PS} {k:SS→Option ρ} {res : ρ},(∀ o∈l,∀ d,o.dst=some d→aD W d=true)→(∀ (j:Nat) (o:Oper),ops[j]? = some o→∀ d,o.dst=some d→aD W d=true) →
  (∀ o∈l,∀ t x y,o.op = .store t x y→o.dst=none)→mf s→Sim s p→ud q P T ops B n i kn l s k=some res→wi q P ops (yB B) i l p (Gw sc W l s p k res):=by
 intro n
 induction n with
 | zero =>
  intro i kn l ρ s p k res hW hO hst hpr hs h
  cases l with
  | nil=>exact ⟨s,hs,.refl _ _,hpr,h,fun _ _ _=>rfl,fun _ _ _=>rfl⟩
  | cons o l=>cases h
 | succ n ih =>
  intro i kn l ρ s p k res hW hO hst hpr hs h
  cases l with
  | nil=>exact ⟨s,hs,.refl _ _,hpr,h,fun _ _ _=>rfl,fun _ _ _=>rfl⟩
  | cons o l =>
   have hWo:=hW o List.mem_cons_self
   have hWl:∀ o∈l,∀ d,o.dst=some d→aD W d=true:=fun o ho=>hW o (List.mem_cons_of_mem _ ho)
   have hstl:∀ o∈l,∀ t x y,o.op = .store t x y→o.dst=none:=fun o ho=>hst o (List.mem_cons_of_mem _ ho)
   have goOk:ku ops o p=some true→(match XS q T o s with
     | none=>none
     | some s=>(match uH o with
      | some (x,xs)=>(match evX s x with
       | .fn f ps qs=>(match Ti T f (ps++we s xs++qs) with
        | false=>chk (Ij q B i o s .no) (Sm T f s (ps++we s xs++qs) fun r=>ud q P T ops B n (i + 1) kn l (s.upd o.dst r .no) k)
        | true=>Sn T f s o.dst (ps++we s xs++qs) fun v m=>chk (RZ q B i o s m) (ud q P T ops B n (i + 1) kn l (s.updM o.dst v m) k))
       | _=>none)
      | none=>Yo P o s fun v u=>chk (Ij q B i o s u) (ud q P T ops B n (i + 1) kn l (s.upd o.dst v u) k)))=some res→wi q P ops (yB B) i (o::l) p (Gw sc W (o::l) s p k res):=by
    intro hg h
    split at h
    ·cases h
    ·rename_i s1 hfz
     obtain ⟨p1,hle,hs1,hk1,hro,hgn⟩:=XR (sc:=sc) hpr hs hfz
     have hg1:ku ops o p1=some true:=by
      rcases hgn with hgn | hgn
      ·simp [ku,hgn]
      ·rw [hgn]; exact hg
     have hpr1:mf s1:=(hk1 []).prOk hpr
     have mk:∀ {r:PV} {u:BU},Lj P o p1 r u→Eff P ops o p1 r u:=fun h=>by unfold Eff; rw [hg1]; exact h
     split at h
     ·rename_i x xs hc
      have hx:=bW hs1 x
      split at h
      rotate_left
      ·cases h
      rename_i f ps qs hev
      rw [hev] at hx
      obtain ⟨ps',qs',e1,e2,e3⟩:=YP hx
      split at h
      rotate_left
      ·rename_i hM
       obtain ⟨v,m,r,u,h,hR⟩:=WH (sc:=sc) hT hpr1 hs1 hM ((e2.append (nM hs1 xs)).append e3) h
       obtain ⟨hfb,h⟩:=ao h
       refine ⟨p1,hle,r,u,mk ?_,Wk hs1 hR.foot hfb,?_⟩
       ·unfold Lj
        simp only [hc,e1,CQ]
        exact .inr hR.call
       exact fJ (ih (i + 1) kn l hWl hO hstl ((hR.keep W hWo).prOk hpr1) hR.sim h) fun p' hp=>Ea (hk1 W) hro (OH hWo hR hp)
      rename_i hM
      obtain ⟨hfb,h⟩:=ao h
      obtain ⟨v,r,h1,h2,h3⟩:=WF hT hs1 hM ((e2.append (nM hs1 xs)).append e3) h
      refine ⟨p1,hle,r,[],mk ?_,Mr (w:=none) hs1 dI hfb,?_⟩
      ·unfold Lj
       simp only [hc,e1,CQ]
       exact .inl ⟨trivial,h1⟩
      have hs':Sim (s1.upd o.dst v .no) (p1.upd o.dst r none):=k9 hs1 h3
      rw [show ([] : BU)=(none:Option (Nat×Box)).toList from rfl,DN]
      exact fJ (ih (i + 1) kn l hWl hO hstl ((yK (sc:=sc) (u:=.no) trivial hWo hpr1).prOk hpr1) hs' h2) fun p' hp=>Ea (hk1 W) hro (AV (u:=.no) hWo hpr1 trivial dI hp)
     ·rename_i hc
      obtain ⟨v,u,qv,w,h1,h2,h3,h4,h5⟩:=Yn hs1 (hst o List.mem_cons_self) h
      obtain ⟨hfb,h2⟩:=ao h2
      refine ⟨p1,hle,qv,w.toList,mk ?_,Mr hs1 h5 hfb,?_⟩
      ·unfold Lj
       simp only [hc]
       exact ⟨w,h1,rfl⟩
      rw [DN]
      exact fJ (ih (i + 1) kn l hWl hO hstl ((yK (sc:=sc) h4 hWo hpr1).prOk hpr1) h3 h2) fun p' hp=>Ea (hk1 W) hro (AV hWo hpr1 h4 h5 hp)
   have skipOk:ku ops o p=some false→ud q P T ops B n (i + 1) kn l (s.upd o.dst (.tup []) .no) k=some res→wi q P ops (yB B) i (o::l) p (Gw sc W (o::l) s p k res):=by
    intro hg h
    refine ⟨p,.refl _ _,.tup [],[],by unfold Eff; rw [hg]; exact ⟨rfl,rfl⟩,fun _=>⟨fun h=>(by rw [hg] at h; cases h),fun x Bx h=>(by cases h)⟩,?_⟩
    rw [show ([] : BU)=(none:Option (Nat×Box)).toList from rfl,DN]
    have hs':Sim (s.upd o.dst (.tup []) .no) (p.upd o.dst (.tup []) none):=k9 hs (.tup [] [] rfl (fun j c q h=>by simp at h))
    exact fJ (ih (i + 1) kn l hWl hO hstl ((yK (sc:=sc) (u:=.no) trivial hWo hpr).prOk hpr) hs' h) fun p' hp=>AV (u:=.no) hWo hpr trivial dI hp
   unfold ud at h
   simp only at h
   split at h
   ·rename_i hg
    exact goOk (by simp [ku,hg]) h
   ·rename_i j want hg
    split at h
    ·cases h
    ·rename_i g hgd
     have hsg:=hs.sl g
     split at h
     ·rename_i hv
      rw [hv] at hsg
      obtain ⟨qs,h1,h2⟩:=U2 hsg
      have:qs = []:=by have:=h2.len; simpa using this.symm
      subst this
      exact skipOk (by simp [ku,hg,hgd,h1]) h
     ·rename_i b hv
      rw [hv] at hsg
      have hpg:=kU hsg
      have hgb:ku ops o p=some (b==want):=by simp [ku,hg,hgd,hpg,asB]
      split at h
      ·split at h
       ·split at h
        ·exact goOk (by rw [hgb]; rfl) h
        ·exact skipOk (by rw [hgb]; rfl) h
       ·split at h
        ·exact skipOk (by rw [hgb]; rfl) h
        ·exact goOk (by rw [hgb]; rfl) h
      ·split at h
       ·cases h
       ·rename_i l1 d l2 hup
        obtain ⟨h1,o1,h2,h3⟩:=DM hup
        obtain ⟨qb,h4,h5⟩:=cM h
        have hg0:∃ o',ops[j]? = some o'∧o'.dst=some g:=by
         cases ho:ops[j]? with
         | none=>simp [ho] at hgd
         | some o'=>exact ⟨o',rfl,by simpa [ho] using hgd⟩
        obtain ⟨o',ho',hdo'⟩:=hg0
        have hWg:aD W g=true:=hO j o' ho' g hdo'
        rw [h1]
        have hW1:∀ o∈l1,∀ d,o.dst=some d→aD W d=true:=fun o ho=>hW o (by rw [h1]; exact List.mem_append_left _ ho)
        have hW2:∀ o∈l2,∀ d,o.dst=some d→aD W d=true:=fun o ho=>hW o (by rw [h1]; exact List.mem_append_right _ ho)
        have hst1:∀ o∈l1,∀ t x y,o.op = .store t x y→o.dst=none:=fun o ho=>hst o (by rw [h1]; exact List.mem_append_left _ ho)
        have hst2:∀ o∈l2,∀ t x y,o.op = .store t x y→o.dst=none:=fun o ho=>hst o (by rw [h1]; exact List.mem_append_right _ ho)
        have hsb:Sim ⟨(g,.d (.bool b))::s.sl,s.bx,s.pr,true,s.oc⟩ p:=by
         refine ⟨fun i=>?_,hs.bx⟩
         show be s.bx (lkV ((g,.d (.bool b))::s.sl) i) (p.t i)
         rw [cQ]
         split
         ·rename_i e; subst e; exact hsg
         ·exact hs.sl i
        have hA:wi q P ops (yB B) i l1 p (Gw sc W l1 ⟨(g,.d (.bool b))::s.sl,s.bx,s.pr,true,s.oc⟩ p (Dh d) qb):=by
         cases b
         ·exact ih i (g::kn) l1 hW1 hO hst1 hpr hsb (by simpa using h4)
         ·exact ih i (g::kn) l1 hW1 hO hst1 hpr hsb (by simpa using h4)
        refine Ca (fJ hA fun p1 hp1=>?_)
        obtain ⟨s1,k1,k2,k3,k4,k5⟩:=hp1
        have hd:aD (ci l1) d=true:=tc h2 h3
        have hpd:p1.t d = .d (.v (.bool qb)):=by
         have:=k1.sl d
         unfold Dh at k4
         split at k4
         ·rename_i b' hb'
          injection k4 with k4
          subst k4
          rw [hb'] at this
          exact kU this
         ·cases k4
        have hs2:Sim ⟨(d,.d (.bool qb))::oU (ci l1) s.sl,s.bx,s.pr,s.ro,ci l1++s.oc⟩ p1:=by
         refine ⟨fun i=>?_,fun t=>?_⟩
         ·show be s.bx (lkV ((d,.d (.bool qb))::oU (ci l1) s.sl) i) (p1.t i)
          rw [cQ]
          split
          ·rename_i e; subst e; rw [hpd]; exact eM qb
          ·rw [ut]
           split
           ·exact .junk _
           ·rename_i hi
            rw [k5.t rfl i (by simpa using hi)]
            exact hs.sl i
         ·show mj s.bx (aD (ci l1++s.oc) t) (lkB s.bx t) (p1.b t)
          have hbt:=hs.bx t
          cases hl:lkB s.bx t with
          | none =>
           rw [hl] at hbt
           intro hoc
           rw [dc,Bool.or_eq_false_iff] at hoc
           rw [k5.b rfl t (.inr hoc.1)]
           exact hbt hoc.2
          | some bx =>
           rw [hl] at hbt
           rw [k5.b rfl t (.inl (by show lkB s.bx t≠none; rw [hl]; simp))]
           cases bx <;> exact hbt
        have hk2:dA sc W s ⟨(d,.d (.bool qb))::oU (ci l1) s.sl,s.bx,s.pr,s.ro,ci l1++s.oc⟩:=by
         refine ⟨rfl,rfl,fun _ _=>.refl _,fun i hi _=>?_,fun _ _ _ cs h=>⟨cs,h,rfl⟩⟩
         show lkV ((d,.d (.bool qb))::oU (ci l1) s.sl) i = _
         rw [cQ,if_neg (fun e=>by rw [e,hW1 o1 h2 d h3] at hi; cases hi),ut]
         rw [if_neg (fun e=>by
          obtain ⟨o2,m1,m2⟩:=Bo e
          rw [hW1 o2 m1 i m2] at hi
          cases hi)]
        refine fJ (ih (i + l1.length) kn l2 hW2 hO hst2 (hk2.prOk hpr) hs2 h5) fun p2 hp2=>?_
        obtain ⟨s3,m1,m2,m3,m4,m5⟩:=hp2
        refine ⟨s3,m1,hk2.trans m2,m3,m4,fun hro i hi=>?_,fun hro t ht=>?_⟩
        ·rw [xC,dc,Bool.or_eq_false_iff] at hi
         rw [m5.t hro i hi.2,k5.t rfl i hi.1]
        ·rw [xC,dc,Bool.or_eq_false_iff] at ht
         rw [m5.b hro t (ht.imp id fun h=>h.2),k5.b rfl t (ht.imp id fun h=>h.1)]
     ·cases h
end
theorem Tg {p:PS} (i e k:Nat) (ht:p.t i = .d (.v (.slice none 0 0))) (hb:p.b i=none) (hi0:i < 1000000) (hk : 0 < k) : Le p (p.upd (some i) (.row i 0) (some (i,.rw e k []))):=by
 intro n w0 F0 a w ⟨h1,h2,ρ,F,hi,hev⟩
 have hx:=(hev i)
 rw [ht] at hx
 obtain ⟨hx,_⟩:=hx.vv
 have hnew:=Ep (P:=default) (t:=i) (e:=e) (k:=k) (es:=[]) (xs:=[]) (v:=.slice none 0 0) (w':=w) hi hi0 hb hk (Ext.refl w) (fun g hg=>by cases hg) (World.ownsRow_nil w _ e k) (by simp) rfl (by simp)
 obtain ⟨v,w',ρ',hok,k1,k2,k3⟩:=hnew
 injection hok with e1 e2
 subst e1 e2
 refine ⟨h1,h2,ρ',F,k1,fun j=>?_⟩
 by_cases hj:i=j
 ·subst hj
  rw [hx]
  simpa [PS.upd,w9] using k3
 ·have:(p.upd (some i) (.row i 0) (some (i,.rw e k []))).t j=p.t j:=by simp [PS.upd,w9,hj]
  rw [this]
  exact (hev j).mono k2
theorem OU {p:PS} (i t j e k:Nat) {ty:TypeId} {cs:List PV} (hb:p.b t=some (.st ty cs)) (hc:cs[j]? = some (.d (.v (.slice none 0 0)))) (hi:p.b i=none) (hi0:i < 1000000) (hk : 0 < k) :
  Le p ⟨p.t,dj (dj p.b (some (i,.rw e k []))) (some (t,.st ty (cs.set j (.row i 0))))⟩:=by
 intro n w0 F0 a w ⟨h1,h2,ρ,F,hinv,hev⟩
 have hnew:=Ep (P:=default) (t:=i) (e:=e) (k:=k) (es:=[]) (xs:=[]) (v:=.slice none 0 0) (w':=w) hinv hi0 hi hk (Ext.refl w) (fun g hg=>by cases hg) (World.ownsRow_nil w _ e k) (by simp) rfl (by simp)
 obtain ⟨v,w',ρ',hok,k1,k2,k3⟩:=hnew
 injection hok with e1 e2
 subst e1 e2
 have hti:t≠i:=fun e=>by rw [e,hi] at hb; cases hb
 have hb1:(dj p.b (some (i,.rw e k []))) t=some (.st ty cs):=by rw [cD _ _ hti]; exact hb
 have hs2:Stp ρ' (dj p.b (some (i,.rw e k []))) w F ρ' (dj (dj p.b (some (i,.rw e k []))) (some (t,.st ty (cs.set j (.row i 0))))) w F:=by
  refine ⟨fun _ h=>h,fun _ _=>rfl,fun t' ty' cs' h=>⟨?_,rfl⟩,fun t' e' k' es h=>?_⟩
  ·by_cases h':t' = t
   ·subst h'; rw [di]; exact ⟨_,_,rfl⟩
   ·rw [cD _ _ h']; exact ⟨_,_,h⟩
  ·have h':t'≠t:=fun e=>by rw [e,hb1] at h; cases h
   rw [cD _ _ h']
   exact ⟨e',es,h,Nat.le_refl _,fun _=>rfl⟩
 have hinv2:Inv w0 F0 ρ' (dj (dj p.b (some (i,.rw e k []))) (some (t,.st ty (cs.set j (.row i 0))))) w F:=by
  have hs3:=hs2
  rw [← cW ρ' t] at hs3
  have:=Inv.turn (v:=ρ' t) (B':=.st ty (cs.set j (.row i 0))) (w':=w) k1 hb1 (by rw [cW] at hs3 ⊢; exact hs2) k1.ext (Nat.le_refl _) (fun _ _ _=>rfl) (fun g hg=>.inl hg) ?_
  ·rw [cW] at this; exact this
  ·rw [cW]
   cases k1.box t _ hb1 with
   | st _ _ g xs hρ hg hF hh hl h1x hr =>
    refine .st ty _ g xs hρ hg hF hh (by rw [List.length_set]; exact hl) h1x (fun p x c h4 h5=>?_)
    rw [List.getElem?_set] at h5
    split at h5
    ·rename_i hjp
     subst hjp
     split at h5
     ·injection h5 with h5
      subst h5
      have hx:=hr j x _ h4 hc
      obtain ⟨hx,_⟩:=hx.vv
      rw [hx]
      exact k3.mono hs2
     ·cases h5
    ·exact (hr p x c h4 h5).mono hs2
 exact ⟨h1,h2,ρ',F,hinv2,fun q=>((hev q).mono k2).mono hs2⟩
theorem BLe.trans {B B' B'':List (Nat×Option a6)} (h:BLe B B') (h':BLe B' B'') : BLe B B'':=by
 refine ⟨fun t e k ty xs pins h1=>?_,fun t ty cs h1=>?_⟩
 ·obtain ⟨e1,k1,ty1,xs1,pins1,h2,h3,h4⟩:=h.rw t e k ty xs pins h1
  obtain ⟨e2,k2,ty2,xs2,pins2,h5,h6,h7⟩:=h'.rw t e1 k1 ty1 xs1 pins1 h2
  refine ⟨e2,k2,ty2,xs2,pins2,h5,h6.trans h3,fun p pin hp=>?_⟩
  obtain ⟨pin1,h8,h9⟩:=h4 p pin hp
  obtain ⟨pin2,h10,h11⟩:=h7 p pin1 h8
  exact ⟨pin2,h10,h11.trans h9⟩
 ·obtain ⟨ty1,cs1,h2⟩:=h.st t ty cs h1
  exact h'.st t ty1 cs1 h2
theorem X5 {B:List (Nat×Option a6)} {b:Nat} {x:Option a6} (h:lkB B b=x) (t:Nat) : lkB ((b,x)::B) t=lkB B t:=by
 rw [ar]
 split
 ·rename_i e; subst e; exact h.symm
 ·rfl
theorem be.lk {B B':List (Nat×Option a6)} (h:∀ t,lkB B' t=lkB B t) {v:SV} {q:PV} (hv:be B v q) : be B' v q :=
 hv.mono ⟨fun t e k ty xs pins h1=>⟨e,k,ty,xs,pins,by rw [h]; exact h1,rfl,fun _ pin hp=>⟨pin,hp,rfl⟩⟩,fun t ty cs h1=>⟨ty,cs,by rw [h]; exact h1⟩⟩
theorem mj.lk {B B':List (Nat×Option a6)} (h:∀ t,lkB B' t=lkB B t) {o:Bool} {b:Option a6} {q:Option Box} (hv:mj B o b q) : mj B' o b q :=
 hv.mono ⟨fun t e k ty xs pins h1=>⟨e,k,ty,xs,pins,by rw [h]; exact h1,rfl,fun _ pin hp=>⟨pin,hp,rfl⟩⟩,fun t ty cs h1=>⟨ty,cs,by rw [h]; exact h1⟩⟩
theorem Sim.lk {sl:List (Nat×SV)} {B B':List (Nat×Option a6)} {pr oc:List Nat} {ro:Bool} {p:PS} (h:∀ t,lkB B' t=lkB B t) (hs:Sim ⟨sl,B,pr,ro,oc⟩ p) : Sim ⟨sl,B',pr,ro,oc⟩ p :=
 ⟨fun i=>(hs.sl i).lk h,fun t=>by show mj B' _ (lkB B' t) _; rw [h]; exact (hs.bx t).lk h⟩
theorem um {s:SS} {b:Nat} {ty:TypeId} : ∀ {rows:List (Nat×Nat×Nat×Nat×Ty)} {cs cs':List SV} {bx bx':List (Nat×Option a6)} {p:PS},(∃ x,lkB bx b=some x)→Sim ⟨s.sl,(b,some (.st ty cs))::bx,s.pr,s.ro,[]⟩ p→un s rows cs bx=some (cs',bx') →
  ∃ p',Le p p'∧Sim ⟨s.sl,(b,some (.st ty cs'))::bx',s.pr,s.ro,[]⟩ p'∧(∀ t,aD s.pr t=true→lkB bx' t=lkB bx t)∧cs'.length=cs.length∧∀ t x,lkB bx t=some x→lkB bx' t=some x
 | [],cs,cs',bx,bx',p,_,hs,h=>by
  injection h with h
  injection h with e1 e2
  subst e1 e2
  exact ⟨p,.refl p,hs,fun _ _=>rfl,rfl,fun _ _ h=>h⟩
 | (j,R,e,k,t)::l,cs,cs',bx,bx',p,hb,hs,h=>by
  simp only [un] at h
  split at h
  ·rename_i hj
   split at h
   ·rename_i hR hk hp
    have hk:=zd hk
    obtain ⟨xb,hxb⟩:=hb
    have hRb : ¬ R=b:=fun e=>by rw [e,hxb] at hR; cases hR
    have hbx:=hs.bx b
    have hbx:mj ((b,some (.st ty cs))::bx) (aD [] b) (lkB ((b,some (.st ty cs))::bx) b) (p.b b):=hbx
    rw [ar,if_pos rfl] at hbx
    obtain ⟨qs,h1,h2⟩:=hbx
    have hRn:lkB ((b,some (.st ty cs))::bx) R=none:=by rw [ar,if_neg hRb]; exact hR
    have hpR:p.b R=none:=by
     have h3:=hs.bx R
     have h3:mj ((b,some (.st ty cs))::bx) (aD [] R) (lkB ((b,some (.st ty cs))::bx) R) (p.b R):=h3
     rw [hRn] at h3
     exact h3 rfl
    have hlt:j < qs.length:=by rw [← h2.len]; exact (zg.1 hj).1
    have hqj:qs[j]? = some (.d (.v (.slice none 0 0))):=by
     have h3:qs[j]? = some qs[j]:=by simp [hlt]
     rw [h3,Rb (h2.rep j _ _ hj h3)]
    have hle:=OU R b j e k h1 hqj hpR hk.2 hk.1
    have hB1:BLe ((b,some (.st ty cs))::bx) ((R,some (.rw e k t [] []))::(b,some (.st ty cs))::bx):=qP hRn
    have hB2:BLe ((R,some (.rw e k t [] []))::(b,some (.st ty cs))::bx) ((b,some (.st ty (cs.set j (.row R))))::(R,some (.rw e k t [] []))::(b,some (.st ty cs))::bx):=Po (ty:=ty) (cs:=cs) (by rw [ar,if_neg (fun e=>hRb e.symm),ar,if_pos rfl])
    have hB:=hB1.trans hB2
    have hsame:∀ t',lkB ((b,some (.st ty (cs.set j (.row R))))::(R,some (.rw e k t [] []))::bx) t' = lkB ((b,some (.st ty (cs.set j (.row R))))::(R,some (.rw e k t [] []))::(b,some (.st ty cs))::bx) t':=fun t'=>by
     simp only [ar]
     split
     ·rfl
     ·rename_i h'; split
      ·rfl
      ·rfl
    have hs1:Sim ⟨s.sl,(b,some (.st ty (cs.set j (.row R))))::(R,some (.rw e k t [] []))::(b,some (.st ty cs))::bx,s.pr,s.ro,[]⟩ ⟨p.t,dj (dj p.b (some (R,.rw e k []))) (some (b,.st ty (qs.set j (.row R 0))))⟩:=by
     refine ⟨fun i=>(hs.sl i).mono hB,fun t'=>?_⟩
     show mj _ (aD [] t') (lkB ((b,some (.st ty (cs.set j (.row R))))::(R,some (.rw e k t [] []))::(b,some (.st ty cs))::bx) t') (dj (dj p.b (some (R,.rw e k []))) (some (b,.st ty (qs.set j (.row R 0)))) t')
     rw [ar]
     by_cases e1:t' = b
     ·subst e1
      rw [if_pos rfl,di]
      refine ⟨_,rfl,by simpa using h2.len,fun j' c q m1 m2=>?_⟩
      rw [List.getElem?_set] at m1 m2
      by_cases e2:j=j'
      ·subst e2
       have hlc:j < cs.length:=by rw [h2.len]; exact hlt
       rw [if_pos rfl,if_pos hlc] at m1
       rw [if_pos rfl,if_pos hlt] at m2
       injection m1 with m1
       injection m2 with m2
       subst m1 m2
       exact .row R 0 e k t [] [] (by rw [ar,if_neg hRb,ar,if_pos rfl]) rfl
      ·rw [if_neg e2] at m1 m2
       exact (h2.rep j' c q m1 m2).mono hB
     ·rw [if_neg e1,cD _ _ e1,ar]
      by_cases e2:t' = R
      ·subst e2
       rw [if_pos rfl,di]
       exact ⟨rfl,fun p pin hp=>by cases hp⟩
      ·rw [if_neg e2,cD _ _ e2]
       exact (hs.bx t').mono hB
    have hs2:=hs1.lk hsame
    obtain ⟨p',k1,k2,k3,k4,k5⟩:=um (s:=s) (b:=b) (ty:=ty) ⟨xb,by rw [ar,if_neg (fun e=>hRb e.symm)]; exact hxb⟩ hs2 h
    refine ⟨p',hle.trans k1,k2,fun t' ht'=>?_,by rw [k4,List.length_set],fun t' x hx=>k5 t' x ?_⟩
    ·rw [k3 t' ht',ar,if_neg (fun e=>by rw [e,hp] at ht'; cases ht')]
    ·rw [ar,if_neg (fun e=>by rw [e,hR] at hx; cases hx)]; exact hx
   ·cases h
  ·exact um hb hs h
theorem qI {sc wr:List Nat} : ∀ {ms:List Mod} {s s':SS} {p:PS},s.oc = []→mf s→Sim s p→GZ wr ms s=some s'→∃ p',Le p p'∧Sim s' p'∧dA sc wr s s'∧s'.oc = []
 | [],s,s',p,ho,_,hs,h=>by injection h with h; subst h; exact ⟨p,.refl p,hs,.refl _ _,ho⟩
 | .leaf _ _ :: l,s,s',p,ho,hpr,hs,h=>qI (ms:=l) ho hpr hs h
 | .agg _ _ :: l,s,s',p,ho,hpr,hs,h=>qI (ms:=l) ho hpr hs h
 | .box _ _ _ [] :: l,s,s',p,ho,hpr,hs,h=>qI (ms:=l) ho hpr hs h
 | .box b _ _ (r::rows)::l,s,s',p,ho,hpr,hs,h=>by
  simp only [GZ] at h
  split at h
  ·rename_i ty cs hb
   split at h
   ·rename_i cs' bx' hp hn
    have hs0:Sim ⟨s.sl,(b,some (.st ty cs))::s.bx,s.pr,s.ro,[]⟩ p:=by
     have:Sim ⟨s.sl,s.bx,s.pr,s.ro,[]⟩ p:=by rw [← ho]; exact hs
     exact this.lk (X5 hb)
    obtain ⟨p1,k1,k2,k3,k4,k5⟩:=um ⟨_,hb⟩ hs0 hn
    have hk:dA sc wr s ⟨s.sl,(b,some (.st ty cs'))::bx',s.pr,s.ro,s.oc⟩:=by
     refine ⟨rfl,rfl,fun t ht=>?_,fun _ _ _=>rfl,fun t _ ty2 cs2 h2=>?_⟩
     ·show kO _ (lkB ((b,some (.st ty cs'))::bx') t)
      rw [ar,if_neg (fun e=>by rw [e,hp] at ht; cases ht),k3 t ht]
      exact .refl _
     ·show ∃ cs3,lkB ((b,some (.st ty cs'))::bx') t = _∧_
      rw [ar]
      by_cases e:t=b
      ·rw [e,hb] at h2
       injection h2 with h2
       injection h2 with e1 e2
       subst e1 e2
       rw [if_pos e]
       exact ⟨_,rfl,k4⟩
      ·rw [if_neg e]
       exact ⟨cs2,k5 t _ h2,rfl⟩
    obtain ⟨p2,m1,m2,m3,m4⟩:=qI (ms:=l) (s:=⟨s.sl,(b,some (.st ty cs'))::bx',s.pr,s.ro,s.oc⟩) ho (hk.prOk hpr) (by rw [ho]; exact k2) h
    exact ⟨p2,k1.trans m1,m2,hk.trans m3,m4⟩
   ·cases h
  ·cases h
 | .row i R e k t::l,s,s',p,ho,hpr,hs,h=>by
  simp only [GZ] at h
  split at h
  ·rename_i hv
   split at h
   ·rename_i hR hb hk hw hp
    have hk:=zd hk
    have hsi:=hs.sl i
    rw [hv] at hsi
    have hpt:=Rb hsi
    have hpb:p.b i=none:=by
     have:=hs.bx i
     rw [hb] at this
     exact this (by rw [ho]; rfl)
    have hle:=Tg (p:=p) i e k hpt hpb hk.2 hk.1
    have hs1:Sim ⟨sH s.sl (some i) (.row i),(i,some (.rw e k t [] []))::s.bx,s.pr,s.ro,s.oc⟩ (p.upd (some i) (.row i 0) (some (i,.rw e k (([] : List t.den).map (bR t))))) :=
     oM hs (qP hb) (fun _=>⟨rfl,fun p pin hp=>by cases hp⟩) (.row i 0 e k t [] [] (by rw [ar,if_pos rfl]) rfl)
    have hkp:dA sc wr s ⟨(i,.row i)::s.sl,(i,some (.rw e k t [] []))::s.bx,s.pr,s.ro,s.oc⟩:=by
     refine ⟨rfl,rfl,fun t' ht'=>?_,fun j hj _=>?_,fun t' _ ty2 cs2 h2=>⟨cs2,by show lkB ((i,some (.rw e k t [] []))::s.bx) t' = _; rw [ar,if_neg (fun e=>by rw [e,hb] at h2; cases h2)]; exact h2,rfl⟩⟩
     ·show kO _ (lkB ((i,some (.rw e k t [] []))::s.bx) t')
      rw [ar,if_neg (fun e=>by rw [e,hp] at ht'; cases ht')]
      exact .refl _
     ·show lkV ((i,.row i)::s.sl) j = _
      rw [cQ,if_neg (fun e=>by rw [e,hw] at hj; cases hj)]
    obtain ⟨p2,m1,m2,m3,m4⟩:=qI (ms:=l) (s:=⟨(i,.row i)::s.sl,(i,some (.rw e k t [] []))::s.bx,s.pr,s.ro,s.oc⟩) ho (hkp.prOk hpr) hs1 h
    exact ⟨p2,hle.trans m1,m2,hkp.trans m3,m4⟩
   ·cases h
  ·exact qI (ms:=l) ho hpr hs h
theorem nG (wr pr kb:List Nat) : ∀ (l:List (Nat×SV)) (seen:List Nat) (i:Nat),lkV (sV wr pr kb l seen) i=if aD seen i=true then .junk else if aD wr i=true then .junk else if GX pr kb (lkV l i)=true then lkV l i else .junk
 | [],seen,i=>by simp [sV,lkV,GX]
 | (j,v)::l,seen,i=>by
  simp only [sV]
  have hc:=cQ j v l i
  split
  ·rename_i hs
   rw [nG wr pr kb l seen i,hc]
   by_cases e:i=j
   ·subst e; simp [hs]
   ·simp [e]
  ·rename_i hs
   split
   ·rename_i hw
    rw [nG wr pr kb l (j::seen) i,hc,a7]
    by_cases e:i=j
    ·subst e; simp [hw]
    ·simp [e]
   ·rename_i hw
    split
    ·rename_i hf
     rw [cQ,nG wr pr kb l (j::seen) i,hc,a7]
     by_cases e:i=j
     ·subst e; simp [hs,hw,hf]
     ·simp [e]
    ·rename_i hf
     rw [nG wr pr kb l (j::seen) i,hc,a7]
     by_cases e:i=j
     ·subst e; simp [hf]
     ·simp [e]
theorem nH (pr:List Nat) : ∀ (l:List (Nat×Option a6)) (seen:List Nat) (t:Nat),lkB (sW pr l seen) t=if aD seen t=true then none else if aD pr t=true then Jr (lkB l t) else none
 | [],seen,t=>by simp [sW,lkB,Jr]
 | (j,b)::l,seen,t=>by
  simp only [sW]
  have hc:=ar j b l t
  split
  ·rename_i hs
   rw [nH pr l seen t,hc]
   by_cases e:t=j
   ·subst e; simp [hs]
   ·simp [e]
  ·rename_i hs
   split
   ·rename_i hw
    rw [ar,nH pr l (j::seen) t,hc,a7]
    by_cases e:t=j
    ·subst e; simp [hs,hw]
    ·simp [e]
   ·rename_i hw
    rw [nH pr l (j::seen) t,hc,a7]
    by_cases e:t=j
    ·subst e; simp [hw]
    ·simp [e]
theorem lg (mb:List Nat) : ∀ (l:List (Nat×Option a6)) (seen:List Nat) (t:Nat),aD (oN mb l seen) t=true↔aD seen t=false∧aD mb t=false∧∃ b,lkB l t=some b∧yw b=true
 | [],seen,t=>by simp [oN,aD,lkB]
 | (j,b)::l,seen,t=>by
  have hc:=ar j b l t
  simp only [oN]
  split
  ·rename_i hs
   rw [lg mb l seen t,hc]
   by_cases e:t=j
   ·subst e; simp [hs]
   ·simp [e]
  ·rename_i hs
   split
   ·rw [lg mb l (j::seen) t,hc,a7]
    by_cases e:t=j
    ·subst e; simp
    ·simp [e]
   ·rename_i b'
    split
    ·rename_i h1 h2
     rw [a7,Bool.or_eq_true,lg mb l (j::seen) t,hc,a7]
     by_cases e:t=j
     ·subst e; simp [hs,h1,h2]
     ·simp [e]
    ·rename_i h12
     rw [lg mb l (j::seen) t,hc,a7]
     by_cases e:t=j
     ·subst e
      simp only [decide_true,Bool.true_or,Bool.true_eq_false,false_and,if_true,Option.some.injEq,exists_eq_left',false_iff,not_and]
      intro _ h3 h4
      exact h12 h3 h4
     ·simp [e]
theorem vx (bx:List (Nat×Option a6)) : ∀ (l:List Nat) (r:List (Nat×Option a6)) (t:Nat),(aD l t=true→∀ ty cs,lkB bx t=some (.st ty cs)→lkB (LD bx l r) t=some (.st ty (wK cs)))∧((aD l t=false∨∀ ty cs,lkB bx t≠some (.st ty cs))→lkB (LD bx l r) t=lkB r t)
 | [],r,t=>⟨fun h=>(by cases h),fun _=>rfl⟩
 | b::l,r,t=>by
  obtain ⟨h1,h2⟩:=vx bx l r t
  simp only [LD]
  split
  ·rename_i ty cs hb
   refine ⟨fun hm ty2 cs2 h=>?_,fun h=>?_⟩
   ·rw [ar]
    by_cases e:t=b
    ·subst e
     rw [hb] at h
     injection h with h
     injection h with e1 e2
     subst e1 e2
     rw [if_pos rfl]
    ·rw [if_neg e]
     rw [a7] at hm
     exact h1 (by simpa [e] using hm) ty2 cs2 h
   ·rw [ar]
    by_cases e:t=b
    ·subst e
     rcases h with h | h
     ·rw [a7] at h; simp at h
     ·exact absurd hb (h ty cs)
    ·rw [if_neg e]
     rw [a7] at h
     exact h2 (h.imp (by simp [e]) id)
  ·rename_i hb
   refine ⟨fun hm ty2 cs2 h=>?_,fun h=>?_⟩
   ·by_cases e:t=b
    ·subst e; exact absurd h (hb ty2 cs2)
    ·rw [a7] at hm
     exact h1 (by simpa [e] using hm) ty2 cs2 h
   ·rw [a7] at h
    by_cases e:t=b
    ·subst e; exact h2 (.inr fun ty cs=>hb ty cs)
    ·exact h2 (h.imp (by simp [e]) id)
theorem qD (bx:List (Nat×Option a6)) : ∀ (l:List Nat) (t:Nat),aD (sP bx l) t=true↔aD l t=true∧∃ ty cs,lkB bx t=some (.st ty cs)
 | [],t=>by simp [sP,aD]
 | b::l,t=>by
  have ih:=qD bx l t
  simp only [sP]
  split
  ·rename_i ty cs hb
   rw [a7,a7,Bool.or_eq_true,Bool.or_eq_true,ih]
   by_cases e:t=b
   ·subst e; simp [hb]
   ·simp [e]
  ·rename_i hb
   rw [ih,a7,Bool.or_eq_true]
   by_cases e:t=b
   ·subst e
    refine ⟨fun h=>⟨.inl (by simp),h.2⟩,fun h=>?_⟩
    obtain ⟨ty,cs,h⟩:=h.2
    exact absurd h (hb ty cs)
   ·simp [e]
theorem A9:∀ cs:List SV,(wK cs).length=cs.length
 | []=>rfl
 | c::cs=>by simp [wK,A9 cs]
theorem H8:∀ (cs:List SV) (j:Nat) (c:SV),(wK cs)[j]? = some c→c = .junk
 | [],j,c,h=>by simp [wK] at h
 | _ :: cs,0,c,h=>by simp [wK] at h; exact h.symm
 | _ :: cs,j + 1,c,h=>by simp [wK] at h; exact H8 cs j c h
theorem oT (mb sc:List Nat) : ∀ (l:List (Nat×Option a6)) (seen:List Nat),vC mb sc l seen=true→∀ t ty cs,aD seen t=false→lkB l t=some (.st ty cs)→aD mb t=true∨aD sc t=true∨cy cs=true
 | [],seen,_,t,ty,cs,_,h=>by cases h
 | (j,b)::l,seen,hk,t,ty,cs,hs,h=>by
  simp only [vC] at hk
  rw [ar] at h
  split at hk
  ·rename_i hj
   have e : ¬ t=j:=fun e=>by rw [e,hj] at hs; cases hs
   rw [if_neg e] at h
   exact oT mb sc l seen hk t ty cs hs h
  ·split at hk
   ·split at hk
    ·rename_i hm
     by_cases e:t=j
     ·rw [if_pos e] at h
      injection h with h
      injection h with e1 e2
      subst e1 e2 e
      simpa [Bool.or_eq_true] using hm
     ·rw [if_neg e] at h
      exact oT mb sc l (j::seen) hk t ty cs (by rw [a7]; simp [e,hs]) h
    ·cases hk
   ·rename_i hb
    by_cases e:t=j
    ·rw [if_pos e] at h
     exact absurd h (hb ty cs)
    ·rw [if_neg e] at h
     exact oT mb sc l (j::seen) hk t ty cs (by rw [a7]; simp [e,hs]) h
theorem td:∀ {a b:List Nat},IE a b=true→∀ t,aD a t=true→aD b t=false
 | [],b,_,t,h=>by cases h
 | x::a,b,hd,t,h=>by
  simp only [IE] at hd
  split at hd
  ·cases hd
  ·rename_i hx
   rw [a7,Bool.or_eq_true] at h
   rcases h with h | h
   ·have:=zd h; subst this; exact hx
   ·exact td hd t h
theorem rG {pr kb:List Nat} : ∀ {cs:List SV} (_:la pr kb cs=true) {j:Nat} {c:SV},cs[j]? = some c→GX pr kb c=true
 | [],_,j,c,h=>by simp at h
 | d::cs,h,j,c,hj=>by
  simp only [la] at h
  split at h
  ·rename_i h1
   cases j with
   | zero=>simp at hj; subst hj; exact h1
   | succ j=>simp at hj; exact rG h hj
  ·cases h
theorem Sz {B B':List (Nat×Option a6)} {pr kb:List Nat} (hrw:∀ t,aD pr t=true→∀ e k ty xs pins,lkB B t=some (.rw e k ty xs pins)→∃ e' k' ty' xs' pins',lkB B' t=some (.rw e' k' ty' xs' pins')∧xs'.length=xs.length)
  (hst:∀ t,aD kb t=true→∀ ty cs,lkB B t=some (.st ty cs)→∃ ty' cs',lkB B' t=some (.st ty' cs')) {v:SV} {q:PV} (h:be B v q) : GX pr kb v=true→be B' v q:=by
 induction h with
 | junk q=>exact fun _=>.junk q
 | d c y h=>exact fun _=>.d c y h
 | ag cs qs hl hr ih=>exact fun hs=>.ag cs qs hl fun j c q h1 h2=>ih j c q h1 h2 (rG hs h1)
 | tup cs qs hl hr ih=>exact fun hs=>.tup cs qs hl fun j c q h1 h2=>ih j c q h1 h2 (rG hs h1)
 | ptr t o ty cs hb=>exact fun hs=>by obtain ⟨ty',cs',h1⟩:=hst t hs ty cs hb; exact .ptr t o ty' cs' h1
 | row t n e k ty xs pins hb hn =>
  intro hs
  obtain ⟨e',k',ty',xs',pins',h1,h2⟩:=hrw t hs e k ty xs pins hb
  exact .row t n e' k' ty' xs' pins' h1 (h2.trans hn)
 | re t p o n i e k ty xs pins pin hb hn hp hi=>exact fun hs=>by cases hs
 | vw t lo hi n e k ty xs pins hb hn=>exact fun hs=>by cases hs
 | fe cs ds h hn=>exact fun _=>.fe cs ds h hn
 | fn f ps qs ps' qs' hl hr hl2 hr2 ih ih2 =>
  intro hs
  have hs:(match la pr kb ps with | true=>la pr kb qs | false=>false)=true:=hs
  split at hs
  ·rename_i h1
   exact .fn f ps qs ps' qs' hl (fun j c q h2 h3=>ih j c q h2 h3 (rG h1 h2)) hl2 (fun j c q h2 h3=>ih2 j c q h2 h3 (rG hs h2))
  ·cases hs
mutual
theorem Vk {pr pr' kb:List Nat} (h:∀ t,aD pr t=true→aD pr' t=true) : ∀ v:SV,GX pr kb v=true→lb pr' v=true
 | .junk,_=>rfl
 | .d _,_=>rfl
 | .fe _,_=>rfl
 | .ptr _ _,_=>rfl
 | .row t,hs=>h t hs
 | .re _ _ _,hs=>by cases hs
 | .vw _ _ _,hs=>by cases hs
 | .ag cs,hs=>by simp only [lb]; exact yp h cs hs
 | .tup cs,hs=>by simp only [lb]; exact yp h cs hs
 | .fn f ps qs,hs=>by
  have hs:(match la pr kb ps with | true=>la pr kb qs | false=>false)=true:=hs
  split at hs
  ·rename_i h1
   simp only [lb,Bool.and_eq_true]
   exact ⟨yp h ps h1,yp h qs hs⟩
  ·cases hs
theorem yp {pr pr' kb:List Nat} (h:∀ t,aD pr t=true→aD pr' t=true) : ∀ cs:List SV,la pr kb cs=true→dV pr' cs=true
 | [],_=>rfl
 | c::cs,hs=>by
  simp only [la] at hs
  split at hs
  ·rename_i h1
   simp only [dV,Bool.and_eq_true]
   exact ⟨Vk h c h1,yp h cs hs⟩
  ·cases hs
end
theorem pq {pr:List Nat} : ∀ {cs:List SV} (_:dV pr cs=true) {j:Nat} {c:SV},cs[j]? = some c→lb pr c=true
 | [],_,j,c,h=>by simp at h
 | d::cs,h,j,c,hj=>by
  simp only [dV,Bool.and_eq_true] at h
  cases j with
  | zero=>simp at hj; subst hj; exact h.1
  | succ j=>simp at hj; exact pq h.2 hj
theorem uc {pr kb:List Nat} : ∀ {cs:List SV},(∀ (j:Nat) c,cs[j]? = some c→GX pr kb c=true)→la pr kb cs=true
 | [],_=>rfl
 | c::cs,h=>by
  simp only [la]
  rw [h 0 c rfl]
  exact uc fun j d hj=>h (j + 1) d (by simpa using hj)
theorem Ow {B:List (Nat×Option a6)} {pr pr' kb:List Nat} (h:∀ t,aD pr t=true→aD pr' t=true) (hst:∀ t ty cs,lkB B t=some (.st ty cs)→aD kb t=true) {v:SV} {q:PV} (hv:be B v q) : lb pr v=true→GX pr' kb v=true:=by
 induction hv with
 | junk q=>exact fun _=>rfl
 | d c y h=>exact fun _=>rfl
 | ag cs qs hl hr ih =>
  refine fun hs=>uc fun j c hj=>?_
  have hlt:j < qs.length:=by rw [← hl]; exact (zg.1 hj).1
  exact ih j c qs[j] hj (by simp [hlt]) (pq hs hj)
 | tup cs qs hl hr ih =>
  refine fun hs=>uc fun j c hj=>?_
  have hlt:j < qs.length:=by rw [← hl]; exact (zg.1 hj).1
  exact ih j c qs[j] hj (by simp [hlt]) (pq hs hj)
 | ptr t o ty cs hb=>exact fun _=>hst t ty cs hb
 | row t n e k ty xs pins hb hn=>exact fun hs=>h t hs
 | re t p o n i e k ty xs pins pin hb hn hp hi=>exact fun hs=>by cases hs
 | vw t lo hi n e k ty xs pins hb hn=>exact fun hs=>by cases hs
 | fe cs ds h hn=>exact fun _=>rfl
 | fn f ps qs ps' qs' hl hr hl2 hr2 ih ih2 =>
  intro hs
  simp only [lb,Bool.and_eq_true] at hs
  have k1:la pr' kb ps=true:=uc fun j c hj=>by
   have hlt:j < ps'.length:=by rw [← hl]; exact (zg.1 hj).1
   exact ih j c ps'[j] hj (by simp [hlt]) (pq hs.1 hj)
  have k2:la pr' kb qs=true:=uc fun j c hj=>by
   have hlt:j < qs'.length:=by rw [← hl2]; exact (zg.1 hj).1
   exact ih2 j c qs'[j] hj (by simp [hlt]) (pq hs.2 hj)
  show (match la pr' kb ps with | true=>la pr' kb qs | false=>false)=true
  rw [k1]
  exact k2
theorem aat {B:List (Nat×Option a6)} {c:SD} {q:PV} (h:be B (.d c) q) : ∃ y,q = .d y∧Lk c y:=by
 cases h with
 | d _ y h=>exact ⟨y,rfl,h⟩
theorem Zc {B:List (Nat×Option a6)} {t:Nat} {q:PV} (h:be B (.row t) q) : ∃ n,q = .row t n:=by
 cases h with
 | row _ n=>exact ⟨n,rfl⟩
def mh (bx:List (Nat×Option a6)) : Prop:=∀ t e k ty xs pins,lkB bx t=some (.rw e k ty xs pins)→pins = []
theorem mh.cons_rw {bx:List (Nat×Option a6)} (h:mh bx) {R e k:Nat} {t:Ty} {xs:List t.den} : mh ((R,some (.rw e k t xs []))::bx):=by
 intro t' e' k' ty' xs' pins' h1
 rw [ar] at h1
 split at h1
 ·injection h1 with h1
  injection h1 with q1 q2 q3 q4 q5
  exact q5.symm
 ·exact h t' e' k' ty' xs' pins' h1
theorem mh.cons_st {bx:List (Nat×Option a6)} (h:mh bx) {R:Nat} {ty:TypeId} {cs:List SV} : mh ((R,some (.st ty cs))::bx):=by
 intro t' e' k' ty' xs' pins' h1
 rw [ar] at h1
 split at h1
 ·cases h1
 ·exact h t' e' k' ty' xs' pins' h1
def Hs (bx:List (Nat×Option a6)) (p:PS) : Prop:=∀ t b,lkB bx t=some b→mj bx true (some b) (p.b t)
theorem IX {bx:List (Nat×Option a6)} {p:PS} (hn:mh bx) (hb:Hs bx p) {R e k:Nat} {t:Ty} {xs:List t.den} (hR:p.b R=some (.rw e k (xs.map (bR t)))) : BLe bx ((R,some (.rw e k t xs []))::bx):=by
 refine ⟨fun t' e2 k2 ty2 xs2 pins2 h=>?_,fun t' ty2 cs2 h=>?_⟩
 ·rw [ar]
  by_cases e1:t' = R
  ·subst e1
   rw [if_pos rfl]
   have h1:=(hb t' _ h).1
   rw [hR] at h1
   injection h1 with h1
   injection h1 with q1 q2 q3
   refine ⟨e,k,t,xs,[],rfl,by simpa using congrArg List.length q3,fun p pin hp=>?_⟩
   rw [hn _ _ _ _ _ _ h] at hp
   cases hp
  ·rw [if_neg e1]; exact ⟨_,_,_,_,_,h,rfl,fun p pin hp=>⟨pin,hp,rfl⟩⟩
 ·rw [ar]
  by_cases e1:t' = R
  ·subst e1
   obtain ⟨qs,h1,_⟩:=hb t' _ h
   rw [hR] at h1
   cases h1
  ·rw [if_neg e1]; exact ⟨_,_,h⟩
theorem WK {bx:List (Nat×Option a6)} {p:PS} (hb:Hs bx p) {b:Nat} {ty:TypeId} {cs:List SV} {qs:List PV} (hR:p.b b=some (.st ty qs)) : BLe bx ((b,some (.st ty cs))::bx):=by
 refine ⟨fun t' e2 k2 ty2 xs2 pins2 h=>?_,fun t' ty2 cs2 h=>?_⟩
 ·rw [ar]
  by_cases e1:t' = b
  ·subst e1
   have h1:=(hb t' _ h).1
   rw [hR] at h1
   cases h1
  ·rw [if_neg e1]; exact ⟨_,_,_,_,_,h,rfl,fun p pin hp=>⟨pin,hp,rfl⟩⟩
 ·rw [ar]
  by_cases e1:t' = b
  ·rw [if_pos e1]; exact ⟨_,_,rfl⟩
  ·rw [if_neg e1]; exact ⟨_,_,h⟩
theorem Hs.cons {bx:List (Nat×Option a6)} {p:PS} (h:Hs bx p) {R:Nat} {b:a6} (hB:BLe bx ((R,some b)::bx)) (hb:mj ((R,some b)::bx) true (some b) (p.b R)) : Hs ((R,some b)::bx) p:=by
 intro t b' h1
 rw [ar] at h1
 by_cases e:t=R
 ·subst e
  rw [if_pos rfl] at h1
  injection h1 with h1
  subst h1
  exact hb
 ·rw [if_neg e] at h1
  exact (h t b' h1).mono hB
theorem X6 {t:Ty} {xs ys:List t.den} (h:xs.map (bR t)=ys.map (bR t)) : xs.length=ys.length:=by
 have h9:=congrArg List.length h
 rw [List.length_map,List.length_map] at h9
 exact h9
theorem Zl {t t':Ty} {xs:List t.den} {ys:List t'.den} {c:SD} (h:c.as (.sl t)=some xs) (hd:c.toD = .sl (ys.map (bR t'))) : xs.map (bR t)=ys.map (bR t'):=by
 have h1:=SD.as_ok h
 rw [hd] at h1
 have h2 : [D.sl (xs.map (bR t))] = [D.sl (ys.map (bR t'))]:=h1
 injection h2 with h2
 injection h2
theorem uj {s':SS} {p:PS} (hs':gJ s' p) {rows:List (Nat×Nat×Nat×Nat×Ty)} : ∀ {cs:List SV} {qs:List PV} {ds0 ds:List SD} {j:Nat} {bx bx':List (Nat×Option a6)} {vs:List SV},bZ s'.bx cs qs→cellsOf s' rows j cs=some ds0→ds0.map SD.toD=ds.map SD.toD→(∀ c∈ds,c≠.nl) →
  mh bx→Hs bx p→fL rows j ds bx=some (vs,bx')→mh bx'∧Hs bx' p∧BLe bx bx'∧bZ bx' vs qs∧(∀ t,(∀ r∈rows,r.2.1≠t)→lkB bx' t=lkB bx t)
 | [],qs,ds0,ds,j,bx,bx',vs,hc,h0,hd,_,hn,hb,h=>by
  rcases hc.cases with ⟨_,rfl⟩ | ⟨_,_,_,_,h1,_⟩
  ·injection h0 with h0
   subst h0
   have:ds = []:=by simpa using hd.symm
   subst this
   injection h with h
   injection h with e1 e2
   subst e1 e2
   exact ⟨hn,hb,.refl _,.nil,fun _ _=>rfl⟩
  ·cases h1
 | c::cs,qs,ds0,ds,j,bx,bx',vs,hc,h0,hd,hnl,hn,hb,h=>by
  rcases hc.cases with ⟨h1,_⟩ | ⟨c',q,cs',qs',h1,rfl,hq,hcs⟩
  ·cases h1
  injection h1 with e1 e2
  subst e1 e2
  have findR_mem:∀ {rows:List (Nat×Nat×Nat×Nat×Ty)} {j R e k:Nat} {t:Ty},pC rows j=some (R,e,k,t)→∃ r∈rows,r.2.1=R:=by
   intro rows
   induction rows with
   | nil=>intro j R e k t h; cases h
   | cons r rows ih =>
    intro j R e k t h
    obtain ⟨j',R',e',k',t'⟩:=r
    simp only [pC] at h
    split at h
    ·injection h with h
     injection h with h _
     exact ⟨_,List.mem_cons_self,h⟩
    ·obtain ⟨r,h1,h2⟩:=ih h
     exact ⟨r,List.mem_cons_of_mem _ h1,h2⟩
  simp only [cellsOf] at h0
  split at h0
  ·rename_i R e k t hf
   split at h0
   ·rename_i R' e' k' t' xs pins hbR
    split at h0
    ·rename_i ht hsame
     have k1:=(ao h0).1
     replace h0:=(ao h0).2
     have k2:=(ao h0).1
     replace h0:=(ao h0).2
     have k3:=(ao h0).1
     replace h0:=(ao h0).2
     replace k1:R' = R:=by simpa [cR] using k1
     replace k2:e' = e:=by simpa using k2
     replace k3:k' = k:=by simpa using k3
     subst k1 k2 k3 ht
     split at h0
     ·rename_i r hr
      injection h0 with h0
      subst h0
      cases ds with
      | nil=>simp at hd
      | cons d ds =>
       simp only [List.map_cons,List.cons.injEq] at hd
       obtain ⟨hd1,hd2⟩:=hd
       simp only [fL,hf] at h
       split at h
       ·rename_i xs' vs' bx1 hxs hp
        injection h with h
        injection h with e1 e2
        subst e1 e2
        obtain ⟨m1,m2,m3,m4,m5⟩:=uj hs' hcs hr hd2 (fun c hc=>hnl c (List.mem_cons_of_mem _ hc)) hn hb hp
        have hpR:p.b R' = some (.rw e' k' (xs.map (bR t'))):=(hs'.bx R' _ hbR).1
        have hx:xs'.map (bR t')=xs.map (bR t'):=Zl hxs (by rw [← hd1]; rfl)
        have hpR':p.b R' = some (.rw e' k' (xs'.map (bR t'))):=by rw [hx]; exact hpR
        have hB:=IX m1 m2 hpR'
        refine ⟨m1.cons_rw,m2.cons hB ⟨hpR',fun p pin hp=>by cases hp⟩,m3.trans hB,.cons ?_ (m4.mono hB),fun t2 ht2=>?_⟩
        ·cases hq with
         | row _ n e2 k2 ty2 xs2 pins2 hb2 hn2 =>
          rw [hbR] at hb2
          injection hb2 with hb2
          injection hb2 with q1 q2 q3 q4 q5
          subst q3
          have q4:=eq_of_heq q4
          subst q4
          refine .row R' n e' k' t' xs' [] (by rw [ar,if_pos rfl]) ?_
          rw [← hn2]
          exact X6 hx
        ·rw [ar,if_neg (fun e=>by
          obtain ⟨r,h1,h2⟩:=findR_mem hf
          exact ht2 r h1 (h2.trans e.symm))]
         exact m5 t2 ht2
       ·cases h
     ·cases h0
    ·cases h0
   ·cases h0
  ·rename_i hf
   split at h0
   ·rename_i x r hr
    injection h0 with h0
    subst h0
    cases ds with
    | nil=>simp at hd
    | cons d ds =>
     simp only [List.map_cons,List.cons.injEq] at hd
     obtain ⟨hd1,hd2⟩:=hd
     simp only [fL,hf] at h
     split at h
     ·rename_i vs' bx1 hp
      injection h with h
      injection h with e1 e2
      subst e1 e2
      obtain ⟨m1,m2,m3,m4,m5⟩:=uj hs' hcs hr hd2 (fun c hc=>hnl c (List.mem_cons_of_mem _ hc)) hn hb hp
      refine ⟨m1,m2,m3,.cons ?_ m4,m5⟩
      cases hq with
      | d _ y hy =>
       refine .d d y ?_
       have h1:=hy.nrm
       rw [hd1] at h1
       have h2:=hnl d List.mem_cons_self
       cases d <;> first | exact h1 | exact absurd rfl h2
     ·cases h
   ·cases h0
theorem Ym {t:Ty} {c:SD} {x:t.den} (h:c.as t=some x) : qC t x≠.nl:=by
 cases t with
 | st i=>simp [SD.as] at h
 | _=>intro e; cases e
theorem L6 {t:Nat} : ∀ {rows:List (Nat×Nat×Nat×Nat×Ty)} {r:Nat×Nat×Nat×Nat×Ty},r∈rows→r.2.1=t→aD (rows.map (·.2.1)) t=true
 | [],r,h,_=>by cases h
 | a::rows,r,h,e=>by
  rw [List.map_cons,a7,Bool.or_eq_true]
  rcases List.mem_cons.1 h with rfl | h
  ·exact .inl (by simp [e])
  ·exact .inr (L6 h e)
theorem Rx {s':SS} {p:PS} (hs':gJ s' p) {m:Mod} {x:m.den} {c c':SS} (hg:Bc s' m=some x) (hc:gJ c p) (hn:mh c.bx) (h:rI m x c=some c') :
  gJ c' p∧mh c'.bx∧BLe c.bx c'.bx∧(∀ t,aD (bv [m]) t=false→lkB c'.bx t=lkB c.bx t):=by
 cases m with
 | leaf i t =>
  simp only [rI] at h
  injection h with h
  subst h
  refine ⟨⟨fun j=>?_,hc.bx⟩,hn,.refl _,fun _ _=>rfl⟩
  show be c.bx (lkV ((i,.d (qC t x))::c.sl) j) (p.t j)
  rw [cQ]
  split
  ·rename_i e
   subst e
   have h1:=hs'.sl j
   have hg:(match lkV s'.sl j with | .d c=>c.as t | _=>none)=some (show t.den from x):=hg
   split at hg
   ·rename_i c0 hc0
    rw [hc0] at h1
    obtain ⟨y,hp,hy⟩:=aat h1
    rw [hp]
    refine .d _ y ?_
    have h2:=hy.nrm
    rw [← Dw hg] at h2
    have h3:=Ym hg
    revert h2 h3
    generalize qC t x=z
    intro h2 h3
    cases z <;> first | exact h2 | exact absurd rfl h3
   ·exact dC hg
  ·exact hc.sl j
 | agg i n =>
  simp only [rI] at h
  injection h with h
  subst h
  refine ⟨⟨fun j=>?_,hc.bx⟩,hn,.refl _,fun _ _=>rfl⟩
  show be c.bx (lkV ((i,.ag (A4 (stC n x)))::c.sl) j) (p.t j)
  rw [cQ]
  split
  ·rename_i e
   subst e
   have h1:=hs'.sl j
   simp only [Bc] at hg
   split at hg
   ·rename_i cs hcs
    split at hg
    ·rename_i ds hds
     rw [hcs] at h1
     obtain ⟨qs,h2,h3⟩:=Hv h1
     rw [h2]
     have h4:=vy h3 hds
     have h5:=AK hg
     have hlen:qs.length=(stC n x).length:=by
      have a:=AP hds
      have b:=h3.len
      have c:=congrArg List.length h5
      have d:=congrArg List.length (ua n x)
      simp only [List.length_map] at c d
      omega
     refine .ag _ qs (by rw [JU,List.length_map]; exact hlen.symm) (fun k v q k1 k2=>?_)
     rw [JU,List.getElem?_map,zm] at k1
     obtain ⟨z,k3,rfl⟩:=k1
     obtain ⟨y,k4,k5⟩:=yG qs _ h4 |>.2 k (z.toD) (by
      have h7:(stC n x).map SD.toD=stD n x:=ua n x
      rw [h5,← h7,List.getElem?_map,k3]
      rfl)
     rw [k2] at k4
     injection k4 with k4
     subst k4
     have h6:=xa n x z (List.mem_of_getElem? k3)
     refine .d z y ?_
     cases z <;> first | exact k5.symm | exact absurd rfl h6
    ·exact dC hg
   ·exact dC hg
  ·exact hc.sl j
 | row i R e k t =>
  simp only [rI] at h
  injection h with h
  subst h
  simp only [Bc] at hg
  split at hg
  ·rename_i R' e' k' t' xs pins hv hb
   split at hg
   ·rename_i ht hsame
    have k1:=(ao hg).1
    replace hg:=(ao hg).2
    have k2:=(ao hg).1
    replace hg:=(ao hg).2
    have k3:=(ao hg).1
    replace hg:=(ao hg).2
    replace k1:R' = R:=by simpa [cR] using k1
    replace k2:e' = e:=by simpa using k2
    replace k3:k' = k:=by simpa using k3
    subst k1 k2 k3 ht
    injection hg with hg
    subst hg
    have hpR:p.b R' = some (.rw e' k' (xs.map (bR t'))):=(hs'.bx R' _ hb).1
    have hB:=IX hn hc.bx hpR
    refine ⟨⟨fun j=>?_,Hs.cons hc.bx hB ⟨hpR,fun p pin hp=>by cases hp⟩⟩,hn.cons_rw,hB,fun t2 ht2=>?_⟩
    ·show be _ (lkV ((i,.row R')::c.sl) j) (p.t j)
     rw [cQ]
     split
     ·rename_i e
      subst e
      have h1:=hs'.sl j
      rw [hv] at h1
      obtain ⟨n,h2⟩:=Zc h1
      rw [h2] at h1 ⊢
      cases h1 with
      | row _ _ e2 k2 ty2 xs2 pins2 hb2 hn2 =>
       rw [hb] at hb2
       injection hb2 with hb2
       injection hb2 with q1 q2 q3 q4 q5
       subst q3
       have q4:=eq_of_heq q4
       subst q4
       exact .row R' n e' k' t' xs [] (by rw [ar,if_pos rfl]; rfl) hn2
     ·exact (hc.sl j).mono hB
    ·show lkB ((R',_)::c.bx) t2 = _
     rw [ar,if_neg (fun e=>by subst e; simp [bv,a7] at ht2)]
   ·exact dC hg
  ·exact dC hg
 | box b ty n rows =>
  simp only [rI] at h
  split at h
  ·rename_i vs bx hp
   injection h with h
   subst h
   simp only [Bc] at hg
   split at hg
   ·rename_i ty' cs hb
    have k1:=(ao hg).1
    replace hg:=(ao hg).2
    replace k1:ty' = ty:=by simpa using k1
    subst k1
    replace hg:=(ao hg).2
    split at hg
    ·rename_i ds hds
     obtain ⟨qs,h1,h2⟩:=hs'.bx b _ hb
     have h3:=AK hg
     obtain ⟨m1,m2,m3,m4,m5⟩:=uj hs' h2 hds (h3.trans (ua n x).symm) (xa n x) hn hc.bx hp
     have hB:=WK (cs:=vs) m2 h1
     refine ⟨⟨fun j=>((hc.sl j).mono m3).mono hB,Hs.cons m2 hB ⟨qs,h1,m4.mono hB⟩⟩,m1.cons_st,m3.trans hB,fun t2 ht2=>?_⟩
     simp only [bv,a7,dc,Bool.or_eq_false_iff] at ht2
     show lkB ((b,_)::bx) t2 = _
     rw [ar,if_neg (fun e=>by have:=ht2.1; simp [e] at this)]
     refine m5 t2 fun r hr e=>?_
     have:=L6 hr e
     rw [this] at ht2
     cases ht2.2.1
    ·exact dC hg
   ·exact dC hg
  ·cases h
section
variable {sc wr:List Nat}
theorem jP (m:Mod) (l:List Mod) (t:Nat) : aD (bv (m::l)) t=(aD (bv [m]) t||aD (bv l) t):=by
 cases m with
 | leaf i t'=>simp [bv,aD]
 | agg i n=>simp [bv,aD]
 | row i R e k t'=>simp [bv,a7,aD]
 | box b ty n rows=>simp [bv,a7,dc,aD,Bool.or_assoc]
def xo:Mod→Option Nat
 | .leaf i _=>some i
 | .agg i _=>some i
 | .row i _ _ _ _=>some i
 | .box ..=>none
theorem Rv {m:Mod} {x:m.den} {l:List (Nat×SV)} {bx:List (Nat×Option a6)} {pr oc:List Nat} {ro:Bool} {s2:SS} (h:rI m x ⟨l,bx,pr,ro,oc⟩=some s2) :
  ∃ X bx2,s2=⟨X++l,bx2,pr,ro,oc⟩∧(∀ l',rI m x ⟨l',bx,pr,ro,oc⟩=some ⟨X++l',bx2,pr,ro,oc⟩)∧∀ i,aD (X.map (·.1)) i=true→xo m=some i:=by
 cases m with
 | leaf i t=>simp only [rI] at h ⊢; injection h with h; subst h; exact ⟨[(i,.d (qC t x))],bx,rfl,fun _=>rfl,fun j hj=>by simp [a7,aD] at hj; simp [xo,hj]⟩
 | agg i n=>simp only [rI] at h ⊢; injection h with h; subst h; exact ⟨[(i,.ag (A4 (stC n x)))],bx,rfl,fun _=>rfl,fun j hj=>by simp [a7,aD] at hj; simp [xo,hj]⟩
 | row i R e k t=>simp only [rI] at h ⊢; injection h with h; subst h; exact ⟨[(i,.row R)],_,rfl,fun _=>rfl,fun j hj=>by simp [a7,aD] at hj; simp [xo,hj]⟩
 | box b ty n rows =>
  simp only [rI] at h ⊢
  split at h
  ·rename_i vs bx' hp
   injection h with h
   subst h
   exact ⟨[],_,rfl,fun _=>rfl,fun j hj=>by cases hj⟩
  ·cases h
theorem LV:∀ {ms:List Mod} {st:jO ms} {l:List (Nat×SV)} {bx:List (Nat×Option a6)} {pr oc:List Nat} {ro:Bool} {s2:SS},jH ms st ⟨l,bx,pr,ro,oc⟩=some s2 →
  ∃ X bx2,s2=⟨X++l,bx2,pr,ro,oc⟩∧(∀ l',jH ms st ⟨l',bx,pr,ro,oc⟩=some ⟨X++l',bx2,pr,ro,oc⟩)∧∀ i,aD (X.map (·.1)) i=true→∃ m∈ms,xo m=some i
 | [],st,l,bx,pr,oc,ro,s2,h=>by injection h with h; subst h; exact ⟨[],bx,rfl,fun _=>rfl,fun j hj=>by cases hj⟩
 | [m],st,l,bx,pr,oc,ro,s2,h=>by
  obtain ⟨X,bx2,h1,h2,h3⟩:=Rv (show rI m st _ = some s2 from h)
  exact ⟨X,bx2,h1,h2,fun i hi=>⟨m,List.mem_cons_self,h3 i hi⟩⟩
 | m::m' :: ms,st,l,bx,pr,oc,ro,s2,h=>by
  have h:(match jH (m' :: ms) st.2 ⟨l,bx,pr,ro,oc⟩ with | some s=>rI m st.1 s | none=>none)=some s2:=h
  split at h
  ·rename_i s1 h1
   obtain ⟨X,bx2,rfl,k2,k3⟩:=LV h1
   obtain ⟨Y,bx3,rfl,m2,m3⟩:=Rv h
   refine ⟨Y++X,bx3,by simp,fun l'=>?_,fun i hi=>?_⟩
   ·show (match jH (m' :: ms) st.2 ⟨l',bx,pr,ro,oc⟩ with | some s=>rI m st.1 s | none=>none) = _
    rw [k2 l']
    simp only
    rw [m2]
    simp
   ·rw [List.map_append,dc,Bool.or_eq_true] at hi
    rcases hi with hi | hi
    ·exact ⟨m,List.mem_cons_self,m3 i hi⟩
    ·obtain ⟨m0,h4,h5⟩:=k3 i hi
     exact ⟨m0,List.mem_cons_of_mem _ h4,h5⟩
  ·cases h
theorem JW:∀ (X l:List (Nat×SV)) (i:Nat),lkV (X++l) i=if aD (X.map (·.1)) i=true then lkV X i else lkV l i
 | [],l,i=>by simp [aD]
 | (j,v)::X,l,i=>by
  simp only [List.cons_append,cQ,JW X l i,List.map_cons,a7]
  by_cases e:i=j
  ·simp [e]
  ·simp [e]
theorem RR {s':SS} {m:Mod} {x:m.den} (hg:Bc s' m=some x) {t:Nat} (ht:aD (bv [m]) t=true) {ty:TypeId} {cs:List SV} (hb:lkB s'.bx t=some (.st ty cs)) : ∃ ty n rows,m = .box t ty n rows:=by
 cases m with
 | leaf i t'=>cases ht
 | agg i n=>cases ht
 | row i R e k t' =>
  simp only [bv,a7,aD,Bool.or_false,decide_eq_true_eq] at ht
  subst ht
  have hg:(match lkV s'.sl i,lkB s'.bx t with | .row R',some (.rw e' k' t2 xs _)=>(match Ty.same t2 t' with | some ⟨h⟩=>chk (Nat.beq R' t) (chk (e' == e) (chk (k' == k) (some (yV h xs)))) | none=>none) | _,_=>none)=some (show List t'.den from x):=hg
  rw [hb] at hg
  split at hg
  ·rename_i h2; cases h2
  ·cases hg
 | box b ty' n rows =>
  simp only [bv,a7,dc,aD,Bool.or_false,Bool.or_eq_true,decide_eq_true_eq] at ht
  rcases ht with ht | ht
  ·subst ht; exact ⟨_,_,_,rfl⟩
  ·exfalso
   simp only [Bc] at hg
   split at hg
   ·have h1:=(ao (ao hg).2).1
    have key:∀ rows:List (Nat×Nat×Nat×Nat×Ty),aD (rows.map (·.2.1)) t=true→(rows.all fun r=>ZB (lkB s'.bx r.2.1))=true→ZB (lkB s'.bx t)=true:=by
     intro rows
     induction rows with
     | nil=>intro h; cases h
     | cons r rows ih =>
      intro h h2
      rw [List.all_cons,Bool.and_eq_true] at h2
      rw [List.map_cons,a7,Bool.or_eq_true] at h
      rcases h with h | h
      ·have:=zd h
       rw [this]; exact h2.1
      ·exact ih h h2.2
    have h2:=key rows ht h1
    rw [hb] at h2
    cases h2
   ·exact dC hg
theorem LZ {s':SS} {p:PS} (hs':gJ s' p) : ∀ {ms:List Mod} {st:jO ms} {c c':SS},tG s' ms=some st→gJ c p→mh c.bx→jH ms st c=some c' →
  gJ c' p∧mh c'.bx∧BLe c.bx c'.bx∧(∀ t,aD (bv ms) t=false→lkB c'.bx t=lkB c.bx t)∧∀ t,aD (bv ms) t=true→∀ ty cs,lkB s'.bx t=some (.st ty cs)→∃ ty' cs',lkB c'.bx t=some (.st ty' cs')
 | [],st,c,c',_,hc,hn,h=>by injection h with h; subst h; exact ⟨hc,hn,.refl _,fun _ _=>rfl,fun t ht=>by cases ht⟩
 | [m],st,c,c',hp,hc,hn,h=>by
  have hg:Bc s' m=some st:=hp
  have h:rI m st c=some c':=h
  obtain ⟨h1,h2,h3,h4⟩:=Rx hs' hg hc hn h
  refine ⟨h1,h2,h3,h4,fun t ht ty cs hb=>?_⟩
  obtain ⟨ty',n,rows,rfl⟩:=RR hg ht hb
  simp only [rI] at h
  split at h
  ·injection h with h
   subst h
   exact ⟨_,_,by show lkB ((t,_) :: _) t = _; rw [ar,if_pos rfl]⟩
  ·cases h
 | m::m' :: ms,st,c,c',hp,hc,hn,h=>by
  have hp:Option.bind (Bc s' m) (fun x=>Option.bind (tG s' (m' :: ms)) fun xs=>some (x,xs))=some st:=hp
  obtain ⟨x,hg,hp2⟩:=cM hp
  obtain ⟨xs,hp3,he⟩:=cM hp2
  injection he with he
  subst he
  have h:(match jH (m' :: ms) xs c with | some s=>rI m x s | none=>none)=some c':=h
  split at h
  ·rename_i c1 h1
   obtain ⟨k1,k2,k3,k4,k5⟩:=LZ hs' hp3 hc hn h1
   obtain ⟨n1,n2,n3,n4⟩:=Rx hs' hg k1 k2 h
   refine ⟨n1,n2,k3.trans n3,fun t ht=>?_,fun t ht ty cs hb=>?_⟩
   ·rw [jP,Bool.or_eq_false_iff] at ht
    rw [n4 t ht.1,k4 t ht.2]
   ·rw [jP,Bool.or_eq_true] at ht
    rcases ht with ht | ht
    ·obtain ⟨ty',n,rows,rfl⟩:=RR hg ht hb
     simp only [rI] at h
     split at h
     ·injection h with h
      subst h
      exact ⟨_,_,by show lkB ((t,_) :: _) t = _; rw [ar,if_pos rfl]⟩
     ·cases h
    ·obtain ⟨ty',cs',h5⟩:=k5 t ht ty cs hb
     exact n3.st t ty' cs' h5
  ·cases h
theorem uq {s:SS} : ∀ {ms:List Mod},px wr s ms=true→(∀ m∈ms,∀ i,xo m=some i→aD wr i=true∨∃ R,aD (bv ms) R=true∧lkV s.sl i = .row R)∧∀ t,aD (bv ms) t=true→aD s.pr t=false
 | [],_=>⟨fun m hm=>(by cases hm),fun t ht=>(by cases ht)⟩
 | m::ms,h=>by
  have key:px wr s ms=true∧(∀ i,xo m=some i→aD wr i=true∨∃ R,aD (bv [m]) R=true∧lkV s.sl i = .row R)∧∀ t,aD (bv [m]) t=true→aD s.pr t=false:=by
   cases m with
   | leaf i t =>
    simp only [px] at h
    split at h
    ·rename_i hw; exact ⟨h,fun j hj=>by injection hj with hj; subst hj; exact .inl hw,fun t ht=>by cases ht⟩
    ·cases h
   | agg i n =>
    simp only [px] at h
    split at h
    ·rename_i hw; exact ⟨h,fun j hj=>by injection hj with hj; subst hj; exact .inl hw,fun t ht=>by cases ht⟩
    ·cases h
   | row i R e k t =>
    simp only [px] at h
    split at h
    ·rename_i hp hw
     refine ⟨h,fun j hj=>?_,fun t ht=>?_⟩
     ·injection hj with hj
      subst hj
      rw [Bool.or_eq_true] at hw
      rcases hw with hw | hw
      ·exact .inl hw
      ·unfold YX at hw
       split at hw
       ·rename_i R' hv
        rw [cR] at hw
        have:=zd hw
        subst this
        exact .inr ⟨R',by simp [bv,a7],hv⟩
       ·cases hw
     ·simp only [bv,a7,aD,Bool.or_false,decide_eq_true_eq] at ht
      subst ht; exact hp
    ·cases h
   | box b ty n rows =>
    simp only [px] at h
    split at h
    ·rename_i hp hr
     refine ⟨h,fun j hj=>(by cases hj),fun t ht=>?_⟩
     simp only [bv,a7,dc,aD,Bool.or_false,Bool.or_eq_true,decide_eq_true_eq] at ht
     rcases ht with ht | ht
     ·subst ht; exact hp
     ·clear h
      induction rows with
      | nil=>cases ht
      | cons r rows ih =>
       rw [List.all_cons,Bool.and_eq_true] at hr
       rw [List.map_cons,a7,Bool.or_eq_true] at ht
       rcases ht with ht | ht
       ·have:=zd ht
        rw [this]; simpa using hr.1
       ·exact ih hr.2 ht
    ·cases h
  obtain ⟨h1,h2,h3⟩:=key
  obtain ⟨h4,h5⟩:=uq h1
  refine ⟨fun m0 hm i hi=>?_,fun t ht=>?_⟩
  ·rcases List.mem_cons.1 hm with rfl | hm
   ·rcases h2 i hi with h | ⟨R,h6,h7⟩
    ·exact .inl h
    ·exact .inr ⟨R,by rw [jP,h6]; rfl,h7⟩
   ·rcases h4 m0 hm i hi with h | ⟨R,h6,h7⟩
    ·exact .inl h
    ·exact .inr ⟨R,by rw [jP,h6]; simp,h7⟩
  ·rw [jP,Bool.or_eq_true] at ht
   exact ht.elim (h3 t) (h5 t)
theorem mG:∀ {cs:List SV} (_:cy cs=true) {j:Nat} {c:SV},cs[j]? = some c→pw c=true
 | [],_,j,c,h=>by simp at h
 | d::cs,h,j,c,hj=>by
  simp only [cy] at h
  split at h
  ·rename_i h1
   cases j with
   | zero=>simp at hj; subst hj; exact h1
   | succ j=>simp at hj; exact mG h hj
  ·cases h
theorem Oc {B B':List (Nat×Option a6)} {v:SV} {q:PV} (h:be B v q) : pw v=true→be B' v q:=by
 induction h with
 | junk q=>exact fun _=>.junk q
 | d c y h=>exact fun _=>.d c y h
 | ag cs qs hl hr ih=>exact fun hs=>.ag cs qs hl fun j c q h1 h2=>ih j c q h1 h2 (mG hs h1)
 | tup cs qs hl hr ih=>exact fun hs=>.tup cs qs hl fun j c q h1 h2=>ih j c q h1 h2 (mG hs h1)
 | ptr t o ty cs hb=>exact fun hs=>by cases hs
 | row t n e k ty xs pins hb hn=>exact fun hs=>by cases hs
 | re t p o n i e k ty xs pins pin hb hn hp hi=>exact fun hs=>by cases hs
 | vw t lo hi n e k ty xs pins hb hn=>exact fun hs=>by cases hs
 | fe cs ds h hn=>exact fun _=>.fe cs ds h hn
 | fn f ps qs ps' qs' hl hr hl2 hr2 ih ih2 =>
  intro hs
  have hs:(match cy ps with | true=>cy qs | false=>false)=true:=hs
  split at hs
  ·rename_i h1
   exact .fn f ps qs ps' qs' hl (fun j c q h2 h3=>ih j c q h2 h3 (mG h1 h2)) hl2 (fun j c q h2 h3=>ih2 j c q h2 h3 (mG hs h2))
  ·cases hs
def tI (sc wr:List Nat) (ms:List Mod) (s1:SS) : SS:=⟨s1.sl,s1.bx,(cf sc wr ms s1).pr,s1.ro,s1.oc⟩
theorem qE (ms:List Mod) (s1:SS) (t:Nat) : aD (cf sc wr ms s1).pr t=true↔aD (bv ms) t=false∧aD sc t=false∧∃ b,lkB s1.bx t=some b∧yw b=true:=by
 show aD (oN (bv ms++sc) s1.bx []) t=true↔_
 rw [lg,dc,Bool.or_eq_false_iff]
 simp [aD,and_assoc]
theorem Bb (ms:List Mod) (s1:SS) : mf (tI sc wr ms s1):=fun t ht=>((qE (wr:=wr) ms s1 t).1 ht).2.2
theorem yZ {ms:List Mod} {s1:SS} {t:Nat} (h:aD (cf sc wr ms s1).pr t=true) : lkB (cf sc wr ms s1).bx t=Jr (lkB s1.bx t):=by
 obtain ⟨_,h2,_⟩:=(qE ms s1 t).1 h
 show lkB (LD s1.bx sc (sW (cf sc wr ms s1).pr s1.bx [])) t = _
 rw [(vx s1.bx sc _ t).2 (.inl h2),nH,h]
 simp [aD]
theorem Dy {ms:List Mod} {s1:SS} {t:Nat} (h:aD sc t=true) {ty:TypeId} {cs:List SV} (hb:lkB s1.bx t=some (.st ty cs)) : lkB (cf sc wr ms s1).bx t=some (.st ty (wK cs)) :=
 (vx s1.bx sc _ t).1 h ty cs hb
theorem FK {ms:List Mod} {s1:SS} {t:Nat} {b:a6} (h:lkB (cf sc wr ms s1).bx t=some b) : aD (cf sc wr ms s1).pr t=true∨aD sc t=true∧∃ ty cs,lkB s1.bx t=some (.st ty cs):=by
 by_cases h1:aD sc t=true∧∃ ty cs,lkB s1.bx t=some (.st ty cs)
 ·exact .inr h1
 ·left
  have h2:aD sc t=false∨∀ ty cs,lkB s1.bx t≠some (.st ty cs):=by
   by_cases h3:aD sc t=true
   ·exact .inr fun ty cs h4=>h1 ⟨h3,ty,cs,h4⟩
   ·exact .inl (by simpa using h3)
  have h:lkB (LD s1.bx sc (sW (cf sc wr ms s1).pr s1.bx [])) t=some b:=h
  rw [(vx s1.bx sc _ t).2 h2,nH] at h
  cases h4:aD (cf sc wr ms s1).pr t with
  | true=>rfl
  | false=>rw [h4] at h; simp [aD] at h
theorem JT {ms:List Mod} {s1 s':SS} {p1 p':PS} {st:jO ms} {s2:SS} (hs1:gJ s1 p1) (hchk:sU sc wr ms s1.pr s1=true) (hk:dA sc wr (tI sc wr ms s1) s') (hs':gJ s' p') (hpk:tG s' ms=some st) (hput:jH ms st (cf sc wr ms s1)=some s2) :
  gJ s2 p'∧dA sc wr (tI sc wr ms s1) s2∧s2.pr=(cf sc wr ms s1).pr:=by
 unfold sU at hchk
 simp only [Bool.and_eq_true] at hchk
 obtain ⟨c1,c2,c3,c4⟩:=hchk
 obtain ⟨o1,o2⟩:=uq c1
 have hscm:=td c3
 obtain ⟨X,bx2,rfl,hX,hkeys⟩:=LV (show jH ms st ⟨(cf sc wr ms s1).sl,(cf sc wr ms s1).bx,(cf sc wr ms s1).pr,(cf sc wr ms s1).ro,(cf sc wr ms s1).oc⟩=some s2 from hput)
 have hX0:=hX []
 rw [List.append_nil] at hX0
 have hsame:∀ t,aD (cf sc wr ms s1).pr t=true→kO (lkB s1.bx t) (lkB s'.bx t):=hk.bx
 have hbx:Hs (cf sc wr ms s1).bx p':=by
  intro t b hb
  rcases FK hb with h | ⟨h,ty,cs,h1⟩
  ·obtain ⟨_,_,b1,h2,h3⟩:=(qE ms s1 t).1 h
   have h4:=hsame t h
   rw [yZ h,h2] at hb
   rw [h2] at h4
   cases b1 with
   | st ty cs =>
    injection hb with hb
    subst hb
    obtain ⟨qs,h5,h6⟩:=hs'.bx t _ h4
    exact ⟨qs,h5,h6.len,fun j c q m1 m2=>Oc (h6.rep j c q m1 m2) (mG h3 m1)⟩
   | rw e k ty xs pins =>
    injection hb with hb
    subst hb
    obtain ⟨pins',h4⟩:=h4
    exact ⟨(hs'.bx t _ h4).1,fun p pin hp=>by cases hp⟩
  ·rw [Dy h h1] at hb
   injection hb with hb
   subst hb
   obtain ⟨cs',h2,h3⟩:=hk.st t h ty cs h1
   obtain ⟨qs,h4,h5⟩:=hs'.bx t _ h2
   refine ⟨qs,h4,by rw [A9,← h3]; exact h5.len,fun j c q m1 m2=>?_⟩
   rw [H8 cs j c m1]
   exact .junk q
 have hnp:mh (cf sc wr ms s1).bx:=by
  intro t e k ty xs pins hb
  rcases FK hb with h | ⟨h,ty2,cs,h1⟩
  ·rw [yZ h] at hb
   cases hl:lkB s1.bx t with
   | none=>rw [hl] at hb; cases hb
   | some b =>
    rw [hl] at hb
    cases b with
    | st=>cases hb
    | rw e2 k2 ty2 xs2 pins2 =>
     injection hb with hb
     injection hb with q1 q2 q3 q4 q5
     exact q5.symm
  ·rw [Dy h h1] at hb; cases hb
 have hc0:gJ ⟨[],(cf sc wr ms s1).bx,(cf sc wr ms s1).pr,(cf sc wr ms s1).ro,(cf sc wr ms s1).oc⟩ p':=⟨fun i=>.junk _,hbx⟩
 obtain ⟨k1,k2,k3,k4,k5⟩:=LZ hs' hpk hc0 hnp hX0
 have k4:∀ t,aD (bv ms) t=false→lkB bx2 t=lkB (cf sc wr ms s1).bx t:=k4
 have hprm:∀ t,aD (cf sc wr ms s1).pr t=true→aD (bv ms) t=false:=fun t ht=>((qE ms s1 t).1 ht).1
 have hkb:∀ t,aD (bv ms++(sP s1.bx sc++(cf sc wr ms s1).pr)) t=true→∀ ty cs,lkB s'.bx t=some (.st ty cs)→∃ ty' cs',lkB bx2 t=some (.st ty' cs'):=by
  intro t ht ty cs hb
  rw [dc,dc,Bool.or_eq_true,Bool.or_eq_true] at ht
  rcases ht with ht | ht | ht
  ·exact k5 t ht ty cs hb
  ·obtain ⟨h1,ty2,cs2,h2⟩:=(qD s1.bx sc t).1 ht
   rw [k4 t (hscm t h1),Dy h1 h2]
   exact ⟨_,_,rfl⟩
  ·rw [k4 t (hprm t ht),yZ ht]
   have h1:=hsame t ht
   obtain ⟨_,_,b1,h2,h3⟩:=(qE ms s1 t).1 ht
   rw [h2] at h1 ⊢
   cases b1 with
   | st ty2 cs2=>exact ⟨_,_,rfl⟩
   | rw e k ty2 xs pins =>
    obtain ⟨pins',h1⟩:=h1
    rw [h1] at hb
    cases hb
 have hbase:∀ i,lkV (cf sc wr ms s1).sl i=if aD wr i=true then .junk else if GX (cf sc wr ms s1).pr (bv ms++(sP s1.bx sc++(cf sc wr ms s1).pr)) (lkV s1.sl i)=true then lkV s1.sl i else .junk:=fun i=>by
  show lkV (sV wr (cf sc wr ms s1).pr (bv ms++(sP s1.bx sc++(cf sc wr ms s1).pr)) s1.sl []) i = _
  rw [nG]
  simp [aD]
 refine ⟨⟨fun i=>?_,k1.bx⟩,⟨rfl,rfl,fun t ht=>?_,fun i hi hsf=>?_,fun t ht ty cs hb=>?_⟩,rfl⟩
 ·show be bx2 (lkV (X++(cf sc wr ms s1).sl) i) (p'.t i)
  rw [JW]
  split
  ·exact k1.sl i
  ·rw [hbase]
   split
   ·exact .junk _
   ·rename_i hw
    split
    ·rename_i hsf
     have e:=hk.sl i (by simpa using hw) (Vk (fun t h=>h) _ hsf)
     have h1:=hs'.sl i
     rw [e] at h1
     refine Sz (fun t ht e k ty xs pins hb=>?_) hkb h1 hsf
     rw [k4 t (hprm t ht),yZ ht]
     have h2:=hsame t ht
     obtain ⟨_,_,b1,h3,h4⟩:=(qE ms s1 t).1 ht
     rw [h3] at h2 ⊢
     cases b1 with
     | st ty2 cs2=>have h2:lkB s'.bx t=some (.st ty2 cs2):=h2; rw [h2] at hb; cases hb
     | rw e2 k2 ty2 xs2 pins2 =>
      obtain ⟨pins',h2⟩:=h2
      rw [h2] at hb
      injection hb with hb
      injection hb with q1 q2 q3 q4 q5
      subst q3
      have q4:=eq_of_heq q4
      subst q4
      exact ⟨_,_,_,_,_,rfl,rfl⟩
    ·exact .junk _
 ·show kO (lkB s1.bx t) (lkB bx2 t)
  have ht:aD (cf sc wr ms s1).pr t=true:=ht
  rw [k4 t (hprm t ht),yZ ht]
  match lkB s1.bx t with
  | none=>rfl
  | some (.st _ _)=>rfl
  | some (.rw _ _ _ _ _)=>exact ⟨[],rfl⟩
 ·show lkV (X++(cf sc wr ms s1).sl) i=lkV s1.sl i
  have hsf:lb (cf sc wr ms s1).pr (lkV s1.sl i)=true:=hsf
  rw [JW,if_neg,hbase,if_neg (by simp [hi]),if_pos]
  ·refine Ow (fun t h=>h) (fun t ty cs hb=>?_) (hs1.sl i) hsf
   rw [dc,dc,Bool.or_eq_true,Bool.or_eq_true]
   rcases oT _ _ _ _ c4 t ty cs rfl hb with h | h | h
   ·exact .inl h
   ·exact .inr (.inl ((qD s1.bx sc t).2 ⟨h,ty,cs,hb⟩))
   ·by_cases hm:aD (bv ms) t=true
    ·exact .inl hm
    ·by_cases hsc:aD sc t=true
     ·exact .inr (.inl ((qD s1.bx sc t).2 ⟨hsc,ty,cs,hb⟩))
     ·exact .inr (.inr ((qE ms s1 t).2 ⟨by simpa using hm,by simpa using hsc,_,hb,h⟩))
  ·intro hX1
   obtain ⟨m,hm,hkey⟩:=hkeys i hX1
   rcases o1 m hm i hkey with h | ⟨R,h1,h2⟩
   ·rw [h] at hi; cases hi
   ·rw [h2] at hsf
    have hsf:aD (cf sc wr ms s1).pr R=true:=hsf
    rw [hprm R hsf] at h1
    cases h1
 ·show ∃ cs',lkB bx2 t = _∧_
  rw [k4 t (hscm t ht),Dy ht (show lkB s1.bx t = _ from hb)]
  exact ⟨_,rfl,A9 cs⟩
end
section
theorem Dn {P:Program} {s:SS} {p:PS} (hs:Sim s p) : ∀ {l:List ResultVar} {vs:List SV},LJ P s l=some vs→∃ qs,l.mapM (CR P p)=some qs∧bZ s.bx vs qs
 | [],vs,h=>by injection h with h; subst h; exact ⟨[],rfl,.nil⟩
 | .tmp t::l,vs,h=>by
  simp only [LJ] at h
  split at h
  ·rename_i vs' h1
   injection h with h
   subst h
   obtain ⟨qs,h2,h3⟩:=Dn hs h1
   exact ⟨p.t t::qs,by simp [List.mapM_cons,CR,h2],.cons (hs.sl t) h3⟩
  ·cases h
 | .cell t ty::l,vs,h=>by
  simp only [LJ] at h
  split at h
  ·rename_i v vs' h0 h1
   injection h with h
   subst h
   obtain ⟨qs,h2,h3⟩:=Dn hs h1
   obtain ⟨r,h4,h5⟩:=L8 hs (hs.sl t) h0
   exact ⟨r::qs,by simp [List.mapM_cons,CR,h4,h2],.cons h5 h3⟩
  ·cases h
theorem MP {s:SS} {p:PS} (hs:Sim s p) : ∀ {rs:List PT} {vs:List SV} {qs:List PV} {x:bc rs},bZ s.bx vs qs→IJ s rs vs=some x→bM p.b qs=yn rs x
 | [],[],qs,x,hv,h=>by
  rcases hv.cases with ⟨_,rfl⟩ | ⟨_,_,_,_,h1,_⟩
  ·rfl
  ·cases h1
 | [],_ :: _,_,x,_,h=>dC (x:=x) h
 | [t],[],_,x,_,h=>dC (x:=x) h
 | [t],[v],qs,x,hv,h=>by
  rcases hv.cases with ⟨h1,_⟩ | ⟨v',q,vs',qs',h1,rfl,h2,h3⟩
  ·cases h1
  ·injection h1 with e1 e2
   subst e1 e2
   rcases h3.cases with ⟨_,rfl⟩ | ⟨_,_,_,_,h4,_⟩
   ·have:=(Dx hs h2 (show MY s t v=some x from h)).1
    simp only [bM,yn,this]
   ·cases h4
 | [t],_ :: _ :: _,_,x,_,h=>dC (x:=x) h
 | t::t' :: rs,[],_,x,_,h=>dC (x:=x) h
 | t::t' :: rs,v::vs,qs,x,hv,h=>by
  rcases hv.cases with ⟨h1,_⟩ | ⟨v',q,vs',qs',h1,rfl,h2,h3⟩
  ·cases h1
  ·injection h1 with e1 e2
   subst e1 e2
   have h:Option.bind (MY s t v) (fun x=>Option.bind (IJ s (t' :: rs) vs) fun xs=>some (x,xs))=some x:=h
   obtain ⟨y,h4,h5⟩:=cM h
   obtain ⟨ys,h6,h7⟩:=cM h5
   injection h7 with h7
   subst h7
   simp only [bM,yn,(Dx hs h2 h4).1,MP hs h3 h6]
theorem II {s:SS} : ∀ {rs:List PT} {vs:List SV} {x:bc rs},IJ s rs vs=some x→vs.length=rs.length
 | [],[],x,_=>rfl
 | [],_ :: _,x,h=>dC (x:=x) h
 | [t],[],x,h=>dC (x:=x) h
 | [t],[v],x,_=>rfl
 | [t],_ :: _ :: _,x,h=>dC (x:=x) h
 | t::t' :: rs,[],x,h=>dC (x:=x) h
 | t::t' :: rs,v::vs,x,h=>by
  have h:Option.bind (MY s t v) (fun x=>Option.bind (IJ s (t' :: rs) vs) fun xs=>some (x,xs))=some x:=h
  obtain ⟨y,h4,h5⟩:=cM h
  obtain ⟨ys,h6,h7⟩:=cM h5
  simp only [List.length_cons,II h6]
theorem Me {C:Cx} {fn:Func} (hv:fn.results.toList=C.vars) {s:SS} {p:PS} (hs:Sim (clr s) p) {r:bc C.rs} (hM:oW C.rs=false) (h:Cg C s=some r) : ∃ q,qU C.P fn p=some q∧asData p.b q=toR C.rs r:=by
 unfold Cg at h
 rw [hM] at h
 simp only at h
 split at h
 ·rename_i vs hvs
  obtain ⟨qs,h1,h2⟩:=Dn hs hvs
  have h3:=MP hs h2 h
  have h4:=II h
  have h5:=h2.len
  unfold qU
  rw [hv,h1]
  match qs,h3,h5 with
  | [],h3,h5 =>
   refine ⟨.tup [],rfl,?_⟩
   rcases ry C.rs r with ⟨q,k1,_⟩ | k1
   ·rw [k1] at h3; simp [bM] at h3
   ·rw [k1,← h3]; rfl
  | [q],h3,h5 =>
   refine ⟨q,rfl,?_⟩
   have:C.rs.length=1:=by rw [← h4,h5]; rfl
   rcases ry C.rs r with ⟨q',k1,k2⟩ | k1
   ·rw [k1] at h3
    rw [k2]
    simpa [bM] using h3
   ·exfalso
    match C.rs,r,this,k1 with
    | [t],r,_,k1=>cases t <;> simp [toR,pn] at k1
  | q::q' :: qs,h3,h5 =>
   refine ⟨.tup (q::q' :: qs),rfl,?_⟩
   rcases ry C.rs r with ⟨q2,k1,_⟩ | k1
   ·rw [k1] at h3; simp [bM] at h3
   ·rw [k1,← h3]; rfl
 ·cases h
theorem OK:∀ (rs:List PT) (o:yy (cx rs)) (r:bc (eT rs)),jN rs (V1 rs o r)=o∧iB rs (V1 rs o r)=r
 | [],_,_=>⟨rfl,rfl⟩
 | [.io _],_,_=>⟨rfl,rfl⟩
 | .io _ :: _ :: _,_,_=>⟨rfl,rfl⟩
 | .own .. :: _,_,_=>⟨rfl,rfl⟩
 | .mv .. :: _,_,_=>⟨rfl,rfl⟩
 | .bx .. :: _,_,_=>⟨rfl,rfl⟩
 | .agr .. :: _,_,_=>⟨rfl,rfl⟩
 | .lf _ :: _,_,_=>⟨rfl,rfl⟩
 | .ag _ :: _,_,_=>⟨rfl,rfl⟩
 | .pl _ :: _,_,_=>⟨rfl,rfl⟩
 | .ps _ :: _,_,_=>⟨rfl,rfl⟩
 | .fn .. :: _,_,_=>⟨rfl,rfl⟩
def boI (i:Nat) : (b:IB)→List Nat→b.den→BU
 | .no,_,_=>[]
 | .own e k t,_,xs=>[(tS i,rwU e k t xs)]
 | .bx ty n rows,js,x=>(tS i,.st ty (dW (ml rows js) 0 (stD n x)))::cg (ml rows js) 0 (stD n x)
def rZ:Nat→(ls:List IB)→List (List Nat)→yy ls→BU
 | i,b::ls,js::kss,o=>boI i b js o.1++rZ (i + 1) ls kss o.2
 | _,_,_,_=>[]
def Ss (C:Cx) (fn:Func) (p:PS) (r:bc C.rs) : Prop :=
 (oW C.rs=false→∃ q,qU C.P fn p=some q∧asData p.b q=toR C.rs r) ∧
 (oW C.rs=true→∃ kss jss,jS (cx C.rs) kss∧iA (eT C.rs) jss∧(dm 0 (cx C.rs)++(bm kss++bm jss)).Nodup∧(∃ q,qU C.P fn p=some q∧qB q=yz (cP (eT C.rs) jss (iB C.rs r)).1) ∧
  ∀ t Bx,(t,Bx)∈rZ 0 (cx C.rs) kss (jN C.rs r)++(cP (eT C.rs) jss (iB C.rs r)).2→∃ B',p.b t=some B'∧rJ B' = Bx)
theorem JN {rows:List (Nat×Nat×Nat×Nat×Ty)} {t:Nat} {Bx:Box} : ∀ {ds:List D} {j:Nat},(t,Bx)∈cg rows j ds→rJ Bx=Bx
 | [],j,h=>by cases h
 | d::ds,j,h=>by
  simp only [cg] at h
  split at h
  ·split at h
   ·rcases List.mem_cons.1 h with e | h
    ·injection e with _ e; subst e; rfl
    ·exact JN h
   ·exact JN h
  ·exact JN h
theorem Yx {s:SS} {p:PS} (hs:Sim s p) {i:Nat} {b:IB} {o:b.den} {js:List Nat} (h:Yy s i b=some (o,js)) : js.length=b.nJ∧∀ t Bx,(t,Bx)∈boI i b js o→∃ B',p.b t=some B'∧rJ B' = Bx:=by
 cases b with
 | no =>
  injection h with h
  injection h with _ h
  subst h
  exact ⟨rfl,fun _ _ h=>by cases h⟩
 | own e k t =>
  simp only [Yy] at h
  split at h
  ·rename_i xs is hd
   injection h with h
   injection h with e1 e2
   subst e1 e2
   refine ⟨rfl,fun t' Bx hm=>?_⟩
   have hbx:=hs.bx (tS i)
   unfold te at hd
   simp only at hd
   split at hd
   ·rename_i e' k' t2 xs' pins hb
    split at hd
    ·rename_i hty _
     obtain ⟨m2,hd⟩:=ao hd
     obtain ⟨m3,hd⟩:=ao hd
     injection hd with hd
     injection hd with e1 e2
     subst e1 hty
     have m2:=zd m2
     have m3:=zd m3
     subst m2 m3
     rw [hb] at hbx
     simp only [boI,List.mem_cons,List.not_mem_nil,or_false,Prod.mk.injEq] at hm
     obtain ⟨rfl,rfl⟩:=hm
     exact ⟨_,hbx.1,rfl⟩
    ·cases hd
   ·cases hd
  ·cases h
 | bx ty n rows =>
  simp only [Yy] at h
  split at h
  ·rename_i ty' cs hb
   obtain ⟨m1,h⟩:=ao h
   have m1:=zd m1
   subst m1
   have hbx:=hs.bx (tS i)
   rw [hb] at hbx
   obtain ⟨qs,k1,k2⟩:=hbx
   obtain ⟨k3,k4,k5⟩:=Fq hs k2 h
   refine ⟨k3,fun t Bx hm=>?_⟩
   rcases List.mem_cons.1 hm with e | hm
   ·injection e with e1 e2
    subst e1 e2
    exact ⟨_,k1,by rw [rJ,k4]⟩
   ·exact ⟨_,k5 t Bx hm,JN hm⟩
  ·cases h
theorem MS {s:SS} {p:PS} (hs:Sim s p) : ∀ {ls:List IB} {i:Nat} {o:yy ls} {kss:List (List Nat)},Sf s i ls=some (o,kss)→jS ls kss∧∀ t Bx,(t,Bx)∈rZ i ls kss o→∃ B',p.b t=some B'∧rJ B' = Bx
 | [],i,o,kss,h=>by
  injection h with h
  injection h with _ h
  subst h
  exact ⟨trivial,fun _ _ h=>by cases h⟩
 | b::ls,i,o,kss,h=>by
  simp only [Sf] at h
  split at h
  ·rename_i o1 js os kss' h1 h2
   injection h with h
   injection h with e1 e2
   subst e1 e2
   obtain ⟨k1,k2⟩:=Yx hs h1
   obtain ⟨k3,k4⟩:=MS hs h2
   refine ⟨⟨k1,k3⟩,fun t Bx hm=>?_⟩
   rcases List.mem_append.1 hm with hm | hm
   ·exact k2 t Bx hm
   ·exact k4 t Bx hm
  ·cases h
theorem IK {s:SS} {p:PS} (hs:Sim s p) : ∀ {rs:List PT} {vs:List SV} {qs:List PV} {x:bc rs} {jss:List (List Nat)},bZ s.bx vs qs→Kg s rs vs=some (x,jss) →
  iA rs jss∧dJ qs=(cP rs jss x).1∧∀ t Bx,(t,Bx)∈(cP rs jss x).2→∃ B',p.b t=some B'∧rJ B' = Bx
 | [],[],qs,x,jss,hv,h=>by
  rcases hv.cases with ⟨_,rfl⟩ | ⟨_,_,_,_,h1,_⟩
  ·injection h with h
   injection h with _ h
   subst h
   exact ⟨trivial,rfl,fun _ _ h=>by cases h⟩
  ·cases h1
 | [],_ :: _,_,x,jss,_,h=>dC (x:=(x,jss)) h
 | [pt],[],_,x,jss,_,h=>dC (x:=(x,jss)) h
 | [pt],[v],qs,x,jss,hv,h=>by
  rcases hv.cases with ⟨h1,_⟩ | ⟨v',q,vs',qs',h1,rfl,h2,h3⟩
  ·cases h1
  ·injection h1 with e1 e2
   subst e1 e2
   rcases h3.cases with ⟨_,rfl⟩ | ⟨_,_,_,_,h4,_⟩
   ·have h:(match Pi s pt v with | some (x,is)=>some (x,[is]) | none=>none)=some (x,jss):=h
    split at h
    ·rename_i y is hd
     injection h with h
     injection h with e1 e2
     subst e1 e2
     obtain ⟨k1,k2,k3⟩:=Kh hs h2 hd
     exact ⟨⟨k1,trivial⟩,by simp only [dJ,cP,k2],k3⟩
    ·cases h
   ·cases h4
 | [pt],_ :: _ :: _,_,x,jss,_,h=>dC (x:=(x,jss)) h
 | pt::q::l,[],_,x,jss,_,h=>dC (x:=(x,jss)) h
 | pt::q::l,v::vs,qs,x,jss,hv,h=>by
  rcases hv.cases with ⟨h1,_⟩ | ⟨v',qv,vs',qs',h1,rfl,h2,h3⟩
  ·cases h1
  ·injection h1 with e1 e2
   subst e1 e2
   have h:(match Pi s pt v,Kg s (q::l) vs with | some (x,is),some (xs,iss)=>some ((x,xs),is::iss) | _,_=>none)=some (x,jss):=h
   split at h
   ·rename_i y is ys iss hd hr
    injection h with h
    injection h with e1 e2
    subst e1 e2
    obtain ⟨k1,k2,k3⟩:=Kh hs h2 hd
    obtain ⟨k4,k5,k6⟩:=IK hs h3 hr
    refine ⟨⟨k1,k4⟩,by simp only [dJ,cP,k2,k5],fun t Bx hm=>?_⟩
    rcases List.mem_append.1 hm with hm | hm
    ·exact k3 t Bx hm
    ·exact k6 t Bx hm
   ·cases h
theorem OA {P:Program} {fn:Func} {p:PS} {qs:List PV} (h:fn.results.toList.mapM (CR P p)=some qs) : qU P fn p=some (yz qs):=by
 unfold qU
 rw [h]
 match qs with
 | []=>rfl
 | [q]=>rfl
 | q::q' :: qs=>rfl
theorem XX (qs:List PV) : qB (yz qs)=yz (dJ qs):=by
 match qs with
 | []=>rfl
 | [q]=>rfl
 | q::q' :: qs=>rfl
theorem RO {C:Cx} {fn:Func} (hv:fn.results.toList=C.vars) {s:SS} {p:PS} (hpr:mf (clr s)) (hs:Sim (clr s) p) {r:bc C.rs} (h:Cg C s=some r) : ∃ p',Le p p'∧Ss C fn p' r:=by
 cases hM:oW C.rs with
 | false=>exact ⟨p,.refl p,fun _=>Me hv hs hM h,fun e=>by rw [hM] at e; cases e⟩
 | true =>
  unfold Cg at h
  rw [hM] at h
  simp only [YW] at h
  split at h
  ·split at h
   ·rename_i s1 hf
    obtain ⟨p1,k1,k2,_,_⟩:=xw (sc:=C.sc) hpr hs hf
    split at h
    ·rename_i ws hws
     obtain ⟨qs,k3,k4⟩:=Dn k2 hws
     split at h
     ·rename_i o kss r' jss ho hr
      obtain ⟨hn,h⟩:=ao h
      injection h with h
      obtain ⟨e1,e2⟩:=OK C.rs o r'
      rw [h] at e1 e2
      obtain ⟨m1,m2⟩:=MS k2 ho
      obtain ⟨m3,m4,m5⟩:=IK k2 k4 hr
      refine ⟨p1,k1,fun e=>(by rw [hM] at e; cases e),fun _=>⟨kss,jss,m1,m3,iR hn,⟨_,OA (by rw [hv]; exact k3),by rw [XX,m4,e2]⟩,fun t Bx hm=>?_⟩⟩
      rw [e1,e2] at hm
      rcases List.mem_append.1 hm with hm | hm
      ·exact m2 t Bx hm
      ·exact m5 t Bx hm
     ·cases h
    ·cases h
   ·cases h
  ·cases h
def wW (C:Cx) (fn:Func) (W:List Nat) (s:SS) {ρ : Type} (k:Exit→SS→Option ρ) (kr:bc C.rs→Option ρ) (res : ρ) : Exit→PS→Prop
 | .ret,p'=>∃ r,Ss C fn p' r∧kr r=some res
 | e,p'=>∃ s',gJ s' p'∧dA C.sc W s s'∧k e s' = some res
theorem X1 {a b:List Nat} {i:Nat} (h:aD a i=true) : aD (a++b) i=true:=by rw [dc,h]; rfl
theorem VM {a b:List Nat} {i:Nat} (h:aD b i=true) : aD (a++b) i=true:=by rw [dc,h]; simp
variable {C:Cx} {fn:Func}
theorem qF {W:List Nat} {s:SS} {ρ : Type} {k:Exit→SS→Option ρ} {kr:bc C.rs→Option ρ} {res : ρ} {e:Exit} {p:PS} (he:e≠.ret) (h:wW C fn W s k kr res e p) : ∃ s',gJ s' p∧dA C.sc W s s'∧k e s' = some res:=by
 cases e <;> first | exact h | exact absurd rfl he
theorem LX {W:List Nat} {s s':SS} {ρ : Type} {k:Exit→SS→Option ρ} {kr:bc C.rs→Option ρ} {res : ρ} {e:Exit} {p:PS} (he:e≠.ret) (h1:gJ s' p) (h2:dA C.sc W s s') (h3:k e s' = some res) : wW C fn W s k kr res e p:=by
 cases e <;> first | exact ⟨s',h1,h2,h3⟩ | exact absurd rfl he
def UR (C:Cx) (fn:Func) (c:Code) (W:List Nat) (body:(ρ : Type)→SS→(Exit→SS→Option ρ)→(bc C.rs→Option ρ)→Option ρ) : Prop :=
 ∀ (ρ : Type) (s:SS) (p:PS) (k:Exit→SS→Option ρ) (kr:bc C.rs→Option ρ) (res : ρ),mf s→gJ s p→body ρ s k kr=some res→PWP C.P C.n c (wW C fn W s k kr res) p
theorem OG {wr:List Nat} {ms:List Mod} {s s1:SS} (hpr:mf s) (hk:dA C.sc wr s s1) (hchk:sU C.sc wr ms s.pr s1=true) : ∀ t,aD s.pr t=true→aD (cf C.sc wr ms s1).pr t=true:=by
 intro t ht
 unfold sU at hchk
 simp only [Bool.and_eq_true] at hchk
 obtain ⟨c1,c2,c3,c4⟩:=hchk
 rw [qE]
 refine ⟨?_,?_,hk.prOk hpr t (by rw [hk.pr]; exact ht)⟩
 ·cases hm:aD (bv ms) t with
  | false=>rfl
  | true =>
   have:=(uq c1).2 t hm
   rw [hk.pr,ht] at this
   cases this
 ·cases hm:aD C.sc t with
  | false=>rfl
  | true =>
   have:=td c2 t hm
   rw [ht] at this
   cases this
mutual
theorem D2 {pr pr':List Nat} (h:∀ t,aD pr t=true→aD pr' t=true) : ∀ v:SV,lb pr v=true→lb pr' v=true
 | .junk,_=>rfl
 | .d _,_=>rfl
 | .fe _,_=>rfl
 | .ptr _ _,_=>rfl
 | .row t,hs=>h t hs
 | .re _ _ _,hs=>by cases hs
 | .vw _ _ _,hs=>by cases hs
 | .ag cs,hs=>by simp only [lb] at hs ⊢; exact nC h cs hs
 | .tup cs,hs=>by simp only [lb] at hs ⊢; exact nC h cs hs
 | .fn f ps qs,hs=>by simp only [lb,Bool.and_eq_true] at hs ⊢; exact ⟨nC h ps hs.1,nC h qs hs.2⟩
theorem nC {pr pr':List Nat} (h:∀ t,aD pr t=true→aD pr' t=true) : ∀ cs:List SV,dV pr cs=true→dV pr' cs=true
 | [],_=>rfl
 | c::cs,hs=>by
  simp only [dV,Bool.and_eq_true] at hs ⊢
  exact ⟨D2 h c hs.1,nC h cs hs.2⟩
end
theorem xr {wr:List Nat} {ms:List Mod} {s s1 s2:SS} {oc:List Nat} (hk:dA C.sc wr s s1) (hsub:∀ t,aD s.pr t=true→aD (cf C.sc wr ms s1).pr t=true) (hk2:dA C.sc wr (tI C.sc wr ms s1) s2) : dA C.sc wr s ⟨s2.sl,s2.bx,s.pr,s.ro,oc⟩:=by
 refine ⟨rfl,rfl,fun t ht=>(hk.bx t ht).trans (hk2.bx t (hsub t ht)),fun i hi hsf=>?_,fun t ht ty cs hb=>?_⟩
 ·have e:=hk.sl i hi hsf
  have:=hk2.sl i hi (D2 hsub _ (by show lb s.pr (lkV s1.sl i)=true; rw [e]; exact hsf))
  exact this.trans e
 ·obtain ⟨cs1,h1,h2⟩:=hk.st t ht ty cs hb
  obtain ⟨cs2,h3,h4⟩:=hk2.st t ht ty cs1 h1
  exact ⟨cs2,h3,h4.trans h2⟩
theorem yu {s:SS} (h:mf s) : mf (clr s):=h
theorem Mg {W:List Nat} {s s':SS} (h:dA C.sc W (clr s) s') : dA C.sc W s s':=⟨h.pr,h.ro,h.bx,h.sl,h.st⟩
theorem yg {c:Code} {wr:List Nat} {h:tV} {body:(ρ : Type)→SS→(Exit→SS→Option ρ)→(bc C.rs→Option ρ)→Option ρ} (hb:UR C fn c wr body) : UR C fn c wr (Hu C wr h body):=by
 intro ρ s p k kr res hpr hs hx
 unfold Hu at hx
 split at hx
 ·rename_i ms h'
  split at hx
  ·cases hx
  ·rename_i s1 hnil
   obtain ⟨hchk,hx⟩:=ao hx
   obtain ⟨st,h1,h2⟩:=cM hx
   split at h2
   ·rename_i s2 hput
    refine ug (A7 hs) ?_
    obtain ⟨p2,k1,k2,k3,k4⟩:=qI (sc:=C.sc) (s:=clr s) rfl (yu hpr) (rF hs) hnil
    refine ug k1 ?_
    have hk1:dA C.sc wr s s1:=Mg k3
    have hw:gJ (tI C.sc wr ms s1) p2:=⟨k2.w.sl,k2.w.bx⟩
    refine fm (hb _ (tI C.sc wr ms s1) p2 _ _ st (Bb ms s1) hw h1) fun e p' hq=>?_
    by_cases he:e = .ret
    ·subst he
     obtain ⟨r,_,h⟩:=hq
     cases h
    ·obtain ⟨s',m1,m2,m3⟩:=qF he hq
     cases e with
     | normal =>
      have m3:qG ms s' = some st:=m3
      unfold qG at m3
      split at m3
      ·rename_i s'' hf
       obtain ⟨p'',n1,n2,n3⟩:=rQ (sc:=C.sc) (m2.prOk (Bb ms s1)) m1 hf
       have hchk':sU C.sc wr ms s1.pr s1=true:=by rw [hk1.pr]; exact hchk
       obtain ⟨o1,o2,o3⟩:=JT k2.w hchk' (m2.trans (n3 wr)) n2 m3 hput
       exact ⟨p'',n1,⟨s2.sl,s2.bx,s.pr,s.ro,s.oc⟩,⟨o1.sl,o1.bx⟩,xr hk1 (OG hpr hk1 hchk) o2,h2⟩
      ·cases m3
     | ret=>exact absurd rfl he
     | _=>cases m3
   ·cases h2
 ·exact hb ρ s p k kr res hpr hs hx
end
section
variable {C:Cx} {fn:Func}
theorem rD:∀ {l:List Oper},Ve l=true→∀ o∈l,∀ t x y,o.op = .store t x y→o.dst=none
 | [],_,o,ho,_,_,_,_=>by cases ho
 | x::l,h,o,ho,t,a,b,hop=>by
  simp only [Ve] at h
  rcases List.mem_cons.1 ho with rfl | ho
  ·cases hd:o.dst with
   | none=>rfl
   | some d=>rw [hop,hd] at h; cases h
  ·split at h
   ·cases h
   ·exact rD h o ho t a b hop
theorem Rt (hT:qQ C.P C.T) (hm:C.P.follows .mixedOrders=true) (id:Nat) (ops:Array Oper) (draw:Bool) : UR C fn (.region id ops draw) (ci ops.toList) (fun _ s k _=>Vq C id ops draw s fun s=>k .normal s):=by
 intro ρ s p k kr res hpr hs h
 have ha:ops.toList.toArray=ops:=by simp
 have hW:∀ o∈ops.toList,∀ d,o.dst=some d→aD (ci ops.toList) d=true:=fun o ho d hd=>tc ho hd
 have hO:∀ (j:Nat) (o:Oper),ops[j]? = some o→∀ d,o.dst=some d→aD (ci ops.toList) d=true:=fun j o ho d hd=>tc (by
  rw [Array.mem_toList_iff]
  exact Array.mem_of_getElem? ho) hd
 replace h:Vq C id ops draw s (fun s=>k .normal s)=some res:=h
 unfold Vq at h
 cases hf:lu (lkF C.fz id) s with
 | none=>rw [hf] at h; cases h
 | some s0 =>
  rw [hf] at h
  obtain ⟨p1,k1,k2,k3⟩:=rQ (sc:=C.sc) hpr hs hf
  refine ug k1 (ug (A7 k2) ?_)
  have hs2:=rF k2
  have hpr2:mf ⟨s0.sl,s0.bx,s0.pr,s0.ro,[]⟩:=(k3 []).prOk hpr
  have fin:∀ p',Gw C.sc (ci ops.toList) ops.toList ⟨s0.sl,s0.bx,s0.pr,s0.ro,[]⟩ (xD s0 p1) (fun s=>k .normal s) res p'→wW C fn (ci ops.toList) s k kr res .normal p':=by
   rintro p' ⟨s',m1,m2,m3,m4,_⟩
   exact ⟨s',m1.w,(k3 _).trans ⟨m2.pr,m2.ro,m2.bx,m2.sl,m2.st⟩,m4⟩
  simp only at h
  cases draw <;> simp only at h
  ·obtain ⟨h1,h2⟩:=ao h
   rw [Bool.and_eq_true] at h1
   have hrun:=Dk (q:=true) (sc:=C.sc) hT (ops:=ops) 1000 0 [] ops.toList hW hO (rD h1.1) hpr2 hs2 h2
   have:=LS (P:=C.P) (n:=C.n) (id:=id) (Qs:=wW C fn (ci ops.toList) s k kr res) (s:=xD s0 p1) h1.2 (by rw [ha]; exact fJ hrun fin)
   rw [ha] at this
   exact this
  ·obtain ⟨h1,h2⟩:=ao h
   obtain ⟨h3,h4⟩:=ao h2
   split at h4
   ·have hrun:=Dk (q:=false) (sc:=C.sc) hT (ops:=ops) 1000 0 [] ops.toList hW hO (rD h1) hpr2 hs2 h4
    have:=Vu (P:=C.P) (n:=C.n) (id:=id) (l:=ops.toList) (Qs:=wW C fn (ci ops.toList) s k kr res) (s:=xD s0 p1) _ hm (by rw [ha]; exact h3) (by
     rw [ha]
     exact AN (P:=C.P) (ops:=ops) ops.toList 0 (xD s0 p1) (fun j hj=>by simp) (fJ hrun fin))
    rw [ha] at this
    exact this
   ·obtain ⟨h5,h6⟩:=ao h4
    rw [Bool.and_eq_true] at h5
    have hle:=zd h5.2
    have hsub1:∀ o∈ops.toList.take (iP ops),o∈ops.toList:=fun o ho=>List.mem_of_mem_take ho
    have hsub2:∀ o∈ops.toList.drop (iP ops),o∈ops.toList:=fun o ho=>List.mem_of_mem_drop ho
    have hrun1:=Dk (q:=false) (sc:=C.sc) hT (ops:=ops) 1000 0 [] (ops.toList.take (iP ops)) (fun o ho=>hW o (hsub1 o ho)) hO (fun o ho=>rD h1 o (hsub1 o ho)) hpr2 hs2 h6
    have hrun:wi false C.P ops (yB (kR C.T ⟨s0.sl,s0.bx,s0.pr,s0.ro,[]⟩ ops.toList [] [])) 0 (ops.toList.take (iP ops)) (xD s0 p1) fun p'=>wi true C.P ops (yB []) 0 (ops.toList.drop (iP ops)) p' (wW C fn (ci ops.toList) s k kr res .normal):=by
     refine fJ hrun1 fun p' hp=>?_
     obtain ⟨s',m1,m2,m3,m4,_⟩:=hp
     have hrun2:=Dk (q:=true) (sc:=C.sc) hT (ops:=ops) 1000 0 [] (ops.toList.drop (iP ops)) (fun o ho=>hW o (hsub2 o ho)) hO (fun o ho=>rD h1 o (hsub2 o ho)) m3 m1 m4
     refine fJ hrun2 fun p2 hp2=>?_
     obtain ⟨s3,n1,n2,n3,n4,_⟩:=hp2
     exact ⟨s3,n1.w,(k3 _).trans ((show dA C.sc (ci ops.toList) s0 s' from ⟨m2.pr,m2.ro,m2.bx,m2.sl,m2.st⟩).trans n2),n4⟩
    have:=S1 (P:=C.P) (n:=C.n) (id:=id) (l:=ops.toList) (Qs:=wW C fn (ci ops.toList) s k kr res) (s:=xD s0 p1) _ (iP ops) hle hm (by rw [ha]; exact h3) (by rw [ha]; exact h5.1) (by
     rw [ha]
     have e1:(ops.toList.take (iP ops)).length=iP ops:=by rw [List.length_take]; exact Nat.min_eq_left (by simpa using hle)
     have e2:(ops.toList.drop (iP ops)).length=ops.toList.length - iP ops:=by simp
     rw [← e2]
     have r1:=AN (P:=C.P) (ops:=ops) (ops.toList.take (iP ops)) 0 (xD s0 p1) (fun j hj=>by
      rw [e1] at hj
      rw [List.getElem?_take,if_pos hj]
      simp) hrun
     rw [e1] at r1
     refine HI r1 fun p' hp=>Rn _ _ _ _ (fun j hj=>by rw [List.getElem?_drop]; simp) hp)
    rw [ha] at this
    exact this
theorem XL (hT:qQ C.P C.T) (hm:C.P.follows .mixedOrders=true) (id:Nat) (ops:Array Oper) (draw:Bool) : UR C fn (.region id ops draw) (ci ops.toList) (fun _ s k _=>XM C id ops draw s fun s=>k .normal s):=by
 intro ρ s p k kr res hpr hs h
 replace h:XM C id ops draw s (fun s=>k .normal s)=some res:=h
 unfold XM at h
 split at h
 ·exact Rt hT hm id ops draw ρ s p k kr res hpr hs h
 ·rename_i t l _
  obtain ⟨h1,h2⟩:=ao h
  have h3:=Rt (fn:=fn) hT hm id ops draw ρ s p (fun e s=>match e with | .normal=>(match It C.sc (t::l) s with | some s=>k .normal s | none=>none) | e=>k e s) kr res hpr hs h2
  refine fm h3 fun e p' hq=>?_
  by_cases he:e = .ret
  ·subst he; exact ⟨p',.refl _,hq⟩
  ·obtain ⟨s',m1,m2,m3⟩:=qF he hq
   cases e with
   | ret=>exact absurd rfl he
   | normal =>
    have m3:(match It C.sc (t::l) s' with | some s=>k .normal s | none=>none)=some res:=m3
    split at m3
    ·rename_i s2 hfb
     obtain ⟨p2,k1,k2,k3⟩:=Mx hs (m2.prOk hpr) h1 m2 m1 hfb
     exact ⟨p2,k1,s2,k2,k3,m3⟩
    ·cases m3
   | _=>exact ⟨p',.refl _,LX he m1 m2 m3⟩
theorem DY {s:SS} {p:PS} (hs:gJ s p) {x:Operand} {b:Bool} (h:evX s x = .d (.bool b)) : gJ (wJ s x b) p:=by
 unfold wJ
 split
 ·rename_i i
  refine ⟨fun j=>?_,hs.bx⟩
  show be s.bx (lkV ((i,.d (.bool b))::s.sl) j) (p.t j)
  rw [cQ]
  split
  ·rename_i e
   subst e
   have:=hs.sl j
   rw [show lkV s.sl j = .d (.bool b) from h] at this
   exact this
  ·exact hs.sl j
 ·exact hs
theorem EG {W:List Nat} {s:SS} {x:Operand} {b:Bool} (h:∀ i,x = .tmp i→aD W i=true) : dA C.sc W s (wJ s x b):=by
 unfold wJ
 split
 ·rename_i i
  refine ⟨rfl,rfl,fun _ _=>.refl _,fun j hj _=>?_,fun _ _ _ cs h=>⟨cs,h,rfl⟩⟩
  show lkV ((i,.d (.bool b))::s.sl) j = _
  rw [cQ,if_neg (fun e=>by rw [e,h i rfl] at hj; cases hj)]
 ·exact .refl _ _
theorem EC {s:SS} {x:Operand} {b:Bool} (h:mf s) : mf (wJ s x b):=by unfold wJ; split <;> exact h
theorem Wp {s:SS} {p:PS} (hs:gJ s p) (x:Operand) : be s.bx (evX s x) (ev p x):=by
 cases x with
 | tmp i=>exact hs.sl i
 | const v=>exact Fw v
 | global g=>exact .junk _
 | func f=>exact .fn f [] [] [] [] rfl (fun j c q h=>by simp at h) rfl (fun j c q h=>by simp at h)
theorem xk {W W':List Nat} {s s0:SS} {ρ : Type} {k:Exit→SS→Option ρ} {kr:bc C.rs→Option ρ} {res : ρ} (hW:∀ i,aD W i=true→aD W' i=true) (hk:dA C.sc W' s0 s) {e:Exit} {p:PS} (h:wW C fn W s k kr res e p) : wW C fn W' s0 k kr res e p:=by
 by_cases he:e = .ret
 ·subst he; exact h
 ·obtain ⟨s',h1,h2,h3⟩:=qF he h
  exact LX he h1 (hk.trans (h2.wide hW)) h3
theorem Ex {σ τ : Type} {f : σ→Option (σ⊕τ)} {m:Nat} {st : σ} {out : τ} (h:ah f m st=some out) : ∃ m',m=m' + 1∧((∃ st',f st=some (.inl st')∧ah f m' st' = some out)∨f st=some (.inr out)):=by
 cases m with
 | zero=>cases h
 | succ m =>
  refine ⟨m,rfl,?_⟩
  unfold ah at h
  split at h
  ·cases h
  ·rename_i st' hf; exact .inl ⟨st',hf,h⟩
  ·rename_i r hf; injection h with h; subst h; exact .inr hf
theorem RJ {c:Code} {ms:List Mod} {id:Nat} {τ : Type} {inr:jO ms→τ} {ret:bc C.rs→Option τ} {step:jO ms→Option (jO ms⊕τ)} {body:(ρ : Type)→SS→(Exit→SS→Option ρ)→(bc C.rs→Option ρ)→Option ρ} (hb:UR C fn c (wrC c) body)
  {s0:SS} (hstep:step=fun st=>match jH ms st (cf C.sc (wrC c) ms s0) with
   | none=>none
   | some sh=>body (jO ms⊕τ) sh (fun e s'=>match e with
    | .normal=>Option.bind (qG ms s') fun st'=>some (.inl st')
    | .exit id'=>(match Nat.beq id' id with | true=>Option.bind (qG ms s') fun st'=>some (.inr (inr st')) | false=>none)
    | _=>none) (fun r=>(ret r).map .inr))
  {st0:jO ms} {p:PS} (hs0:gJ s0 p) (hchk:sU C.sc (wrC c) ms s0.pr s0=true) (hpack:tG s0 ms=some st0) {out : τ} (hl:ah step ab st0=some out)
  (hput:∀ st,inr st=out→∃ s2,jH ms st (cf C.sc (wrC c) ms s0)=some s2) {Q:Exit→PS→Prop} (hexit:∀ st s2 p',inr st=out→jH ms st (cf C.sc (wrC c) ms s0)=some s2→gJ s2 p'→dA C.sc (wrC c) (tI C.sc (wrC c) ms s0) s2→Q (.exit id) p')
  (hret:∀ r p',ret r=some out→Ss C fn p' r→Q .ret p') : PWP C.P C.n (.loop c) Q p:=by
 have put_of:∀ {m st out},ah step m st=some out→∃ sh,jH ms st (cf C.sc (wrC c) ms s0)=some sh:=by
  intro m st out h
  obtain ⟨m',_,h⟩:=Ex h
  have:∃ r,step st=some r:=by rcases h with ⟨st',h,_⟩ | h <;> exact ⟨_,h⟩
  obtain ⟨r,hr⟩:=this
  rw [hstep] at hr
  simp only at hr
  split at hr
  ·cases hr
  ·rename_i sh hsh; exact ⟨sh,hsh⟩
 refine SZ (ks:=[]) (bs:=[]) (fun q m=>∃ st sh,jH ms st (cf C.sc (wrC c) ms s0)=some sh∧gJ sh q∧dA C.sc (wrC c) (tI C.sc (wrC c) ms s0) sh∧ah step m st=some out) ab ?_ ?_
 ·obtain ⟨sh,hsh⟩:=put_of hl
  obtain ⟨o1,o2,o3⟩:=JT hs0 hchk (.refl _ _) (s':=tI C.sc (wrC c) ms s0) ⟨hs0.sl,hs0.bx⟩ (show tG (tI C.sc (wrC c) ms s0) ms=some st0 from (by
   have:∀ (l:List Mod) (s s':SS),s.sl=s'.sl→s.bx=s'.bx→tG s l=tG s' l:=by
    intro l s s' h1 h2
    have cells:∀ (rows:List (Nat×Nat×Nat×Nat×Ty)) (cs:List SV) (j:Nat),cellsOf s rows j cs=cellsOf s' rows j cs:=by
     intro rows cs
     induction cs with
     | nil=>intro j; rfl
     | cons c cs ih=>intro j; simp only [cellsOf,h2,ih]
    have one:∀ m:Mod,Bc s m=Bc s' m:=by
     intro m
     cases m <;> simp only [Bc,h1,h2,cells]
    induction l with
    | nil=>rfl
    | cons m l ih =>
     cases l with
     | nil=>exact one m
     | cons m' l=>simp only [tG,one,ih]
   exact (this ms (tI C.sc (wrC c) ms s0) s0 rfl rfl).trans hpack)) hsh
  exact ⟨st0,sh,hsh,o1,o2,hl⟩
 ·rintro q m ⟨st,sh,hsh,hq,hk,hlo⟩
  obtain ⟨m',rfl,hcase⟩:=Ex hlo
  have hrun:∃ fr,step st=some fr∧((∃ st',fr = .inl st'∧ah step m' st' = some out)∨fr = .inr out):=by
   rcases hcase with ⟨st',h1,h2⟩ | h1
   ·exact ⟨_,h1,.inl ⟨st',rfl,h2⟩⟩
   ·exact ⟨_,h1,.inr rfl⟩
  obtain ⟨fr,hfr,hcase⟩:=hrun
  have hbody:body (jO ms⊕τ) sh (fun e s'=>match e with
    | .normal=>Option.bind (qG ms s') fun st'=>some (.inl st')
    | .exit id'=>(match Nat.beq id' id with | true=>Option.bind (qG ms s') fun st'=>some (.inr (inr st')) | false=>none)
    | _=>none) (fun r=>(ret r).map .inr)=some fr:=by
   rw [hstep] at hfr
   simp only [hsh] at hfr
   exact hfr
  have hprh:mf sh:=hk.prOk (Bb ms s0)
  have meet:∀ {s':SS} {p':PS} {st':jO ms} {s2:SS},gJ s' p'→dA C.sc (wrC c) sh s'→qG ms s' = some st'→jH ms st' (cf C.sc (wrC c) ms s0)=some s2→∃ p'',Le p' p''∧gJ s2 p''∧dA C.sc (wrC c) (tI C.sc (wrC c) ms s0) s2:=by
   intro s' p' st' s2 m1 m2 m3 m4
   unfold qG at m3
   split at m3
   ·rename_i s'' hf
    obtain ⟨p'',n1,n2,n3⟩:=rQ (sc:=C.sc) (m2.prOk hprh) m1 hf
    obtain ⟨o1,o2,o3⟩:=JT hs0 hchk ((hk.trans m2).trans (n3 (wrC c))) n2 m3 m4
    exact ⟨p'',n1,o1,o2⟩
   ·cases m3
  refine fm (hb _ sh q _ _ fr hprh hq hbody) fun e p' hpost=>?_
  by_cases he:e = .ret
  ·subst he
   obtain ⟨r,h1,h3⟩:=hpost
   rw [zm] at h3
   obtain ⟨v,h4,h5⟩:=h3
   rcases hcase with ⟨st',rfl,_⟩ | rfl
   ·cases h5
   ·injection h5 with h5
    subst h5
    exact ⟨p',.refl _,hret r p' h4 h1⟩
  ·obtain ⟨s',m1,m2,m3⟩:=qF he hpost
   cases e with
   | normal =>
    obtain ⟨st',m4,m5⟩:=cM m3
    injection m5 with m5
    rcases hcase with ⟨st2,h1,h2⟩ | h1
    ·rw [← m5] at h1
     injection h1 with h1
     subst h1
     obtain ⟨sh',hsh'⟩:=put_of h2
     obtain ⟨p'',n1,n2,n3⟩:=meet m1 m2 m4 hsh'
     exact ⟨p'',n1,p'',fun _ _ _ _ _ h=>h,m',⟨st',sh',hsh',n2,n3,h2⟩,Nat.lt_succ_self _⟩
    ·rw [← m5] at h1; cases h1
   | exit id' =>
    replace m3:(match Nat.beq id' id with | true=>Option.bind (qG ms s') fun st'=>some (.inr (inr st')) | false=>none)=some fr:=m3
    split at m3
    ·rename_i hid
     rw [cR] at hid
     have hid:=zd hid
     subst hid
     obtain ⟨st',m4,m5⟩:=cM m3
     injection m5 with m5
     rcases hcase with ⟨st2,h1,h2⟩ | h1
     ·rw [← m5] at h1; cases h1
     ·rw [← m5] at h1
      injection h1 with h1
      obtain ⟨s2,hs2⟩:=hput st' h1
      obtain ⟨p'',n1,n2,n3⟩:=meet m1 m2 m4 hs2
      exact ⟨p'',n1,hexit st' s2 p'' h1 hs2 n2 n3⟩
    ·cases m3
   | ret=>exact absurd rfl he
   | _=>cases m3
end
section
variable {C:Cx} {fn:Func}
theorem oV (hT:qQ C.P C.T) (hm:C.P.follows .mixedOrders=true) (hv:fn.results.toList=C.vars) : ∀ (c:Code) (h:tV),UR C fn c (wrC c) (xz C c h)
 | .skip,h=>fun ρ s p k kr res hpr hs hx=>Vs ⟨s,hs,.refl _ _,hx⟩
 | .label l,h=>fun ρ s p k kr res hpr hs hx=>S0 ⟨s,hs,.refl _ _,hx⟩
 | .exit id,h=>fun ρ s p k kr res hpr hs hx=>Vt ⟨s,hs,.refl _ _,hx⟩
 | .ret,h=>fun ρ s p k kr res hpr hs hx=>by
  obtain ⟨r,h1,h2⟩:=cM (show Option.bind (Cg C s) kr=some res from hx)
  obtain ⟨p',h3,h4⟩:=RO hv (yu hpr) (rF hs) h1
  exact ug ((A7 hs).trans h3) (XP ⟨r,h4,h2⟩)
 | .region id ops draw,h=>yg (XL hT hm id ops draw)
 | .seq a b,h=>by
  refine yg (c:=.seq a b) (wr:=wrC a++wrC b) fun ρ s p k kr res hpr hs hx=>?_
  refine XO (fm (oV hT hm hv a h.l ρ s p _ _ res hpr hs hx) fun e p' hq=>⟨p',.refl _,?_⟩)
  by_cases he:e = .ret
  ·subst he; exact hq
  ·obtain ⟨s',m1,m2,m3⟩:=qF he hq
   have hk:dA C.sc (wrC a++wrC b) s s':=m2.wide fun i hi=>X1 hi
   cases e with
   | normal =>
    refine fm (oV hT hm hv b h.r ρ s' p' k kr res (hk.prOk hpr) m1 m3) fun e p2 hq2=>⟨p2,.refl _,?_⟩
    exact xk (fun i hi=>VM hi) hk hq2
   | ret=>exact absurd rfl he
   | _=>exact ⟨s',m1,hk,m3⟩
 | .cond x a b,h=>by
  have hwA:∀ i,aD (wrC a) i=true→aD (wrC (.cond x a b)) i=true:=fun i hi=>by
   cases x <;> simp only [wrC,a7,dc,hi,Bool.true_or,Bool.or_true]
  have hwB:∀ i,aD (wrC b) i=true→aD (wrC (.cond x a b)) i=true:=fun i hi=>by
   cases x <;> simp only [wrC,a7,dc,hi,Bool.or_true]
  have hwx:∀ i,x = .tmp i→aD (wrC (.cond x a b)) i=true:=fun i hi=>by
   subst hi; simp only [wrC,a7,decide_true,Bool.true_or]
  refine yg (c:=.cond x a b) (wr:=wrC (.cond x a b)) fun ρ s p k kr res hpr hs hx=>?_
  have hx:(match evX s x with | .d (.bool t)=>if t=true then xz C a h.l ρ (wJ s x true) k kr else xz C b h.r ρ (wJ s x false) k kr | _=>none)=some res:=hx
  split at hx
  ·rename_i t ht
   have hq:=Wp hs x
   rw [ht] at hq
   have hb:=kU hq
   cases t
   ·rw [if_neg (by simp)] at hx
    refine LU false (by rw [hb]; rfl) ?_
    rw [if_neg (by simp)]
    exact fm (oV hT hm hv b h.r ρ _ p k kr res (EC hpr) (DY hs ht) hx) fun e p' hq=>⟨p',.refl _,xk hwB (EG hwx) hq⟩
   ·rw [if_pos rfl] at hx
    refine LU true (by rw [hb]; rfl) ?_
    rw [if_pos rfl]
    exact fm (oV hT hm hv a h.l ρ _ p k kr res (EC hpr) (DY hs ht) hx) fun e p' hq=>⟨p',.refl _,xk hwA (EG hwx) hq⟩
  ·cases hx
 | .block id c,h=>by
  refine yg (c:=.block id c) (wr:=wrC c) fun ρ s p k kr res hpr hs hx=>?_
  refine S2 (fm (oV hT hm hv c h.l ρ s p _ _ res hpr hs hx) fun e p' hq=>⟨p',.refl _,?_⟩)
  by_cases he:e = .ret
  ·subst he; exact hq
  ·obtain ⟨s',m1,m2,m3⟩:=qF he hq
   cases e with
   | exit id' =>
    have m3:(match Nat.beq id' id with | true=>k .normal s' | false=>k (.exit id') s')=some res:=m3
    simp only [EI]
    rw [cR] at m3
    by_cases hid:id' = id
    ·rw [if_pos hid]
     simp only [hid,decide_true] at m3
     exact ⟨s',m1,m2,m3⟩
    ·rw [if_neg hid]
     simp only [hid,decide_false] at m3
     exact ⟨s',m1,m2,m3⟩
   | ret=>exact absurd rfl he
   | _=>exact ⟨s',m1,m2,m3⟩
 | .loop c,h=>fun ρ s p k kr res hpr hs hx=>by
  cases h with
  | lp ms id ret hb =>
   unfold xz at hx
   cases he:Pc (wrC c) ms (clr s) with
   | none=>rw [he] at hx; cases hx
   | some s0 =>
    rw [he] at hx
    obtain ⟨hchk,hx⟩:=ao hx
    refine ug (A7 hs) ?_
    unfold Pc at he
    split at he
    ·rename_i s1 hnil
     obtain ⟨p2,k1,k2,k3,k4⟩:=qI (sc:=C.sc) (s:=clr s) rfl (yu hpr) (rF hs) hnil
     refine ug k1 ?_
     have hk1:dA C.sc (wrC c) s s1:=Mg k3
     obtain ⟨p3,n1,n2,n3⟩:=rQ (sc:=C.sc) (hk1.prOk hpr) k2.w he
     refine ug n1 ?_
     have hk0:dA C.sc (wrC c) s s0:=hk1.trans (n3 _)
     have hchk':sU C.sc (wrC c) ms s0.pr s0=true:=by rw [hk0.pr]; exact hchk
     cases hpk:tG s0 ms with
     | none=>rw [hpk] at hx; cases hx
     | some st0 =>
      rw [hpk] at hx
      cases ret with
      | false =>
       obtain ⟨out,h1,h2⟩:=cM hx
       refine RJ (C:=C) (fn:=fn) (c:=c) (ms:=ms) (id:=id) (τ:=jO ms) (inr:=fun st=>st) (ret:=fun _=>none) (body:=xz C c hb) (oV hT hm hv c hb) rfl n2 hchk' hpk h1 ?_ ?_ ?_
       ·intro st hst
        subst hst
        split at h2
        ·rename_i s2 hs2; exact ⟨s2,hs2⟩
        ·cases h2
       ·intro st s2 p' hst hs2 m1 m2
        subst hst
        rw [hs2] at h2
        exact ⟨⟨s2.sl,s2.bx,s.pr,s.ro,s.oc⟩,⟨m1.sl,m1.bx⟩,xr hk0 (OG hpr hk0 hchk) m2,h2⟩
       ·intro r p' hr; cases hr
      | true =>
       obtain ⟨out,h1,h2⟩:=cM hx
       refine RJ (C:=C) (fn:=fn) (c:=c) (ms:=ms) (id:=id) (τ:=jO ms⊕bc C.rs) (inr:=.inl) (ret:=fun r=>some (.inr r)) (body:=xz C c hb) (oV hT hm hv c hb) rfl n2 hchk' hpk h1 ?_ ?_ ?_
       ·intro st hst
        subst hst
        have h2:(match jH ms st (cf C.sc (wrC c) ms s0) with | some s2=>k (.exit id) ⟨s2.sl,s2.bx,s.pr,s.ro,s.oc⟩ | none=>none)=some res:=h2
        split at h2
        ·rename_i s2 hs2; exact ⟨s2,hs2⟩
        ·cases h2
       ·intro st s2 p' hst hs2 m1 m2
        subst hst
        have h2:(match jH ms st (cf C.sc (wrC c) ms s0) with | some s2=>k (.exit id) ⟨s2.sl,s2.bx,s.pr,s.ro,s.oc⟩ | none=>none)=some res:=h2
        rw [hs2] at h2
        exact ⟨⟨s2.sl,s2.bx,s.pr,s.ro,s.oc⟩,⟨m1.sl,m1.bx⟩,xr hk0 (OG hpr hk0 hchk) m2,h2⟩
       ·intro r p' hr h3
        injection hr with hr
        subst hr
        exact ⟨r,h3,h2⟩
    ·cases he
  | _=>cases hx
 | .rangeFunc ..,h=>fun ρ s p k kr res hpr hs hx=>by cases hx
 | .scope ..,h=>fun ρ s p k kr res hpr hs hx=>by cases hx
 | .goto ..,h=>fun ρ s p k kr res hpr hs hx=>by cases hx
 | .refuse ..,h=>fun ρ s p k kr res hpr hs hx=>by cases hx
theorem KB:∀ (vs:List SV) (i j:Nat),lkV (Bv i vs) (i + j)=(vs[j]?).getD .junk
 | [],i,j=>by simp [Bv,lkV]
 | v::vs,i,0=>by simp [Bv,cQ]
 | v::vs,i,j + 1=>by
  simp only [Bv,cQ]
  rw [if_neg (by omega),show i + (j + 1)=i + 1 + j by omega,KB vs (i + 1) j]
  simp
theorem Hx:∀ (ps:List PT) (x:ct ps),(rz ps x).length=ps.length
 | [],_=>rfl
 | p::ps,x=>by simp [rz,Hx ps]
theorem cj {P:Program} {T:List (Nat×Ent)} {n:Nat} {ps rs:List PT} {vars:List ResultVar} {fz:List (Nat×List Nat)} {sc:List Nat} {fb:List (Nat×List Nat)} {h:tV} {f:FuncId} {fn:Func} {c:Code} (hT:qQ P T) (hm:P.follows .mixedOrders=true) (hf:P.funcs[f]? = some fn) (hb:fn.body=some c) (hcb:eh P f=true) (hn:fn.ntmps=n) (hv:fn.results.toList=vars) (hl:((decide (ps.length≤n)&&ul ps) && !(oW ps||oW rs))=true)
  {F:ct ps→Option (bc rs)} (hF:∀ x,gz ⟨P,T,n,rs,vars,fz,sc,fb⟩ c h ps x=F x) : bN P f ps rs F:=by
 intro x r hx
 rw [Bool.and_eq_true] at hl
 obtain ⟨hl,hl3⟩:=hl
 refine ⟨fun hnM=>?_,fun h=>by rw [h] at hl3; cases hl3⟩
 have hrs:oW rs=false:=by rw [Bool.or_eq_false_iff] at hnM; exact hnM.2
 rw [← hF] at hx
 rw [Bool.and_eq_true] at hl
 have hlen:=zd hl.1
 subst hn
 refine Vy hf hb hcb (by rw [Hx]; exact hlen) ?_
 have hargs:=IA (B:=[]) ps x hl.2
 have hs:gJ ⟨Bv 0 (Co ps x),[],[],false,[]⟩ ⟨mt (rz ps x),dM⟩:=by
  refine ⟨fun i=>?_,fun t b hb=>by cases hb⟩
  show be [] (lkV (Bv 0 (Co ps x)) i) (mt (rz ps x) i)
  have:=KB (Co ps x) 0 i
  rw [Nat.zero_add] at this
  rw [this]
  unfold mt
  cases h1:(Co ps x)[i]? with
  | none=>exact .junk _
  | some v =>
   have hlt:i < (rz ps x).length:=by rw [← hargs.len]; exact (zg.1 h1).1
   rw [zq hlt]
   exact hargs.rep i v _ h1 (zq hlt)
 have hpr:mf ⟨Bv 0 (Co ps x),[],[],false,[]⟩:=fun t ht=>by cases ht
 refine fm (oV (C:=⟨P,T,fn.ntmps,rs,vars,fz,sc,fb⟩) (fn:=fn) hT hm hv c h _ _ _ _ _ r hpr hs hx) fun e p' hq=>?_
 by_cases he:e = .ret
 ·subst he
  obtain ⟨r',h1,h3⟩:=hq
  injection h3 with h3
  subst h3
  obtain ⟨q,h1,h2⟩:=h1.1 hrs
  exact ⟨p',.refl _,trivial,q,h1,h2⟩
 ·obtain ⟨s',m1,m2,m3⟩:=qF he hq
  cases e with
  | normal =>
   obtain ⟨q,h1,h2⟩:=Me (C:=⟨P,T,fn.ntmps,rs,vars,fz,sc,fb⟩) hv (rF m1) hrs m3
   exact ⟨xD s' p',A7 m1,trivial,q,h1,h2⟩
  | ret=>exact absurd rfl he
  | _=>cases m3
end
def VO:List Nat→List Nat→Nat→Nat
 | a::xs,b::bs,t=>if t=a then b else VO xs bs t
 | _,_,t=>t
theorem Eu:∀ {xs bs:List Nat},xs.Nodup→xs.length=bs.length→xs.map (VO xs bs)=bs
 | [],[],_,_=>rfl
 | [],_ :: _,_,h=>by cases h
 | _ :: _,[],_,h=>by cases h
 | a::xs,b::bs,hn,hl=>by
  rw [List.nodup_cons] at hn
  have ih:=Eu (xs:=xs) (bs:=bs) hn.2 (by simpa using hl)
  simp only [List.map_cons,VO,if_true]
  congr 1
  conv=>rhs; rw [← ih]
  apply List.map_congr_left
  intro t ht
  rw [if_neg (fun (e:t=a)=>hn.1 (by rw [← e]; exact ht))]
theorem AZ {f:Nat→Nat} : ∀ {l:List Nat},(l.map f).Nodup→∀ x∈l,∀ y∈l,f x=f y→x=y
 | [],_,x,hx,_,_=>by cases hx
 | a::l,h,x,hx,y,hy=>by
  rw [List.map_cons,List.nodup_cons] at h
  intro e
  have hm:∀ z∈l,f z≠f a:=fun z hz e=>h.1 (by rw [← e]; exact List.mem_map_of_mem hz)
  rcases List.mem_cons.1 hx with h1 | h1
  ·rcases List.mem_cons.1 hy with h2 | h2
   ·rw [h1,h2]
   ·exact absurd (by rw [← e,h1]) (hm y h2)
  ·rcases List.mem_cons.1 hy with h2 | h2
   ·exact absurd (by rw [e,h2]) (hm x h1)
   ·exact AZ h.2 x h1 y h2 e
theorem vH {τ : Nat→Nat} : ∀ {xs bs:List (List Nat)},xs.map List.length=bs.map List.length→(bm xs).map τ = bm bs→xs.map (·.map τ)=bs
 | [],[],_,_=>rfl
 | [],_ :: _,h,_=>by cases h
 | _ :: _,[],h,_=>by cases h
 | a::xs,b::bs,hl,h=>by
  simp only [List.map_cons,List.cons.injEq] at hl
  simp only [bm,List.map_append] at h
  obtain ⟨h1,h2⟩:=List.append_inj h (by simpa using hl.1)
  rw [List.map_cons,h1,vH hl.2 h2]
theorem xe:∀ {ps:List PT} {xs bs:List (List Nat)},iA ps xs→iA ps bs→xs.map List.length=bs.map List.length
 | [],[],[],_,_=>rfl
 | [],_ :: _,_,h,_=>h.elim
 | [],[],_ :: _,_,h=>h.elim
 | _ :: _,[],_,h,_=>h.elim
 | _ :: _,_ :: _,[],_,h=>h.elim
 | p::ps,a::xs,b::bs,h1,h2=>by simp only [List.map_cons,h1.1,h2.1,xe h1.2 h2.2]
theorem yo:∀ {ls:List IB} {xs bs:List (List Nat)},jS ls xs→jS ls bs→xs.map List.length=bs.map List.length
 | [],[],[],_,_=>rfl
 | [],_ :: _,_,h,_=>h.elim
 | [],[],_ :: _,_,h=>h.elim
 | _ :: _,[],_,h,_=>h.elim
 | _ :: _,_ :: _,[],_,h=>h.elim
 | p::ps,a::xs,b::bs,h1,h2=>by simp only [List.map_cons,h1.1,h2.1,yo h1.2 h2.2]
theorem rL:∀ {xs bs:List (List Nat)},xs.map List.length=bs.map List.length→(bm xs).length=(bm bs).length
 | [],[],_=>rfl
 | [],_ :: _,h=>by cases h
 | _ :: _,[],h=>by cases h
 | a::xs,b::bs,h=>by
  simp only [List.map_cons,List.cons.injEq] at h
  simp only [bm,List.length_append,h.1,rL h.2]
theorem B7:∀ (ps:List PT) (i:Nat),iA ps (bg i ps)
 | [],_=>trivial
 | p::ps,i=>⟨by cases p <;> first | rfl | simp [mz,PT.nI],B7 ps (i + 1)⟩
mutual
theorem kN (τ : Nat→Nat) : ∀ q:PV,clean q=true→mp τ q=q∧bf q = []
 | .junk,_=>⟨rfl,rfl⟩
 | .d _,_=>⟨rfl,rfl⟩
 | .fe _,_=>⟨rfl,rfl⟩
 | .ptr _ _,h=>by cases h
 | .row _ _,h=>by cases h
 | .re _ _ _ _,h=>by cases h
 | .vw _ _ _ _,h=>by cases h
 | .ag cs,h=>by simp only [mp,bf]; rw [(ft τ cs h).1,(ft τ cs h).2]; exact ⟨rfl,rfl⟩
 | .tup cs,h=>by simp only [mp,bf]; rw [(ft τ cs h).1,(ft τ cs h).2]; exact ⟨rfl,rfl⟩
 | .fn f ps qs,h=>by
  have h:(cH ps&&cH qs)=true:=h
  rw [Bool.and_eq_true] at h
  simp only [mp,bf]; rw [(ft τ ps h.1).1,(ft τ qs h.2).1,(ft τ ps h.1).2,(ft τ qs h.2).2]; exact ⟨rfl,rfl⟩
theorem ft (τ : Nat→Nat) : ∀ cs:List PV,cH cs=true→eU τ cs=cs∧bJ cs = []
 | [],_=>⟨rfl,rfl⟩
 | c::cs,h=>by
  simp only [cH,Bool.and_eq_true] at h
  simp only [eU,bJ]; rw [(kN τ c h.1).1,(ft τ cs h.2).1,(kN τ c h.1).2,(ft τ cs h.2).2]; exact ⟨rfl,rfl⟩
end
theorem EW (τ : Nat→Nat) : ∀ (rows:List (Nat×Nat×Nat×Ty)) (is:List Nat) (j:Nat),pC (ml rows (is.map τ)) j=(pC (ml rows is) j).map fun r=>(τ r.1,r.2)
 | [],is,j=>by cases is <;> rfl
 | (j0,e,k,t)::rows,[],j=>rfl
 | (j0,e,k,t)::rows,R::is,j=>by
  simp only [List.map_cons,ml,pC]
  split
  ·rfl
  ·exact EW τ rows is j
theorem JI (τ : Nat→Nat) (rows:List (Nat×Nat×Nat×Ty)) (is:List Nat) : ∀ (ds:List D) (j:Nat),dW (ml rows (is.map τ)) j ds=eU τ (dW (ml rows is) j ds)
 | [],_=>rfl
 | d::ds,j=>by
  simp only [dW,eU,JI τ rows is ds (j + 1),EW]
  congr 1
  cases pC (ml rows is) j with
  | none=>rfl
  | some r =>
   obtain ⟨R,e,k,t⟩:=r
   cases d <;> rfl
theorem AU (τ : Nat→Nat) (rows:List (Nat×Nat×Nat×Ty)) (is:List Nat) : ∀ (ds:List D) (j:Nat),cg (ml rows (is.map τ)) j ds=mn τ (cg (ml rows is) j ds)
 | [],_=>rfl
 | d::ds,j=>by
  simp only [cg,EW]
  cases pC (ml rows is) j with
  | none=>exact AU τ rows is ds (j + 1)
  | some r =>
   obtain ⟨R,e,k,t⟩:=r
   cases d with
   | v=>exact AU τ rows is ds (j + 1)
   | sl es=>simp only [Option.map_some,mn,AU τ rows is ds (j + 1)]; rfl
theorem ue (τ : Nat→Nat) : ∀ (a b:BU),mn τ (a++b)=mn τ a++mn τ b
 | [],b=>rfl
 | (t,B)::a,b=>by simp only [List.cons_append,mn,ue τ a b]
theorem gZ:∀ (a b:BU),bU (a++b)=bU a++bU b
 | [],b=>rfl
 | (t,B)::a,b=>by simp only [List.cons_append,bU,gZ a b]
theorem MN (τ : Nat→Nat) : ∀ (a:BU),bU (mn τ a)=(bU a).map τ
 | []=>rfl
 | (t,B)::a=>by simp only [mn,bU,MN τ a,List.map_cons]
theorem Jt (τ : Nat→Nat) (p:PT) (is:List Nat) (x:p.den) : toI p (is.map τ) x=(mp τ (toI p is x).1,mn τ (toI p is x).2):=by
 cases p with
 | io=>rfl
 | lf t=>simp only [toI]; rw [(kN τ _ (dG (.lf t) x)).1]; rfl
 | ag t=>simp only [toI]; rw [(kN τ _ (dG (.ag t) x)).1]; rfl
 | pl t=>simp only [toI]; rw [(kN τ _ (dG (.pl t) x)).1]; rfl
 | ps t=>simp only [toI]; rw [(kN τ _ (dG (.ps t) x)).1]; rfl
 | fn f a b=>simp only [toI]; rw [(kN τ _ (dG (.fn f a b) x)).1]; rfl
 | own e k t=>match is with
  | []=>rfl
  | [i]=>rfl
  | _ :: _ :: _=>rfl
 | mv e k t=>match is with
  | []=>rfl
  | [i]=>rfl
  | _ :: _ :: _=>rfl
 | bx ty n rows=>match is with
  | []=>rfl
  | i::is=>simp only [toI,List.map_cons,JI,AU]; rfl
 | agr n rows=>simp only [toI,JI,AU]; rfl
theorem Lw (τ : Nat→Nat) : ∀ (ps:List PT) (iss:List (List Nat)) (x:ct ps),dU ps (iss.map (·.map τ)) x=(eU τ (dU ps iss x).1,mn τ (dU ps iss x).2)
 | [],iss,x=>by cases iss <;> rfl
 | p::ps,[],x=>rfl
 | p::ps,is::iss,x=>by simp only [List.map_cons,dU,Jt,Lw τ ps iss x.2,eU,ue]
theorem AI (τ : Nat→Nat) : ∀ (rs:List PT) (iss:List (List Nat)) (x:bc rs),cP rs (iss.map (·.map τ)) x=(eU τ (cP rs iss x).1,mn τ (cP rs iss x).2)
 | [],iss,x=>by cases iss <;> rfl
 | [p],[],x=>rfl
 | [p],is::iss,x=>by
  have h:=Jt τ p is x
  show ([(toI p (is.map τ) x).1],(toI p (is.map τ) x).2)=([mp τ (toI p is x).1],mn τ (toI p is x).2)
  exact congrArg (fun z:PV×BU=>([z.1],z.2)) h
 | p::q::l,[],x=>rfl
 | p::q::l,is::iss,x=>by
  have h1:=Jt τ p is x.1
  have h2:=AI τ (q::l) iss x.2
  have h3:((toI p (is.map τ) x.1).1::(cP (q::l) (iss.map (·.map τ)) x.2).1,(toI p (is.map τ) x.1).2++(cP (q::l) (iss.map (·.map τ)) x.2).2)=(mp τ (toI p is x.1).1::eU τ (cP (q::l) iss x.2).1,mn τ (toI p is x.1).2++mn τ (cP (q::l) iss x.2).2) :=
   congr (f₁:=fun (y:List PV×BU)=>((toI p (is.map τ) x.1).1::y.1,(toI p (is.map τ) x.1).2++y.2)) (f₂:=fun (y:List PV×BU)=>(mp τ (toI p is x.1).1::y.1,mn τ (toI p is x.1).2++y.2)) (congrArg (fun (z:PV×BU) (y:List PV×BU)=>(z.1::y.1,z.2++y.2)) h1) h2
  refine h3.trans ?_
  rw [← ue]; rfl
theorem XW (τ : Nat→Nat) (qs:List PV) : mp τ (yz qs)=yz (eU τ qs):=by
 match qs with
 | []=>rfl
 | [q]=>rfl
 | q::q' :: qs=>rfl
theorem Lv (τi τ : Nat→Nat) : ∀ (ps:List PT) (ls:List IB) (i:Nat) (iss kss:List (List Nat)) (x:ct ps) (o:yy ls),OO ps ls=true→iA ps iss→jS ls kss→(∀ s∈dm i ls,τ s = τi s)→(bg i ps).map (·.map τi)=iss→SE ps ls iss (kss.map (·.map τ)) x o=mn τ (rZ i ls kss o)
 | [],[],i,iss,kss,x,o,_,_,_,_,_=>rfl
 | [],_ :: _,_,_,_,_,_,h,_,_,_,_=>by cases h
 | _ :: _,[],_,_,_,_,_,h,_,_,_,_=>by cases h
 | p::ps,b::ls,i,[],kss,x,o,_,h,_,_,_=>h.elim
 | p::ps,b::ls,i,is::iss,[],x,o,_,_,h,_,_=>h.elim
 | p::ps,b::ls,i,is::iss,js::kss,x,o,hio,hs,hk,hkk,he=>by
  simp only [OO] at hio
  split at hio
  ·rename_i h1
   simp only [bg,List.map_cons,List.cons.injEq] at he
   obtain ⟨e1,e2⟩:=he
   have hk2:∀ s∈dm (i + 1) ls,τ s = τi s:=fun s hs=>hkk s (by cases b <;> simp [dm,hs])
   have ih:=Lv τi τ ps ls (i + 1) iss kss x.2 o.2 hio hs.2 hk.2 hk2 e2
   simp only [List.map_cons,SE,rZ,ue,ih]
   congr 1
   cases p with
   | own e k t=>cases b with
    | own e' k' t' =>
     subst e1
     have:=hkk (tS i) (by simp [dm])
     simp only [toO,mz,List.map_cons,List.map_nil,boI,mn,this]; rfl
    | _=>cases h1
   | bx ty n rows=>cases b with
    | bx ty' n' rows' =>
     subst e1
     have:=hkk (tS i) (by simp [dm])
     simp only [toO,mz,List.map_cons,boI,mn,JI,AU,this]; rfl
    | _=>cases h1
   | mv=>cases b <;> first | rfl | cases h1
   | lf=>cases b <;> first | rfl | cases h1
   | ag=>cases b <;> first | rfl | cases h1
   | pl=>cases b <;> first | rfl | cases h1
   | ps=>cases b <;> first | rfl | cases h1
   | fn=>cases b <;> first | rfl | cases h1
   | agr=>cases h1
   | io=>cases h1
  ·cases hio
def gI (l:BU) : Prop:=∀ t B,(t,B)∈l→∀ s∈LO B,s∈bU l
theorem gI.app {a b:BU} (h:gI a) (h':gI b) : gI (a++b):=fun t B hm s hs=>by
 rw [gZ,List.mem_append]
 rcases List.mem_append.1 hm with hm | hm
 ·exact .inl (h t B hm s hs)
 ·exact .inr (h' t B hm s hs)
theorem gI.u {l:BU} (h:gI l) : Kn l:=fun t B hl=>h t B (oQ hl)
theorem JJ {rows:List (Nat×Nat×Nat×Nat×Ty)} : ∀ (ds:List D) (j:Nat),∀ s∈bJ (dW rows j ds),s∈bU (cg rows j ds)
 | [],_,s,h=>by cases h
 | d::ds,j,s,h=>by
  simp only [dW,bJ,List.mem_append] at h
  simp only [cg]
  have ih:=JJ (rows:=rows) ds (j + 1) s
  cases hf:pC rows j with
  | none =>
   rw [hf] at h
   exact ih (h.resolve_left (by simp [bf]))
  | some r =>
   obtain ⟨R,e,k,t⟩:=r
   rw [hf] at h
   cases d with
   | v=>exact ih (h.resolve_left (by simp [bf]))
   | sl es =>
    simp only [bU,List.mem_cons]
    rcases h with h | h
    ·simp only [bf,List.mem_cons,List.not_mem_nil,or_false] at h; exact .inl h
    ·exact .inr (ih h)
theorem pa {rows:List (Nat×Nat×Nat×Nat×Ty)} : ∀ (ds:List D) (j:Nat) t B,(t,B)∈cg rows j ds→LO B = []∧∃ e k es,B = .rw e k es
 | [],_,t,B,h=>by cases h
 | d::ds,j,t,B,h=>by
  simp only [cg] at h
  split at h
  ·split at h
   ·rcases List.mem_cons.1 h with e | h
    ·injection e with _ e; subst e; exact ⟨rfl,_,_,_,rfl⟩
    ·exact pa ds (j + 1) t B h
   ·exact pa ds (j + 1) t B h
  ·exact pa ds (j + 1) t B h
theorem Hz {rows:List (Nat×Nat×Nat×Nat×Ty)} (i:Nat) (ty:TypeId) (ds:List D) : gI ((i,.st ty (dW rows 0 ds))::cg rows 0 ds):=fun t B hm s hs=>by
 simp only [bU,List.mem_cons]
 rcases List.mem_cons.1 hm with e | hm
 ·injection e with _ e
  subst e
  exact .inr (JJ ds 0 s hs)
 ·rw [(pa ds 0 t B hm).1] at hs; cases hs
theorem xm (i:Nat) (e k:Nat) (t:Ty) (xs:List t.den) : gI [(i,rwU e k t xs)]:=fun t B hm s hs=>by
 simp only [List.mem_cons,List.not_mem_nil,or_false,Prod.mk.injEq] at hm
 rw [hm.2] at hs
 cases hs
theorem cV:gI []:=fun t B hm=>by cases hm
theorem DR (p:PT) (is:List Nat) (x:p.den) : (∀ s∈bf (toI p is x).1,s∈bU (toI p is x).2)∧gI (toI p is x).2:=by
 have plain:∀ {q:PV},clean q=true→(∀ s∈bf q,s∈bU [])∧gI []:=fun hq=>⟨fun s h=>(by rw [(kN id _ hq).2] at h; cases h),cV⟩
 cases p with
 | io=>exact ⟨fun s h=>(by cases h),cV⟩
 | lf t=>exact plain (dG (.lf t) x)
 | ag t=>exact plain (dG (.ag t) x)
 | pl t=>exact plain (dG (.pl t) x)
 | ps t=>exact plain (dG (.ps t) x)
 | fn f a b=>exact plain (dG (.fn f a b) x)
 | own e k t=>match is with
  | []=>exact ⟨fun s h=>(by cases h),cV⟩
  | [i]=>exact ⟨fun s h=>h,xm i e k t x⟩
  | _ :: _ :: _=>exact ⟨fun s h=>(by cases h),cV⟩
 | mv e k t=>match is with
  | []=>exact ⟨fun s h=>(by cases h),cV⟩
  | [i]=>exact ⟨fun s h=>h,xm i e k t x⟩
  | _ :: _ :: _=>exact ⟨fun s h=>(by cases h),cV⟩
 | bx ty n rows=>match is with
  | []=>exact ⟨fun s h=>(by cases h),cV⟩
  | i::is=>exact ⟨fun s h=>by simp only [toI,bf,List.mem_cons,List.not_mem_nil,or_false] at h; simp only [toI,bU,List.mem_cons]; exact .inl h,Hz i ty _⟩
 | agr n rows=>exact ⟨fun s h=>JJ _ 0 s h,fun t B hm s hs=>by rw [(pa _ 0 t B hm).1] at hs; cases hs⟩
theorem Hy:∀ (ps:List PT) (iss:List (List Nat)) (x:ct ps),(∀ s∈bJ (dU ps iss x).1,s∈bU (dU ps iss x).2)∧gI (dU ps iss x).2
 | [],iss,x=>⟨fun s h=>(by cases h),cV⟩
 | p::ps,[],x=>⟨fun s h=>(by cases h),cV⟩
 | p::ps,is::iss,x=>by
  obtain ⟨h1,h2⟩:=DR p is x.1
  obtain ⟨h3,h4⟩:=Hy ps iss x.2
  refine ⟨fun s h=>?_,h2.app h4⟩
  simp only [dU,bJ,List.mem_append] at h
  simp only [dU,gZ,List.mem_append]
  exact h.imp (h1 s) (h3 s)
theorem DP:∀ (rs:List PT) (iss:List (List Nat)) (x:bc rs),(∀ s∈bJ (cP rs iss x).1,s∈bU (cP rs iss x).2)∧gI (cP rs iss x).2
 | [],iss,x=>⟨fun s h=>(by cases h),cV⟩
 | [p],[],x=>⟨fun s h=>(by cases h),cV⟩
 | [p],is::iss,x=>by
  obtain ⟨h1,h2⟩:=DR p is (show p.den from x)
  refine ⟨fun s h=>?_,h2⟩
  have h:s∈bf (toI p is (show p.den from x)).1 ++ []:=h
  rw [List.append_nil] at h
  exact h1 s h
 | p::q::l,[],x=>⟨fun s h=>(by cases h),cV⟩
 | p::q::l,is::iss,x=>by
  obtain ⟨h1,h2⟩:=DR p is x.1
  obtain ⟨h3,h4⟩:=DP (q::l) iss x.2
  refine ⟨fun s h=>?_,h2.app h4⟩
  have h:s∈bf (toI p is x.1).1++bJ (cP (q::l) iss x.2).1:=h
  show s∈bU ((toI p is x.1).2++(cP (q::l) iss x.2).2)
  rw [gZ,List.mem_append]
  exact (List.mem_append.1 h).imp (h1 s) (h3 s)
theorem VE (qs:List PV) : ∀ s∈bf (yz qs),s∈bJ qs:=by
 match qs with
 | []=>exact fun s h=>by cases h
 | [q]=>exact fun s h=>by simpa [bJ,yz] using h
 | q::q' :: qs=>exact fun s h=>h
theorem Hw:∀ {rs:List PT} {iss:List (List Nat)} {x:bc rs} {t:Nat},t∈bU (cP rs iss x).2→t∈bm iss
 | [],iss,x,t,h=>by cases h
 | [p],[],x,t,h=>by cases h
 | [p],is::iss,x,t,h=>by
  have h:t∈bU (toI p is (show p.den from x)).2:=h
  rw [rS,List.mem_append]
  obtain ⟨B,hB⟩:=cL.1 h
  exact .inl (Ju (oQ hB))
 | p::q::l,[],x,t,h=>by cases h
 | p::q::l,is::iss,x,t,h=>by
  have h:t∈bU ((toI p is x.1).2++(cP (q::l) iss x.2).2):=h
  rw [gZ,List.mem_append] at h
  rw [rS,List.mem_append]
  rcases h with h | h
  ·obtain ⟨B,hB⟩:=cL.1 h
   exact .inl (Ju (oQ hB))
  ·exact .inr (Hw h)
theorem YH (i:Nat) (b:IB) (js:List Nat) (o:b.den) : gI (boI i b js o)∧∀ t∈bU (boI i b js o),t=tS i∧b≠.no∨t∈js:=by
 cases b with
 | no=>exact ⟨cV,fun t h=>by cases h⟩
 | own e k t=>exact ⟨xm _ _ _ _ _,fun t' h=>by simp only [boI,bU,List.mem_cons,List.not_mem_nil,or_false] at h; exact .inl ⟨h,fun e=>by cases e⟩⟩
 | bx ty n rows =>
  refine ⟨Hz _ _ _,fun t h=>?_⟩
  simp only [boI,bU,List.mem_cons] at h
  rcases h with h | h
  ·exact .inl ⟨h,fun e=>by cases e⟩
  ·obtain ⟨B,hB⟩:=cL.1 h
   exact .inr (xj (oQ hB))
theorem uy {i:Nat} {b:IB} {ls:List IB} {s:Nat} : s∈dm i (b::ls)↔(s=tS i∧b≠.no)∨s∈dm (i + 1) ls:=by
 cases b <;> simp [dm]
theorem FJ:∀ (ls:List IB) (i:Nat) (kss:List (List Nat)) (o:yy ls),jS ls kss→gI (rZ i ls kss o)∧(∀ t∈bU (rZ i ls kss o),t∈dm i ls∨t∈bm kss)∧∀ t∈dm i ls,t∈bU (rZ i ls kss o)
 | [],i,kss,o,_=>⟨cV,fun t h=>(by cases h),fun t h=>by cases h⟩
 | b::ls,i,[],o,h=>h.elim
 | b::ls,i,js::kss,o,h=>by
  obtain ⟨h1,h2⟩:=YH i b js o.1
  obtain ⟨h3,h4,h5⟩:=FJ ls (i + 1) kss o.2 h.2
  refine ⟨h1.app h3,fun t ht=>?_,fun t ht=>?_⟩
  ·simp only [rZ,gZ,List.mem_append] at ht
   rw [uy,rS,List.mem_append]
   rcases ht with ht | ht
   ·rcases h2 t ht with h6 | h6
    ·exact .inl (.inl h6)
    ·exact .inr (.inl h6)
   ·rcases h4 t ht with h6 | h6
    ·exact .inl (.inr h6)
    ·exact .inr (.inr h6)
  ·rw [uy] at ht
   simp only [rZ,gZ,List.mem_append]
   rcases ht with ⟨rfl,hb⟩ | ht
   ·left
    cases b with
    | no=>exact absurd rfl hb
    | own=>simp [boI,bU]
    | bx=>simp [boI,bU]
   ·exact .inr (h5 t ht)
theorem Mf:∀ (ls:List IB) (i:Nat),∀ s∈dm i ls,1000000≤s
 | [],i,s,h=>by cases h
 | b::ls,i,s,h=>by
  rw [uy] at h
  rcases h with ⟨rfl,_⟩ | h
  ·unfold tS; omega
  ·exact Mf ls (i + 1) s h
theorem B5:∀ (ps:List PT) (ls:List IB) (i:Nat) (x:ct ps),OO ps ls=true →
  (∀ s∈dm i ls,s∈bU (dU ps (bg i ps) x).2)∧∀ t B,(t,B)∈(dU ps (bg i ps) x).2→t ∉ dm i ls→(∃ e k es,B = .rw e k es)∧t∈pz ps (bg i ps)
 | [],[],i,x,_=>⟨fun s h=>(by cases h),fun t B h=>by cases h⟩
 | [],_ :: _,_,_,h=>by cases h
 | _ :: _,[],_,_,h=>by cases h
 | p::ps,b::ls,i,x,hio=>by
  simp only [OO] at hio
  split at hio
  ·rename_i h1
   obtain ⟨k1,k2⟩:=B5 ps ls (i + 1) x.2 hio
   have head:(b≠.no→tS i∈bU (toI p (mz i p) x.1).2)∧∀ t B,(t,B)∈(toI p (mz i p) x.1).2→¬ (t=tS i∧b≠.no)→(∃ e k es,B = .rw e k es)∧t∈Ih p (mz i p):=by
    cases p with
    | own e k t=>cases b with
     | own e' k' t' =>
      refine ⟨fun _=>by simp [toI,mz,bU],fun t B hm hn=>?_⟩
      simp only [toI,mz,List.mem_cons,List.not_mem_nil,or_false,Prod.mk.injEq] at hm
      exact absurd ⟨hm.1,fun e=>by cases e⟩ hn
     | _=>cases h1
    | mv e k t=>cases b with
     | no =>
      refine ⟨fun h=>absurd rfl h,fun t B hm _=>?_⟩
      simp only [toI,mz,List.mem_cons,List.not_mem_nil,or_false,Prod.mk.injEq] at hm
      obtain ⟨rfl,rfl⟩:=hm
      exact ⟨⟨_,_,_,rfl⟩,by simp [Ih,mz]⟩
     | _=>cases h1
    | bx ty n rows=>cases b with
     | bx ty' n' rows' =>
      refine ⟨fun _=>by simp [toI,mz,bU],fun t B hm hn=>?_⟩
      simp only [toI,mz] at hm
      rcases List.mem_cons.1 hm with e | hm
      ·injection e with e _
       exact absurd ⟨e,fun e=>by cases e⟩ hn
      ·exact ⟨(pa _ 0 t B hm).2,xj hm⟩
     | _=>cases h1
    | lf=>cases b <;> first | exact ⟨fun h=>absurd rfl h,fun t B hm=>by cases hm⟩ | cases h1
    | ag=>cases b <;> first | exact ⟨fun h=>absurd rfl h,fun t B hm=>by cases hm⟩ | cases h1
    | pl=>cases b <;> first | exact ⟨fun h=>absurd rfl h,fun t B hm=>by cases hm⟩ | cases h1
    | ps=>cases b <;> first | exact ⟨fun h=>absurd rfl h,fun t B hm=>by cases hm⟩ | cases h1
    | fn=>cases b <;> first | exact ⟨fun h=>absurd rfl h,fun t B hm=>by cases hm⟩ | cases h1
    | agr=>cases h1
    | io=>cases h1
   refine ⟨fun s hs=>?_,fun t B hm hn=>?_⟩
   ·simp only [bg,dU,gZ,List.mem_append]
    rcases uy.1 hs with ⟨rfl,h⟩ | h
    ·exact .inl (head.1 h)
    ·exact .inr (k1 s h)
   ·simp only [bg,dU] at hm
    simp only [bg,pz,List.mem_append]
    rw [uy,not_or] at hn
    rcases List.mem_append.1 hm with hm | hm
    ·obtain ⟨q1,q2⟩:=head.2 t B hm hn.1
     exact ⟨q1,.inl q2⟩
    ·obtain ⟨q1,q2⟩:=k2 t B hm hn.2
     exact ⟨q1,.inr q2⟩
  ·cases hio
theorem Ie (τ : Nat→Nat) : ∀ (ps:List PT) (iss:List (List Nat)),pz ps (iss.map (·.map τ))=(pz ps iss).map τ
 | [],iss=>by cases iss <;> rfl
 | p::ps,[]=>rfl
 | p::ps,is::iss=>by
  simp only [List.map_cons,pz,Ie τ ps iss,List.map_append]
  congr 1
  cases p with
  | bx=>cases is <;> rfl
  | _=>rfl
theorem EK:∀ (ps:List PT) (iss:List (List Nat)),∀ s∈pz ps iss,s∈bm iss
 | [],iss,s,h=>by cases iss <;> cases h
 | p::ps,[],s,h=>by cases h
 | p::ps,is::iss,s,h=>by
  simp only [pz,List.mem_append] at h
  rw [rS,List.mem_append]
  rcases h with h | h
  ·left
   cases p with
   | mv=>exact h
   | bx=>cases is with
    | nil=>cases h
    | cons a is=>exact List.mem_cons_of_mem _ h
   | _=>cases h
  ·exact .inr (EK ps iss s h)
theorem EL (l:BU) : ∀ (is:List Nat) (t:Nat),lkU (EM l is) t=if t∈is then some (match lkU l t with | some B=>YY B | none=>.st 0 []) else none
 | [],t=>rfl
 | a::is,t=>by
  simp only [EM,lkU]
  by_cases h:t=a
  ·subst h; simp only [if_true,List.mem_cons,true_or]; rfl
  ·simp only [h,if_false,List.mem_cons,false_or]; exact EL l is t
theorem JX (a b:BU) (t:Nat) : lkU (a++b) t=match lkU a t with | some B=>some B | none=>lkU b t:=by
 induction a with
 | nil=>rfl
 | cons x a ih =>
  obtain ⟨j,B⟩:=x
  simp only [List.cons_append,lkU]
  split
  ·rfl
  ·exact ih
theorem YC {P:Program} {f:FuncId} {ps rs:List PT} {x:ct ps} {r:bc rs} (hio:OO ps (cx rs)=true) (hlen:Mb ps (cx rs) x (jN rs r)) (hn0:(bm (bg 0 ps)).Nodup) (hgk:∀ s∈pz ps (bg 0 ps),s ∉ dm 0 (cx rs))
  (h:PCm P f (dU ps (bg 0 ps) x).1 (dU ps (bg 0 ps) x).2 (dm 0 (cx rs)) fun q bo=>∃ kss jss,jS (cx rs) kss∧iA (eT rs) jss∧(dm 0 (cx rs)++(bm kss++bm jss)).Nodup∧q=yz (cP (eT rs) jss (iB rs r)).1∧bo=rZ 0 (cx rs) kss (jN rs r)++(cP (eT rs) jss (iB rs r)).2) : aaq P f ps rs x r:=by
 refine ⟨hlen,fun iss kss jss hsi hsk hsj hnd hlt hall=>⟨h.1,fun w0 F0 ρ b w F vs args hargs hb hbn hi hv=>?_⟩⟩
 have hK:=B5 ps (cx rs) 0 x hio
 have hl0:=xe (B7 ps 0) hsi
 let τi:=VO (bm (bg 0 ps)) (bm iss)
 have e1:(bm (bg 0 ps)).map τi=bm iss:=Eu hn0 (rL hl0)
 have e2:(bg 0 ps).map (·.map τi)=iss:=vH hl0 e1
 obtain ⟨n1,n2,n3⟩:=List.nodup_append.1 hnd
 have hinj:∀ s∈bm (bg 0 ps),∀ s'∈bm (bg 0 ps),τi s = τi s'→s=s':=AZ (by rw [e1]; exact n1)
 have hdom:∀ s∈bU (dU ps (bg 0 ps) x).2,s∈bm (bg 0 ps):=fun s hs=>by
  obtain ⟨B,hB⟩:=cL.1 hs
  exact DQ (oQ hB)
 have hren:=Lw τi ps (bg 0 ps) x
 rw [e2] at hren
 have hfl:∀ s∈bm (bg 0 ps),s∈bU (dU ps (bg 0 ps) x).2:=fun s hs=>by
  have h1 : τi s∈bm iss:=by rw [← e1]; exact List.mem_map_of_mem hs
  have h2:=hall _ h1
  rw [hren] at h2
  simp only [MN] at h2
  obtain ⟨s',h3,h4⟩:=List.mem_map.1 h2
  rw [← hinj s' (hdom s' h3) s hs h4]
  exact h3
 have hii:∀ s∈bU (dU ps (bg 0 ps) x).2,∀ s'∈bU (dU ps (bg 0 ps) x).2,τi s = τi s'→s=s':=fun s h1 s' h2=>hinj s (hdom s h1) s' (hdom s' h2)
 have hcl:=Hy ps (bg 0 ps) x
 refine WI (τi:=τi) (N:=bm kss++bm jss) (u:=tH ps rs iss kss jss x r) h hii ?_ hlt hcl.1 (by rw [hargs,hren]) hcl.2.u w0 F0 ρ b w F vs (fun s B hs=>?_) hbn hi hv
 rotate_left
 ·have:=Dr (σ:=τi) hii hs
  rw [show mn τi (dU ps (bg 0 ps) x).2=(dU ps iss x).2 from by rw [hren]] at this
  exact hb _ _ this
 rintro q bo ⟨kss0,jss0,m1,m2,m3,rfl,rfl⟩
 have hl1:=yo m1 hsk
 have hl2:=xe m2 hsj
 have hKf:∀ s∈dm 0 (cx rs),s∈bm (bg 0 ps):=fun s hs=>hdom s (hK.1 s hs)
 have ⟨p1,p2,p3⟩:=List.nodup_append.1 m3
 have hKn:((dm 0 (cx rs)).map τi).Nodup:=by
  have:∀ l:List Nat,l.Nodup→(∀ s∈l,s∈bm (bg 0 ps))→(l.map τi).Nodup:=fun l=>by
   induction l with
   | nil=>intro _ _; exact List.nodup_nil
   | cons a l ih =>
    intro hn hs
    rw [List.nodup_cons] at hn
    rw [List.map_cons,List.nodup_cons]
    refine ⟨fun hm=>?_,ih hn.2 fun s h=>hs s (List.mem_cons_of_mem _ h)⟩
    obtain ⟨s,h1,h2⟩:=List.mem_map.1 hm
    have:=hinj s (hs s (List.mem_cons_of_mem _ h1)) a (hs a List.mem_cons_self) h2
    rw [this] at h1
    exact hn.1 h1
  exact this _ p1 hKf
 have htg:((dm 0 (cx rs)).map τi++(bm kss++bm jss)).Nodup:=by
  refine List.nodup_append.2 ⟨hKn,n2,fun a ha b' hb'=>?_⟩
  obtain ⟨s,h1,rfl⟩:=List.mem_map.1 ha
  exact n3 _ (by rw [← e1]; exact List.mem_map_of_mem (hKf s h1)) _ hb'
 let τ:=VO (dm 0 (cx rs)++(bm kss0++bm jss0)) ((dm 0 (cx rs)).map τi++(bm kss++bm jss))
 have et:(dm 0 (cx rs)++(bm kss0++bm jss0)).map τ = (dm 0 (cx rs)).map τi++(bm kss++bm jss):=Eu m3 (by simp [rL hl1,rL hl2])
 have hinjo:=AZ (f:=τ) (l:=dm 0 (cx rs)++(bm kss0++bm jss0)) (by rw [et]; exact htg)
 have et2:=et
 rw [List.map_append,List.map_append] at et2
 obtain ⟨q1,q2⟩:=List.append_inj et2 (by simp)
 obtain ⟨q2,q3⟩:=List.append_inj q2 (by simp [rL hl1])
 have hτK:∀ s∈dm 0 (cx rs),τ s = τi s:=List.map_inj_left.1 q1
 have b1:=vH hl1 q2
 have b2:=vH hl2 q3
 obtain ⟨c1,c2,c3⟩:=FJ (cx rs) 0 kss0 (jN rs r) m1
 have hbo:∀ s∈bU (rZ 0 (cx rs) kss0 (jN rs r)++(cP (eT rs) jss0 (iB rs r)).2),s∈dm 0 (cx rs)∨s∈bm kss0++bm jss0:=fun s hs=>by
  rw [gZ,List.mem_append] at hs
  rw [List.mem_append]
  rcases hs with hs | hs
  ·rcases c2 s hs with h | h
   ·exact .inl h
   ·exact .inr (.inl h)
  ·exact .inr (.inr (Hw hs))
 have hbo':∀ s∈bU (rZ 0 (cx rs) kss0 (jN rs r)++(cP (eT rs) jss0 (iB rs r)).2),s∈dm 0 (cx rs)++(bm kss0++bm jss0):=fun s hs=>List.mem_append.2 (hbo s hs)
 have hnewm:∀ s∈bm kss0++bm jss0,τ s∈bm kss++bm jss:=fun s hs=>by
  rw [← q2,← q3,← List.map_append]
  exact List.mem_map_of_mem hs
 have hoo:∀ s∈bU (rZ 0 (cx rs) kss0 (jN rs r)++(cP (eT rs) jss0 (iB rs r)).2),∀ s'∈bU (rZ 0 (cx rs) kss0 (jN rs r)++(cP (eT rs) jss0 (iB rs r)).2),τ s = τ s'→s=s':=fun s h1 s' h2=>hinjo s (hbo' s h1) s' (hbo' s' h2)
 have hfit:aap τi τ (dU ps (bg 0 ps) x).2 (rZ 0 (cx rs) kss0 (jN rs r)++(cP (eT rs) jss0 (iB rs r)).2) (dm 0 (cx rs)):=by
  refine ⟨hii,hoo,fun s hs s' hs' e=>?_,fun s hs=>⟨hK.1 s hs,by rw [gZ,List.mem_append]; exact .inl (c3 s hs),(hτK s hs).symm⟩⟩
  rcases hbo s' hs' with h1 | h1
  ·rw [hτK s' h1] at e
   have:=hii s hs s' (hK.1 s' h1) e
   subst this
   exact ⟨rfl,h1⟩
  ·exact absurd e (n3 _ (by rw [← e1]; exact List.mem_map_of_mem (hdom s hs)) _ (hnewm s' h1))
 have hgo:pz ps iss=(pz ps (bg 0 ps)).map τi:=by rw [← Ie,e2]
 have hu:tH ps rs iss kss jss x r=mn τ (rZ 0 (cx rs) kss0 (jN rs r)++(cP (eT rs) jss0 (iB rs r)).2)++EM (mn τi (dU ps (bg 0 ps) x).2) (pz ps iss):=by
  unfold tH
  rw [hren]
  have h1:=Lv τi τ ps (cx rs) 0 iss kss0 x (jN rs r) hio hsi m1 hτK e2
  rw [b1] at h1
  have h2:=AI τ (eT rs) jss0 (iB rs r)
  rw [b2] at h2
  rw [h1,h2,ue,List.append_assoc]
 refine ⟨τ,hfit,⟨fun s B hs=>?_,fun s B hs hk=>?_,fun i B hB=>?_⟩,?_,fun s hs hk=>?_⟩
 ·rw [hu,JX,Dr hoo hs]
 ·have hm:=oQ hs
  obtain ⟨⟨e,k,es,rfl⟩,hg⟩:=hK.2 s B hm hk
  have hnone:lkU (mn τ (rZ 0 (cx rs) kss0 (jN rs r)++(cP (eT rs) jss0 (iB rs r)).2)) (τi s)=none:=by
   cases hl:lkU (mn τ (rZ 0 (cx rs) kss0 (jN rs r)++(cP (eT rs) jss0 (iB rs r)).2)) (τi s) with
   | none=>rfl
   | some C =>
    obtain ⟨s',h1,h2⟩:=uv hl
    exact absurd (hfit.io s (cL.2 ⟨_,hs⟩) s' h1 h2).2 hk
  refine ⟨e,k,es,es ++ [[]],rfl,?_,by simp⟩
  rw [hu,JX,hnone]
  simp only
  rw [EL,if_pos (by rw [hgo]; exact List.mem_map_of_mem hg),Dr hii hs]
  rfl
 ·rw [hu,JX] at hB
  split at hB
  ·rename_i C hC
   obtain ⟨s',h1,h2⟩:=uv hC
   exact .inl ⟨s',h1,h2⟩
  ·rw [EL] at hB
   split at hB
   ·rename_i hm
    rw [hgo] at hm
    obtain ⟨s,h1,h2⟩:=List.mem_map.1 hm
    exact .inr ⟨s,hfl s (EK _ _ s h1),hgk s h1,h2.symm⟩
   ·cases hB
 ·have h2:=AI τ (eT rs) jss0 (iB rs r)
  rw [b2] at h2
  rw [XW,h2]
 ·exact hnewm s ((hbo s hs).resolve_left hk)
theorem Sk {P:Program} {T:List (Nat×Ent)} {n:Nat} {ps rs:List PT} {vars:List ResultVar} {fz:List (Nat×List Nat)} {sc:List Nat} {fb:List (Nat×List Nat)} {h:tV} {f:FuncId} {fn:Func} {c:Code} (hT:qQ P T) (hm:P.follows .mixedOrders=true) (hf:P.funcs[f]? = some fn) (hb:fn.body=some c) (hcb:eh P f=true) (hn:fn.ntmps=n) (hv:fn.results.toList=vars)
  (hl:(decide (ps.length≤n)&&(sR ps&&(oW rs&&(OO ps (cx rs)&&(sS (bm (bg 0 ps))&&IE (pz ps (bg 0 ps)) (dm 0 (cx rs)))))))=true)
  {F:ct ps→Option (bc rs)} (hlen:∀ x r,F x=some r→Mb ps (cx rs) x (jN rs r)) (hF:∀ x,Ro ⟨P,T,n,rs,vars,fz,sc,fb⟩ c h ps x=F x) : bN P f ps rs F:=by
 intro x r hx
 simp only [Bool.and_eq_true] at hl
 obtain ⟨hl1,hl2,hl3,hl4,hl5,hl6⟩:=hl
 refine ⟨fun hnM=>(by rw [Bool.or_eq_false_iff,hl3] at hnM; cases hnM.2),fun _=>?_⟩
 have hln:=hlen x r hx
 rw [← hF] at hx
 have hlen:=zd hl1
 subst hn
 unfold Ro at hx
 split at hx
 rotate_left
 ·cases hx
 rename_i vs bx hen
 obtain ⟨hnd,hx⟩:=ao hx
 have hseen:wg bx bx:=by have:=Dj (l':=[]) (iR hnd); rw [List.append_nil] at this; exact this
 obtain ⟨hal,hargs⟩:=E6 (G:=[]) hl2 hen hseen
 have halen:(dU ps (bg 0 ps) x).1.length=ps.length:=by
  have:∀ (ps:List PT) (i:Nat) (x:ct ps),(dU ps (bg i ps) x).1.length=ps.length:=fun ps=>by
   induction ps with
   | nil=>intro i x; rfl
   | cons p ps ih=>intro i x; simp only [bg,dU,List.length_cons,ih]
  exact this ps 0 x
 refine YC hl4 hln (iR hl5) (fun s hs hk=>?_) ?_
 ·have:=td hl6 s (dK.2 hs)
  rw [yE] at this
  exact this hk
 refine S8 hf hb hcb (by rw [halen]; exact hlen) (Mf _ 0) ?_
 have hs:gJ ⟨Bv 0 vs,bx,[],false,[]⟩ ⟨mt (dU ps (bg 0 ps) x).1,lkU (dU ps (bg 0 ps) x).2⟩:=by
  refine ⟨fun i=>?_,fun t b hbl=>?_⟩
  ·show be bx (lkV (Bv 0 vs) i) (mt (dU ps (bg 0 ps) x).1 i)
   have:=KB vs 0 i
   rw [Nat.zero_add] at this
   rw [this]
   unfold mt
   cases h1:vs[i]? with
   | none=>exact .junk _
   | some v =>
    have hlt:i < (dU ps (bg 0 ps) x).1.length:=by rw [← hargs.len]; exact (zg.1 h1).1
    rw [zq hlt]
    exact hargs.rep i v _ h1 (zq hlt)
  ·show mj bx true (some b) (lkU (dU ps (bg 0 ps) x).2 t)
   have hbl:lkB bx t=some b:=hbl
   rcases Va hal [] t with ⟨_,sb,b',m2,m3,m4,_⟩ | ⟨_,m2,_⟩
   ·rw [List.append_nil,hbl] at m2
    rw [m3]
    exact m4 b m2.symm
   ·rw [List.append_nil,hbl] at m2
    cases m2
 have hpr:mf ⟨Bv 0 vs,bx,[],false,[]⟩:=fun t ht=>by cases ht
 have fin:∀ {e:Exit} {p':PS},(match e with | .normal=>True | .ret=>True | _=>False)→Ss ⟨P,T,fn.ntmps,rs,vars,fz,sc,fb⟩ fn p' r→aal P fn (dm 0 (cx rs)) (fun q bo=>∃ kss jss,jS (cx rs) kss∧iA (eT rs) jss∧(dm 0 (cx rs)++(bm kss++bm jss)).Nodup∧q=yz (cP (eT rs) jss (iB rs r)).1∧bo=rZ 0 (cx rs) kss (jN rs r)++(cP (eT rs) jss (iB rs r)).2) e p':=fun {e p'} he hr=>by
  obtain ⟨kss,jss,m1,m2,m3,⟨q,m4,m5⟩,m6⟩:=hr.2 hl3
  have m1:jS (cx rs) kss:=m1
  have m2:iA (eT rs) jss:=m2
  have m5:qB q=yz (cP (eT rs) jss (iB rs r)).1:=m5
  obtain ⟨c1,c2,c3⟩:=FJ (cx rs) 0 kss (jN rs r) m1
  obtain ⟨d1,d2⟩:=DP (eT rs) jss (iB rs r)
  refine ⟨he,_,_,⟨kss,jss,m1,m2,m3,rfl,rfl⟩,fun t ht=>by rw [gZ,List.mem_append]; exact .inl (c3 t ht),fun s hs=>?_,(c1.app d2).u,⟨q,m4,m5⟩,fun t B ht=>m6 t B (oQ ht)⟩
  rw [gZ,List.mem_append]
  exact .inr (d1 s (VE _ s hs))
 refine fm (oV (C:=⟨P,T,fn.ntmps,rs,vars,fz,sc,fb⟩) (fn:=fn) hT hm hv c h _ _ _ _ _ r hpr hs hx) fun e p' hq=>?_
 by_cases he:e = .ret
 ·subst he
  obtain ⟨r',h1,h3⟩:=hq
  injection h3 with h3
  subst h3
  exact ⟨p',.refl _,fin trivial h1⟩
 ·obtain ⟨s',m1,m2,m3⟩:=qF he hq
  cases e with
  | normal =>
   obtain ⟨p2,h1,h2⟩:=RO (C:=⟨P,T,fn.ntmps,rs,vars,fz,sc,fb⟩) hv (yu (m2.prOk hpr)) (rF m1) m3
   exact ⟨p2,(A7 m1).trans h1,fin trivial h2⟩
  | ret=>exact absurd rfl he
  | _=>cases m3
theorem XT {w:World} {B e k n:Nat} {v:Value} {xs:List Value} (h:w.ownsRow B e k v n xs) : w.ownsRow 0 e k v n xs∧∀ g,blk v=some g→B≤g:=by
 refine ⟨⟨h.1,?_⟩,fun g hg=>?_⟩
 ·rcases h.2 with hn | ⟨g,cap,cur,rfl,hb,hr⟩
  ·exact .inl hn
  ·exact .inr ⟨g,cap,cur,rfl,Nat.zero_le _,hr⟩
 ·rcases h.2 with ⟨rfl,_⟩ | ⟨g',cap,cur,rfl,hb,hr⟩
  ·cases hg
  ·injection hg with hg; subst hg; exact hb
theorem YB {P:Program} {f:FuncId} {ty:Ty} {e k:Nat} {F:List ty.den→Option (List ty.den)} (hk:tyN ty=k) (hk0 : 0 < k) (hcall:eh P f=true)
  (H:∀ (xs zs:List ty.den) (w:World) (G:Nat→Prop) (v:Value),F xs=some zs→(∀ g,G g→g < w.heap.size)→ed w G v (.sl (xs.map (bR ty)))→Calls P f #[v] w fun en w'=>∃ v' us,en = .returned v'∧w'.ownsRow w.heap.size e k v' zs.length us∧Ext w w'∧us.length=zs.length * k∧∀ (j:Nat) u d,us[j]? = some u→(zs.map (bR ty)).flatten[j]? = some d→ed w G u d) :
  bN P f [.lf (.sl ty)] [.io [.no],.own e k ty] (fun x=>(F x.1).bind fun z=>some (((),()),z)):=by
 rintro ⟨xs,⟨⟩⟩ zz hF
 change List ty.den at xs
 obtain ⟨zs,hz,hF⟩:=cM hF
 injection hF with hF
 subst hF
 refine ⟨fun h=>(by cases h),fun _=>⟨⟨trivial,trivial⟩,fun iss kss jss h1 h2 h3 h4 h5 h6=>⟨hcall,?_⟩⟩⟩
 match iss,h1 with
 | [is],h1 =>
 match is,h1.1 with
 | [],_ =>
 match kss,h2 with
 | [ks],h2 =>
 match ks,h2.1 with
 | [],_ =>
 match jss,h3 with
 | [js],h3 =>
 match js,h3.1 with
 | [j],_ =>
 intro w0 F0 ρ b w G vs args ha hb0 hb hi hr
 have hj:j < 1000000:=h5 j (by simp [bm])
 have hbj:b j=none:=hb j (by simp [bm])
 have hal:args.length=1:=by rw [← il args,ha]; rfl
 match args,hal with
 | [a],_ =>
 have ha:qB a = .d (.sl (xs.map (bR ty))):=by
  simp only [dJ,dU,toI,List.cons.injEq] at ha
  exact ha.1
 have hvl:vs.toList.length=1:=hr.len
 obtain ⟨v,hv⟩ : ∃ v,vs = #[v]:=by
  match hv:vs.toList,hvl with
  | [v],_=>exact ⟨v,by apply Array.ext'; simpa using hv⟩
 subst hv
 have hrep:=(hr.rep 0 v a rfl rfl).nrmd
 rw [ha] at hrep
 have hd:ed w G v (.sl (xs.map (bR ty))):=by
  cases hrep with
  | d _ _ h=>exact h
 refine (H xs zs w G v hz hi.flt hd).mono ?_
 rintro en w' ⟨v',us,rfl,ho,hx,hl,hu⟩
 obtain ⟨ho0,hbase⟩:=XT ho
 have hzl:∀ x∈zs.map (bR ty),x.length=k:=fun x hx=>by
  obtain ⟨y,_,rfl⟩:=List.mem_map.1 hx
  rw [pG,hk]
 have:=Ep (P:=P) (t:=j) (e:=e) (k:=k) (es:=zs.map (bR ty)) (xs:=us) (v:=v') (w':=w') hi hj hbj hk0 hx hbase (by rw [List.length_map]; exact ho0) hzl (by rw [hl,cJ k _ hzl,List.length_map]) hu
 obtain ⟨v2,w2,ρ',e1,k1,k2,k3⟩:=this
 injection e1 with e1 e2
 subst e1 e2
 have hU:dD b (tH [.lf (.sl ty)] [.io [.no],.own e k ty] [[]] [[]] [[j]] (xs,()) (((),()),zs))=dj b (some (j,.rw e k (zs.map (bR ty)))):=by
  rw [← Bt]; rfl
 rw [hU]
 refine ⟨v',ρ',G,rfl,k1,k2,?_⟩
 rw [List.length_map] at k3
 exact k3
theorem YA {P:Program} {f:FuncId} {F:ct [.lf .str]→Option (bc [.lf .str])} (hcall:eh P f=true)
  (H:∀ (x z:ByteArray) (w:World),F (x,())=some z→Calls P f #[.string x] w fun en w'=>en = .returned (.string z)∧Ext w w') : bN P f [.lf .str] [.lf .str] F:=by
 rintro ⟨x,⟨⟩⟩ z hF
 refine ⟨fun _=>⟨hcall,fun w G vs hG hr=>?_⟩,fun h=>(by cases h)⟩
 have hvl:vs.toList.length=1:=hr.len
 obtain ⟨v,hv⟩ : ∃ v,vs = #[v]:=by
  match hv:vs.toList,hvl with
  | [v],_=>exact ⟨v,by apply Array.ext'; simpa using hv⟩
 subst hv
 obtain ⟨rfl,_⟩:=aM.vv (hr.rep 0 v _ rfl rfl)
 refine (H x z w hF).mono ?_
 rintro en w' ⟨rfl,hx⟩
 exact ⟨_,G,rfl,hx,fun _ h=>h,fun g hg=>Nat.lt_of_lt_of_le (hG g hg) hx.size,fun _ h=>.inl h,.d _ _ (.v _ rfl)⟩
end Go.Proofs.YtchddofjajgopaaGreat
