/- My texts, in one. -/
import Derived.Test.YtmjkjaahbgikjaaGreatZB
set_option linter.all false
set_option maxRecDepth 100000
set_option maxHeartbeats 4000000
namespace Go.Proofs.YtmjkjaahbgikjaaGreat
open Go.RowKit
open IntKind (i64)
open Go.Proofs.Tryz (prog)
section
def Le (p p':PS) : Prop:=∀ (n:Nat) (w0:WM) (F0:Nat→Prop) (a:Act) (w:World),oH n w0 F0 p a w→oH n w0 F0 p' a w
theorem Le.refl (p:PS) : Le p p:=fun _ _ _ _ _ h=>h
theorem Le.trans {p p' p'':PS} (h:Le p p') (h':Le p' p'') : Le p p'':=fun n w0 F0 a w hc=>h' n w0 F0 a w (h n w0 F0 a w hc)
theorem u9 {P:Program} {n:Nat} {c:Code} {Q:Exit→PS→Prop} {p p':PS} (hl:Le p p') (h:PWP P n c Q p') : PWP P n c Q p:=fun w0 F0 a w hc=>h w0 F0 a w (hl n w0 F0 a w hc)
theorem fF {P:Program} {n:Nat} {c:Code} {Q Q':Exit→PS→Prop} {p:PS} (h:PWP P n c Q p) (hq:∀ e p',Q e p'→∃ p'',Le p' p''∧Q' e p'') : PWP P n c Q' p :=
 fun w0 F0 a w hc=>wp_mono (h w0 F0 a w hc) fun e a' w' ⟨s',h1,h2⟩=>by
  obtain ⟨p'',h3,h4⟩:=hq e s' h1
  exact ⟨p'',h4,h3 n w0 F0 a' w' h2⟩
structure g9 (s:SS) (p:PS) : Prop where
 sl:∀ i,bf s.bx (lkV s.sl i) (p.t i)
 bx:∀ t b,lkB s.bx t=some b→mH s.bx true (some b) (p.b t)
theorem mH.some {B:List (Nat×Option aY)} {o o':Bool} {b:aY} {q:Option Box} (h:mH B o (some b) q) : mH B o' (some b) q:=by cases b <;> exact h
theorem Sim.w {s:SS} {p:PS} (h:Sim s p) : g9 s p:=⟨h.sl,fun t b hb=>by have:=h.bx t; rw [hb] at this; exact this.some⟩
mutual
def Yr:SV→PV→PV
 | .junk,_=>.junk
 | .ag cs,.ag qs=>.ag (ph cs qs)
 | .tup cs,.tup qs=>.tup (ph cs qs)
 | .fn _ ps qs,.fn f ps' qs'=>.fn f (ph ps ps') (ph qs qs')
 | _,q=>q
def ph:List SV→List PV→List PV
 | [],_=>[]
 | _,[]=>[]
 | c::cs,q::qs=>Yr c q::ph cs qs
end
def Lx:aY→Box→Box
 | .st _ cs,.st ty qs=>.st ty (ph cs qs)
 | _,b=>b
def yq (s:SS) (p:PS) : PS:=⟨fun i=>Yr (lkV s.sl i) (p.t i),fun t=>match lkB s.bx t with | none=>none | some b=>(p.b t).map (Lx b)⟩
theorem gh:∀ (cs:List SV) (qs:List PV),cs.length=qs.length→(ph cs qs).length=qs.length
 | [],[],_=>rfl
 | [],_ :: _,h=>by simp at h
 | _ :: _,[],h=>by simp at h
 | c::cs,q::qs,h=>by simp only [ph,List.length_cons,gh cs qs (by simpa using h)]
theorem gj:∀ (cs:List SV) (qs:List PV) (j:Nat) (r:PV),(ph cs qs)[j]? = some r→∃ c q,cs[j]? = some c∧qs[j]? = some q∧r=Yr c q
 | [],qs,j,r,h=>by simp [ph] at h
 | _ :: _,[],j,r,h=>by simp [ph] at h
 | c::cs,q::qs,0,r,h=>by simp [ph] at h; exact ⟨c,q,rfl,rfl,h.symm⟩
 | c::cs,q::qs,j + 1,r,h=>by
  simp [ph] at h
  simpa using gj cs qs j r h
theorem MI {B:List (Nat×Option aY)} {v:SV} {q:PV} (h:bf B v q) : bf B v (Yr v q):=by
 induction h with
 | junk q=>exact .junk _
 | d c y h=>exact .d c y h
 | ag cs qs hl hr ih =>
  refine .ag cs _ (by rw [gh cs qs hl]; exact hl) (fun j c r h1 h2=>?_)
  obtain ⟨c',q',h3,h4,rfl⟩:=gj cs qs j r h2
  rw [h1] at h3
  injection h3 with h3
  subst h3
  exact ih j c q' h1 h4
 | tup cs qs hl hr ih =>
  refine .tup cs _ (by rw [gh cs qs hl]; exact hl) (fun j c r h1 h2=>?_)
  obtain ⟨c',q',h3,h4,rfl⟩:=gj cs qs j r h2
  rw [h1] at h3
  injection h3 with h3
  subst h3
  exact ih j c q' h1 h4
 | ptr t o ty cs hb=>exact .ptr t o ty cs hb
 | row t n e k ty xs pins hb hn=>exact .row t n e k ty xs pins hb hn
 | re t p o n i e k ty xs pins pin hb hn hp hi=>exact .re t p o n i e k ty xs pins pin hb hn hp hi
 | vw t lo hi n e k ty xs pins hb hn=>exact .vw t lo hi n e k ty xs pins hb hn
 | fe cs ds h hn=>exact .fe cs ds h hn
 | fn f ps qs ps' qs' hl hr hl2 hr2 ih ih2 =>
  refine .fn f ps qs _ _ (by rw [gh ps ps' hl]; exact hl) (fun j c r h1 h2=>?_) (by rw [gh qs qs' hl2]; exact hl2) (fun j c r h1 h2=>?_)
  ·obtain ⟨c',q',h3,h4,rfl⟩:=gj ps ps' j r h2
   rw [h1] at h3
   injection h3 with h3
   subst h3
   exact ih j c q' h1 h4
  ·obtain ⟨c',q',h3,h4,rfl⟩:=gj qs qs' j r h2
   rw [h1] at h3
   injection h3 with h3
   subst h3
   exact ih2 j c q' h1 h4
theorem Yu {B:List (Nat×Option aY)} {cs:List SV} {qs:List PV} (h:ch B cs qs) : ch B cs (ph cs qs) :=
 ⟨by rw [gh cs qs h.len]; exact h.len,fun j c r h1 h2=>by
  obtain ⟨c',q',h3,h4,rfl⟩:=gj cs qs j r h2
  rw [h1] at h3
  injection h3 with h3
  subst h3
  exact MI (h.rep j c q' h1 h4)⟩
section
variable {ρ : Nat→Value} {b b':Nat→Option Box} {w:World} {F:Nat→Prop} {B:List (Nat×Option aY)}
theorem Nb (hst:∀ t ty cs ty' qs,lkB B t=some (.st ty cs)→b t=some (.st ty' qs)→∃ ty2 qs2,b' t=some (.st ty2 qs2)) (hrw:∀ t e k ty xs pins,lkB B t=some (.rw e k ty xs pins)→b' t=b t) {v:SV} {q:PV} (hv:bf B v q) :
  ∀ {x:Value},aJ ρ b w F x q→aJ ρ b' w F x (Yr v q):=by
 induction hv with
 | junk q=>exact fun _=>.junk _
 | d c y h =>
  intro x hp
  cases hp with
  | d _ _ h=>exact .d _ _ h
 | ag cs qs hl hr ih =>
  intro x hp
  cases hp with
  | ag xs _ hl2 h1 hr2 =>
   refine .ag xs _ (by rw [gh cs qs hl]; exact hl2) h1 (fun j x r h2 h3=>?_)
   obtain ⟨c,q,h4,h5,rfl⟩:=gj cs qs j r h3
   exact ih j c q h4 h5 (hr2 j x q h2 h5)
 | tup cs qs hl hr ih =>
  intro x hp
  cases hp with
  | tup xs _ hl2 hr2 =>
   refine .tup xs _ (by rw [gh cs qs hl]; exact hl2) (fun j x r h2 h3=>?_)
   obtain ⟨c,q,h4,h5,rfl⟩:=gj cs qs j r h3
   exact ih j c q h4 h5 (hr2 j x q h2 h5)
 | ptr t o ty cs hb =>
  intro x hp
  cases hp with
  | ptr _ _ g ty' qs h1 h2 =>
   obtain ⟨ty2,qs2,h3⟩:=hst t ty cs ty' qs hb h1
   exact .ptr t o g ty2 qs2 h3 h2
 | row t n e k ty xs pins hb hn =>
  intro x hp
  cases hp with
  | row _ _ A c e2 k2 es h1 h2 h3 h4 h5=>exact .row t n A c e2 k2 es (by rw [hrw t e k ty xs pins hb]; exact h1) h2 h3 h4 h5
 | re t p o n i e k ty xs pins pin hb hn hp hi =>
  intro x hx
  cases hx with
  | re _ _ _ _ a e2 k2 es h1 h2 h3 h4=>exact .re t n i o a e2 k2 es (by rw [hrw t e k ty xs pins hb]; exact h1) h2 h3 h4
 | vw t lo hi n e k ty xs pins hb hn=>
  intro x hp
  cases hp with
  | vw _ _ _ _ A m c e2 k2 es h1 h2 h3 h4 h5 h6=>exact .vw t n lo hi A m c e2 k2 es (by rw [hrw t e k ty xs pins hb]; exact h1) h2 h3 h4 h5 h6
 | fe cs ds h hn =>
  intro x hx
  cases hx with
  | fe a _ us h1 h2 h3=>exact .fe a ds us h1 h2 h3
 | fn f ps qs ps' qs' hl hr hl2 hr2 ih ih2 =>
  intro x hx
  cases hx with
  | fn _ xs ys _ _ m1 m2 m3 m4 =>
   refine .fn f xs ys _ _ (by rw [gh ps ps' hl]; exact m1) (fun j x r h2 h3=>?_) (by rw [gh qs qs' hl2]; exact m3) (fun j x r h2 h3=>?_)
   ·obtain ⟨c,q,h4,h5,rfl⟩:=gj ps ps' j r h3
    exact ih j c q h4 h5 (m2 j x q h2 h5)
   ·obtain ⟨c,q,h4,h5,rfl⟩:=gj qs qs' j r h3
    exact ih2 j c q h4 h5 (m4 j x q h2 h5)
end
theorem sF {s:SS} {p:PS} (h:g9 s p) : Sim ⟨s.sl,s.bx,s.pr,s.ro,[]⟩ (yq s p):=by
 refine ⟨fun i=>MI (h.sl i),fun t=>?_⟩
 show mH s.bx (aC [] t) (lkB s.bx t) (match lkB s.bx t with | none=>none | some b=>(p.b t).map (Lx b))
 cases hb:lkB s.bx t with
 | none=>exact fun _=>rfl
 | some bx =>
  have h1:=h.bx t bx hb
  cases bx with
  | st ty cs =>
   obtain ⟨qs,h2,h3⟩:=h1
   rw [h2]
   exact ⟨ph cs qs,rfl,Yu h3⟩
  | rw e k ty xs pins =>
   obtain ⟨h2,h3⟩:=h1
   rw [h2]
   exact ⟨rfl,h3⟩
theorem BK {s:SS} {p:PS} (h:g9 s p) : Le p (yq s p):=by
 intro n w0 F0 a w ⟨h1,h2,ρ,F,hi,hev⟩
 have hst:∀ t ty cs ty' qs,lkB s.bx t=some (.st ty cs)→p.b t=some (.st ty' qs)→∃ ty2 qs2,(yq s p).b t=some (.st ty2 qs2):=fun t ty cs ty' qs k1 k2=>by
  refine ⟨ty',ph cs qs,?_⟩
  show (match lkB s.bx t with | none=>none | some b=>(p.b t).map (Lx b)) = _
  rw [k1,k2]; rfl
 have hrw:∀ t e k ty xs pins,lkB s.bx t=some (.rw e k ty xs pins)→(yq s p).b t=p.b t:=fun t e k ty xs pins k1=>by
  show (match lkB s.bx t with | none=>none | some b=>(p.b t).map (Lx b)) = _
  rw [k1,(h.bx t _ k1).1]; rfl
 have hreg:∀ t q,qp ρ p.b t q→qp ρ (yq s p).b t q:=fun t q k=>by
  cases hl:lkB s.bx t with
  | none=>exact k.less (.inl (by show (match lkB s.bx t with | none=>none | some b=>(p.b t).map (Lx b)) = _; rw [hl]))
  | some b =>
   have hc:(yq s p).b t=(p.b t).map (Lx b):=by show (match lkB s.bx t with | none=>none | some b=>(p.b t).map (Lx b)) = _; rw [hl]
   cases b with
   | st ty cs =>
    refine k.mono (fun e=>by rw [hc,e]; rfl) (fun ty' qs e=>⟨⟨ty',_,by rw [hc,e]; rfl⟩,rfl⟩) (fun e k' es he=>⟨e,es,by rw [hc,he]; rfl,Nat.le_refl _,fun _=>rfl⟩)
   | rw e k' ty xs pins=>exact k.same (hrw t e k' ty xs pins hl) rfl
 have hb:∀ t Bx,(yq s p).b t=some Bx→∃ b B0,lkB s.bx t=some b∧p.b t=some B0∧Bx=Lx b B0:=fun t Bx k=>by
  have k:(match lkB s.bx t with | none=>none | some b=>(p.b t).map (Lx b))=some Bx:=k
  cases hl:lkB s.bx t with
  | none=>rw [hl] at k; cases k
  | some b =>
   rw [hl] at k
   rw [zm] at k
   obtain ⟨B0,k1,k2⟩:=k
   exact ⟨b,B0,rfl,k1,k2.symm⟩
 refine ⟨h1,h2,ρ,F,⟨hi.ext,hi.f0,hi.flt,hi.fnew,fun t Bx k=>?_,fun t t' Bx Bx' g k1 k2=>?_,fun t q hq=>⟨(hi.reg t q hq).1,hreg t q (hi.reg t q hq).2⟩⟩,fun i=>Nb hst hrw (h.sl i) (hev i)⟩
 ·obtain ⟨b,B0,k1,k2,rfl⟩:=hb t Bx k
  have hbx:=hi.box t B0 k2
  have hs:=h.bx t b k1
  cases b with
  | st ty cs =>
   obtain ⟨qs,k3,k4⟩:=hs
   rw [k2] at k3
   injection k3 with k3
   subst k3
   cases hbx with
   | st _ _ g xs hρ hg hF hh hl h1x hr =>
    refine .st ty _ g xs hρ hg hF hh (by rw [gh cs qs k4.len]; exact hl) h1x (fun j x r m1 m2=>?_)
    obtain ⟨c,q,m3,m4,rfl⟩:=gj cs qs j r m2
    exact Nb hst hrw (k4.rep j c q m3 m4) (hr j x q m1 m4)
  | rw e k ty xs pins =>
   obtain ⟨k3,_⟩:=hs
   rw [k2] at k3
   injection k3 with k3
   subst k3
   cases hbx with
   | rw _ _ _ xs' hk0 ho hF hk hl hr hown=>exact .rw _ _ _ xs' hk0 ho hF hk hl hr hown
   | gn _ _ _ hρ=>exact .gn _ _ _ hρ
 ·obtain ⟨_,B1,_,m1,_⟩:=hb t Bx k1
  obtain ⟨_,B2,_,m2,_⟩:=hb t' Bx' k2
  exact hi.dist t t' B1 B2 g m1 m2
def ab6 (t:Nat) (es:List (List D)) (p:PS) : PS:=⟨fun i=>frz t es (p.t i),fun i=>if i=t then none else (p.b i).map (BP t es)⟩
theorem XN {p:PS} (t:Nat) {e k:Nat} {es:List (List D)} (hb0:p.b t=some (.rw e k es)) : Le p (ab6 t es p):=by
 intro n w0 F0 a w ⟨h1,h2,ρ,F,hi,hev⟩
 have hb':∀ i,(ab6 t es p).b i=if i=t then none else (p.b i).map (BP t es):=fun i=>rfl
 have hbt:=(hi.box t _ hb0)
 refine ⟨h1,h2,ρ,fun g=>F g∨blk (ρ t)=some g,⟨hi.ext,fun g hg=>.inl (hi.f0 g hg),?_,?_,fun t' B h=>?_,fun t1 t2 B1 B2 g k1 k2 hne=>?_,hi.reg_frz hb'⟩,fun i=>(hev i).frz hi hb0 hb'⟩
 ·rintro g (hg | hg)
  ·exact hi.flt g hg
  ·exact (hbt.lt hg).1
 ·rintro g (hg | hg)
  ·exact hi.fnew g hg
  ·exact .inr (hbt.lt hg).2.1
 ·rw [hb'] at h
  split at h
  ·cases h
  ·rename_i ht
   rw [zm] at h
   obtain ⟨B0,hB0,rfl⟩:=h
   have hnF:∀ g,blk (ρ t')=some g→¬ (F g∨blk (ρ t)=some g):=by
    rintro g hg (h | h)
    ·exact ((hi.box t' B0 hB0).lt hg).2.2 h
    ·exact hi.dist t' t B0 _ g hB0 hb0 ht hg h
   cases hi.box t' B0 hB0 with
   | st ty cs g xs hρ hg hF hh hl h1 hr =>
    refine .st ty _ g xs hρ hg (hnF g (by rw [hρ]; rfl)) hh (by rw [ij]; exact hl) h1 (fun j x c k1 k2=>?_)
    obtain ⟨d,h4,rfl⟩:=ik t es cs j c k2
    exact (hr j x d k1 h4).frz hi hb0 hb'
   | rw e' k' es' xs hk0 ho hF hk hl hr hown=>exact .rw e' k' es' xs hk0 ho hnF hk hl (fun j x d k1 k2=>(hr j x d k1 k2).mono (fun g h=>.inl h) (fun _ _=>rfl)) hown
   | gn e' k' es' hρ=>exact .gn e' k' es' hρ
 ·rw [hb'] at k1 k2
  split at k1
  ·cases k1
  ·split at k2
   ·cases k2
   ·rw [zm] at k1 k2
    obtain ⟨B1',k1,_⟩:=k1
    obtain ⟨B2',k2,_⟩:=k2
    exact hi.dist t1 t2 B1' B2' g k1 k2 hne
def X8 (t:Nat) (c:SD) : aY→aY
 | .st ty cs=>.st ty (ot t c cs)
 | b=>b
theorem lL (t:Nat) (c:SD) : ∀ (l:List (Nat×Option aY)) (i:Nat),lkB (sQ t c l) i=(lkB l i).map (X8 t c)
 | [],_=>rfl
 | (j,none)::l,i=>by simp only [sQ,au,lL t c l i]; split <;> rfl
 | (j,some (.st ty cs))::l,i=>by simp only [sQ,au,lL t c l i]; split <;> rfl
 | (j,some (.rw e k ty xs pins))::l,i=>by simp only [sQ,au,lL t c l i]; split <;> rfl
theorem Eg (t:Nat) (c:SD) : ∀ (l:List (Nat×SV)) (i:Nat),lkV (F6 t c l) i=vr t c (lkV l i)
 | [],_=>rfl
 | (j,v)::l,i=>by simp only [F6,cZ,Eg t c l i]; split <;> rfl
theorem nq (t:Nat) (c:SD) : ∀ (cs:List SV) (j:Nat),(ot t c cs)[j]? = (cs[j]?).map (vr t c)
 | [],j=>by simp [ot]
 | v::cs,0=>by simp [ot]
 | v::cs,j + 1=>by simpa [ot] using nq t c cs j
theorem la (t:Nat) (c:SD) : ∀ cs:List SV,(ot t c cs).length=cs.length
 | []=>rfl
 | v::cs=>by simp [ot,la t c cs]
theorem bf.frz {B B':List (Nat×Option aY)} {t e k:Nat} {ty:Ty} {xs:List ty.den} {pins:List (Nat×Pin)} (ht:lkB B t=some (.rw e k ty xs pins)) (hB:WL t B B') {v:SV} {q:PV} (h:bf B v q) : bf B' (vr t (.sl ty xs) v) (Go.Proofs.YtmjkjaahbgikjaaGreat.frz t (xs.map (bK ty)) q):=by
 induction h with
 | junk q=>exact .junk _
 | d c y h=>exact .d c y h
 | ag cs qs hl hr ih =>
  refine .ag _ _ (by rw [la,ij]; exact hl) (fun j c r h1 h2=>?_)
  rw [nq,zm] at h1
  obtain ⟨c',h3,rfl⟩:=h1
  obtain ⟨q',h4,rfl⟩:=ik _ _ qs j r h2
  exact ih j c' q' h3 h4
 | tup cs qs hl hr ih =>
  refine .tup _ _ (by rw [la,ij]; exact hl) (fun j c r h1 h2=>?_)
  rw [nq,zm] at h1
  obtain ⟨c',h3,rfl⟩:=h1
  obtain ⟨q',h4,rfl⟩:=ik _ _ qs j r h2
  exact ih j c' q' h3 h4
 | ptr t' o ty2 cs hb=>obtain ⟨ty',cs',h1⟩:=hB.st t' ty2 cs hb; exact .ptr t' o ty' cs' h1
 | row t' n e2 k2 ty2 xs2 pins2 hb hn =>
  simp only [vr,Go.Proofs.YtmjkjaahbgikjaaGreat.frz,db]
  by_cases h:t' = t
  ·subst h
   rw [ht] at hb
   injection hb with hb
   injection hb with e1 e2 e3 e4 e5
   subst e3
   have e4:=eq_of_heq e4
   subst e4
   simp only [decide_true,if_true,List.length_map,hn]
   exact PF ty xs
  ·simp only [h,decide_false,if_false]
   exact .row t' n e2 k2 ty2 xs2 pins2 (hB.rw t' h _ _ _ _ _ hb) hn
 | re t' p o n i e2 k2 ty2 xs2 pins2 pin hb hn hp hi =>
  simp only [vr,Go.Proofs.YtmjkjaahbgikjaaGreat.frz,db]
  by_cases h:t' = t
  ·simp only [h,decide_true]; exact .junk _
  ·simp only [h,decide_false,if_false]
   exact .re t' p o n i e2 k2 ty2 xs2 pins2 pin (hB.rw t' h _ _ _ _ _ hb) hn hp hi
 | vw t' lo hi n e2 k2 ty2 xs2 pins2 hb hn=>
  simp only [vr,Go.Proofs.YtmjkjaahbgikjaaGreat.frz,db]
  by_cases h:t' = t
  ·simp only [h,decide_true]; exact .junk _
  ·simp only [h,decide_false,if_false]
   exact .vw t' lo hi n e2 k2 ty2 xs2 pins2 (hB.rw t' h _ _ _ _ _ hb) hn
 | fe cs ds h hn=>exact .fe cs ds h hn
 | fn f ps qs ps' qs' hl hr hl2 hr2 ih ih2 =>
  refine .fn f _ _ _ _ (by rw [la,ij]; exact hl) (fun j c r h1 h2=>?_) (by rw [la,ij]; exact hl2) (fun j c r h1 h2=>?_)
  ·rw [nq,zm] at h1
   obtain ⟨c',h3,rfl⟩:=h1
   obtain ⟨q',h4,rfl⟩:=ik _ _ ps' j r h2
   exact ih j c' q' h3 h4
  ·rw [nq,zm] at h1
   obtain ⟨c',h3,rfl⟩:=h1
   obtain ⟨q',h4,rfl⟩:=ik _ _ qs' j r h2
   exact ih2 j c' q' h3 h4
mutual
theorem NK {pr:List Nat} {t:Nat} {c:SD} (ht:aC pr t=false) : ∀ v:SV,lD pr v=true→vr t c v=v
 | .junk,_=>rfl
 | .d _,_=>rfl
 | .fe _,_=>rfl
 | .ptr _ _,_=>rfl
 | .row t',h=>by
  have:=Fq ht (show aC pr t' = true from h)
  simp only [vr,db,this,decide_false]
 | .re _ _ _,h=>by cases h
 | .vw _ _ _,h=>by cases h
 | .ag cs,h=>by simp only [vr]; rw [sP ht cs h]
 | .tup cs,h=>by simp only [vr]; rw [sP ht cs h]
 | .fn f ps qs,h=>by
  have h:(eg pr ps&&eg pr qs)=true:=h
  rw [Bool.and_eq_true] at h
  simp only [vr]; rw [sP ht ps h.1,sP ht qs h.2]
theorem sP {pr:List Nat} {t:Nat} {c:SD} (ht:aC pr t=false) : ∀ cs:List SV,eg pr cs=true→ot t c cs=cs
 | [],_=>rfl
 | v::cs,h=>by
  simp only [eg,Bool.and_eq_true] at h
  simp only [ot]
  rw [NK ht v h.1,sP ht cs h.2]
end
mutual
theorem UZ {t:Nat} {c:SD} : ∀ v:SV,qd v=true→vr t c v=v
 | .junk,_=>rfl
 | .d _,_=>rfl
 | .fe _,_=>rfl
 | .ptr _ _,_=>rfl
 | .row _,h=>by cases h
 | .re _ _ _,h=>by cases h
 | .vw _ _ _,h=>by cases h
 | .ag cs,h=>by simp only [vr]; rw [np cs h]
 | .tup cs,h=>by simp only [vr]; rw [np cs h]
 | .fn f ps qs,h=>by
  have h:(match cF ps with | true=>cF qs | false=>false)=true:=h
  split at h
  ·rename_i h1; simp only [vr]; rw [np ps h1,np qs h]
  ·cases h
theorem np {t:Nat} {c:SD} : ∀ cs:List SV,cF cs=true→ot t c cs=cs
 | [],_=>rfl
 | v::cs,h=>by
  simp only [cF] at h
  split at h
  ·rename_i h1
   simp only [ot]
   rw [UZ v h1,np cs h]
  ·cases h
end
theorem Tz {sc:List Nat} {s s':SS} {p:PS} {t:Nat} (hpr:mE s) (hs:g9 s p) (h:Qz t s=some s') : ∃ p',Le p p'∧g9 s' p'∧∀ W,dN sc W s s':=by
 unfold Qz at h
 split at h
 ·rename_i e k ty xs pins hb
  split at h
  ·rename_i ht
   injection h with h
   subst h
   have hpb:p.b t=some (.rw e k (xs.map (bK ty))):=(hs.bx t _ hb).1
   have hX:WL t s.bx ((t,none)::sQ t (.sl ty xs) s.bx):=by
    refine ⟨fun t' ht' e2 k2 ty2 xs2 pins2 h=>?_,fun t' ty2 cs2 h=>?_⟩
    ·rw [au,if_neg ht',lL,h]; rfl
    ·have : ¬ t' = t:=fun e=>by rw [e,hb] at h; cases h
     rw [au,if_neg this,lL,h]
     exact ⟨_,_,rfl⟩
   refine ⟨_,XN t hpb,⟨fun i=>?_,fun t' b h=>?_⟩,fun W=>⟨rfl,rfl,fun t' ht'=>?_,fun i _ hsf=>?_,fun t' _ ty2 cs2 h=>?_⟩⟩
   ·show bf _ (lkV (F6 t (.sl ty xs) s.sl) i) (frz t (xs.map (bK ty)) (p.t i))
    rw [Eg]
    exact (hs.sl i).frz hb hX
   ·have h:lkB ((t,none)::sQ t (.sl ty xs) s.bx) t' = some b:=h
    rw [au] at h
    split at h
    ·cases h
    ·rename_i hne
     rw [lL,zm] at h
     obtain ⟨b0,h1,rfl⟩:=h
     have h2:=hs.bx t' b0 h1
     show mH _ true (some (X8 t (.sl ty xs) b0)) (if t' = t then none else (p.b t').map (BP t (xs.map (bK ty))))
     rw [if_neg hne]
     cases b0 with
     | st ty2 cs =>
      obtain ⟨qs,h3,h4⟩:=h2
      rw [h3]
      refine ⟨_,rfl,by rw [la,ij]; exact h4.len,fun j c r k1 k2=>?_⟩
      rw [nq,zm] at k1
      obtain ⟨c',k3,rfl⟩:=k1
      obtain ⟨q',k4,rfl⟩:=ik _ _ qs j r k2
      exact (h4.rep j c' q' k3 k4).frz hb hX
     | rw e2 k2 ty2 xs2 pins2 =>
      obtain ⟨h3,h4⟩:=h2
      rw [h3]
      exact ⟨rfl,h4⟩
   ·show lc _ (lkB ((t,none)::sQ t (.sl ty xs) s.bx) t')
    rw [au,if_neg (fun e=>by rw [e,ht] at ht'; cases ht'),lL]
    obtain ⟨b',h1,h2⟩:=hpr t' ht'
    rw [h1]
    cases b' with
    | st ty2 cs=>simp only [Option.map_some,X8]; rw [np cs h2]; rfl
    | rw e2 k2 ty2 xs2 pins2=>exact ⟨pins2,rfl⟩
   ·show lkV (F6 t (.sl ty xs) s.sl) i = _
    rw [Eg]
    exact NK ht _ hsf
   ·show ∃ cs',lkB ((t,none)::sQ t (.sl ty xs) s.bx) t' = _∧_
    rw [au,if_neg (fun e=>by rw [e,hb] at h; cases h),lL,h]
    exact ⟨_,rfl,la _ _ cs2⟩
  ·injection h with h
   subst h
   exact ⟨p,.refl p,hs,fun W=>.refl W s⟩
 ·injection h with h
  subst h
  exact ⟨p,.refl p,hs,fun W=>.refl W s⟩
theorem X7 {sc:List Nat} {s s':SS} {p:PS} {t:Nat} (hpr:mE s) (hs:Sim s p) (h:Qz t s=some s') : ∃ p',Le p p'∧Sim s' p'∧(∀ W,dN sc W s s')∧s'.oc=s.oc:=by
 unfold Qz at h
 split at h
 ·rename_i e k ty xs pins hb
  split at h
  ·rename_i ht
   have h0:Qz t s=some s':=by unfold Qz; rw [hb]; simp only; rw [ht]; exact h
   injection h with h
   have hpb:p.b t=some (.rw e k (xs.map (bK ty))):=by have:=hs.bx t; rw [hb] at this; exact this.1
   obtain ⟨p2,k1,k2,k3⟩:=Tz (sc:=sc) hpr hs.w h0
   have hX:WL t s.bx ((t,none)::sQ t (.sl ty xs) s.bx):=by
    refine ⟨fun t' ht' e2 k2 ty2 xs2 pins2 h=>?_,fun t' ty2 cs2 h=>?_⟩
    ·rw [au,if_neg ht',lL,h]; rfl
    ·have : ¬ t' = t:=fun e=>by rw [e,hb] at h; cases h
     rw [au,if_neg this,lL,h]
     exact ⟨_,_,rfl⟩
   subst h
   refine ⟨_,XN t hpb,⟨fun i=>?_,fun t'=>?_⟩,k3,rfl⟩
   ·show bf _ (lkV (F6 t (.sl ty xs) s.sl) i) (frz t (xs.map (bK ty)) (p.t i))
    rw [Eg]
    exact (hs.sl i).frz hb hX
   ·show mH _ (aC s.oc t') (lkB ((t,none)::sQ t (.sl ty xs) s.bx) t') (if t' = t then none else (p.b t').map (BP t (xs.map (bK ty))))
    rw [au]
    by_cases hne:t' = t
    ·rw [if_pos hne,if_pos hne]; exact fun _=>rfl
    ·rw [if_neg hne,if_neg hne,lL]
     have h2:=hs.bx t'
     cases hl:lkB s.bx t' with
     | none=>rw [hl] at h2; exact fun ho=>by rw [h2 ho]; rfl
     | some b0 =>
      rw [hl] at h2
      cases b0 with
      | st ty2 cs =>
       obtain ⟨qs,h3,h4⟩:=h2
       rw [h3]
       refine ⟨_,rfl,by rw [la,ij]; exact h4.len,fun j c r k1 k2=>?_⟩
       rw [nq,zm] at k1
       obtain ⟨c',k3,rfl⟩:=k1
       obtain ⟨q',k4,rfl⟩:=ik _ _ qs j r k2
       exact (h4.rep j c' q' k3 k4).frz hb hX
      | rw e2 k2 ty2 xs2 pins2 =>
       obtain ⟨h3,h4⟩:=h2
       rw [h3]
       exact ⟨rfl,h4⟩
  ·injection h with h
   subst h
   exact ⟨p,.refl p,hs,fun W=>.refl W s,rfl⟩
 ·injection h with h
  subst h
  exact ⟨p,.refl p,hs,fun W=>.refl W s,rfl⟩
theorem yi {sc:List Nat} : ∀ {l:List Nat} {s s':SS} {p:PS},mE s→Sim s p→lO l s=some s'→∃ p',Le p p'∧Sim s' p'∧(∀ W,dN sc W s s')∧s'.oc=s.oc
 | [],s,s',p,_,hs,h=>by injection h with h; subst h; exact ⟨p,.refl p,hs,fun W=>.refl W s,rfl⟩
 | t::l,s,s',p,hpr,hs,h=>by
  simp only [lO] at h
  split at h
  ·rename_i s1 h1
   obtain ⟨p1,k1,k2,k3,k4⟩:=X7 (sc:=sc) hpr hs h1
   obtain ⟨p2,m1,m2,m3,m4⟩:=yi (sc:=sc) ((k3 []).prOk hpr) k2 h
   exact ⟨p2,k1.trans m1,m2,fun W=>(k3 W).trans (m3 W),m4.trans k4⟩
  ·cases h
theorem sR {sc:List Nat} : ∀ {l:List Nat} {s s':SS} {p:PS},mE s→g9 s p→lO l s=some s'→∃ p',Le p p'∧g9 s' p'∧∀ W,dN sc W s s'
 | [],s,s',p,_,hs,h=>by injection h with h; subst h; exact ⟨p,.refl p,hs,fun W=>.refl W s⟩
 | t::l,s,s',p,hpr,hs,h=>by
  simp only [lO] at h
  split at h
  ·rename_i s1 h1
   obtain ⟨p1,k1,k2,k3⟩:=Tz hpr hs h1
   obtain ⟨p2,k4,k5,k6⟩:=sR ((k3 []).prOk hpr) k2 h
   exact ⟨p2,k1.trans k4,k5,fun W=>(k3 W).trans (k6 W)⟩
  ·cases h
mutual
def fzp (t:Nat) (ds:List D) : PV→PV
 | .ptr t' o=>if t' = t then .fe (ds.drop o) else .ptr t' o
 | .ag cs=>.ag (F3 t ds cs)
 | .tup cs=>.tup (F3 t ds cs)
 | .fn f ps qs=>.fn f (F3 t ds ps) (F3 t ds qs)
 | p=>p
def F3 (t:Nat) (ds:List D) : List PV→List PV
 | []=>[]
 | c::cs=>fzp t ds c::F3 t ds cs
end
def F4 (t:Nat) (ds:List D) : Box→Box
 | .st ty cs=>.st ty (F3 t ds cs)
 | B=>B
def ab5 (t:Nat) (ds:List D) (p:PS) : PS:=⟨fun i=>fzp t ds (p.t i),fun i=>if i=t then none else (p.b i).map (F4 t ds)⟩
theorem jg (t:Nat) (ds:List D) : ∀ cs:List PV,(F3 t ds cs).length=cs.length
 | []=>rfl
 | c::cs=>by simp [F3,jg t ds cs]
theorem jh (t:Nat) (ds:List D) : ∀ (cs:List PV) (j:Nat) (c:PV),(F3 t ds cs)[j]? = some c→∃ d,cs[j]? = some d∧c=fzp t ds d
 | [],j,c,h=>by simp [F3] at h
 | d::cs,j,c,h=>by
  simp only [F3] at h
  cases j with
  | zero=>simp at h; exact ⟨d,rfl,h.symm⟩
  | succ j=>simp at h; simpa using jh t ds cs j c h
section
variable {ρ : Nat→Value} {b b':Nat→Option Box} {w:World} {F F0:Nat→Prop} {w0:WM}
theorem aJ.fzp {x:Value} {p:PV} {t:Nat} {ty:TypeId} {cs:List PV} {ds:List D} (hi:Inv w0 F0 ρ b w F) (hb:b t=some (.st ty cs)) (hl:ds.length=cs.length) (hc:∀ (j:Nat) d,ds[j]? = some d→∃ y,cs[j]? = some (.d y)∧nrm y=d) (hb':∀ i,b' i=if i=t then none else (b i).map (F4 t ds)) (h:aJ ρ b w F x p) :
  aJ ρ b' w (fun g=>F g∨blk (ρ t)=some g) x (Go.Proofs.YtmjkjaahbgikjaaGreat.fzp t ds p):=by
 have hF:∀ g,F g→(F g∨blk (ρ t)=some g):=fun g h=>.inl h
 induction h with
 | junk x=>exact .junk x
 | d x d h=>exact .d x d (h.mono hF (fun _ _=>rfl))
 | ag xs cs hl h1 hr ih =>
  refine .ag xs _ (by rw [jg]; exact hl) h1 (fun j x c h2 h3=>?_)
  obtain ⟨d,h4,rfl⟩:=jh t ds cs j c h3
  exact ih j x d h2 h4
 | tup xs cs hl hr ih =>
  refine .tup xs _ (by rw [jg]; exact hl) (fun j x c h2 h3=>?_)
  obtain ⟨d,h4,rfl⟩:=jh t ds cs j c h3
  exact ih j x d h2 h4
 | fn f xs ys ps qs hl hr hl2 hr2 ih ih2 =>
  refine .fn f xs ys _ _ (by rw [jg]; exact hl) (fun j x c h2 h3=>?_) (by rw [jg]; exact hl2) (fun j x c h2 h3=>?_)
  ·obtain ⟨d,h4,rfl⟩:=jh t ds ps j c h3
   exact ih j x d h2 h4
  ·obtain ⟨d,h4,rfl⟩:=jh t ds qs j c h3
   exact ih2 j x d h2 h4
 | row t' m A cc e' k' es' hb2 hn hcc hA hρ =>
  have:t'≠t:=fun e=>by rw [e,hb] at hb2; cases hb2
  exact .row t' m A cc e' k' es' (by rw [hb',if_neg this,hb2]; rfl) hn hcc hA hρ
 | re t' m i o a e' k' es' hb2 hn hi' hρ =>
  have:t'≠t:=fun e=>by rw [e,hb] at hb2; cases hb2
  exact .re t' m i o a e' k' es' (by rw [hb',if_neg this,hb2]; rfl) hn hi' hρ
 | vw t' m lo hi' A mm cc e' k' es' hb2 hn hl hh hm hρ=>
  have:t'≠t:=fun e=>by rw [e,hb] at hb2; cases hb2
  exact .vw t' m lo hi' A mm cc e' k' es' (by rw [hb',if_neg this,hb2]; rfl) hn hl hh hm hρ
 | fe a cs us hF' hcell hrep=>exact .fe a cs us (.inl hF') hcell (fun j d h=>(hrep j d h).mono hF (fun _ _=>rfl))
 | ptr t' off g ty' cs' hb2 hρ =>
  simp only [Go.Proofs.YtmjkjaahbgikjaaGreat.fzp]
  by_cases ht:t' = t
  ·subst ht
   rw [if_pos rfl]
   cases hi.box t' _ hb with
   | st _ _ g' xs hρ' hg hFg hh hlx h1 hr =>
    rw [hρ] at hρ'
    injection hρ' with e
    injection e with e
    injection e with e
    subst e
    have key:∀ (j:Nat) d,(ds.drop off)[j]? = some d→∃ u,w.cell? ⟨g,off + j,none⟩=some u∧ep w F u d:=fun j d hj=>by
     rw [List.getElem?_drop] at hj
     obtain ⟨y,k1,k2⟩:=hc _ d hj
     have hlt:off + j < xs.size:=by rw [hlx,← hl]; exact (zg.1 hj).1
     have k3:=hr (off + j) xs[off + j] _ (by simp [hlt]) k1
     refine ⟨xs[off + j],by rw [cell_of_row w g (off + j) xs ty (0,0) hh]; simp [hlt],?_⟩
     rw [← k2]
     exact k3.dd.nrm
    refine .fe _ _ (fun j=>(w.cell? ⟨g,off + j,none⟩).getD undef) (.inr (by rw [hρ]; rfl)) (fun j d hj=>?_) (fun j d hj=>?_)
    ·obtain ⟨u,k1,_⟩:=key j d hj
     rw [rT,k1]; rfl
    ·obtain ⟨u,k1,k2⟩:=key j d hj
     rw [k1]
     exact k2.mono hF (fun _ _=>rfl)
  ·rw [if_neg ht]
   exact .ptr t' off g ty' _ (by rw [hb',if_neg ht,hb2]; rfl) hρ
end
theorem Inv.reg_fzp {ρ : Nat→Value} {b b':Nat→Option Box} {w:World} {w0:WM} {F F0:Nat→Prop} {t:Nat} {ds:List D} (hi:Inv w0 F0 ρ b w F) (hb':∀ i,b' i=if i=t then none else (b i).map (F4 t ds)) : ∀ i q,w0.R i=some q→1000000≤i∧qp ρ b' i q:=by
 intro i q h
 obtain ⟨h1,h2⟩:=hi.reg i q h
 refine ⟨h1,?_⟩
 by_cases hit:i=t
 ·exact h2.less (.inl (by rw [hb',if_pos hit]))
 ·refine h2.mono (fun e=>by rw [hb',if_neg hit,e]; rfl) (fun ty cs e=>⟨⟨ty,_,by rw [hb',if_neg hit,e]; rfl⟩,rfl⟩) (fun e k es' he=>⟨e,es',by rw [hb',if_neg hit,he]; rfl,Nat.le_refl _,fun _=>rfl⟩)
theorem abq {p:PS} (t:Nat) {ty:TypeId} {cs:List PV} {ds:List D} (hb0:p.b t=some (.st ty cs)) (hl:ds.length=cs.length) (hc:∀ (j:Nat) d,ds[j]? = some d→∃ y,cs[j]? = some (.d y)∧nrm y=d) : Le p (ab5 t ds p):=by
 intro n w0 F0 a w ⟨h1,h2,ρ,F,hi,hev⟩
 have hb':∀ i,(ab5 t ds p).b i=if i=t then none else (p.b i).map (F4 t ds):=fun i=>rfl
 have hbt:=(hi.box t _ hb0)
 refine ⟨h1,h2,ρ,fun g=>F g∨blk (ρ t)=some g,⟨hi.ext,fun g hg=>.inl (hi.f0 g hg),?_,?_,fun t' B h=>?_,fun t1 t2 B1 B2 g k1 k2 hne=>?_,hi.reg_fzp hb'⟩,fun i=>(hev i).fzp hi hb0 hl hc hb'⟩
 ·rintro g (hg | hg)
  ·exact hi.flt g hg
  ·exact (hbt.lt hg).1
 ·rintro g (hg | hg)
  ·exact hi.fnew g hg
  ·exact .inr (hbt.lt hg).2.1
 ·rw [hb'] at h
  split at h
  ·cases h
  ·rename_i ht
   rw [zm] at h
   obtain ⟨B0,hB0,rfl⟩:=h
   have hnF:∀ g,blk (ρ t')=some g→¬ (F g∨blk (ρ t)=some g):=by
    rintro g hg (h | h)
    ·exact ((hi.box t' B0 hB0).lt hg).2.2 h
    ·exact hi.dist t' t B0 _ g hB0 hb0 ht hg h
   cases hi.box t' B0 hB0 with
   | st ty cs g xs hρ hg hF hh hl2 h1 hr =>
    refine .st ty _ g xs hρ hg (hnF g (by rw [hρ]; rfl)) hh (by rw [jg]; exact hl2) h1 (fun j x c k1 k2=>?_)
    obtain ⟨d,h4,rfl⟩:=jh t ds cs j c k2
    exact (hr j x d k1 h4).fzp hi hb0 hl hc hb'
   | rw e' k' es' xs hk0 ho hF hk hl hr hown=>exact .rw e' k' es' xs hk0 ho hnF hk hl (fun j x d k1 k2=>(hr j x d k1 k2).mono (fun g h=>.inl h) (fun _ _=>rfl)) hown
   | gn e' k' es' hρ=>exact .gn e' k' es' hρ
 ·rw [hb'] at k1 k2
  split at k1
  ·cases k1
  ·split at k2
   ·cases k2
   ·rw [zm] at k1 k2
    obtain ⟨B1',k1,_⟩:=k1
    obtain ⟨B2',k2,_⟩:=k2
    exact hi.dist t1 t2 B1' B2' g k1 k2 hne
def TA (t:Nat) (c:List SD) : aY→aY
 | .st ty cs=>.st ty (qg t c cs)
 | b=>b
theorem pz (t:Nat) (c:List SD) : ∀ (l:List (Nat×Option aY)) (i:Nat),lkB (sS t c l) i=(lkB l i).map (TA t c)
 | [],_=>rfl
 | (j,none)::l,i=>by simp only [sS,au,pz t c l i]; split <;> rfl
 | (j,some (.st ty cs))::l,i=>by simp only [sS,au,pz t c l i]; split <;> rfl
 | (j,some (.rw e k ty xs pins))::l,i=>by simp only [sS,au,pz t c l i]; split <;> rfl
theorem K4 (t:Nat) (c:List SD) : ∀ (l:List (Nat×SV)) (i:Nat),lkV (F7 t c l) i=yj t c (lkV l i)
 | [],_=>rfl
 | (j,v)::l,i=>by simp only [F7,cZ,K4 t c l i]; split <;> rfl
theorem iJ (t:Nat) (c:List SD) : ∀ (cs:List SV) (j:Nat),(qg t c cs)[j]? = (cs[j]?).map (yj t c)
 | [],j=>by simp [qg]
 | v::cs,0=>by simp [qg]
 | v::cs,j + 1=>by simpa [qg] using iJ t c cs j
theorem gc (t:Nat) (c:List SD) : ∀ cs:List SV,(qg t c cs).length=cs.length
 | []=>rfl
 | v::cs=>by simp [qg,gc t c cs]
structure acp (t:Nat) (B B':List (Nat×Option aY)) : Prop where
 rw:∀ t' e k ty xs pins,lkB B t' = some (.rw e k ty xs pins)→lkB B' t' = some (.rw e k ty xs pins)
 st:∀ t',t'≠t→∀ ty cs,lkB B t' = some (.st ty cs)→∃ ty' cs',lkB B' t' = some (.st ty' cs')
theorem bf.frp {B B':List (Nat×Option aY)} {t:Nat} {ds:List SD} (hn:∀ c∈ds,c≠.nl) (hB:acp t B B') {v:SV} {q:PV} (h:bf B v q) : bf B' (yj t ds v) (fzp t (ds.map SD.toD) q):=by
 induction h with
 | junk q=>exact .junk _
 | d c y h=>exact .d c y h
 | ag cs qs hl hr ih =>
  refine .ag _ _ (by rw [gc,jg]; exact hl) (fun j c r h1 h2=>?_)
  rw [iJ,zm] at h1
  obtain ⟨c',h3,rfl⟩:=h1
  obtain ⟨q',h4,rfl⟩:=jh _ _ qs j r h2
  exact ih j c' q' h3 h4
 | tup cs qs hl hr ih =>
  refine .tup _ _ (by rw [gc,jg]; exact hl) (fun j c r h1 h2=>?_)
  rw [iJ,zm] at h1
  obtain ⟨c',h3,rfl⟩:=h1
  obtain ⟨q',h4,rfl⟩:=jh _ _ qs j r h2
  exact ih j c' q' h3 h4
 | fn f ps qs ps' qs' hl hr hl2 hr2 ih ih2 =>
  refine .fn f _ _ _ _ (by rw [gc,jg]; exact hl) (fun j c r h1 h2=>?_) (by rw [gc,jg]; exact hl2) (fun j c r h1 h2=>?_)
  ·rw [iJ,zm] at h1
   obtain ⟨c',h3,rfl⟩:=h1
   obtain ⟨q',h4,rfl⟩:=jh _ _ ps' j r h2
   exact ih j c' q' h3 h4
  ·rw [iJ,zm] at h1
   obtain ⟨c',h3,rfl⟩:=h1
   obtain ⟨q',h4,rfl⟩:=jh _ _ qs' j r h2
   exact ih2 j c' q' h3 h4
 | ptr t' o ty2 cs hb =>
  simp only [yj,fzp,db]
  by_cases h:t' = t
  ·simp only [h,decide_true,if_true]
   exact .fe _ _ (by rw [List.map_drop]) (fun c hc=>hn c (List.mem_of_mem_drop hc))
  ·simp only [h,decide_false,if_false]
   obtain ⟨ty',cs',h1⟩:=hB.st t' h ty2 cs hb
   exact .ptr t' o ty' cs' h1
 | row t' n e2 k2 ty2 xs2 pins2 hb hn=>exact .row t' n e2 k2 ty2 xs2 pins2 (hB.rw t' _ _ _ _ _ hb) hn
 | re t' p o n i e2 k2 ty2 xs2 pins2 pin hb hn hp hi=>exact .re t' p o n i e2 k2 ty2 xs2 pins2 pin (hB.rw t' _ _ _ _ _ hb) hn hp hi
 | vw t' lo hi n e2 k2 ty2 xs2 pins2 hb hn=>exact .vw t' lo hi n e2 k2 ty2 xs2 pins2 (hB.rw t' _ _ _ _ _ hb) hn
 | fe cs ds h hn=>exact .fe cs ds h hn
theorem wu {cs cs':List SV} (hl:cs'.length=cs.length) (h:∀ (j:Nat) c,cs[j]? = some c→cs'[j]? = some c) : cs' = cs:=by
 apply List.ext_getElem?
 intro j
 cases hj:cs[j]? with
 | none=>rw [List.getElem?_eq_none_iff] at hj ⊢; omega
 | some c=>exact h j c hj
theorem Z8 {B:List (Nat×Option aY)} {t:Nat} {ds:List SD} (ht:lkB B t=none) {v:SV} {q:PV} (h:bf B v q) : yj t ds v=v:=by
 induction h with
 | ag cs qs hl hr ih =>
  simp only [yj]
  rw [wu (gc _ _ _) fun j c hj=>?_]
  rw [iJ,hj,Option.map_some,ih j c (qs[j]'(by rw [← hl]; exact (zg.1 hj).1)) hj (by simp)]
 | tup cs qs hl hr ih =>
  simp only [yj]
  rw [wu (gc _ _ _) fun j c hj=>?_]
  rw [iJ,hj,Option.map_some,ih j c (qs[j]'(by rw [← hl]; exact (zg.1 hj).1)) hj (by simp)]
 | fn f ps qs ps' qs' hl hr hl2 hr2 ih ih2 =>
  simp only [yj]
  rw [wu (cs:=ps) (gc _ _ _) fun j c hj=>?_,wu (cs:=qs) (gc _ _ _) fun j c hj=>?_]
  ·rw [iJ,hj,Option.map_some,ih2 j c (qs'[j]'(by rw [← hl2]; exact (zg.1 hj).1)) hj (by simp)]
  ·rw [iJ,hj,Option.map_some,ih j c (ps'[j]'(by rw [← hl]; exact (zg.1 hj).1)) hj (by simp)]
 | ptr t' o ty cs hb =>
  have : ¬ t' = t:=fun e=>by rw [e,ht] at hb; cases hb
  simp only [yj,db,this,decide_false]
 | _=>rfl
mutual
theorem U0 {t:Nat} {c:List SD} : ∀ v:SV,qd v=true→yj t c v=v
 | .junk,_=>rfl
 | .d _,_=>rfl
 | .fe _,_=>rfl
 | .ptr _ _,h=>by cases h
 | .row _,h=>by cases h
 | .re _ _ _,h=>by cases h
 | .vw _ _ _,h=>by cases h
 | .ag cs,h=>by simp only [yj]; rw [kM cs h]
 | .tup cs,h=>by simp only [yj]; rw [kM cs h]
 | .fn f ps qs,h=>by
  have h:(match cF ps with | true=>cF qs | false=>false)=true:=h
  split at h
  ·rename_i h1; simp only [yj]; rw [kM ps h1,kM qs h]
  ·cases h
theorem kM {t:Nat} {c:List SD} : ∀ cs:List SV,cF cs=true→qg t c cs=cs
 | [],_=>rfl
 | v::cs,h=>by
  simp only [cF] at h
  split at h
  ·rename_i h1
   simp only [qg]
   rw [U0 v h1,kM cs h]
  ·cases h
end
theorem Jh:∀ {ds:List SD},abn ds=true→∀ c∈ds,c≠.nl
 | [],_,c,h=>by cases h
 | d::ds,h,c,hc=>by
  rcases List.mem_cons.1 hc with rfl | hc'
  ·intro e; subst e; cases h
  ·cases d with
   | nl=>cases h
   | _=>exact Jh (ds:=ds) h c hc'
theorem E2:∀ {cs:List SV} {ds:List SD},uD cs=some ds→cs.length=ds.length∧∀ (j:Nat) d,ds[j]? = some d→cs[j]? = some (.d d)
 | [],ds,h=>by injection h with h; subst h; exact ⟨rfl,fun j d hj=>by simp at hj⟩
 | v::cs,ds,h=>by
  simp only [uD] at h
  split at h
  ·rename_i c l hc hl
   injection h with h
   subst h
   obtain ⟨h1,h2⟩:=E2 hl
   refine ⟨by simp [h1],fun j d hj=>?_⟩
   cases j with
   | zero =>
    simp at hj
    subst hj
    cases v <;> simp [abe] at hc
    subst hc
    rfl
   | succ j=>simp at hj; simpa using h2 j d hj
  ·cases h
theorem abt {sc W:List Nat} {s0 s s':SS} {p0 p:PS} {t:Nat} (hpr:mE s) (h0:g9 s0 p0) (hnew:lkB s0.bx t=none) (hk:dN sc W s0 s) (hs:g9 s p) (h:fbX sc t s=some s') : ∃ p',Le p p'∧g9 s' p'∧dN sc W s0 s'∧mE s':=by
 unfold fbX at h
 split at h
 ·rename_i ty cs hb
  split at h
  ·rename_i ds hds
   obtain ⟨h1,h2⟩:=aq h
   injection h2 with h2
   subst h2
   rw [Bool.and_eq_true,Bool.and_eq_true] at h1
   obtain ⟨h1,h3,h4⟩:=h1
   have h3:aC s.pr t=false:=by simpa using h3
   have h4:aC sc t=false:=by simpa using h4
   have hnl:=Jh h1
   obtain ⟨hlen,hget⟩:=E2 hds
   obtain ⟨qs,hq,hqs⟩:=hs.bx t _ hb
   have hc:∀ (j:Nat) d,(ds.map SD.toD)[j]? = some d→∃ y,qs[j]? = some (.d y)∧nrm y=d:=fun j d hj=>by
    rw [List.getElem?_map,zm] at hj
    obtain ⟨c,hc,rfl⟩:=hj
    have hc2:=hget j c hc
    have hlt:j < qs.length:=by rw [← hqs.len]; exact (zg.1 hc2).1
    have:=hqs.rep j _ qs[j] hc2 (by simp)
    rw [zq hlt]
    revert this
    generalize qs[j] = q
    intro this
    cases this with
    | d _ y hd=>exact ⟨y,rfl,hd.nrm⟩
   have hl:(ds.map SD.toD).length=qs.length:=by rw [List.length_map,← hlen,hqs.len]
   have hX:acp t s.bx ((t,none)::sS t ds s.bx):=by
    refine ⟨fun t' e k ty2 xs pins h=>?_,fun t' ht' ty2 cs2 h=>?_⟩
    ·have : ¬ t' = t:=fun e=>by rw [e,hb] at h; cases h
     rw [au,if_neg this,pz,h]; rfl
    ·rw [au,if_neg ht',pz,h]; exact ⟨_,_,rfl⟩
   have hkp:dN sc W s0 ⟨F7 t ds s.sl,(t,none)::sS t ds s.bx,s.pr,s.ro,s.oc⟩:=by
    refine ⟨hk.pr,hk.ro,fun t' ht'=>?_,fun i hi hsf=>?_,fun t' ht' ty2 cs2 h=>?_⟩
    ·have hpt:aC s.pr t' = true:=by rw [hk.pr]; exact ht'
     refine (hk.bx t' ht').trans ?_
     show lc _ (lkB ((t,none)::sS t ds s.bx) t')
     rw [au,if_neg (fun e=>by rw [e,h3] at hpt; cases hpt),pz]
     obtain ⟨b',k1,k2⟩:=hpr t' hpt
     rw [k1]
     cases b' with
     | st ty2 cs=>simp only [Option.map_some,TA]; rw [kM cs k2]; rfl
     | rw e2 k2 ty2 xs2 pins2=>exact ⟨pins2,rfl⟩
    ·show lkV (F7 t ds s.sl) i = _
     rw [K4,hk.sl i hi hsf]
     exact Z8 hnew (h0.sl i)
    ·obtain ⟨cs',k1,k2⟩:=hk.st t' ht' ty2 cs2 h
     show ∃ cs',lkB ((t,none)::sS t ds s.bx) t' = _∧_
     rw [au,if_neg (fun e=>by rw [e,h4] at ht'; cases ht'),pz,k1]
     exact ⟨_,rfl,by rw [gc]; exact k2⟩
   refine ⟨_,abq t hq hl hc,⟨fun i=>?_,fun t' b h=>?_⟩,hkp,fun t' ht'=>?_⟩
   ·show bf _ (lkV (F7 t ds s.sl) i) (fzp t (ds.map SD.toD) (p.t i))
    rw [K4]
    exact (hs.sl i).frp hnl hX
   ·have h:lkB ((t,none)::sS t ds s.bx) t' = some b:=h
    rw [au] at h
    split at h
    ·cases h
    ·rename_i hne
     rw [pz,zm] at h
     obtain ⟨b0,h1,rfl⟩:=h
     have h2:=hs.bx t' b0 h1
     show mH _ true (some (TA t ds b0)) (if t' = t then none else (p.b t').map (F4 t (ds.map SD.toD)))
     rw [if_neg hne]
     cases b0 with
     | st ty2 cs =>
      obtain ⟨qs,h3,h4⟩:=h2
      rw [h3]
      refine ⟨_,rfl,by rw [gc,jg]; exact h4.len,fun j c r k1 k2=>?_⟩
      rw [iJ,zm] at k1
      obtain ⟨c',k3,rfl⟩:=k1
      obtain ⟨q',k4,rfl⟩:=jh _ _ qs j r k2
      exact (h4.rep j c' q' k3 k4).frp hnl hX
     | rw e2 k2 ty2 xs2 pins2 =>
      obtain ⟨h3,h4⟩:=h2
      rw [h3]
      exact ⟨rfl,h4⟩
   ·obtain ⟨b',k1,k2⟩:=hpr t' ht'
    show ∃ b,lkB ((t,none)::sS t ds s.bx) t' = some b∧_
    rw [au,if_neg (fun e=>by rw [e,h3] at ht'; cases ht'),pz,k1]
    refine ⟨_,rfl,?_⟩
    cases b' with
    | st ty2 cs=>simp only [TA]; rw [kM cs k2]; exact k2
    | rw e2 k2 ty2 xs2 pins2=>rfl
  ·cases h
 ·cases h
theorem NU {sc W:List Nat} {s0:SS} {p0:PS} (h0:g9 s0 p0) : ∀ {l:List Nat} {s s':SS} {p:PS},mE s→TJ s0 l=true→dN sc W s0 s→g9 s p→JE sc l s=some s'→∃ p',Le p p'∧g9 s' p'∧dN sc W s0 s'
 | [],s,s',p,_,_,hk,hs,h=>by injection h with h; subst h; exact ⟨p,.refl p,hs,hk⟩
 | t::l,s,s',p,hpr,hn,hk,hs,h=>by
  simp only [JE] at h
  simp only [TJ] at hn
  split at hn
  ·rename_i hnew
   split at h
   ·rename_i s1 h1
    obtain ⟨p1,k1,k2,k3,k4⟩:=abt hpr h0 hnew hk hs h1
    obtain ⟨p2,m1,m2,m3⟩:=NU h0 k4 hn k3 k2 h
    exact ⟨p2,k1.trans m1,m2,m3⟩
   ·cases h
  ·cases hn
end
section
theorem EN {m:Nat} {ops:Array Oper} (h:MP m ops=true) {i k:Nat} (hi:i < ops.size) (hm : ¬ i < m) (hk:k < i) : zx ops 4 i k=true:=by
 unfold MP at h
 rw [List.all_eq_true] at h
 have h:=h i (List.mem_range.2 hi)
 simp only [Bool.or_eq_true,decide_eq_true_eq,List.all_eq_true] at h
 exact (h.resolve_left hm) k (List.mem_range.2 hk)
section
variable {P:Program} {w0:WM} {F0:Nat→Prop} {n:Nat} {ops:Array Oper} {Q:Exit→Act→World→Prop}
def Vx (P:Program) (ops:Array Oper) : List Nat→PS→(PS→Prop)→Prop
 | [],s,K=>K s
 | i::l,s,K=>∃ s1,Le s s1∧∃ o r u,ops[i]? = some o∧Eff P ops o s1 r u∧Vx P ops l (s1.updL o.dst r u) K
theorem T3 {bd:Nat→Bd} {mT:Nat} {Qs:Exit→PS→Prop} (hQ:∀ e s a w,Qs e s→oH n w0 F0 s a w→Q e a w) (hB:GA bd n ops=true) (hT:MP mT ops=true) : ∀ (m:Nat) (l lt:List Nat) (listed:Array Bool) (s:PS) (a:Act) (w:World),(l++lt).length=m→(l++lt).Pairwise (· < ·)→(∀ j∈l,j < mT)→(∀ j∈lt,¬ j < mT)→(∀ j,j∈l++lt↔(j < ops.size∧listed.getD j true=false))→listed.size=ops.size→SH ops listed →
  G3 P ops bd l s (fun s'=>Vx P ops lt s' (Qs .normal))→oH n w0 F0 s a w→wpAny P .any ops Q m listed a w
 | 0,l,lt,listed,s,a,w,hl,_,_,_,hm,hls,_,h,hc=>by
  have h0:l++lt = []:=List.eq_nil_of_length_eq_zero hl
  obtain ⟨rfl,rfl⟩:=List.append_eq_nil_iff.1 h0
  refine ⟨?_,hQ _ s a w h hc⟩
  rw [List.eq_nil_iff_forall_not_mem]
  intro j hj
  obtain ⟨h1,o,h2,_⟩:=mem_ready.1 hj
  have:=(hm j).2 ⟨(Array.getElem?_eq_some_iff.1 h2).1,h1⟩
  simp at this
 | m + 1,l,lt,listed,s,a,w,hl,hs,hlm,hltm,hm,hls,hcl,h,hc=>by
  have notdone:∀ {k:Nat},k∈l++lt→listed.getD k false=false:=fun {k} hk=>by
   have h1:=(hm k).1 hk
   have hsz:k < listed.size:=by rw [hls]; exact h1.1
   have h2:=h1.2
   simp [hsz] at h2 ⊢
   exact h2
  refine ⟨fun h0=>?_,fun i hi=>?_⟩
  ·exfalso
   cases hll:l++lt with
   | nil=>rw [hll] at hl; simp at hl
   | cons k ls =>
    have hk:=(hm k).1 (by rw [hll]; simp)
    have hok:ops[k]? = some ops[k]:=Array.getElem?_eq_getElem hk.1
    have:k∈Region.ready .any ops listed:=by
     refine mem_ready.2 ⟨hk.2,_,hok,fun e he hb=>?_⟩
     have hlt:=(nu hB hok).2.1 e he hb
     cases hx:listed.getD e.on false with
     | true=>rfl
     | false =>
      exfalso
      have hsz:e.on < listed.size:=by rw [hls]; omega
      have h2:listed.getD e.on true=false:=by
       simp [hsz] at hx ⊢; exact hx
      have h3:=(hm e.on).2 ⟨by omega,h2⟩
      rw [hll] at h3 hs
      rcases List.mem_cons.1 h3 with h | h
      ·omega
      ·have:=(List.pairwise_cons.1 hs).1 _ h
       omega
    rw [h0] at this
    cases this
  ·obtain ⟨hun,oi,hoi,hall⟩:=mem_ready.1 hi
   have hisz:=(Array.getElem?_eq_some_iff.1 hoi).1
   have hin:i∈l++lt:=(hm i).2 ⟨hisz,hun⟩
   have hready:∀ k,k∈l++lt→zx ops 4 i k=true→False:=fun k hk hh=>by
    have h1:=yh hcl 4 i k hh (fun o' ho' e he hb=>by rw [hoi] at ho'; cases ho'; exact hall e he hb)
    rw [notdone hk] at h1
    cases h1
   have key:∃ l' lt' s1 r u,Le s s1∧Eff P ops oi s1 r u∧G3 P ops bd l' (s1.updL oi.dst r u) (fun s'=>Vx P ops lt' s' (Qs .normal))∧(l' ++ lt').length=m∧(l' ++ lt').Pairwise (· < ·)∧(∀ j∈l',j < mT)∧(∀ j∈lt',¬ j < mT)∧(∀ j,j∈l' ++ lt'↔(j∈l++lt∧j≠i)):=by
    by_cases him:i < mT
    ·have hil:i∈l:=by
      rcases List.mem_append.1 hin with h | h
      ·exact h
      ·exact absurd him (hltm i h)
     obtain ⟨l1,l2,rfl⟩:=List.append_of_mem hil
     have hpw0:=List.pairwise_append.1 hs
     have hpw:=List.pairwise_append.1 hpw0.1
     have hfront:=xZ (P:=P) (bd:=bd) (K:=fun s'=>Vx P ops lt s' (Qs .normal)) hoi l1 l2 s (fun k hk ok hok=>by
      have hlt:k < i:=hpw.2.2 k hk i (by simp)
      rcases (nu hB hoi).2.2 k ok hlt hok with hh | h
      ·exact (hready k (by simp [hk]) hh).elim
      ·exact h) h
     obtain ⟨o',r,u,ho',h1,_,h2⟩:=hfront
     rw [hoi] at ho'
     injection ho' with ho'
     subst ho'
     have hc3:=List.pairwise_cons.1 hpw.2.1
     have hne:∀ x,x∈l1++l2→x≠i:=fun x hx e=>by
      subst e
      rcases List.mem_append.1 hx with h | h
      ·have:=hpw.2.2 x h x (by simp); omega
      ·have:=hc3.1 x h; omega
     refine ⟨l1++l2,lt,s,r,u,.refl s,h1,h2,by simp at hl ⊢; omega,?_,fun j hj=>hlm j (by rcases List.mem_append.1 hj with h | h <;> simp [h]),hltm,fun j=>?_⟩
     ·refine List.pairwise_append.2 ⟨List.pairwise_append.2 ⟨hpw.1,hc3.2,fun x hx y hy=>hpw.2.2 x hx y (by simp [hy])⟩,hpw0.2.1,fun x hx y hy=>hpw0.2.2 x (by rcases List.mem_append.1 hx with h | h <;> simp [h]) y hy⟩
     ·refine ⟨fun hj=>?_,fun ⟨hj,hji⟩=>?_⟩
      ·rcases List.mem_append.1 hj with hj2 | hj2
       ·exact ⟨by rcases List.mem_append.1 hj2 with h | h <;> simp [h],hne j hj2⟩
       ·exact ⟨by simp [hj2],fun e=>by subst e; exact hltm j hj2 him⟩
      ·rcases List.mem_append.1 hj with h | h
       ·rcases List.mem_append.1 h with h | h
        ·simp [h]
        ·rcases List.mem_cons.1 h with h | h
         ·exact absurd h hji
         ·simp [h]
       ·simp [h]
    ·have hnil:l = []:=by
      cases l with
      | nil=>rfl
      | cons k l =>
       exfalso
       have hk:=hlm k (by simp)
       exact hready k (by simp) (EN hT hisz him (by omega))
     subst hnil
     cases lt with
     | nil=>simp at hin
     | cons k lt =>
      have hki:k=i:=by
       rcases List.mem_cons.1 hin with h | h
       ·exact h.symm
       ·exfalso
        have hlt:=(List.pairwise_cons.1 hs).1 i h
        exact hready k (by simp) (EN hT hisz him hlt)
      subst hki
      obtain ⟨s1,hle,o',r,u,ho',h1,h2⟩:=h
      rw [hoi] at ho'
      injection ho' with ho'
      subst ho'
      have hc3:=List.pairwise_cons.1 hs
      refine ⟨[],lt,s1,r,u,hle,h1,h2,by simp at hl ⊢; omega,hc3.2,fun j hj=>(by cases hj),fun j hj=>hltm j (by simp [hj]),fun j=>?_⟩
      refine ⟨fun hj=>⟨by simp at hj; simp [hj],fun e=>by
       subst e
       have:=hc3.1 j (by simpa using hj)
       omega⟩,fun ⟨hj,hji⟩=>?_⟩
      rcases List.mem_cons.1 hj with h | h
      ·exact absurd h hji
      ·simpa using h
   obtain ⟨l',lt',s1,r,u,hle,h1,h2,k1,k2,k3,k4,k5⟩:=key
   have hc1:=hle n w0 F0 a w hc
   have hstep:=Xq (f:=0) (Q:=Q) (K:=wpAny P .any ops Q m (listed.setIfInBounds i true)) hc1 h1 (nu hB hoi).1 (fun a' w' hc'=>by
    have hmono:∀ j,listed.getD j false=true→(listed.setIfInBounds i true).getD j false=true:=fun j hj=>by
     by_cases hji:j=i
     ·subst hji
      have hsz:j < listed.size:=by rw [hls]; exact hisz
      simp [hsz]
     ·rw [getD_set_ne false (Ne.symm hji)]; exact hj
    refine T3 hQ hB hT m l' lt' _ _ a' w' k1 k2 k3 k4 (fun j=>?_) (by simpa using hls) (fun j hj o ho e he hb=>?_) h2 hc'
    ·by_cases hji:j=i
     ·subst hji
      have hsz:j < listed.size:=by rw [hls]; exact hisz
      refine ⟨fun hmem=>absurd rfl ((k5 j).1 hmem).2,fun ⟨_,hx⟩=>?_⟩
      simp [hsz] at hx
     ·rw [getD_set_ne true (Ne.symm hji),k5 j,hm j]
      simp [hji]
    ·by_cases hji:j=i
     ·subst hji
      rw [hoi] at ho
      cases ho
      exact hmono _ (hall e he hb)
     ·rw [getD_set_ne false (Ne.symm hji)] at hj
      exact hmono _ (hcl j hj o ho e he hb))
   unfold wpOp
   rw [hoi]
   simp only
   split
   ·rename_i hw
    rw [if_pos hw] at hstep
    exact .inl hstep
   ·rename_i hw
    rw [if_neg hw] at hstep
    exact hstep
theorem Uw (bd:Nat→Bd) {Qs:Exit→PS→Prop} {s:PS} {id:Nat} {l:List Oper} (mT:Nat) (hmT:mT≤l.length) (hm:P.follows .mixedOrders=true) (hB:GA bd n l.toArray=true) (hT:MP mT l.toArray=true) (h:G3 P l.toArray bd (List.range' 0 mT) s (fun s'=>Vx P l.toArray (List.range' mT (l.length - mT)) s' (Qs .normal))) : PWP P n (.region id l.toArray true) Qs s:=by
 intro w0 F0 a w hc
 refine wp_region_any hm ?_
 have hr:List.range' 0 mT++List.range' mT (l.length - mT)=List.range' 0 l.length:=by
  have:=List.range'_append (s:=0) (m:=mT) (n:=l.length - mT) (step:=1)
  simp only [Nat.one_mul,Nat.zero_add] at this
  rw [this]
  congr 1
  omega
 refine T3 (Qs:=Qs) (mT:=mT) (fun _ s' _ _ h1 h2=>⟨s',h1,h2⟩) hB hT l.toArray.size (List.range' 0 mT) (List.range' mT (l.length - mT)) _ s a _ (by rw [hr]; simp) (by rw [hr]; exact List.pairwise_lt_range') (fun j hj=>by simp [List.mem_range'_1] at hj; exact hj) (fun j hj=>by simp [List.mem_range'_1] at hj; omega) (fun j=>?_) (by simp) (fun j hj=>by exfalso; simp only [Array.getD_eq_getD_getElem?,Array.getElem?_replicate] at hj; split at hj <;> cases hj) h (hc.drew _)
 rw [hr]
 simp only [List.mem_range'_1,Nat.zero_le,true_and,Nat.zero_add,List.size_toArray]
 refine ⟨fun h=>⟨h,by simp [h]⟩,fun h=>h.1⟩
end
end
section
variable {B B':List (Nat×Option aY)} {s:SS} {p:PS} {P:Program} {ρ : Type}
theorem sC (ks:List Nat) : ∀ (cs:List SV) (j:Nat),(uN ks cs)[j]? = (cs[j]?).map (stV ks)
 | [],j=>by simp [uN]
 | c::cs,0=>by simp [uN]
 | c::cs,j + 1=>by simpa [uN] using sC ks cs j
theorem p6 (ks:List Nat) : ∀ cs:List SV,(uN ks cs).length=cs.length
 | []=>rfl
 | c::cs=>by simp [uN,p6 ks cs]
theorem Qj (ks:List Nat) : ∀ (l:List (Nat×SV)) (i:Nat),lkV (Ug ks l) i=stV ks (lkV l i)
 | [],_=>rfl
 | (j,v)::l,i=>by simp only [Ug,cZ,Qj ks l i]; split <;> rfl
def abO (ks:List Nat) : aY→aY
 | .st ty cs=>.st ty (uN ks cs)
 | b=>b
theorem vn (ks:List Nat) : ∀ (l:List (Nat×Option aY)) (i:Nat),lkB (xO ks l) i=(lkB l i).map (abO ks)
 | [],_=>rfl
 | (j,none)::l,i=>by simp only [xO,au,vn ks l i]; split <;> rfl
 | (j,some (.st ty cs))::l,i=>by simp only [xO,au,vn ks l i]; split <;> rfl
 | (j,some (.rw e k ty xs pins))::l,i=>by simp only [xO,au,vn ks l i]; split <;> rfl
structure abJ (ks:List Nat) (B B':List (Nat×Option aY)) : Prop where
 rw:∀ t,aC ks t=false→∀ e k ty xs pins,lkB B t=some (.rw e k ty xs pins)→∃ e' k' ty' xs' pins',lkB B' t=some (.rw e' k' ty' xs' pins')∧xs'.length=xs.length∧∀ p pin,lkP pins p=some pin→∃ pin',lkP pins' p=some pin'∧pin'.i=pin.i
 st:∀ t ty cs,lkB B t=some (.st ty cs)→∃ ty' cs',lkB B' t=some (.st ty' cs')
theorem bf.st {ks:List Nat} {v:SV} {q:PV} (h:bf B v q) (hB:abJ ks B B') : bf B' (stV ks v) q:=by
 induction h with
 | junk q=>exact .junk q
 | d c y h=>exact .d c y h
 | ag cs qs hl hr ih =>
  refine .ag _ qs (by rw [p6]; exact hl) (fun j c q h1 h2=>?_)
  rw [sC,zm] at h1
  obtain ⟨c',h3,rfl⟩:=h1
  exact ih j c' q h3 h2
 | tup cs qs hl hr ih =>
  refine .tup _ qs (by rw [p6]; exact hl) (fun j c q h1 h2=>?_)
  rw [sC,zm] at h1
  obtain ⟨c',h3,rfl⟩:=h1
  exact ih j c' q h3 h2
 | ptr t' o ty cs hb=>obtain ⟨ty',cs',h1⟩:=hB.st t' ty cs hb; exact .ptr t' o ty' cs' h1
 | row t' n e k ty xs pins hb hn =>
  simp only [stV]
  split
  ·exact .junk _
  ·rename_i h
   obtain ⟨e',k',ty',xs',pins',h1,h2,h3⟩:=hB.rw t' h e k ty xs pins hb
   exact .row t' n e' k' ty' xs' pins' h1 (h2.trans hn)
 | re t' p o n i e k ty xs pins pin hb hn hp hi =>
  simp only [stV]
  split
  ·exact .junk _
  ·rename_i h
   obtain ⟨e',k',ty',xs',pins',h1,h2,h3⟩:=hB.rw t' h e k ty xs pins hb
   obtain ⟨pin',h4,h5⟩:=h3 p pin hp
   exact .re t' p o n i e' k' ty' xs' pins' pin' h1 (h2.trans hn) h4 (by rw [h5]; exact hi)
 | vw t' lo hi n e k ty xs pins hb hn=>
  simp only [stV]
  split
  ·exact .junk _
  ·rename_i h
   obtain ⟨e',k',ty',xs',pins',h1,h2,h3⟩:=hB.rw t' h e k ty xs pins hb
   exact .vw t' lo hi n e' k' ty' xs' pins' h1 (h2.trans hn)
 | fe cs ds h hn=>exact .fe cs ds h hn
 | fn f ps qs ps' qs' hl hr hl2 hr2 ih ih2 =>
  refine .fn f _ _ ps' qs' (by rw [p6]; exact hl) (fun j c q h1 h2=>?_) (by rw [p6]; exact hl2) (fun j c q h1 h2=>?_)
  ·rw [sC,zm] at h1
   obtain ⟨c',h3,rfl⟩:=h1
   exact ih j c' q h3 h2
  ·rw [sC,zm] at h1
   obtain ⟨c',h3,rfl⟩:=h1
   exact ih2 j c' q h3 h2
theorem ch.st {ks:List Nat} {cs:List SV} {qs:List PV} (h:ch B cs qs) (hB:abJ ks B B') : ch B' (uN ks cs) qs :=
 ⟨by rw [p6]; exact h.len,fun j c q h1 h2=>by
  rw [sC,zm] at h1
  obtain ⟨c',h3,rfl⟩:=h1
  exact (h.rep j c' q h3 h2).st hB⟩
mutual
theorem SU {pr ks:List Nat} (hk:∀ t,aC ks t=true→aC pr t=false) : ∀ v:SV,lD pr v=true→stV ks v=v
 | .junk,_=>rfl
 | .d _,_=>rfl
 | .fe _,_=>rfl
 | .ptr _ _,_=>rfl
 | .row t,h=>by
  have h:aC pr t=true:=h
  simp only [stV]
  split
  ·rename_i h1; rw [hk t h1] at h; cases h
  ·rfl
 | .re _ _ _,h=>by cases h
 | .vw _ _ _,h=>by cases h
 | .ag cs,h=>by simp only [stV]; rw [uW hk cs h]
 | .tup cs,h=>by simp only [stV]; rw [uW hk cs h]
 | .fn f ps qs,h=>by
  have h:(eg pr ps&&eg pr qs)=true:=h
  rw [Bool.and_eq_true] at h
  simp only [stV]; rw [uW hk ps h.1,uW hk qs h.2]
theorem uW {pr ks:List Nat} (hk:∀ t,aC ks t=true→aC pr t=false) : ∀ cs:List SV,eg pr cs=true→uN ks cs=cs
 | [],_=>rfl
 | c::cs,h=>by
  simp only [eg,Bool.and_eq_true] at h
  simp only [uN]
  rw [SU hk c h.1,uW hk cs h.2]
end
mutual
theorem WY {ks:List Nat} : ∀ v:SV,qd v=true→stV ks v=v
 | .junk,_=>rfl
 | .d _,_=>rfl
 | .fe _,_=>rfl
 | .ptr _ _,_=>rfl
 | .row _,h=>by cases h
 | .re _ _ _,h=>by cases h
 | .vw _ _ _,h=>by cases h
 | .ag cs,h=>by simp only [stV]; rw [pM cs h]
 | .tup cs,h=>by simp only [stV]; rw [pM cs h]
 | .fn f ps qs,h=>by
  have h:(match cF ps with | true=>cF qs | false=>false)=true:=h
  split at h
  ·rename_i h1; simp only [stV]; rw [pM ps h1,pM qs h]
  ·cases h
theorem pM {ks:List Nat} : ∀ cs:List SV,cF cs=true→uN ks cs=cs
 | [],_=>rfl
 | c::cs,h=>by
  simp only [cF] at h
  split at h
  ·rename_i h1
   simp only [uN]
   rw [WY c h1,pM cs h]
  ·cases h
end
inductive UAl (G:List Nat) (B':List (Nat×Option aY)) : List (Nat×Option aY)→BU→Prop
 | nil:UAl G B' [] []
 | cons (t:Nat) (sb:Option aY) (b:Box) (us:List (Nat×Option aY)) (u:BU) (h1:∀ x,sb=some x→mH B' true (some x) (some b)) (h2:sb=none→aC G t=true) (h:UAl G B' us u) : UAl G B' ((t,sb)::us) ((t,b)::u)
variable {G:List Nat}
theorem UAl.app {us us':List (Nat×Option aY)} {u u':BU} (h:UAl G B' us u) (h':UAl G B' us' u') : UAl G B' (us++us') (u++u'):=by
 induction h with
 | nil=>exact h'
 | cons t sb b us u h1 h2 h ih=>exact .cons t sb b _ _ h1 h2 ih
theorem fp:∀ {us:List (Nat×Option aY)} {t:Nat},t∈idU us↔∃ sb,(t,sb)∈us
 | [],t=>by simp [idU]
 | (i,b)::us,t=>by
  simp only [idU,List.mem_cons,Prod.mk.injEq]
  constructor
  ·rintro (rfl | h)
   ·exact ⟨b,.inl ⟨rfl,rfl⟩⟩
   ·obtain ⟨sb,h⟩:=fp.1 h; exact ⟨sb,.inr h⟩
  ·rintro ⟨sb,⟨rfl,_⟩ | h⟩
   ·exact .inl rfl
   ·exact .inr (fp.2 ⟨sb,h⟩)
theorem WW {us:List (Nat×Option aY)} {u:BU} (h:UAl G B' us u) (l:List (Nat×Option aY)) (t:Nat) :
  (t∈idU us∧∃ sb b,lkB (us++l) t=sb∧lkU u t=some b∧(∀ x,sb=some x→mH B' true (some x) (some b))∧(sb=none→aC G t=true))∨(t ∉ idU us∧lkB (us++l) t=lkB l t∧lkU u t=none):=by
 induction h with
 | nil=>exact .inr ⟨by simp [idU],rfl,rfl⟩
 | cons i sb b us u h1 h2 h ih =>
  by_cases hi:t=i
  ·subst hi
   refine .inl ⟨by simp [idU],sb,b,?_,?_,h1,h2⟩
   ·rw [List.cons_append,au,if_pos rfl]
   ·simp [lkU]
  ·rcases ih with ⟨m1,sb',b',m2,m3,m4⟩ | ⟨m1,m2,m3⟩
   ·refine .inl ⟨by simp [idU,m1],sb',b',?_,?_,m4⟩
    ·rw [List.cons_append,au,if_neg hi]; exact m2
    ·simp only [lkU,if_neg hi]; exact m3
   ·refine .inr ⟨by simp [idU,m1,hi],?_,?_⟩
    ·rw [List.cons_append,au,if_neg hi]; exact m2
    ·simp only [lkU,if_neg hi]; exact m3
theorem dY:∀ {l:List Nat} {i:Nat},aC l i=true↔i∈l
 | [],i=>by simp [aC]
 | j::l,i=>by
  simp only [aC,db,List.mem_cons]
  by_cases h:i=j
  ·simp [h]
  ·simp only [h,decide_false,false_or]; exact dY
theorem zn {l:List Nat} {i:Nat} : aC l i=false↔i ∉ l:=by rw [← dY]; simp
theorem je:∀ {l:List Nat},tP l=true→l.Nodup
 | [],_=>List.nodup_nil
 | a::l,h=>by
  simp only [tP] at h
  split at h
  ·cases h
  ·rename_i h1
   exact List.nodup_cons.2 ⟨zn.1 h1,je h⟩
theorem sA:∀ {l m:List Nat},PM l m=true→∀ x∈l,x∈m
 | [],_,_,x,hx=>by cases hx
 | a::l,m,h,x,hx=>by
  simp only [PM] at h
  split at h
  ·rename_i h1
   rcases List.mem_cons.1 hx with rfl | hx
   ·exact dY.1 h1
   ·exact sA h x hx
  ·cases h
theorem Fj:∀ {l:List Nat},Tf s l=true→∀ i∈l,aC s.pr i=false
 | [],_,i,hi=>by cases hi
 | a::l,h,i,hi=>by
  simp only [Tf] at h
  split at h
  ·cases h
  ·rename_i h1
   rcases List.mem_cons.1 hi with rfl | hi
   ·exact h1
   ·exact Fj h i hi
theorem Fk:∀ {l:List Nat},Tg s l=true→∀ i∈l,K1 s i=true∧lkB s.bx i=none∧i < 1000000
 | [],_,i,hi=>by cases hi
 | a::l,h,i,hi=>by
  simp only [Tg] at h
  split at h
  ·rename_i h1 h2 h3
   rcases List.mem_cons.1 hi with rfl | hi
   ·exact ⟨h1,h2,Nat.le_of_ble_eq_true h3⟩
   ·exact Fk h i hi
  ·cases h
theorem Fl:∀ {us:List (Nat×Option aY)},Th s us=true→∀ t sb,(t,sb)∈us→∀ ty cs,lkB s.bx t=some (.st ty cs)→∃ cs',sb=some (.st ty cs')∧cs'.length=cs.length
 | [],_,t,sb,h,_,_,_=>by cases h
 | (i,b)::us,h,t,sb,hm,ty,cs,hl=>by
  simp only [Th,Bool.and_eq_true] at h
  rcases List.mem_cons.1 hm with e | hm
  ·injection e with e1 e2
   subst e1 e2
   have h1:=h.1
   rw [hl] at h1
   simp only at h1
   split at h1
   ·rename_i ty' cs'
    rw [Bool.and_eq_true,Nat.beq_eq] at h1
    have:=zd h1.1
    subst this
    exact ⟨cs',rfl,h1.2.symm⟩
   ·cases h1
  ·exact Fl h.2 t sb hm ty cs hl
mutual
theorem JW (b:Nat→Option Box) : ∀ q:PV,clean q=true→asData b q=rr q
 | .junk,_=>rfl
 | .d _,_=>rfl
 | .fe _,_=>rfl
 | .ptr _ _,h=>by cases h
 | .row _ _,h=>by cases h
 | .re _ _ _ _,h=>by cases h
 | .vw _ _ _ _,h=>by cases h
 | .ag cs,h=>by simp only [asData,rr]; rw [qo b cs h]
 | .tup cs,h=>by simp only [asData,rr]; rw [qo b cs h]
 | .fn f ps qs,h=>by
  have h:(cO ps&&cO qs)=true:=h
  rw [Bool.and_eq_true] at h
  simp only [asData,rr]; rw [qo b ps h.1,qo b qs h.2]
theorem qo (b:Nat→Option Box) : ∀ cs:List PV,cO cs=true→bR b cs=dQ cs
 | [],_=>rfl
 | c::cs,h=>by
  simp only [cO,Bool.and_eq_true] at h
  simp only [bR,dQ]; rw [JW b c h.1,qo b cs h.2]
end
theorem yx (hs:Sim s p) {rows:List (Nat×Nat×Nat×Nat×Ty)} : ∀ {cs:List SV} {qs:List PV} {ds:List SD} {j:Nat},ch s.bx cs qs→cellsOf s rows j cs=some ds →
  dQ qs=eh rows j (ds.map SD.toD)∧∀ t Bx,(t,Bx)∈cn rows j (ds.map SD.toD)→p.b t=some Bx
 | [],qs,ds,j,hv,h=>by
  rcases hv.cases with ⟨_,rfl⟩ | ⟨_,_,_,_,h1,_⟩
  ·injection h with h; subst h; exact ⟨rfl,fun _ _ h=>by cases h⟩
  ·cases h1
 | c::cs,qs,ds,j,hv,h=>by
  rcases hv.cases with ⟨h1,_⟩ | ⟨c',q,cs',qs',h1,rfl,h2,h3⟩
  ·cases h1
  ·injection h1 with e1 e2
   subst e1 e2
   simp only [cellsOf] at h
   split at h
   ·rename_i R e k t hf
    split at h
    ·rename_i R' e' k' t' xs pins hb
     split at h
     ·rename_i hty _
      obtain ⟨m1,h⟩:=aq h
      obtain ⟨m2,h⟩:=aq h
      obtain ⟨m3,h⟩:=aq h
      split at h
      ·rename_i r hr
       injection h with h
       subst h hty
       rw [Nat.beq_eq] at m1
       have m2:=zd m2
       have m3:=zd m3
       subst m1 m2 m3
       obtain ⟨k1,k2⟩:=yx hs h3 hr
       have hbx:=hs.bx R'
       rw [hb] at hbx
       cases h2 with
       | row _ n e2 k2' ty2 xs2 pins2 hb2 hn =>
        rw [hb] at hb2
        injection hb2 with hb2
        injection hb2 with q1 q2 q3 q4 q5
        subst q3
        have q4:=eq_of_heq q4
        subst q4
        refine ⟨?_,?_⟩
        ·simp only [dQ,rr,List.map_cons,eh,hf,SD.toD,k1]
         simp [zG,hn]
        ·intro t Bx hm
         simp only [List.map_cons,cn,hf,SD.toD,List.mem_cons,Prod.mk.injEq] at hm
         rcases hm with ⟨rfl,rfl⟩ | hm
         ·exact hbx.1
         ·exact k2 t Bx hm
      ·cases h
     ·cases h
    ·cases h
   ·rename_i hf
    split at h
    ·rename_i x r hr
     injection h with h
     subst h
     obtain ⟨k1,k2⟩:=yx hs h3 hr
     cases h2 with
     | d _ y hy =>
      refine ⟨?_,?_⟩
      ·simp only [dQ,rr,List.map_cons,eh,hf,k1,hy.nrm]
      ·intro t Bx hm
       simp only [List.map_cons,cn,hf] at hm
       exact k2 t Bx hm
    ·cases h
theorem CN:∀ {rows:List (Nat×Nat×Nat×Ty)} {cs:List SV} {is:List Nat},Ed rows cs=some is→is.length=rows.length
 | [],_,is,h=>by injection h with h; subst h; rfl
 | (j,e)::rows,cs,is,h=>by
  simp only [Ed] at h
  split at h
  ·rename_i R is' _ h1
   injection h with h
   subst h
   simp [CN h1]
  ·cases h
theorem GC (hs:Sim s p) {rows:List (Nat×Nat×Nat×Ty)} {n:Nat} {cs:List SV} {qs:List PV} {x:ST n} {is:List Nat} (hv:ch s.bx cs qs) (h:Oa s rows n cs=some (x,is)) :
  is.length=rows.length∧dQ qs=eh (mI rows is) 0 (stD n x)∧∀ t Bx,(t,Bx)∈cn (mI rows is) 0 (stD n x)→p.b t=some Bx:=by
 unfold Oa at h
 split at h
 ·rename_i is' hi
  split at h
  ·rename_i ds hd
   split at h
   ·rename_i x' hx
    injection h with h
    injection h with e1 e2
    subst e1 e2
    rw [← Bq hx]
    exact ⟨CN hi,yx hs hv hd⟩
   ·cases h
  ·cases h
 ·cases h
structure acl (p:PS) (pt:PT) (q:PV) (x:pt.den) (is:List Nat) : Prop where
 len:is.length=pt.nI
 v:rr q=(toI pt is x).1
 b:∀ t Bx,(t,Bx)∈(toI pt is x).2→∃ B',p.b t=some B'∧sJ B' = Bx
theorem B4 (hs:Sim s p) {e k:Nat} {t:Ty} {v:SV} {q:PV} {xs:List t.den} {is:List Nat} (hv:bf s.bx v q) (h:uf s e k t v=some (xs,is)) : ∃ i,is = [i]∧q = .row i xs.length∧p.b i=some (rwU e k t xs)∧∃ e' k' t' xs' pins,lkB s.bx i=some (.rw e' k' t' xs' pins)∧xs'.length=xs.length:=by
 unfold uf at h
 split at h
 ·rename_i i
  split at h
  ·rename_i e' k' t' xs' pins hb
   split at h
   ·rename_i hty _
    obtain ⟨m2,h⟩:=aq h
    obtain ⟨m3,h⟩:=aq h
    injection h with h
    injection h with e1 e2
    subst e1 e2 hty
    have m2:=zd m2
    have m3:=zd m3
    subst m2 m3
    have hbx:=hs.bx i
    rw [hb] at hbx
    cases hv with
    | row _ n e2 k2' ty2 xs2 pins2 hb2 hn =>
     rw [hb] at hb2
     injection hb2 with hb2
     injection hb2 with q1 q2 q3 q4 q5
     subst q3
     have q4:=eq_of_heq q4
     subst q4
     exact ⟨i,rfl,by rw [← hn]; rfl,hbx.1,_,_,_,_,_,hb,rfl⟩
   ·cases h
  ·cases h
 ·cases h
theorem aao (hs:Sim s p) {pt:PT} {v:SV} {q:PV} {x:pt.den} {is:List Nat} (hv:bf s.bx v q) (h:Oc s pt v=some (x,is)) : is = []∧rr q=p5 pt x:=by
 unfold Oc at h
 obtain ⟨h1,h⟩:=aq h
 split at h
 ·rename_i x' hx
  injection h with h
  injection h with e1 e2
  subst e1 e2
  obtain ⟨k1,k2⟩:=(Eo hs hv hx).2 h1
  exact ⟨rfl,by rw [← JW dZ q k1]; exact k2⟩
 ·cases h
theorem Ls (hs:Sim s p) : ∀ {pt:PT} {v:SV} {q:PV} {x:pt.den} {is:List Nat},bf s.bx v q→QR s pt v=some (x,is)→acl p pt q x is:=by
 intro pt v q x is hv h
 have plain:∀ {pt:PT} {x:pt.den},pt.nI=0→(toI pt [] x)=(p5 pt x,[])→Oc s pt v=some (x,is)→acl p pt q x is:=fun {pt x} h0 h1 h=>by
  obtain ⟨rfl,h2⟩:=aao hs hv h
  exact ⟨h0.symm,by rw [h1]; exact h2,by rw [h1]; exact fun _ _ h=>by cases h⟩
 have row:∀ {e k:Nat} {t:Ty} {xs:List t.den},uf s e k t v=some (xs,is)→is.length=1∧∃ i,is = [i]∧q = .row i xs.length∧p.b i=some (rwU e k t xs):=fun {e k t xs} h=>by
  obtain ⟨i,rfl,h1,h2,_⟩:=B4 hs hv h
  exact ⟨rfl,i,rfl,h1,h2⟩
 cases pt with
 | lf t=>exact plain rfl rfl h
 | ag i=>exact plain rfl rfl h
 | pl t=>exact plain rfl rfl h
 | ps i=>exact plain rfl rfl h
 | fn f a b=>exact plain rfl rfl h
 | io l=>exact dR (x:=(x,is)) h
 | own e k t =>
  obtain ⟨h1,i,rfl,h2,h3⟩:=row (xs:=x) h
  refine ⟨h1,by rw [h2]; rfl,fun t' Bx hm=>?_⟩
  simp only [toI,List.mem_cons,List.not_mem_nil,or_false,Prod.mk.injEq] at hm
  obtain ⟨rfl,rfl⟩:=hm
  exact ⟨_,h3,rfl⟩
 | mv e k t =>
  obtain ⟨h1,i,rfl,h2,h3⟩:=row (xs:=x) h
  refine ⟨h1,by rw [h2]; rfl,fun t' Bx hm=>?_⟩
  simp only [toI,List.mem_cons,List.not_mem_nil,or_false,Prod.mk.injEq] at hm
  obtain ⟨rfl,rfl⟩:=hm
  exact ⟨_,h3,rfl⟩
 | bx ty n rows =>
  replace h:Oh s ty n rows v=some (x,is):=h
  unfold Oh at h
  split at h
  ·rename_i i
   split at h
   ·rename_i ty' cs hb
    obtain ⟨m1,h⟩:=aq h
    have m1:=zd m1
    subst m1
    split at h
    ·rename_i x' is' hd
     injection h with h
     injection h with e1 e2
     subst e1 e2
     have hbx:=hs.bx i
     rw [hb] at hbx
     obtain ⟨qs,k1,k2⟩:=hbx
     obtain ⟨k3,k4,k5⟩:=GC hs k2 hd
     cases hv with
     | ptr _ _ _ _ _ =>
      refine ⟨by simp [k3,PT.nI],rfl,fun t' Bx hm=>?_⟩
      simp only [toI,List.mem_cons,Prod.mk.injEq] at hm
      rcases hm with ⟨rfl,rfl⟩ | hm
      ·exact ⟨_,k1,by rw [sJ,k4]⟩
      ·have:=k5 t' Bx hm
       refine ⟨Bx,this,?_⟩
       have:∀ {rows:List (Nat×Nat×Nat×Nat×Ty)} {ds:List D} {j:Nat},(t',Bx)∈cn rows j ds→sJ Bx=Bx:=by
        intro rows ds
        induction ds with
        | nil=>intro j h; cases h
        | cons d ds ih =>
         intro j h
         simp only [cn] at h
         split at h
         ·split at h
          ·rcases List.mem_cons.1 h with e | h
           ·injection e with _ e; subst e; rfl
           ·exact ih h
          ·exact ih h
         ·exact ih h
       exact this hm
    ·cases h
   ·cases h
  ·cases h
 | agr n rows =>
  replace h:QS s n rows v=some (x,is):=h
  unfold QS at h
  split at h
  ·rename_i cs
   obtain ⟨qs,rfl,hq⟩:=I0 hv
   obtain ⟨k3,k4,k5⟩:=GC hs hq h
   refine ⟨k3,by simp only [rr,toI,k4],fun t' Bx hm=>?_⟩
   have:=k5 t' Bx hm
   refine ⟨Bx,this,?_⟩
   have:∀ {rows:List (Nat×Nat×Nat×Nat×Ty)} {ds:List D} {j:Nat},(t',Bx)∈cn rows j ds→sJ Bx=Bx:=by
    intro rows ds
    induction ds with
    | nil=>intro j h; cases h
    | cons d ds ih =>
     intro j h
     simp only [cn] at h
     split at h
     ·split at h
      ·rcases List.mem_cons.1 h with e | h
       ·injection e with _ e; subst e; rfl
       ·exact ih h
      ·exact ih h
     ·exact ih h
   exact this hm
  ·cases h
theorem Od (hs:Sim s p) : ∀ {ps:List PT} {vs:List SV} {qs:List PV} {x:cg ps} {iss:List (List Nat)},ch s.bx vs qs→JU s ps vs=some (x,iss) →
  iV ps iss∧dQ qs=(dP ps iss x).1∧∀ t Bx,(t,Bx)∈(dP ps iss x).2→∃ B',p.b t=some B'∧sJ B' = Bx
 | [],[],qs,x,iss,hv,h=>by
  rcases hv.cases with ⟨_,rfl⟩ | ⟨_,_,_,_,h1,_⟩
  ·injection h with h
   injection h with _ h
   subst h
   exact ⟨trivial,rfl,fun _ _ h=>by cases h⟩
  ·cases h1
 | [],_ :: _,_,_,_,_,h=>by cases h
 | _ :: _,[],_,_,_,_,h=>by cases h
 | pt::ps,v::vs,qs,x,iss,hv,h=>by
  rcases hv.cases with ⟨h1,_⟩ | ⟨v',q,vs',qs',h1,rfl,h2,h3⟩
  ·cases h1
  ·injection h1 with e1 e2
   subst e1 e2
   simp only [JU] at h
   split at h
   ·rename_i y is ys iss' m1 m2
    injection h with h
    injection h with e1 e2
    subst e1 e2
    obtain ⟨k1,k2,k3⟩:=Ls hs h2 m1
    obtain ⟨k4,k5,k6⟩:=Od hs h3 m2
    refine ⟨⟨k1,k4⟩,by simp only [dQ,dP,k2,k5],fun t Bx hm=>?_⟩
    simp only [dP,List.mem_append] at hm
    rcases hm with hm | hm
    ·exact k3 t Bx hm
    ·exact k6 t Bx hm
   ·cases h
end
section
variable {B B':List (Nat×Option aY)} {s:SS} {p:PS} {P:Program} {ρ : Type} {G:List Nat} {sc:List Nat}
def w6 (B':List (Nat×Option aY)) (bx:List (Nat×Option aY)) : Prop:=∀ t x,(t,some x)∈bx→lkB B' t=some x
theorem w6.app {a b:List (Nat×Option aY)} (h:w6 B' (a++b)) : w6 B' a∧w6 B' b:=⟨fun t x hm=>h t x (List.mem_append_left _ hm),fun t x hm=>h t x (List.mem_append_right _ hm)⟩
theorem P6 {rows:List (Nat×Nat×Nat×Nat×Ty)} : ∀ {cs:List SD} {j:Nat} {vs:List SV} {bx:List (Nat×Option aY)},ga rows j cs [] = some (vs,bx)→(∀ c∈cs,c≠.nl) →
  UAl G B' bx (cn rows j (cs.map SD.toD))∧(w6 B' bx→ch B' vs (eh rows j (cs.map SD.toD)))
 | [],j,vs,bx,h,_=>by
  simp only [ga] at h
  injection h with h
  injection h with e1 e2
  subst e1 e2
  exact ⟨.nil,fun _=>.nil⟩
 | c::cs,j,vs,bx,h,hn=>by
  simp only [ga] at h
  have hn':=fun c' hc=>hn c' (List.mem_cons_of_mem _ hc)
  split at h
  ·rename_i R e k t hf
   split at h
   ·rename_i xs vs' bx' hx hr
    injection h with h
    injection h with e1 e2
    subst e1 e2
    obtain ⟨k1,k2⟩:=P6 hr hn'
    have hD:c.toD = .sl ((show List t.den from xs).map (bK t)):=by
     rw [← En hx]; rfl
    simp only [List.map_cons,cn,eh,hf,hD]
    refine ⟨.cons R _ _ _ _ (fun x hx=>?_) (fun h=>by cases h) k1,fun hs=>.cons ?_ (k2 fun t x hm=>hs t x (List.mem_cons_of_mem _ hm))⟩
    ·injection hx with hx
     subst hx
     exact ⟨rfl,fun p pin h=>by cases h⟩
    ·exact .row R _ e k t xs [] (hs R _ List.mem_cons_self) (show List.length (show List t.den from xs) = _ from (List.length_map _).symm)
   ·cases h
  ·rename_i hf
   split at h
   ·rename_i vs' bx' hr
    injection h with h
    injection h with e1 e2
    subst e1 e2
    obtain ⟨k1,k2⟩:=P6 hr hn'
    simp only [List.map_cons,cn,eh,hf]
    exact ⟨k1,fun hs=>.cons (.d _ _ (Mz.of (hn c List.mem_cons_self))) (k2 hs)⟩
   ·cases h
theorem Gh {rows:List (Nat×Nat×Nat×Ty)} {is:List Nat} {n:Nat} {x:ST n} {vs:List SV} {bx:List (Nat×Option aY)} (h:NX rows is n x=some (vs,bx)) :
  UAl G B' bx (cn (mI rows is) 0 (stD n x))∧(w6 B' bx→ch B' vs (eh (mI rows is) 0 (stD n x))):=by
 rw [← uX n x]
 exact P6 h (xN n x)
theorem JJ {e k:Nat} {t:Ty} (xs:List t.den) {is:List Nat} {v:SV} {bx:List (Nat×Option aY)} (h:(match is with | [i]=>some (SV.row i,[(i,some (aY.rw e k t xs []))]) | _=>none)=some (v,bx)) (hs:w6 B' bx) :
  ∃ i,is = [i]∧v = .row i∧UAl G B' bx [(i,rwU e k t xs)]∧bf B' v (.row i xs.length):=by
 split at h
 ·rename_i i
  injection h with h
  injection h with e1 e2
  subst e1 e2
  exact ⟨i,rfl,rfl,.cons i _ _ _ _ (fun x hx=>by injection hx with hx; subst hx; exact ⟨rfl,fun p pin h=>by cases h⟩) (fun h=>by cases h) .nil,.row i _ e k t xs [] (hs i _ List.mem_cons_self) rfl⟩
 ·cases h
theorem Ll {pt:PT} {is:List Nat} {x:pt.den} {v:SV} {bx:List (Nat×Option aY)} (hp:(pt.isM||UA pt)=true) (h:N0 pt is x=some (v,bx)) (hs:w6 B' bx) :
  UAl G B' bx (toI pt is x).2∧bf B' v (toI pt is x).1:=by
 have plain:∀ {pt:PT} {x:pt.den},pt.isM=false→(pt.isM||UA pt)=true→(toI pt is x)=(p5 pt x,[])→v=Vb pt x→bx = []→UAl G B' bx (toI pt is x).2∧bf B' v (toI pt is x).1:=fun {pt x} h1 h2 h3 h4 h5=>by
  subst h4 h5
  rw [h1,Bool.false_or] at h2
  rw [h3]
  exact ⟨.nil,zD pt x h2⟩
 cases pt with
 | lf t=>injection h with h; injection h with e1 e2; exact plain rfl hp rfl e1.symm e2.symm
 | ag t=>injection h with h; injection h with e1 e2; exact plain rfl hp rfl e1.symm e2.symm
 | pl t=>injection h with h; injection h with e1 e2; exact plain rfl hp rfl e1.symm e2.symm
 | ps t=>injection h with h; injection h with e1 e2; exact plain rfl hp rfl e1.symm e2.symm
 | fn f a b=>injection h with h; injection h with e1 e2; exact plain rfl hp rfl e1.symm e2.symm
 | io l=>cases h
 | own e k t=>obtain ⟨i,rfl,rfl,k1,k2⟩:=JJ (G:=G) (B':=B') (show List t.den from x) h hs; exact ⟨k1,k2⟩
 | mv e k t=>obtain ⟨i,rfl,rfl,k1,k2⟩:=JJ (G:=G) (B':=B') (show List t.den from x) h hs; exact ⟨k1,k2⟩
 | bx ty n rows =>
  simp only [N0] at h
  split at h
  ·rename_i i is'
   split at h
   ·rename_i vs bx' he
    injection h with h
    injection h with e1 e2
    subst e1 e2
    obtain ⟨k1,k2⟩:=Gh (G:=G) (B':=B') he
    have hc:=k2 fun t x hm=>hs t x (List.mem_cons_of_mem _ hm)
    exact ⟨.cons i _ _ _ _ (fun x hx=>by injection hx with hx; subst hx; exact ⟨_,rfl,hc⟩) (fun h=>by cases h) k1,.ptr i 0 _ _ (hs i _ List.mem_cons_self)⟩
   ·cases h
  ·cases h
 | agr n rows =>
  simp only [N0] at h
  split at h
  ·rename_i vs bx' he
   injection h with h
   injection h with e1 e2
   subst e1 e2
   obtain ⟨k1,k2⟩:=Gh (G:=G) (B':=B') he
   have hc:=k2 hs
   exact ⟨k1,.ag _ _ hc.len hc.rep⟩
  ·cases h
theorem JK:∀ {rs:List PT} {jss:List (List Nat)} {r:aX rs} {vs:List SV} {bs:List (Nat×Option aY)},tN rs=true→Lk rs jss r=some (vs,bs)→w6 B' bs→UAl G B' bs (cW rs jss r).2∧ch B' vs (cW rs jss r).1
 | [],[],r,vs,bs,_,h,_=>by
  have h:some (([] : List SV),([] : List (Nat×Option aY)))=some (vs,bs):=h
  injection h with h
  injection h with e1 e2
  subst e1 e2
  exact ⟨.nil,.nil⟩
 | [],_ :: _,r,vs,bs,_,h,_=>by cases h
 | [pt],[],r,vs,bs,_,h,_=>by cases h
 | [pt],[is],r,vs,bs,hp,h,hs=>by
  have h:(match N0 pt is r with | some (v,b)=>some ([v],b) | none=>none)=some (vs,bs):=h
  simp only [tN] at hp
  split at hp
  ·rename_i hp1
   split at h
   ·rename_i v b he
    injection h with h
    injection h with e1 e2
    subst e1 e2
    obtain ⟨k1,k2⟩:=Ll (G:=G) (B':=B') hp1 he hs
    exact ⟨k1,.cons k2 .nil⟩
   ·cases h
  ·cases hp
 | [pt],_ :: _ :: _,r,vs,bs,_,h,_=>by cases h
 | pt::q::l,[],r,vs,bs,_,h,_=>by cases h
 | pt::q::l,is::iss,r,vs,bs,hp,h,hs=>by
  have h:(match N0 pt is r.1,Lk (q::l) iss r.2 with | some (v,b),some (vs,bs)=>some (v::vs,b++bs) | _,_=>none)=some (vs,bs):=h
  rw [tN] at hp
  split at hp
  ·rename_i hp1
   split at h
   ·rename_i v b vs' bs' he hr
    injection h with h
    injection h with e1 e2
    subst e1 e2
    obtain ⟨s1,s2⟩:=hs.app
    obtain ⟨k1,k2⟩:=Ll (G:=G) (B':=B') hp1 he s1
    obtain ⟨k3,k4⟩:=JK hp hr s2
    exact ⟨k1.app k3,.cons k2 k4⟩
   ·cases h
  ·cases hp
theorem Xs {vs:List SV} {qs:List PV} (h:ch B vs qs) : bf B (Xt vs) (zi qs):=by
 match vs,qs,h with
 | [],[],h=>exact .tup _ _ rfl (fun j c q h1=>by simp at h1)
 | [v],[q],h=>exact h.head
 | v::v' :: vs,q::q' :: qs,h=>exact .tup _ _ h.len h.rep
 | [],_ :: _,h=>have:=h.len; simp at this
 | _ :: _,[],h=>have:=h.len; simp at this
 | [_],_ :: _ :: _,h=>have:=h.len; simp at this
 | _ :: _ :: _,[_],h=>have:=h.len; simp at this
def Cb (s:SS) (ks js:List Nat) (t:Nat) (sb:Option aY) : Prop :=
 aC ks t=true∨t∈js∨(∃ ty cs,lkB s.bx t=some (.st ty cs))∨∃ e k ty xs pins e' k' ty' xs',lkB s.bx t=some (.rw e k ty xs pins)∧sb=some (.rw e' k' ty' xs' (xl pins))∧xs'.length=xs.length
theorem EB:∀ {rows:List (Nat×Nat×Nat×Ty)} {is:List Nat} {j R e k:Nat} {t:Ty},qk (mI rows is) j=some (R,e,k,t)→R∈is
 | [],is,j,R,e,k,t,h=>by cases is <;> cases h
 | (j0,e0,k0,t0)::rows,[],j,R,e,k,t,h=>by cases h
 | (j0,e0,k0,t0)::rows,R0::is,j,R,e,k,t,h=>by
  simp only [mI,qk] at h
  split at h
  ·injection h with h
   injection h with h _
   subst h
   exact List.mem_cons_self
  ·exact List.mem_cons_of_mem _ (EB h)
theorem KS {rows:List (Nat×Nat×Nat×Ty)} {is:List Nat} : ∀ {cs:List SD} {j:Nat} {vs:List SV} {bx:List (Nat×Option aY)},ga (mI rows is) j cs [] = some (vs,bx)→∀ t sb,(t,sb)∈bx→t∈is
 | [],j,vs,bx,h,t,sb,hm=>by
  simp only [ga] at h
  injection h with h
  injection h with e1 e2
  subst e1 e2
  cases hm
 | c::cs,j,vs,bx,h,t,sb,hm=>by
  simp only [ga] at h
  split at h
  ·rename_i R e k t' hf
   split at h
   ·rename_i xs vs' bx' hx hr
    injection h with h
    injection h with e1 e2
    subst e1 e2
    rcases List.mem_cons.1 hm with e | hm
    ·injection e with e _
     subst e
     exact EB hf
    ·exact KS hr t sb hm
   ·cases h
  ·split at h
   ·rename_i vs' bx' hr
    injection h with h
    injection h with e1 e2
    subst e1 e2
    exact KS hr t sb hm
   ·cases h
theorem aaf (hs:Sim s p) {pt:PT} {b:IB} {is js:List Nat} {x:pt.den} {o:b.den} {v:SV} {q:PV} {m:MU} (hv:bf s.bx v q) (hd:QR s pt v=some (x,is)) (hl:ab1 pt b x o) (h:abw s pt b is js o=some m) (hsn:w6 B' m.us) :
  (UAl G B' m.us (toO pt b is js x o)∧m.gs=FV pt is∧∀ i∈m.gs,aC m.ks i=true)∧∀ t sb,(t,sb)∈m.us→Cb s m.ks js t sb:=by
 have nil:some (⟨[],[],[]⟩ : MU)=some m→toO pt b is js x o = []→FV pt is = []→(UAl G B' m.us (toO pt b is js x o)∧m.gs=FV pt is∧∀ i∈m.gs,aC m.ks i=true)∧∀ t sb,(t,sb)∈m.us→Cb s m.ks js t sb:=fun h1 h2 h3=>by
  injection h1 with h1
  subst h1
  rw [h2,h3]
  exact ⟨⟨.nil,rfl,fun _ h=>by cases h⟩,fun t sb h=>by cases h⟩
 cases pt with
 | lf t=>cases b with
  | no=>exact nil h rfl rfl
  | _=>cases h
 | ag t=>cases b with
  | no=>exact nil h rfl rfl
  | _=>cases h
 | pl t=>cases b with
  | no=>exact nil h rfl rfl
  | _=>cases h
 | ps t=>cases b with
  | no=>exact nil h rfl rfl
  | _=>cases h
 | fn f a c=>cases b with
  | no=>exact nil h rfl rfl
  | _=>cases h
 | io l=>cases b <;> cases h
 | agr n rows=>cases b <;> cases h
 | own e k t=>cases b with
  | no=>cases h
  | bx=>cases h
  | own e' k' t' =>
   obtain ⟨i,rfl,h1,h2,e2,k2,t2,xs2,pins,h3,h4⟩:=B4 hs hv (show uf s e k t v=some (x,is) from hd)
   have h:some (⟨[],[(i,some (.rw e' k' t' o (KW s i)))],[]⟩ : MU)=some m:=h
   injection h with h
   subst h
   have hp:KW s i=xl pins:=by unfold KW; rw [h3]
   rw [hp]
   have hl:(show List t'.den from o).length=(show List t.den from x).length:=hl
   refine ⟨⟨.cons i _ _ _ _ (fun y hy=>?_) (fun h=>by cases h) .nil,rfl,fun _ h=>by cases h⟩,fun t sb hm=>?_⟩
   ·injection hy with hy
    subst hy
    refine ⟨rfl,fun pp pin hpin=>?_⟩
    rw [ni,zm] at hpin
    obtain ⟨pin0,h5,rfl⟩:=hpin
    have hbx:=hs.bx i
    rw [h3] at hbx
    obtain ⟨h6,_⟩:=hbx.2 pp pin0 h5
    exact ⟨by show pin0.i.toNat < (show List t'.den from o).length; rw [hl]; show _ < List.length _; rw [← h4]; exact h6,fun cs h=>by cases h⟩
   ·simp only [List.mem_cons,List.not_mem_nil,or_false,Prod.mk.injEq] at hm
    obtain ⟨rfl,rfl⟩:=hm
    exact .inr (.inr (.inr ⟨_,_,_,_,_,_,_,_,_,h3,rfl,by show (show List t'.den from o).length = _; rw [hl]; exact h4.symm⟩))
 | mv e k t=>cases b with
  | own=>cases h
  | bx=>cases h
  | no =>
   obtain ⟨i,rfl,_⟩:=B4 hs hv (show uf s e k t v=some (x,is) from hd)
   have h:some (⟨[i],[],[i]⟩ : MU)=some m:=h
   injection h with h
   subst h
   exact ⟨⟨.nil,rfl,fun j hj=>dY.2 hj⟩,fun t sb hm=>by cases hm⟩
 | bx ty n rows=>cases b with
  | own=>cases h
  | no=>cases h
  | bx ty' n' rows' =>
   have hb:∃ i is' cs ty0,is=i::is'∧lkB s.bx i=some (.st ty0 cs):=by
    replace hd:Oh s ty n rows v=some (x,is):=hd
    clear h
    unfold Oh at hd
    split at hd
    ·rename_i i
     split at hd
     ·rename_i ty0 cs hb
      obtain ⟨_,hd⟩:=aq hd
      split at hd
      ·injection hd with hd
       injection hd with _ hd
       exact ⟨i,_,cs,ty0,hd.symm,hb⟩
      ·cases hd
     ·cases hd
    ·cases hd
   obtain ⟨i,is',cs,ty0,rfl,hb⟩:=hb
   have h:(match NX rows' js n' o with | some (vs,bx)=>some (⟨is',(i,some (.st ty' vs))::bx,is'⟩ : MU) | none=>none)=some m:=h
   split at h
   ·rename_i vs bx he
    injection h with h
    subst h
    obtain ⟨k1,k2⟩:=Gh (G:=G) (B':=B') he
    have hc:=k2 fun t x hm=>hsn t x (List.mem_cons_of_mem _ hm)
    refine ⟨⟨.cons i _ _ _ _ (fun x hx=>by injection hx with hx; subst hx; exact ⟨_,rfl,hc⟩) (fun h=>by cases h) k1,rfl,fun j hj=>dY.2 hj⟩,fun t sb hm=>?_⟩
    rcases List.mem_cons.1 hm with e | hm
    ·injection e with e1 e2
     subst e1 e2
     exact .inr (.inr (.inl ⟨_,_,hb⟩))
    ·exact .inr (.inl (KS he t sb hm))
   ·cases h
theorem Cb.more {ks ks' js js':List Nat} {t:Nat} {sb:Option aY} (h:Cb s ks js t sb) (hk:∀ t,aC ks t=true→aC ks' t=true) (hj:∀ t∈js,t∈js') : Cb s ks' js' t sb:=by
 rcases h with h | h | h
 ·exact .inl (hk t h)
 ·exact .inr (.inl (hj t h))
 ·exact .inr (.inr h)
theorem NY (hs:Sim s p) : ∀ {ps:List PT} {ls:List IB} {iss kss:List (List Nat)} {x:cg ps} {o:ze ls} {vs:List SV} {qs:List PV} {m:MU},ch s.bx vs qs→JU s ps vs=some (x,iss)→Nt ps ls x o→TO s ps ls iss kss o=some m→w6 B' m.us →
  (UAl G B' m.us (PI ps ls iss kss x o)∧m.gs=pg ps iss∧∀ i∈m.gs,aC m.ks i=true)∧∀ t sb,(t,sb)∈m.us→Cb s m.ks (br kss) t sb
 | [],[],[],[],x,o,vs,qs,m,_,_,_,h,_=>by
  have h:some (⟨[],[],[]⟩ : MU)=some m:=h
  injection h with h
  subst h
  exact ⟨⟨.nil,rfl,fun _ h=>by cases h⟩,fun t sb h=>by cases h⟩
 | [],[],[],_ :: _,x,o,vs,qs,m,_,_,_,h,_=>by cases h
 | [],[],_ :: _,_,x,o,vs,qs,m,_,_,_,h,_=>by cases h
 | [],_ :: _,_,_,x,o,vs,qs,m,_,_,_,h,_=>by cases h
 | _ :: _,[],_,_,x,o,vs,qs,m,_,_,_,h,_=>by cases h
 | _ :: _,_ :: _,[],_,x,o,vs,qs,m,_,_,_,h,_=>by cases h
 | _ :: _,_ :: _,_ :: _,[],x,o,vs,qs,m,_,_,_,h,_=>by cases h
 | pt::ps,b::ls,is::iss,js::kss,x,o,vs,qs,m,hv,hd,hl,h,hsn=>by
  have h:(match abw s pt b is js o.1,TO s ps ls iss kss o.2 with | some m,some m'=>some (m.app m') | _,_=>none)=some m:=h
  cases vs with
  | nil=>cases hd
  | cons v vs =>
  rcases hv.cases with ⟨h1,_⟩ | ⟨v',q,vs',qs',h1,rfl,h2,h3⟩
  ·cases h1
  ·injection h1 with e1 e2
   subst e1 e2
   simp only [JU] at hd
   split at hd
   ·rename_i y is1 ys iss1 m1 m2
    injection hd with hd
    injection hd with e1 e2
    injection e2 with e2 e3
    subst e1 e2 e3
    split at h
    ·rename_i ma mb ha hb
     injection h with h
     subst h
     have hsn:w6 B' (ma.us++mb.us):=hsn
     obtain ⟨s1,s2⟩:=hsn.app
     obtain ⟨⟨k1,g1,g2⟩,k2⟩:=aaf hs h2 m1 hl.1 ha s1
     obtain ⟨⟨k3,g3,g4⟩,k4⟩:=NY hs h3 m2 hl.2 hb s2
     refine ⟨⟨k1.app k3,by show ma.gs++mb.gs = _; rw [g1,g3]; rfl,fun i hi=>?_⟩,fun t sb hm=>?_⟩
     ·have hi:i∈ma.gs++mb.gs:=hi
      rcases List.mem_append.1 hi with hi | hi
      ·exact dY.2 (List.mem_append_left _ (dY.1 (g2 i hi)))
      ·exact dY.2 (List.mem_append_right _ (dY.1 (g4 i hi)))
     have hm:(t,sb)∈ma.us++mb.us:=hm
     rcases List.mem_append.1 hm with hm | hm
     ·exact (k2 t sb hm).more (fun t ht=>dY.2 (List.mem_append_left _ (dY.1 ht))) fun t ht=>List.mem_append_left _ ht
     ·exact (k4 t sb hm).more (fun t ht=>dY.2 (List.mem_append_right _ (dY.1 ht))) fun t ht=>List.mem_append_right _ ht
    ·cases h
   ·cases hd
theorem NJ (l:BU) : ∀ (is:List Nat),(∀ i∈is,aC G i=true)→UAl G B' (lN is) (CW l is)
 | [],_=>.nil
 | a::is,hg=>.cons a _ _ _ _ (fun y hy=>by cases hy) (fun _=>hg a List.mem_cons_self) (NJ l is fun i hi=>hg i (List.mem_cons_of_mem _ hi))
theorem sO:∀ {is:List Nat} {t:Nat} {sb:Option aY},(t,sb)∈lN is→t∈is∧sb=none
 | [],t,sb,h=>by cases h
 | a::is,t,sb,h=>by
  rcases List.mem_cons.1 h with e | h
  ·injection e with e1 e2; subst e1 e2; exact ⟨List.mem_cons_self,rfl⟩
  ·obtain ⟨h1,h2⟩:=sO h; exact ⟨List.mem_cons_of_mem _ h1,h2⟩
theorem Jw:∀ {is:List Nat} {t:Nat},t∈is→(t,none)∈lN is
 | a::is,t,h=>by
  rcases List.mem_cons.1 h with rfl | h
  ·exact List.mem_cons_self
  ·exact List.mem_cons_of_mem _ (Jw h)
theorem Gi:∀ {ps:List PT} {iss:List (List Nat)} {x:cg ps} {vs:List SV} {bs:List (Nat×Option aY)},tN ps=true→NZ ps iss x=some (vs,bs)→w6 B' bs→UAl G B' bs (dP ps iss x).2∧ch B' vs (dP ps iss x).1
 | [],[],x,vs,bs,_,h,_=>by
  injection h with h
  injection h with e1 e2
  subst e1 e2
  exact ⟨.nil,.nil⟩
 | [],_ :: _,x,vs,bs,_,h,_=>by cases h
 | _ :: _,[],x,vs,bs,_,h,_=>by cases h
 | pt::ps,is::iss,x,vs,bs,hp,h,hs=>by
  simp only [NZ] at h
  simp only [tN] at hp
  split at hp
  ·rename_i hp1
   split at h
   ·rename_i v b vs' bs' he hr
    injection h with h
    injection h with e1 e2
    subst e1 e2
    obtain ⟨s1,s2⟩:=hs.app
    obtain ⟨k1,k2⟩:=Ll (G:=G) (B':=B') hp1 he s1
    obtain ⟨k3,k4⟩:=Gi hp hr s2
    exact ⟨k1.app k3,.cons k2 k4⟩
   ·cases h
  ·cases hp
theorem UAl.dom {us:List (Nat×Option aY)} {u:BU} (h:UAl G B' us u) : ca u=idU us:=by
 induction h with
 | nil=>rfl
 | cons t sb b us u h1 h2 h ih=>simp only [ca,idU,ih]
theorem Ea:∀ {l l':List (Nat×Option aY)},(idU l).Nodup→w6 (l++l') l
 | [],_,_,t,x,hm=>by cases hm
 | (i,b)::l,l',hn,t,x,hm=>by
  rw [show idU ((i,b)::l)=i::idU l from rfl,List.nodup_cons] at hn
  rw [List.cons_append,au]
  rcases List.mem_cons.1 hm with e | hm
  ·injection e with e1 e2
   subst e1 e2
   rw [if_pos rfl]
  ·rw [if_neg (fun (e:t=i)=>hn.1 (by rw [← e]; exact fp.2 ⟨_,hm⟩))]
   exact Ea hn.2 t x hm
end
section
variable {B B':List (Nat×Option aY)} {s:SS} {p:PS} {P:Program} {ρ : Type} {G:List Nat} {sc:List Nat}
theorem I5:∀ (rs:List PT) (base:Nat),iV rs (oM base rs)
 | [],_=>trivial
 | p::l,base=>⟨List.length_range',I5 l _⟩
theorem CK:∀ (ls:List IB) (base:Nat),kt ls (vh base ls)
 | [],_=>trivial
 | p::l,base=>⟨List.length_range',CK l _⟩
theorem py:∀ {l:BU} {t:Nat} {B:Box},lkU l t=some B→(t,B)∈l
 | [],t,B,h=>by cases h
 | (j,C)::l,t,B,h=>by
  simp only [lkU] at h
  split at h
  ·rename_i e; subst e; injection h with h; subst h; exact List.mem_cons_self
  ·exact List.mem_cons_of_mem _ (py h)
theorem xV {rows:List (Nat×Nat×Nat×Ty)} {is:List Nat} : ∀ {ds:List D} {j t:Nat} {Bx:Box},(t,Bx)∈cn (mI rows is) j ds→t∈is
 | [],j,t,Bx,h=>by cases h
 | d::ds,j,t,Bx,h=>by
  simp only [cn] at h
  split at h
  ·rename_i hf
   split at h
   ·rcases List.mem_cons.1 h with e | h
    ·injection e with e _; subst e; exact EB hf
    ·exact xV h
   ·exact xV h
  ·exact xV h
theorem KD {pt:PT} {is:List Nat} {x:pt.den} {t:Nat} {Bx:Box} (h:(t,Bx)∈(toI pt is x).2) : t∈is:=by
 cases pt with
 | lf=>cases h
 | ag=>cases h
 | pl=>cases h
 | ps=>cases h
 | fn=>cases h
 | io=>cases h
 | own e k t' =>
  simp only [toI] at h
  split at h
  ·simp only [List.mem_cons,List.not_mem_nil,or_false,Prod.mk.injEq] at h; simp [h.1]
  ·cases h
 | mv e k t' =>
  simp only [toI] at h
  split at h
  ·simp only [List.mem_cons,List.not_mem_nil,or_false,Prod.mk.injEq] at h; simp [h.1]
  ·cases h
 | bx ty n rows =>
  simp only [toI] at h
  split at h
  ·rcases List.mem_cons.1 h with e | h
   ·injection e with e _; subst e; exact List.mem_cons_self
   ·exact List.mem_cons_of_mem _ (xV h)
  ·cases h
 | agr n rows=>exact xV h
theorem sU (l:List Nat) (ls:List (List Nat)) : br (l::ls)=l++br ls:=rfl
theorem EJ:∀ {ps:List PT} {iss:List (List Nat)} {x:cg ps} {t:Nat} {Bx:Box},(t,Bx)∈(dP ps iss x).2→t∈br iss
 | [],_,_,_,_,h=>by cases h
 | _ :: _,[],_,_,_,h=>by cases h
 | p::ps,is::iss,x,t,Bx,h=>by
  simp only [dP,List.mem_append] at h
  rw [sU,List.mem_append]
  exact h.imp KD EJ
def YG (p:PS) : List Nat→BU
 | []=>[]
 | t::l=>match p.b t with | some B=>(t,B)::YG p l | none=>YG p l
theorem wF (p:PS) : ∀ (l:List Nat) (t:Nat),lkU (YG p l) t=if t∈l then p.b t else none
 | [],t=>rfl
 | a::l,t=>by
  simp only [YG]
  cases ha:p.b a with
  | none =>
   rw [wF p l t]
   by_cases h:t=a
   ·subst h; simp [ha]
   ·simp [h]
  | some B =>
   simp only [lkU]
   by_cases h:t=a
   ·subst h; simp [ha]
   ·simp only [h,if_false,List.mem_cons,false_or]; exact wF p l t
structure aa2 (sc:List Nat) (P:Program) (f:Nat) (dst:Option Nat) (s:SS) (p:PS) (qs:List PV) (v:SV) (m:MU) (r:PV) (u:BU) : Prop where
 ro:s.ro=false
 call:aa3 P p.b f qs r u
 sim:Sim (s.updM dst v m) (p.updL dst r u)
 keep:∀ W,(∀ d,dst=some d→aC W d=true)→dN sc W s (s.updM dst v m)
 foot:∀ t Bx,lkU u t=some Bx→t∈idU m.us
theorem YC {T:List (Nat×Ent)} (hT:rK P T) (hpr:mE s) (hs:Sim s p) {f:Nat} {dst:Option Nat} {vs:List SV} {qs:List PV} (hM:UP T f vs=true) (hv:ch s.bx vs qs) {k:SV→MU→Option ρ} {res : ρ} (h:T1 T f s dst vs k=some res) :
  ∃ v m r u,k v m=some res∧aa2 sc P f dst s p qs v m r u:=by
 unfold T1 at h
 split at h
 ·cases h
 ·rename_i hro
  split at h
  ·rename_i en d hen
   split at h
   ·rename_i x iss hd
    obtain ⟨r,hf,h⟩:=cQ h
    simp only at h
    split at h
    ·rename_i m ws bs hm hbs
     obtain ⟨hc,h⟩:=aq h
     simp only [Bool.and_eq_true] at hc
     obtain ⟨c1,c2,c3,c4,c5,c6,c7,c10,c8,c9,c11⟩:=hc
     have c1:=Fj c1
     have c2:=Fk c2
     have c3:=je c3
     have c4:=je c4
     have c5:=Fl c5
     have c6:=sA c6
     have c7:=sA c7
     have c8:=sA c8
     have hE:(pD en.ps||pD en.rs)=true:=by unfold UP at hM; rw [hen] at hM; exact hM
     obtain ⟨hlen,hsem⟩:=(hT f _ en hen x r hf).2 hE
     obtain ⟨hsh,hargs,hbox⟩:=Od hs hv hd
     have hall:∀ i∈br iss,i∈ca (dP en.ps iss x).2:=fun i hi=>by
      unfold aaY at c10
      split at c10
      ·rename_i vv bi hbi
       rw [Bool.and_eq_true] at c10
       have hse:=Ea (l':=[]) (je c10.1)
       obtain ⟨z1,_⟩:=Gi (G:=[]) c11 hbi hse
       rw [z1.dom]
       exact sA c10.2 i hi
      ·cases c10
     obtain ⟨hcb,hsem⟩:=hsem iss (vh (500000 + 64 * d) (cA en.rs)) (oM (500000 + 64 * d + EO (cA en.rs)) (fc en.rs)) hsh (CK _ _) (I5 _ _) c3 (fun j hj=>(c2 j (List.mem_append_right _ hj)).2.2) hall
     have hseen:w6 ((m.us++(bs++lN m.gs))++xO m.ks s.bx) (m.us++(bs++lN m.gs)):=Ea c4
     have hG:∀ i∈m.gs,aC (m.gs++s.oc) i=true:=fun i hi=>dY.2 (List.mem_append_left _ hi)
     obtain ⟨s1,s23⟩:=hseen.app
     obtain ⟨s2,_⟩:=s23.app
     obtain ⟨⟨k1,g1,g2⟩,k2⟩:=NY (G:=m.gs++s.oc) hs hv hd hlen hm s1
     obtain ⟨k3,k4⟩:=JK (G:=m.gs++s.oc) c9 hbs s2
     have hal:=k1.app (k3.app (NJ (dP en.ps iss x).2 m.gs hG))
     have hids:∀ t,t∈idU m.us++m.gs→t∈idU (m.us++(bs++lN m.gs)):=fun t ht=>by
      rcases List.mem_append.1 ht with ht | ht
      ·obtain ⟨sb,h⟩:=fp.1 ht; exact fp.2 ⟨sb,List.mem_append_left _ h⟩
      ·exact fp.2 ⟨none,List.mem_append_right _ (List.mem_append_right _ (Jw ht))⟩
     have hids2:∀ t,t∈idU bs→t∈idU (m.us++(bs++lN m.gs)):=fun t ht=>by obtain ⟨sb,h⟩:=fp.1 ht; exact fp.2 ⟨sb,List.mem_append_right _ (List.mem_append_left _ h)⟩
     have hids3:∀ t,t∈idU (m.us++(bs++lN m.gs))→t∈idU m.us++m.gs∨t∈idU bs:=fun t ht=>by
      obtain ⟨sb,h⟩:=fp.1 ht
      rcases List.mem_append.1 h with h | h
      ·exact .inl (List.mem_append_left _ (fp.2 ⟨sb,h⟩))
      ·rcases List.mem_append.1 h with h | h
       ·exact .inr (fp.2 ⟨sb,h⟩)
       ·exact .inl (List.mem_append_right _ (sO h).1)
     have hlk:=fun t=>WW hal (xO m.ks s.bx) t
     have hnone2:∀ t,t∈idU bs++(br (vh (500000 + 64 * d) (cA en.rs))++br (oM (500000 + 64 * d + EO (cA en.rs)) (fc en.rs)))→p.b t=none:=fun t ht=>by
      obtain ⟨n1,n2,_⟩:=c2 t ht
      have:=hs.bx t
      rw [n2] at this
      exact this (ng n1).1
     have hnone:∀ t,t∈idU bs→p.b t=none:=fun t ht=>hnone2 t (List.mem_append_left _ ht)
     have hBL:abJ m.ks s.bx ((m.us++(bs++lN m.gs))++xO m.ks s.bx):=by
      refine ⟨fun t hk e kk ty xs pins hb=>?_,fun t ty cs hb=>?_⟩
      ·rcases hlk t with ⟨m1,sb,b,m2,m3,m4,m5⟩ | ⟨m1,m2,_⟩
       ·obtain ⟨sb',hsb'⟩:=fp.1 m1
        rcases List.mem_append.1 hsb' with hin | hin
        ·rcases k2 t sb' hin with q | q | ⟨ty',cs',q⟩ | ⟨e1,kk1,ty1,xs1,pins1,e2,kk2,ty2,xs2,q1,q2,q3⟩
         ·rw [hk] at q; cases q
         ·have:=(c2 t (List.mem_append_right _ (List.mem_append_left _ q))).2.1
          rw [hb] at this
          cases this
         ·rw [hb] at q; cases q
         ·rw [hb] at q1
          injection q1 with q1
          injection q1 with z1 z2 z3 z4 z5
          subst z3
          have z4:=eq_of_heq z4
          subst z1 z2 z4 z5 q2
          refine ⟨_,_,_,_,_,hseen t _ (List.mem_append_left _ hin),q3,fun pp pin hp=>⟨⟨pin.i,none⟩,by rw [ni,hp]; rfl,rfl⟩⟩
        ·rcases List.mem_append.1 hin with hin | hin
         ·have:=(c2 t (List.mem_append_left _ (fp.2 ⟨_,hin⟩))).2.1
          rw [hb] at this
          cases this
         ·rw [g2 t (sO hin).1] at hk; cases hk
       ·exact ⟨e,kk,ty,xs,pins,by rw [m2,vn,hb]; rfl,rfl,fun _ pin hp=>⟨pin,hp,rfl⟩⟩
      ·rcases hlk t with ⟨m1,sb,b,m2,m3,m4,m5⟩ | ⟨m1,m2,_⟩
       ·obtain ⟨sb',hsb'⟩:=fp.1 m1
        rcases List.mem_append.1 hsb' with hin | hin
        ·obtain ⟨cs',q1,_⟩:=c5 t sb' (List.mem_append_left _ hin) ty cs hb
         subst q1
         exact ⟨ty,cs',hseen t _ (List.mem_append_left _ hin)⟩
        ·rcases List.mem_append.1 hin with hin | hin
         ·have:=(c2 t (List.mem_append_left _ (fp.2 ⟨_,hin⟩))).2.1
          rw [hb] at this
          cases this
         ·obtain ⟨cs',q1,_⟩:=c5 t sb' (List.mem_append_right _ hin) ty cs hb
          rw [(sO hin).2] at q1
          cases q1
       ·exact ⟨ty,_,by rw [m2,vn,hb]; rfl⟩
     have hu:∀ t,lkU (qf en.ps en.rs iss (vh (500000 + 64 * d) (cA en.rs)) (oM (500000 + 64 * d + EO (cA en.rs)) (fc en.rs)) x r) t=lkU (PI en.ps (cA en.rs) iss (vh (500000 + 64 * d) (cA en.rs)) x (jT en.rs r)++((cW (fc en.rs) (oM (500000 + 64 * d + EO (cA en.rs)) (fc en.rs)) (ic en.rs r)).2++CW (dP en.ps iss x).2 m.gs)) t:=fun t=>by unfold qf; rw [g1]
     refine ⟨Xt ws,⟨m.ks,m.us++(bs++lN m.gs),m.gs⟩,zi (cW (fc en.rs) (oM (500000 + 64 * d + EO (cA en.rs)) (fc en.rs)) (ic en.rs r)).1,qf en.ps en.rs iss (vh (500000 + 64 * d) (cA en.rs)) (oM (500000 + 64 * d + EO (cA en.rs)) (fc en.rs)) x r,h,hro,⟨hcb,YG p (br iss),fun t Bx ht=>?_,fun t Bx ht hn=>?_,fun w0 F0 ρ' b w F ws' hb hbn hi hr=>?_⟩,⟨fun i=>?_,fun t=>?_⟩,fun W hW=>?_,fun t Bx ht=>?_⟩
     ·rw [wF] at ht
      split at ht
      ·rename_i hin
       rcases hlk t with ⟨_,_,b,_,m3,_⟩ | ⟨m1,_⟩
       ·exact ⟨⟨b,(hu t).trans m3⟩,ht⟩
       ·exact absurd (hids t (c6 t hin)) m1
      ·cases ht
     ·rw [wF] at hn
      rcases hlk t with ⟨m1,_⟩ | ⟨_,_,m3⟩
      ·rcases hids3 t m1 with m1 | m1
       ·rcases List.mem_append.1 (c7 t m1) with m1 | m1
        ·rw [if_pos m1] at hn; exact hn
        ·exact hnone2 t (List.mem_append_right _ (List.mem_append_left _ m1))
       ·exact hnone t m1
      ·rw [hu,m3] at ht; cases ht
     ·refine hsem w0 F0 ρ' b w F ws' qs hargs (fun t Bx ht=>?_) (fun t ht=>?_) hi hr
      ·have hm:=py ht
       obtain ⟨B1,q1,q2⟩:=hbox t Bx hm
       exact ⟨B1,hb t B1 (by rw [wF,if_pos (EJ hm)]; exact q1),q2⟩
      ·have hin:=c8 t ht
       rcases hlk t with ⟨_,_,b1,_,m3,_⟩ | ⟨m1,_⟩
       ·refine hbn t b1 ((hu t).trans m3) ?_
        rw [wF,if_neg (fun h1=>?_)]
        exact (List.nodup_append.1 c3).2.2 t h1 t ht rfl
       ·exact absurd ((List.mem_append.1 hin).elim (fun h=>hids t (List.mem_append_left _ h)) (hids2 t)) m1
     ·show bf ((m.us++(bs++lN m.gs))++xO m.ks s.bx) (lkV (tD (Ug m.ks s.sl) (some d) (Xt ws)) i) (xM p.t (some d) _ i)
      rw [wt]
      unfold xM
      split
      ·exact Xs k4
      ·rw [Qj]; exact (hs.sl i).st hBL
     ·show mH ((m.us++(bs++lN m.gs))++xO m.ks s.bx) (aC (m.gs++s.oc) t) (lkB ((m.us++(bs++lN m.gs))++xO m.ks s.bx) t) (dD p.b _ t)
      rcases hlk t with ⟨_,sb,b,m2,m3,m4,m5⟩ | ⟨_,m2,m3⟩
      ·rw [m2]
       have hb:dD p.b (qf en.ps en.rs iss (vh (500000 + 64 * d) (cA en.rs)) (oM (500000 + 64 * d + EO (cA en.rs)) (fc en.rs)) x r) t=some b:=by simp only [dD,hu,m3]
       rw [hb]
       cases sb with
       | none=>intro ho; rw [m5 rfl] at ho; cases ho
       | some y=>have:=m4 y rfl; cases y <;> exact this
      ·rw [m2,vn]
       have hb:dD p.b (qf en.ps en.rs iss (vh (500000 + 64 * d) (cA en.rs)) (oM (500000 + 64 * d + EO (cA en.rs)) (fc en.rs)) x r) t=p.b t:=by simp only [dD,hu,m3]
       rw [hb]
       have hbx:=hs.bx t
       cases hl:lkB s.bx t with
       | none =>
        rw [hl] at hbx
        intro ho
        refine hbx (zn.2 fun hi=>?_)
        rw [zn] at ho
        exact ho (List.mem_append_right _ hi)
       | some y =>
        rw [hl] at hbx
        cases y with
        | st ty cs=>obtain ⟨qs',z1,z2⟩:=hbx; exact ⟨qs',z1,z2.st hBL⟩
        | rw e kk ty xs pins=>exact hbx
     ·have hkp:∀ t,aC m.ks t=true→aC s.pr t=false:=fun t ht=>c1 t (List.mem_append_right _ (List.mem_append_left _ (dY.1 ht)))
      refine ⟨rfl,rfl,fun t ht=>?_,fun i hi hsf=>?_,fun t _ ty cs hb=>?_⟩
      ·show lc _ (lkB ((m.us++(bs++lN m.gs))++xO m.ks s.bx) t)
       rcases hlk t with ⟨m1,_⟩ | ⟨_,m2,_⟩
       ·rcases hids3 t m1 with m1 | m1
        ·have:t∈idU m.us++(m.ks++m.gs):=by
          rcases List.mem_append.1 m1 with m1 | m1
          ·exact List.mem_append_left _ m1
          ·exact List.mem_append_right _ (List.mem_append_right _ m1)
         rw [c1 t this] at ht; cases ht
        ·rw [(ng (c2 t (List.mem_append_left _ m1)).1).2] at ht; cases ht
       ·rw [m2,vn]
        obtain ⟨b',z1,z2⟩:=hpr t ht
        rw [z1]
        cases b' with
        | st ty cs=>simp only [Option.map_some,abO]; rw [pM cs z2]; rfl
        | rw e kk ty xs pins=>exact ⟨pins,rfl⟩
      ·show lkV (tD (Ug m.ks s.sl) (some d) (Xt ws)) i=lkV s.sl i
       rw [wt,if_neg (fun e=>by rw [hW i e] at hi; cases hi),Qj]
       exact SU hkp _ hsf
      ·show ∃ cs',lkB ((m.us++(bs++lN m.gs))++xO m.ks s.bx) t = _∧_
       rcases hlk t with ⟨m1,sb,b,m2,m3,m4,m5⟩ | ⟨m1,m2,_⟩
       ·obtain ⟨sb',hsb'⟩:=fp.1 m1
        rcases List.mem_append.1 hsb' with hin | hin
        ·obtain ⟨cs',q1,q2⟩:=c5 t sb' (List.mem_append_left _ hin) ty cs hb
         subst q1
         exact ⟨cs',hseen t _ (List.mem_append_left _ hin),q2⟩
        ·rcases List.mem_append.1 hin with hin | hin
         ·have:=(c2 t (List.mem_append_left _ (fp.2 ⟨_,hin⟩))).2.1
          rw [hb] at this
          cases this
         ·obtain ⟨cs',q1,q2⟩:=c5 t sb' (List.mem_append_right _ hin) ty cs hb
          rw [(sO hin).2] at q1
          cases q1
       ·exact ⟨_,by rw [m2,vn,hb]; rfl,p6 _ _⟩
     ·rcases hlk t with ⟨m1,_⟩ | ⟨_,_,m3⟩
      ·exact m1
      ·rw [hu,m3] at ht; cases ht
    ·cases h
   ·cases h
  ·cases h
end
section
variable {sc:List Nat} {P:Program} {T:List (Nat×Ent)} {ops:Array Oper}
def LeQ (q:Bool) (p p':PS) : Prop:=match q with | true=>Le p p' | false=>p' = p
theorem LeQ.refl (q:Bool) (p:PS) : LeQ q p p:=by cases q; exact rfl; exact Le.refl p
def w7 (q:Bool) (P:Program) (ops:Array Oper) (bd:Nat→Bd) : Nat→List Oper→PS→(PS→Prop)→Prop
 | _,[],s,K=>K s
 | i,o::l,s,K=>∃ s1,LeQ q s s1∧∃ r u,Eff P ops o s1 r u∧(q=false→fy ops o s1 u (bd i))∧w7 q P ops bd (i + 1) l (s1.updL o.dst r u) K
theorem Ns {bd:Nat→Bd} {w0:WM} {F0:Nat→Prop} {n:Nat} {Q:Exit→Act→World→Prop} {Qs:Exit→PS→Prop} (hQ:∀ e s a w,Qs e s→oH n w0 F0 s a w→Q e a w) : ∀ (i:Nat) (l:List Oper) (s:PS) (a:Act) (w:World),JN n l=true→w7 true P ops bd i l s (Qs .normal)→oH n w0 F0 s a w→wpList P ops Q l a w
 | _,[],s,a,w,_,h,hc=>hQ _ s a w h hc
 | i,o::l,s,a,w,hd,h,hc=>by
  obtain ⟨s1,h1,r,u,h2,_,h3⟩:=h
  have hc1:=(show Le s s1 from h1) n w0 F0 a w hc
  obtain ⟨hd1,hd2⟩:=QP hd
  exact wpList_step fun K hK=>Xq (f:=0) hc1 h2 hd1 (fun a' w' hc'=>hK _ _ (Ns hQ (i + 1) l _ a' w' hd2 h3 hc'))
theorem M8 {bd:Nat→Bd} {n:Nat} {Qs:Exit→PS→Prop} {s:PS} {id:Nat} {l:List Oper} (hd:JN n l=true) (h:w7 true P l.toArray bd 0 l s (Qs .normal)) : PWP P n (.region id l.toArray false) Qs s :=
 fun _ _ a w hc=>wp_region_lit (Ns (Qs:=Qs) (fun _ s' _ _ h1 h2=>⟨s',h1,h2⟩) 0 l s a w hd h hc)
theorem Bt {bd:Nat→Bd} {K:PS→Prop} : ∀ (l:List Oper) (k:Nat) (s:PS),(∀ j,j < l.length→l[j]? = ops[k + j]?)→w7 false P ops bd k l s K→G3 P ops bd (List.range' k l.length) s K
 | [],k,s,_,h=>h
 | o::l,k,s,hl,h=>by
  obtain ⟨s1,he,r,u,h1,hf,h2⟩:=h
  have he:s1=s:=he
  subst he
  have h0:ops[k]? = some o:=by simpa using (hl 0 (by simp)).symm
  rw [List.length_cons,List.range'_succ]
  exact ⟨o,r,u,h0,h1,hf rfl,Bt l (k + 1) _ (fun j hj=>by have:=hl (j + 1) (by simp; omega); simpa [Nat.add_assoc,Nat.add_comm 1 j] using this) h2⟩
theorem SZ {bd:Nat→Bd} {K:PS→Prop} : ∀ (l:List Oper) (i k:Nat) (s:PS),(∀ j,j < l.length→l[j]? = ops[k + j]?)→w7 true P ops bd i l s K→Vx P ops (List.range' k l.length) s K
 | [],i,k,s,_,h=>h
 | o::l,i,k,s,hl,h=>by
  obtain ⟨s1,hle,r,u,h1,_,h2⟩:=h
  have h0:ops[k]? = some o:=by simpa using (hl 0 (by simp)).symm
  rw [List.length_cons,List.range'_succ]
  exact ⟨s1,hle,o,r,u,h0,h1,SZ l (i + 1) (k + 1) _ (fun j hj=>by have:=hl (j + 1) (by simp; omega); simpa [Nat.add_assoc,Nat.add_comm 1 j] using this) h2⟩
theorem fY {q:Bool} {bd:Nat→Bd} : ∀ {l:List Oper} {i:Nat} {p:PS} {K K':PS→Prop},w7 q P ops bd i l p K→(∀ p',K p'→K' p')→w7 q P ops bd i l p K'
 | [],i,p,K,K',h,hk=>hk p h
 | o::l,i,p,K,K',h,hk=>by
  obtain ⟨s1,h1,r,u,h2,hf,h3⟩:=h
  exact ⟨s1,h1,r,u,h2,hf,fY h3 hk⟩
theorem CM {q:Bool} {bd:Nat→Bd} : ∀ {a b:List Oper} {i:Nat} {p:PS} {K:PS→Prop},w7 q P ops bd i a p (fun p'=>w7 q P ops bd (i + a.length) b p' K)→w7 q P ops bd i (a++b) p K
 | [],b,i,p,K,h=>h
 | o::a,b,i,p,K,h=>by
  obtain ⟨s1,h1,r,u,h2,hf,h3⟩:=h
  refine ⟨s1,h1,r,u,h2,hf,CM ?_⟩
  rw [List.length_cons] at h3
  rw [show i + 1 + a.length=i + (a.length + 1) by omega]
  exact h3
mutual
theorem qa {B:List (Nat×Option aY)} : ∀ {v:SV} {q:PV} {l:List Nat},bf B v q→xm v=some l→∀ x∈bg q,x∈l
 | .junk,q,l,_,h,x,hx=>by cases h
 | .d c,q,l,hv,h,x,hx=>by cases hv with | d _ y _=>simp [bg] at hx
 | .fe cs,q,l,hv,h,x,hx=>by cases hv with | fe _ ds _ _=>simp [bg] at hx
 | .ptr t o,q,l,hv,h,x,hx=>by
  cases hv with
  | ptr _ _ ty cs hb=>injection h with h; subst h; simpa [bg] using hx
 | .row t,q,l,hv,h,x,hx=>by
  cases hv with
  | row _ n e k ty xs pins hb hn=>injection h with h; subst h; simpa [bg] using hx
 | .re t p o,q,l,hv,h,x,hx=>by
  cases hv with
  | re _ _ _ n i e k ty xs pins pin hb hn hp hi=>injection h with h; subst h; simpa [bg] using hx
 | .vw t p o,q,l,hv,h,x,hx=>by
  cases hv with
  | vw _ _ _ n e k ty xs pins hb hn=>injection h with h; subst h; simpa [bg] using hx
 | .ag cs,q,l,hv,h,x,hx=>by
  cases hv with
  | ag _ qs hl hr=>exact nc (qs:=qs) ⟨hl,hr⟩ h x (by simpa [bg] using hx)
 | .tup cs,q,l,hv,h,x,hx=>by
  cases hv with
  | tup _ qs hl hr=>exact nc (qs:=qs) ⟨hl,hr⟩ h x (by simpa [bg] using hx)
 | .fn f ps qs,q,l,hv,h,x,hx=>by
  cases hv with
  | fn _ _ _ ps' qs' hl hr hl2 hr2 =>
   simp only [xm] at h
   split at h
   ·rename_i a b ha hb
    injection h with h
    subst h
    simp only [bg,List.mem_append] at hx ⊢
    rcases hx with hx | hx
    ·exact .inl (nc (qs:=ps') ⟨hl,hr⟩ ha x hx)
    ·exact .inr (nc (qs:=qs') ⟨hl2,hr2⟩ hb x hx)
   ·cases h
theorem nc {B:List (Nat×Option aY)} : ∀ {cs:List SV} {qs:List PV} {l:List Nat},ch B cs qs→rQ cs=some l→∀ x∈bO qs,x∈l
 | [],qs,l,hv,h,x,hx=>by
  rcases hv.cases with ⟨_,rfl⟩ | ⟨_,_,_,_,h1,_⟩
  ·simp [bO] at hx
  ·cases h1
 | c::cs,qs,l,hv,h,x,hx=>by
  rcases hv.cases with ⟨h1,_⟩ | ⟨c',q,cs',qs',h1,rfl,h2,h3⟩
  ·cases h1
  ·injection h1 with e1 e2
   subst e1 e2
   simp only [rQ] at h
   split at h
   ·rename_i a b ha hb
    injection h with h
    subst h
    simp only [bO,List.mem_append] at hx ⊢
    rcases hx with hx | hx
    ·exact .inl (qa h2 ha x hx)
    ·exact .inr (nc h3 hb x hx)
   ·cases h
end
theorem NL {o:Oper} {s:SS} {p:PS} {l:List Nat} (hs:Sim s p) (h:TD o s=some l) : ∀ x∈qh o p,x∈l:=by
 unfold TD at h
 unfold qh
 split at h <;> rename_i ho <;> simp only [ho]
 ·exact qa (cf hs _) h
 ·exact qa (cf hs _) h
 ·exact qa (cf hs _) h
 ·exact qa (cf hs _) h
 ·exact qa (cf hs _) h
 ·rename_i c
  split at h
  ·rename_i f hf
   simp only [hf]
   split at h
   ·rename_i a b ha hb
    injection h with h
    subst h
    intro x hx
    rcases List.mem_append.1 hx with hx | hx
    ·exact List.mem_append_left _ (qa (cf hs f) ha x hx)
    ·exact List.mem_append_right _ (nc (ow hs c.args.toList) hb x hx)
   ·cases h
  ·rename_i hf
   split
   ·rename_i f hf2
    exact absurd hf2 (hf f)
   ·exact nc (ow hs c.args.toList) h
 ·intro x hx
  simp at hx
theorem sB:∀ {l m:List Nat},PN l m=true→∀ x∈l,fy.memL m x=true
 | [],m,_,x,hx=>by cases hx
 | a::l,m,h,x,hx=>by
  simp only [PN] at h
  split at h
  ·rename_i ha
   rcases List.mem_cons.1 hx with rfl | hx
   ·exact ha
   ·exact sB h x hx
  ·cases h
theorem Jj:∀ {l:List Nat} {x:Nat},fy.memL l x=true→x∈l
 | [],x,h=>by cases h
 | a::l,x,h=>by
  rw [BH,Bool.or_eq_true] at h
  rcases h with h | h
  ·have:=zd h; subst this; simp
  ·exact List.mem_cons_of_mem _ (Jj h)
theorem NM {B:List Bd} {i:Nat} {o:Oper} {s:SS} {p:PS} {u:Upd} {w:Option (Nat×Box)} (hs:Sim s p) (hw:OkW s o.dst u w) {q:Bool} (h:Jy q B i o s u=true) : q=false→fy ops o p w.toList (zk B i):=by
 intro hq
 subst hq
 unfold Jy at h
 simp only at h
 split at h
 ·rename_i fs hf
  rw [Bool.and_eq_true] at h
  refine ⟨fun _ x hx=>sB h.1 x (NL hs hf x hx),fun x Bx hx=>?_⟩
  cases w with
  | none=>cases hx
  | some y =>
   obtain ⟨t,b⟩:=y
   simp only [Option.toList,lkU] at hx
   split at hx
   ·rename_i e
    subst e
    exact sB h.2 x (Jj (hw x b rfl).2)
   ·cases hx
 ·cases h
theorem Yd {B:List Bd} {i:Nat} {o:Oper} {s:SS} {p:PS} {m:MU} {u:BU} (hs:Sim s p) (hw:∀ t Bx,lkU u t=some Bx→t∈idU m.us) {q:Bool} (h:TE q B i o s m=true) : q=false→fy ops o p u (zk B i):=by
 intro hq
 subst hq
 unfold TE at h
 simp only at h
 split at h
 ·rename_i fs hf
  rw [Bool.and_eq_true] at h
  exact ⟨fun _ x hx=>sB h.1 x (NL hs hf x hx),fun x Bx hx=>sB h.2 x (hw x Bx hx)⟩
 ·cases h
theorem dw:∀ (a b:List Nat) (i:Nat),aC (a++b) i=(aC a i||aC b i)
 | [],b,i=>rfl
 | j::a,b,i=>by
  simp only [List.cons_append,aC,dw a b i]
  split <;> simp
theorem a7 (j:Nat) (l:List Nat) (i:Nat) : aC (j::l) i=(decide (i=j)||aC l i):=by
 simp only [aC,db]
 by_cases h:i=j
 ·simp [h]
 ·simp [h]
theorem EG:∀ {g:Nat} {l a b:List Oper} {d:Nat},SR g l=some (a,d,b)→l=a++b∧∃ o∈a,o.dst=some d
 | g,[],a,b,d,h=>by cases h
 | g,o::l,a,b,d,h=>by
  simp only [SR] at h
  split at h
  ·rename_i d' hd
   injection h with h
   injection h with h1 h2
   injection h2 with h2 h3
   subst h1 h2 h3
   refine ⟨rfl,o,List.mem_cons_self,?_⟩
   split at hd
   ·rename_i g' d2 e1 e2 hdst
    split at hd
    ·injection hd with hd; subst hd; exact hdst
    ·cases hd
   ·cases hd
  ·split at h
   ·rename_i a' d' b' h'
    injection h with h
    injection h with h1 h2
    injection h2 with h2 h3
    subst h1 h2 h3
    obtain ⟨h4,o',h5,h6⟩:=EG h'
    exact ⟨by rw [h4]; rfl,o',List.mem_cons_of_mem _ h5,h6⟩
   ·cases h
theorem ud:∀ {l:List Oper} {o:Oper} {d:Nat},o∈l→o.dst=some d→aC (co l) d=true
 | [],o,d,h,_=>by cases h
 | x::l,o,d,h,hd=>by
  rcases List.mem_cons.1 h with rfl | h
  ·simp only [co,hd,a7,decide_true,Bool.true_or]
  ·have:=ud h hd
   simp only [co]
   split
   ·simp [a7,this]
   ·exact this
theorem B3:∀ {l:List Oper} {d:Nat},aC (co l) d=true→∃ o∈l,o.dst=some d
 | [],d,h=>by cases h
 | x::l,d,h=>by
  simp only [co] at h
  split at h
  ·rename_i d' hd'
   rw [a7,Bool.or_eq_true] at h
   rcases h with h | h
   ·have:=zd h
    subst this
    exact ⟨x,List.mem_cons_self,hd'⟩
   ·obtain ⟨o,h1,h2⟩:=B3 h
    exact ⟨o,List.mem_cons_of_mem _ h1,h2⟩
  ·obtain ⟨o,h1,h2⟩:=B3 h
   exact ⟨o,List.mem_cons_of_mem _ h1,h2⟩
theorem yp:∀ (a b:List Oper),co (a++b)=co a++co b
 | [],b=>rfl
 | o::a,b=>by
  simp only [List.cons_append,co,yp a b]
  split <;> rfl
theorem vk:∀ (ds:List Nat) (l:List (Nat×SV)) (i:Nat),lkV (pB ds l) i=if aC ds i=true then .junk else lkV l i
 | [],l,i=>by simp [pB,aC]
 | d::ds,l,i=>by
  simp only [pB,cZ,vk ds l i,a7]
  by_cases h:i=d
  ·simp [h]
  ·simp [h]
structure Fr (l:List Oper) (s:SS) (p p':PS) : Prop where
 t:s.ro=true→∀ i,aC (co l) i=false→p'.t i=p.t i
 b:s.ro=true→∀ t,(lkB s.bx t≠none∨aC (co l) t=false)→p'.b t=p.b t
theorem aa8 {s:SS} {dst:Option Nat} {v:SV} {u:Upd} {t:Nat} (h:lkB s.bx t≠none) : lkB (s.upd dst v u).bx t≠none:=by
 cases u with
 | no=>exact h
 | grow t' b =>
  show lkB ((t',some b)::oK t' s.bx) t≠none
  rw [au]
  split
  ·simp
  ·rw [jA]; simpa using h
 | _ =>
  rename_i t' b
  show lkB ((t',some b)::s.bx) t≠none
  rw [au]
  split
  ·simp
  ·exact h
theorem WS {s:SS} {dst:Option Nat} {v:SV} {u:Upd} : (s.upd dst v u).ro=s.ro:=by cases u <;> rfl
theorem Z9 {o:Oper} {l:List Oper} {s:SS} {p p':PS} {v:SV} {u:Upd} {q:PV} {w:Option (Nat×Box)} (hw:OkW s o.dst u w) (h:Fr l (s.upd o.dst v u) (p.upd o.dst q w) p') : Fr (o::l) s p p':=by
 have sub:∀ i,aC (co (o::l)) i=false→aC (co l) i=false∧o.dst≠some i:=fun i hi=>by
  simp only [co] at hi
  split at hi
  ·rename_i d hd
   rw [a7,Bool.or_eq_false_iff] at hi
   refine ⟨hi.2,fun e=>?_⟩
   rw [hd] at e
   injection e with e
   have:=of_decide_eq_false hi.1
   exact this e.symm
  ·rename_i hd
   exact ⟨hi,fun e=>by rw [hd] at e; cases e⟩
 refine ⟨fun hro i hi=>?_,fun hro t ht=>?_⟩
 ·obtain ⟨h1,h2⟩:=sub i hi
  rw [h.t (by rw [WS]; exact hro) i h1]
  simp only [PS.upd,xM,if_neg h2]
 ·have hb:(p.upd o.dst q w).b t=p.b t:=by
   show cR p.b w t=p.b t
   unfold cR
   split
   ·rename_i j Bx
    rcases (hw j Bx rfl).1 with ⟨h1,h2⟩ | h1
    ·split
     ·rename_i e
      subst e
      rcases ht with ht | ht
      ·exact absurd h1 ht
      ·exact absurd h2 (sub t ht).2
     ·rfl
    ·rw [hro] at h1; cases h1
   ·rfl
  rw [h.b (by rw [WS]; exact hro) t (ht.imp aa8 fun ht=>(sub t ht).1),hb]
def HJ (sc W:List Nat) (l:List Oper) (s:SS) (p:PS) {ρ : Type} (k:SS→Option ρ) (res : ρ) (p':PS) : Prop:=∃ s',Sim s' p'∧dN sc W s s'∧mE s'∧k s' = some res∧Fr l s p p'
theorem BA {W:List Nat} {o:Oper} {l:List Oper} {s:SS} {p p':PS} {ρ : Type} {k:SS→Option ρ} {res : ρ} {v:SV} {u:Upd} {q:PV} {w:Option (Nat×Box)} (hW:∀ d,o.dst=some d→aC W d=true) (hpr:mE s) (hu:OkU s u) (hw:OkW s o.dst u w)
  (h:HJ sc W l (s.upd o.dst v u) (p.upd o.dst q w) k res p') : HJ sc W (o::l) s p k res p':=by
 obtain ⟨s',h1,h2,h3,h4,h5⟩:=h
 exact ⟨s',h1,(zw hu hW hpr).trans h2,h3,h4,Z9 hw h5⟩
theorem P9 {W:List Nat} {f:Nat} {qs:List PV} {o:Oper} {l:List Oper} {s:SS} {p p':PS} {ρ : Type} {k:SS→Option ρ} {res : ρ} {v:SV} {m:MU} {r:PV} {u:BU} (hW:∀ d,o.dst=some d→aC W d=true) (hR:aa2 sc P f o.dst s p qs v m r u)
  (h:HJ sc W l (s.updM o.dst v m) (p.updL o.dst r u) k res p') : HJ sc W (o::l) s p k res p':=by
 obtain ⟨s',h1,h2,h3,h4,h5⟩:=h
 exact ⟨s',h1,(hR.keep W hW).trans h2,h3,h4,fun hro=>(by rw [hR.ro] at hro; cases hro),fun hro=>(by rw [hR.ro] at hro; cases hro)⟩
theorem ZO {q:Bool} {o:Oper} {s s':SS} {p:PS} (hpr:mE s) (hs:Sim s p) (h:ZP q T o s=some s') : ∃ p',LeQ q p p'∧Sim s' p'∧(∀ W,dN sc W s s')∧(s.ro=true→s' = s∧p' = p)∧(o.guard=none∨p' = p):=by
 have triv:s' = s→∃ p',LeQ q p p'∧Sim s' p'∧(∀ W,dN sc W s s')∧(s.ro=true→s' = s∧p' = p)∧(o.guard=none∨p' = p):=fun e=>by
  subst e; exact ⟨p,.refl _ _,hs,fun W=>.refl W s',fun _=>⟨rfl,rfl⟩,.inr rfl⟩
 unfold ZP at h
 split at h
 ·rename_i hro hg
  have froz:∀ {l:List Nat},lO l s=some s'→∃ p',LeQ true p p'∧Sim s' p'∧(∀ W,dN sc W s s')∧(s.ro=true→s' = s∧p' = p)∧(o.guard=none∨p' = p):=fun h=>by
   obtain ⟨p',k1,k2,k3,k4⟩:=yi (sc:=sc) hpr hs h
   exact ⟨p',k1,k2,k3,fun h=>(by rw [hro] at h; cases h),.inl hg⟩
  split at h
  ·exact froz h
  ·split at h
   ·split at h
    ·split at h
     ·exact froz h
     ·split at h
      ·injection h with h; exact triv h.symm
      ·exact froz h
    ·injection h with h; exact triv h.symm
   ·injection h with h; exact triv h.symm
  ·injection h with h; exact triv h.symm
 ·injection h with h; exact triv h.symm
theorem Fa {W:List Nat} {l:List Oper} {s s1:SS} {p p1 p':PS} {ρ : Type} {k:SS→Option ρ} {res : ρ} (hk:dN sc W s s1) (hro:s.ro=true→s1=s∧p1=p) (h:HJ sc W l s1 p1 k res p') : HJ sc W l s p k res p':=by
 obtain ⟨s',h1,h2,h3,h4,h5⟩:=h
 refine ⟨s',h1,hk.trans h2,h3,h4,fun hr=>?_,fun hr=>?_⟩
 ·obtain ⟨e1,e2⟩:=hro hr
  subst e1 e2
  exact h5.t hr
 ·obtain ⟨e1,e2⟩:=hro hr
  subst e1 e2
  exact h5.b hr
theorem Eb {q:Bool} {B:List Bd} (hT:rK P T) {W:List Nat} : ∀ (n i:Nat) (kn:List Nat) (l:List Oper) {ρ : Type} {s:SS} {p:PS} {k:SS→Option ρ} {res : ρ},(∀ o∈l,∀ d,o.dst=some d→aC W d=true)→(∀ (j:Nat) (o:Oper),ops[j]? = some o→∀ d,o.dst=some d→aC W d=true) →
  (∀ o∈l,∀ t x y,o.op = .store t x y→o.dst=none)→mE s→Sim s p→u5 q P T ops B n i kn l s k=some res→w7 q P ops (zk B) i l p (HJ sc W l s p k res):=by
 intro n
 induction n with
 | zero =>
  intro i kn l ρ s p k res hW hO hst hpr hs h
  cases l with
  | nil=>exact ⟨s,hs,.refl _ _,hpr,h,fun _ _ _=>rfl,fun _ _ _=>rfl⟩
  | cons o l=>cases h
 | succ n ih =>
  intro i kn l ρ s p k res hW hO hst hpr hs h
  cases l with
  | nil=>exact ⟨s,hs,.refl _ _,hpr,h,fun _ _ _=>rfl,fun _ _ _=>rfl⟩
  | cons o l =>
   have hWo:=hW o List.mem_cons_self
   have hWl:∀ o∈l,∀ d,o.dst=some d→aC W d=true:=fun o ho=>hW o (List.mem_cons_of_mem _ ho)
   have hstl:∀ o∈l,∀ t x y,o.op = .store t x y→o.dst=none:=fun o ho=>hst o (List.mem_cons_of_mem _ ho)
   have goOk:kL ops o p=some true→(match ZP q T o s with
     | none=>none
     | some s=>(match vC o with
      | some (x,xs)=>(match evX s x with
       | .fn f ps qs=>(match UP T f (ps++wZ s xs++qs) with
        | false=>chk (Jy q B i o s .no) (T0 T f s (ps++wZ s xs++qs) fun r=>u5 q P T ops B n (i + 1) kn l (s.upd o.dst r .no) k)
        | true=>T1 T f s o.dst (ps++wZ s xs++qs) fun v m=>chk (TE q B i o s m) (u5 q P T ops B n (i + 1) kn l (s.updM o.dst v m) k))
       | _=>none)
      | none=>aai P o s fun v u=>chk (Jy q B i o s u) (u5 q P T ops B n (i + 1) kn l (s.upd o.dst v u) k)))=some res→w7 q P ops (zk B) i (o::l) p (HJ sc W (o::l) s p k res):=by
    intro hg h
    split at h
    ·cases h
    ·rename_i s1 hfz
     obtain ⟨p1,hle,hs1,hk1,hro,hgn⟩:=ZO (sc:=sc) hpr hs hfz
     have hg1:kL ops o p1=some true:=by
      rcases hgn with hgn | hgn
      ·simp [kL,hgn]
      ·rw [hgn]; exact hg
     have hpr1:mE s1:=(hk1 []).prOk hpr
     have mk:∀ {r:PV} {u:BU},My P o p1 r u→Eff P ops o p1 r u:=fun h=>by unfold Eff; rw [hg1]; exact h
     split at h
     ·rename_i x xs hc
      have hx:=cf hs1 x
      split at h
      rotate_left
      ·cases h
      rename_i f ps qs hev
      rw [hev] at hx
      obtain ⟨ps',qs',e1,e2,e3⟩:=aaH hx
      split at h
      rotate_left
      ·rename_i hM
       obtain ⟨v,m,r,u,h,hR⟩:=YC (sc:=sc) hT hpr1 hs1 hM ((e2.append (ow hs1 xs)).append e3) h
       obtain ⟨hfb,h⟩:=aq h
       refine ⟨p1,hle,r,u,mk ?_,Yd hs1 hR.foot hfb,?_⟩
       ·unfold My
        simp only [hc,e1,Dr]
        exact .inr hR.call
       exact fY (ih (i + 1) kn l hWl hO hstl ((hR.keep W hWo).prOk hpr1) hR.sim h) fun p' hp=>Fa (hk1 W) hro (P9 hWo hR hp)
      rename_i hM
      obtain ⟨hfb,h⟩:=aq h
      obtain ⟨v,r,h1,h2,h3⟩:=YA hT hs1 hM ((e2.append (ow hs1 xs)).append e3) h
      refine ⟨p1,hle,r,[],mk ?_,NM (w:=none) hs1 dX hfb,?_⟩
      ·unfold My
       simp only [hc,e1,Dr]
       exact .inl ⟨trivial,h1⟩
      have hs':Sim (s1.upd o.dst v .no) (p1.upd o.dst r none):=lB hs1 h3
      rw [show ([] : BU)=(none:Option (Nat×Box)).toList from rfl,EH]
      exact fY (ih (i + 1) kn l hWl hO hstl ((zw (sc:=sc) (u:=.no) trivial hWo hpr1).prOk hpr1) hs' h2) fun p' hp=>Fa (hk1 W) hro (BA (u:=.no) hWo hpr1 trivial dX hp)
     ·rename_i hc
      obtain ⟨v,u,qv,w,h1,h2,h3,h4,h5⟩:=aah hs1 (hst o List.mem_cons_self) h
      obtain ⟨hfb,h2⟩:=aq h2
      refine ⟨p1,hle,qv,w.toList,mk ?_,NM hs1 h5 hfb,?_⟩
      ·unfold My
       simp only [hc]
       exact ⟨w,h1,rfl⟩
      rw [EH]
      exact fY (ih (i + 1) kn l hWl hO hstl ((zw (sc:=sc) h4 hWo hpr1).prOk hpr1) h3 h2) fun p' hp=>Fa (hk1 W) hro (BA hWo hpr1 h4 h5 hp)
   have skipOk:kL ops o p=some false→u5 q P T ops B n (i + 1) kn l (s.upd o.dst (.tup []) .no) k=some res→w7 q P ops (zk B) i (o::l) p (HJ sc W (o::l) s p k res):=by
    intro hg h
    refine ⟨p,.refl _ _,.tup [],[],by unfold Eff; rw [hg]; exact ⟨rfl,rfl⟩,fun _=>⟨fun h=>(by rw [hg] at h; cases h),fun x Bx h=>(by cases h)⟩,?_⟩
    rw [show ([] : BU)=(none:Option (Nat×Box)).toList from rfl,EH]
    have hs':Sim (s.upd o.dst (.tup []) .no) (p.upd o.dst (.tup []) none):=lB hs (.tup [] [] rfl (fun j c q h=>by simp at h))
    exact fY (ih (i + 1) kn l hWl hO hstl ((zw (sc:=sc) (u:=.no) trivial hWo hpr).prOk hpr) hs' h) fun p' hp=>BA (u:=.no) hWo hpr trivial dX hp
   unfold u5 at h
   simp only at h
   split at h
   ·rename_i hg
    exact goOk (by simp [kL,hg]) h
   ·rename_i j want hg
    split at h
    ·cases h
    ·rename_i g hgd
     have hsg:=hs.sl g
     split at h
     ·rename_i hv
      rw [hv] at hsg
      obtain ⟨qs,h1,h2⟩:=WO hsg
      have:qs = []:=by have:=h2.len; simpa using this.symm
      subst this
      exact skipOk (by simp [kL,hg,hgd,h1]) h
     ·rename_i b hv
      rw [hv] at hsg
      have hpg:=lr hsg
      have hgb:kL ops o p=some (b==want):=by simp [kL,hg,hgd,hpg,asB]
      split at h
      ·split at h
       ·split at h
        ·exact goOk (by rw [hgb]; rfl) h
        ·exact skipOk (by rw [hgb]; rfl) h
       ·split at h
        ·exact skipOk (by rw [hgb]; rfl) h
        ·exact goOk (by rw [hgb]; rfl) h
      ·split at h
       ·cases h
       ·rename_i l1 d l2 hup
        obtain ⟨h1,o1,h2,h3⟩:=EG hup
        obtain ⟨qb,h4,h5⟩:=cQ h
        have hg0:∃ o',ops[j]? = some o'∧o'.dst=some g:=by
         cases ho:ops[j]? with
         | none=>simp [ho] at hgd
         | some o'=>exact ⟨o',rfl,by simpa [ho] using hgd⟩
        obtain ⟨o',ho',hdo'⟩:=hg0
        have hWg:aC W g=true:=hO j o' ho' g hdo'
        rw [h1]
        have hW1:∀ o∈l1,∀ d,o.dst=some d→aC W d=true:=fun o ho=>hW o (by rw [h1]; exact List.mem_append_left _ ho)
        have hW2:∀ o∈l2,∀ d,o.dst=some d→aC W d=true:=fun o ho=>hW o (by rw [h1]; exact List.mem_append_right _ ho)
        have hst1:∀ o∈l1,∀ t x y,o.op = .store t x y→o.dst=none:=fun o ho=>hst o (by rw [h1]; exact List.mem_append_left _ ho)
        have hst2:∀ o∈l2,∀ t x y,o.op = .store t x y→o.dst=none:=fun o ho=>hst o (by rw [h1]; exact List.mem_append_right _ ho)
        have hsb:Sim ⟨(g,.d (.bool b))::s.sl,s.bx,s.pr,true,s.oc⟩ p:=by
         refine ⟨fun i=>?_,hs.bx⟩
         show bf s.bx (lkV ((g,.d (.bool b))::s.sl) i) (p.t i)
         rw [cZ]
         split
         ·rename_i e; subst e; exact hsg
         ·exact hs.sl i
        have hA:w7 q P ops (zk B) i l1 p (HJ sc W l1 ⟨(g,.d (.bool b))::s.sl,s.bx,s.pr,true,s.oc⟩ p (D7 d) qb):=by
         cases b
         ·exact ih i (g::kn) l1 hW1 hO hst1 hpr hsb (by simpa using h4)
         ·exact ih i (g::kn) l1 hW1 hO hst1 hpr hsb (by simpa using h4)
        refine CM (fY hA fun p1 hp1=>?_)
        obtain ⟨s1,k1,k2,k3,k4,k5⟩:=hp1
        have hd:aC (co l1) d=true:=ud h2 h3
        have hpd:p1.t d = .d (.v (.bool qb)):=by
         have:=k1.sl d
         unfold D7 at k4
         split at k4
         ·rename_i b' hb'
          injection k4 with k4
          subst k4
          rw [hb'] at this
          exact lr this
         ·cases k4
        have hs2:Sim ⟨(d,.d (.bool qb))::pB (co l1) s.sl,s.bx,s.pr,s.ro,co l1++s.oc⟩ p1:=by
         refine ⟨fun i=>?_,fun t=>?_⟩
         ·show bf s.bx (lkV ((d,.d (.bool qb))::pB (co l1) s.sl) i) (p1.t i)
          rw [cZ]
          split
          ·rename_i e; subst e; rw [hpd]; exact fa qb
          ·rw [vk]
           split
           ·exact .junk _
           ·rename_i hi
            rw [k5.t rfl i (by simpa using hi)]
            exact hs.sl i
         ·show mH s.bx (aC (co l1++s.oc) t) (lkB s.bx t) (p1.b t)
          have hbt:=hs.bx t
          cases hl:lkB s.bx t with
          | none =>
           rw [hl] at hbt
           intro hoc
           rw [dw,Bool.or_eq_false_iff] at hoc
           rw [k5.b rfl t (.inr hoc.1)]
           exact hbt hoc.2
          | some bx =>
           rw [hl] at hbt
           rw [k5.b rfl t (.inl (by show lkB s.bx t≠none; rw [hl]; simp))]
           cases bx <;> exact hbt
        have hk2:dN sc W s ⟨(d,.d (.bool qb))::pB (co l1) s.sl,s.bx,s.pr,s.ro,co l1++s.oc⟩:=by
         refine ⟨rfl,rfl,fun _ _=>.refl _,fun i hi _=>?_,fun _ _ _ cs h=>⟨cs,h,rfl⟩⟩
         show lkV ((d,.d (.bool qb))::pB (co l1) s.sl) i = _
         rw [cZ,if_neg (fun e=>by rw [e,hW1 o1 h2 d h3] at hi; cases hi),vk]
         rw [if_neg (fun e=>by
          obtain ⟨o2,m1,m2⟩:=B3 e
          rw [hW1 o2 m1 i m2] at hi
          cases hi)]
        refine fY (ih (i + l1.length) kn l2 hW2 hO hst2 (hk2.prOk hpr) hs2 h5) fun p2 hp2=>?_
        obtain ⟨s3,m1,m2,m3,m4,m5⟩:=hp2
        refine ⟨s3,m1,hk2.trans m2,m3,m4,fun hro i hi=>?_,fun hro t ht=>?_⟩
        ·rw [yp,dw,Bool.or_eq_false_iff] at hi
         rw [m5.t hro i hi.2,k5.t rfl i hi.1]
        ·rw [yp,dw,Bool.or_eq_false_iff] at ht
         rw [m5.b hro t (ht.imp id fun h=>h.2),k5.b rfl t (ht.imp id fun h=>h.1)]
     ·cases h
end
theorem UN {p:PS} (i e k:Nat) (ht:p.t i = .d (.v (.slice none 0 0))) (hb:p.b i=none) (hi0:i < 1000000) (hk : 0 < k) : Le p (p.upd (some i) (.row i 0) (some (i,.rw e k []))):=by
 intro n w0 F0 a w ⟨h1,h2,ρ,F,hi,hev⟩
 have hx:=(hev i)
 rw [ht] at hx
 obtain ⟨hx,_⟩:=hx.vv
 have hnew:=Ft (P:=default) (t:=i) (e:=e) (k:=k) (es:=[]) (xs:=[]) (v:=.slice none 0 0) (w':=w) hi hi0 hb hk (Ext.refl w) (fun g hg=>by cases hg) (World.ownsRow_nil w _ e k) (by simp) rfl (by simp)
 obtain ⟨v,w',ρ',hok,k1,k2,k3⟩:=hnew
 injection hok with e1 e2
 subst e1 e2
 refine ⟨h1,h2,ρ',F,k1,fun j=>?_⟩
 by_cases hj:i=j
 ·subst hj
  rw [hx]
  simpa [PS.upd,xM] using k3
 ·have:(p.upd (some i) (.row i 0) (some (i,.rw e k []))).t j=p.t j:=by simp [PS.upd,xM,hj]
  rw [this]
  exact (hev j).mono k2
theorem Qm {p:PS} (i t j e k:Nat) {ty:TypeId} {cs:List PV} (hb:p.b t=some (.st ty cs)) (hc:cs[j]? = some (.d (.v (.slice none 0 0)))) (hi:p.b i=none) (hi0:i < 1000000) (hk : 0 < k) :
  Le p ⟨p.t,cR (cR p.b (some (i,.rw e k []))) (some (t,.st ty (cs.set j (.row i 0))))⟩:=by
 intro n w0 F0 a w ⟨h1,h2,ρ,F,hinv,hev⟩
 have hnew:=Ft (P:=default) (t:=i) (e:=e) (k:=k) (es:=[]) (xs:=[]) (v:=.slice none 0 0) (w':=w) hinv hi0 hi hk (Ext.refl w) (fun g hg=>by cases hg) (World.ownsRow_nil w _ e k) (by simp) rfl (by simp)
 obtain ⟨v,w',ρ',hok,k1,k2,k3⟩:=hnew
 injection hok with e1 e2
 subst e1 e2
 have hti:t≠i:=fun e=>by rw [e,hi] at hb; cases hb
 have hb1:(cR p.b (some (i,.rw e k []))) t=some (.st ty cs):=by rw [cw _ _ hti]; exact hb
 have hs2:Stp ρ' (cR p.b (some (i,.rw e k []))) w F ρ' (cR (cR p.b (some (i,.rw e k []))) (some (t,.st ty (cs.set j (.row i 0))))) w F:=by
  refine ⟨fun _ h=>h,fun _ _=>rfl,fun t' ty' cs' h=>⟨?_,rfl⟩,fun t' e' k' es h=>?_⟩
  ·by_cases h':t' = t
   ·subst h'; rw [da]; exact ⟨_,_,rfl⟩
   ·rw [cw _ _ h']; exact ⟨_,_,h⟩
  ·have h':t'≠t:=fun e=>by rw [e,hb1] at h; cases h
   rw [cw _ _ h']
   exact ⟨e',es,h,Nat.le_refl _,fun _=>rfl⟩
 have hinv2:Inv w0 F0 ρ' (cR (cR p.b (some (i,.rw e k []))) (some (t,.st ty (cs.set j (.row i 0))))) w F:=by
  have hs3:=hs2
  rw [← dj ρ' t] at hs3
  have:=Inv.turn (v:=ρ' t) (B':=.st ty (cs.set j (.row i 0))) (w':=w) k1 hb1 (by rw [dj] at hs3 ⊢; exact hs2) k1.ext (Nat.le_refl _) (fun _ _ _=>rfl) (fun g hg=>.inl hg) ?_
  ·rw [dj] at this; exact this
  ·rw [dj]
   cases k1.box t _ hb1 with
   | st _ _ g xs hρ hg hF hh hl h1x hr =>
    refine .st ty _ g xs hρ hg hF hh (by rw [List.length_set]; exact hl) h1x (fun p x c h4 h5=>?_)
    rw [List.getElem?_set] at h5
    split at h5
    ·rename_i hjp
     subst hjp
     split at h5
     ·injection h5 with h5
      subst h5
      have hx:=hr j x _ h4 hc
      obtain ⟨hx,_⟩:=hx.vv
      rw [hx]
      exact k3.mono hs2
     ·cases h5
    ·exact (hr p x c h4 h5).mono hs2
 exact ⟨h1,h2,ρ',F,hinv2,fun q=>((hev q).mono k2).mono hs2⟩
theorem BLe.trans {B B' B'':List (Nat×Option aY)} (h:BLe B B') (h':BLe B' B'') : BLe B B'':=by
 refine ⟨fun t e k ty xs pins h1=>?_,fun t ty cs h1=>?_⟩
 ·obtain ⟨e1,k1,ty1,xs1,pins1,h2,h3,h4⟩:=h.rw t e k ty xs pins h1
  obtain ⟨e2,k2,ty2,xs2,pins2,h5,h6,h7⟩:=h'.rw t e1 k1 ty1 xs1 pins1 h2
  refine ⟨e2,k2,ty2,xs2,pins2,h5,h6.trans h3,fun p pin hp=>?_⟩
  obtain ⟨pin1,h8,h9⟩:=h4 p pin hp
  obtain ⟨pin2,h10,h11⟩:=h7 p pin1 h8
  exact ⟨pin2,h10,h11.trans h9⟩
 ·obtain ⟨ty1,cs1,h2⟩:=h.st t ty cs h1
  exact h'.st t ty1 cs1 h2
theorem Z1 {B:List (Nat×Option aY)} {b:Nat} {x:Option aY} (h:lkB B b=x) (t:Nat) : lkB ((b,x)::B) t=lkB B t:=by
 rw [au]
 split
 ·rename_i e; subst e; exact h.symm
 ·rfl
theorem bf.lk {B B':List (Nat×Option aY)} (h:∀ t,lkB B' t=lkB B t) {v:SV} {q:PV} (hv:bf B v q) : bf B' v q :=
 hv.mono ⟨fun t e k ty xs pins h1=>⟨e,k,ty,xs,pins,by rw [h]; exact h1,rfl,fun _ pin hp=>⟨pin,hp,rfl⟩⟩,fun t ty cs h1=>⟨ty,cs,by rw [h]; exact h1⟩⟩
theorem mH.lk {B B':List (Nat×Option aY)} (h:∀ t,lkB B' t=lkB B t) {o:Bool} {b:Option aY} {q:Option Box} (hv:mH B o b q) : mH B' o b q :=
 hv.mono ⟨fun t e k ty xs pins h1=>⟨e,k,ty,xs,pins,by rw [h]; exact h1,rfl,fun _ pin hp=>⟨pin,hp,rfl⟩⟩,fun t ty cs h1=>⟨ty,cs,by rw [h]; exact h1⟩⟩
theorem Sim.lk {sl:List (Nat×SV)} {B B':List (Nat×Option aY)} {pr oc:List Nat} {ro:Bool} {p:PS} (h:∀ t,lkB B' t=lkB B t) (hs:Sim ⟨sl,B,pr,ro,oc⟩ p) : Sim ⟨sl,B',pr,ro,oc⟩ p :=
 ⟨fun i=>(hs.sl i).lk h,fun t=>by show mH B' _ (lkB B' t) _; rw [h]; exact (hs.bx t).lk h⟩
theorem vf {s:SS} {b:Nat} {ty:TypeId} : ∀ {rows:List (Nat×Nat×Nat×Nat×Ty)} {cs cs':List SV} {bx bx':List (Nat×Option aY)} {p:PS},(∃ x,lkB bx b=some x)→Sim ⟨s.sl,(b,some (.st ty cs))::bx,s.pr,s.ro,[]⟩ p→vg s rows cs bx=some (cs',bx') →
  ∃ p',Le p p'∧Sim ⟨s.sl,(b,some (.st ty cs'))::bx',s.pr,s.ro,[]⟩ p'∧(∀ t,aC s.pr t=true→lkB bx' t=lkB bx t)∧cs'.length=cs.length∧∀ t x,lkB bx t=some x→lkB bx' t=some x
 | [],cs,cs',bx,bx',p,_,hs,h=>by
  injection h with h
  injection h with e1 e2
  subst e1 e2
  exact ⟨p,.refl p,hs,fun _ _=>rfl,rfl,fun _ _ h=>h⟩
 | (j,R,e,k,t)::l,cs,cs',bx,bx',p,hb,hs,h=>by
  simp only [vg] at h
  split at h
  ·rename_i hj
   split at h
   ·rename_i hR hk hp
    have hk:=zd hk
    obtain ⟨xb,hxb⟩:=hb
    have hRb : ¬ R=b:=fun e=>by rw [e,hxb] at hR; cases hR
    have hbx:=hs.bx b
    have hbx:mH ((b,some (.st ty cs))::bx) (aC [] b) (lkB ((b,some (.st ty cs))::bx) b) (p.b b):=hbx
    rw [au,if_pos rfl] at hbx
    obtain ⟨qs,h1,h2⟩:=hbx
    have hRn:lkB ((b,some (.st ty cs))::bx) R=none:=by rw [au,if_neg hRb]; exact hR
    have hpR:p.b R=none:=by
     have h3:=hs.bx R
     have h3:mH ((b,some (.st ty cs))::bx) (aC [] R) (lkB ((b,some (.st ty cs))::bx) R) (p.b R):=h3
     rw [hRn] at h3
     exact h3 rfl
    have hlt:j < qs.length:=by rw [← h2.len]; exact (zg.1 hj).1
    have hqj:qs[j]? = some (.d (.v (.slice none 0 0))):=by
     have h3:qs[j]? = some qs[j]:=by simp [hlt]
     rw [h3,SP (h2.rep j _ _ hj h3)]
    have hle:=Qm R b j e k h1 hqj hpR hk.2 hk.1
    have hB1:BLe ((b,some (.st ty cs))::bx) ((R,some (.rw e k t [] []))::(b,some (.st ty cs))::bx):=rJ hRn
    have hB2:BLe ((R,some (.rw e k t [] []))::(b,some (.st ty cs))::bx) ((b,some (.st ty (cs.set j (.row R))))::(R,some (.rw e k t [] []))::(b,some (.st ty cs))::bx):=QX (ty:=ty) (cs:=cs) (by rw [au,if_neg (fun e=>hRb e.symm),au,if_pos rfl])
    have hB:=hB1.trans hB2
    have hsame:∀ t',lkB ((b,some (.st ty (cs.set j (.row R))))::(R,some (.rw e k t [] []))::bx) t' = lkB ((b,some (.st ty (cs.set j (.row R))))::(R,some (.rw e k t [] []))::(b,some (.st ty cs))::bx) t':=fun t'=>by
     simp only [au]
     split
     ·rfl
     ·rename_i h'; split
      ·rfl
      ·rfl
    have hs1:Sim ⟨s.sl,(b,some (.st ty (cs.set j (.row R))))::(R,some (.rw e k t [] []))::(b,some (.st ty cs))::bx,s.pr,s.ro,[]⟩ ⟨p.t,cR (cR p.b (some (R,.rw e k []))) (some (b,.st ty (qs.set j (.row R 0))))⟩:=by
     refine ⟨fun i=>(hs.sl i).mono hB,fun t'=>?_⟩
     show mH _ (aC [] t') (lkB ((b,some (.st ty (cs.set j (.row R))))::(R,some (.rw e k t [] []))::(b,some (.st ty cs))::bx) t') (cR (cR p.b (some (R,.rw e k []))) (some (b,.st ty (qs.set j (.row R 0)))) t')
     rw [au]
     by_cases e1:t' = b
     ·subst e1
      rw [if_pos rfl,da]
      refine ⟨_,rfl,by simpa using h2.len,fun j' c q m1 m2=>?_⟩
      rw [List.getElem?_set] at m1 m2
      by_cases e2:j=j'
      ·subst e2
       have hlc:j < cs.length:=by rw [h2.len]; exact hlt
       rw [if_pos rfl,if_pos hlc] at m1
       rw [if_pos rfl,if_pos hlt] at m2
       injection m1 with m1
       injection m2 with m2
       subst m1 m2
       exact .row R 0 e k t [] [] (by rw [au,if_neg hRb,au,if_pos rfl]) rfl
      ·rw [if_neg e2] at m1 m2
       exact (h2.rep j' c q m1 m2).mono hB
     ·rw [if_neg e1,cw _ _ e1,au]
      by_cases e2:t' = R
      ·subst e2
       rw [if_pos rfl,da]
       exact ⟨rfl,fun p pin hp=>by cases hp⟩
      ·rw [if_neg e2,cw _ _ e2]
       exact (hs.bx t').mono hB
    have hs2:=hs1.lk hsame
    obtain ⟨p',k1,k2,k3,k4,k5⟩:=vf (s:=s) (b:=b) (ty:=ty) ⟨xb,by rw [au,if_neg (fun e=>hRb e.symm)]; exact hxb⟩ hs2 h
    refine ⟨p',hle.trans k1,k2,fun t' ht'=>?_,by rw [k4,List.length_set],fun t' x hx=>k5 t' x ?_⟩
    ·rw [k3 t' ht',au,if_neg (fun e=>by rw [e,hp] at ht'; cases ht')]
    ·rw [au,if_neg (fun e=>by rw [e,hR] at hx; cases hx)]; exact hx
   ·cases h
  ·exact vf hb hs h
theorem rB {sc wr:List Nat} : ∀ {ms:List Mod} {s s':SS} {p:PS},s.oc = []→mE s→Sim s p→Im wr ms s=some s'→∃ p',Le p p'∧Sim s' p'∧dN sc wr s s'∧s'.oc = []
 | [],s,s',p,ho,_,hs,h=>by injection h with h; subst h; exact ⟨p,.refl p,hs,.refl _ _,ho⟩
 | .leaf _ _ :: l,s,s',p,ho,hpr,hs,h=>rB (ms:=l) ho hpr hs h
 | .agg _ _ :: l,s,s',p,ho,hpr,hs,h=>rB (ms:=l) ho hpr hs h
 | .box _ _ _ [] :: l,s,s',p,ho,hpr,hs,h=>rB (ms:=l) ho hpr hs h
 | .box b _ _ (r::rows)::l,s,s',p,ho,hpr,hs,h=>by
  simp only [Im] at h
  split at h
  ·rename_i ty cs hb
   split at h
   ·rename_i cs' bx' hp hn
    have hs0:Sim ⟨s.sl,(b,some (.st ty cs))::s.bx,s.pr,s.ro,[]⟩ p:=by
     have:Sim ⟨s.sl,s.bx,s.pr,s.ro,[]⟩ p:=by rw [← ho]; exact hs
     exact this.lk (Z1 hb)
    obtain ⟨p1,k1,k2,k3,k4,k5⟩:=vf ⟨_,hb⟩ hs0 hn
    have hk:dN sc wr s ⟨s.sl,(b,some (.st ty cs'))::bx',s.pr,s.ro,s.oc⟩:=by
     refine ⟨rfl,rfl,fun t ht=>?_,fun _ _ _=>rfl,fun t _ ty2 cs2 h2=>?_⟩
     ·show lc _ (lkB ((b,some (.st ty cs'))::bx') t)
      rw [au,if_neg (fun e=>by rw [e,hp] at ht; cases ht),k3 t ht]
      exact .refl _
     ·show ∃ cs3,lkB ((b,some (.st ty cs'))::bx') t = _∧_
      rw [au]
      by_cases e:t=b
      ·rw [e,hb] at h2
       injection h2 with h2
       injection h2 with e1 e2
       subst e1 e2
       rw [if_pos e]
       exact ⟨_,rfl,k4⟩
      ·rw [if_neg e]
       exact ⟨cs2,k5 t _ h2,rfl⟩
    obtain ⟨p2,m1,m2,m3,m4⟩:=rB (ms:=l) (s:=⟨s.sl,(b,some (.st ty cs'))::bx',s.pr,s.ro,s.oc⟩) ho (hk.prOk hpr) (by rw [ho]; exact k2) h
    exact ⟨p2,k1.trans m1,m2,hk.trans m3,m4⟩
   ·cases h
  ·cases h
 | .row i R e k t::l,s,s',p,ho,hpr,hs,h=>by
  simp only [Im] at h
  split at h
  ·rename_i hv
   split at h
   ·rename_i hR hb hk hw hp
    have hk:=zd hk
    have hsi:=hs.sl i
    rw [hv] at hsi
    have hpt:=SP hsi
    have hpb:p.b i=none:=by
     have:=hs.bx i
     rw [hb] at this
     exact this (by rw [ho]; rfl)
    have hle:=UN (p:=p) i e k hpt hpb hk.2 hk.1
    have hs1:Sim ⟨tD s.sl (some i) (.row i),(i,some (.rw e k t [] []))::s.bx,s.pr,s.ro,s.oc⟩ (p.upd (some i) (.row i 0) (some (i,.rw e k (([] : List t.den).map (bK t))))) :=
     pu hs (rJ hb) (fun _=>⟨rfl,fun p pin hp=>by cases hp⟩) (.row i 0 e k t [] [] (by rw [au,if_pos rfl]) rfl)
    have hkp:dN sc wr s ⟨(i,.row i)::s.sl,(i,some (.rw e k t [] []))::s.bx,s.pr,s.ro,s.oc⟩:=by
     refine ⟨rfl,rfl,fun t' ht'=>?_,fun j hj _=>?_,fun t' _ ty2 cs2 h2=>⟨cs2,by show lkB ((i,some (.rw e k t [] []))::s.bx) t' = _; rw [au,if_neg (fun e=>by rw [e,hb] at h2; cases h2)]; exact h2,rfl⟩⟩
     ·show lc _ (lkB ((i,some (.rw e k t [] []))::s.bx) t')
      rw [au,if_neg (fun e=>by rw [e,hp] at ht'; cases ht')]
      exact .refl _
     ·show lkV ((i,.row i)::s.sl) j = _
      rw [cZ,if_neg (fun e=>by rw [e,hw] at hj; cases hj)]
    obtain ⟨p2,m1,m2,m3,m4⟩:=rB (ms:=l) (s:=⟨(i,.row i)::s.sl,(i,some (.rw e k t [] []))::s.bx,s.pr,s.ro,s.oc⟩) ho (hkp.prOk hpr) hs1 h
    exact ⟨p2,hle.trans m1,m2,hkp.trans m3,m4⟩
   ·cases h
  ·exact rB (ms:=l) ho hpr hs h
theorem om (wr pr kb:List Nat) : ∀ (l:List (Nat×SV)) (seen:List Nat) (i:Nat),lkV (tS wr pr kb l seen) i=if aC seen i=true then .junk else if aC wr i=true then .junk else if Ii pr kb (lkV l i)=true then lkV l i else .junk
 | [],seen,i=>by simp [tS,lkV,Ii]
 | (j,v)::l,seen,i=>by
  simp only [tS]
  have hc:=cZ j v l i
  split
  ·rename_i hs
   rw [om wr pr kb l seen i,hc]
   by_cases e:i=j
   ·subst e; simp [hs]
   ·simp [e]
  ·rename_i hs
   split
   ·rename_i hw
    rw [om wr pr kb l (j::seen) i,hc,a7]
    by_cases e:i=j
    ·subst e; simp [hw]
    ·simp [e]
   ·rename_i hw
    split
    ·rename_i hf
     rw [cZ,om wr pr kb l (j::seen) i,hc,a7]
     by_cases e:i=j
     ·subst e; simp [hs,hw,hf]
     ·simp [e]
    ·rename_i hf
     rw [om wr pr kb l (j::seen) i,hc,a7]
     by_cases e:i=j
     ·subst e; simp [hf]
     ·simp [e]
theorem oq (pr:List Nat) : ∀ (l:List (Nat×Option aY)) (seen:List Nat) (t:Nat),lkB (tT pr l seen) t=if aC seen t=true then none else if aC pr t=true then KA (lkB l t) else none
 | [],seen,t=>by simp [tT,lkB,KA]
 | (j,b)::l,seen,t=>by
  simp only [tT]
  have hc:=au j b l t
  split
  ·rename_i hs
   rw [oq pr l seen t,hc]
   by_cases e:t=j
   ·subst e; simp [hs]
   ·simp [e]
  ·rename_i hs
   split
   ·rename_i hw
    rw [au,oq pr l (j::seen) t,hc,a7]
    by_cases e:t=j
    ·subst e; simp [hs,hw]
    ·simp [e]
   ·rename_i hw
    rw [oq pr l (j::seen) t,hc,a7]
    by_cases e:t=j
    ·subst e; simp [hw]
    ·simp [e]
theorem lH (mb:List Nat) : ∀ (l:List (Nat×Option aY)) (seen:List Nat) (t:Nat),aC (pw mb l seen) t=true↔aC seen t=false∧aC mb t=false∧∃ b,lkB l t=some b∧za b=true
 | [],seen,t=>by simp [pw,aC,lkB]
 | (j,b)::l,seen,t=>by
  have hc:=au j b l t
  simp only [pw]
  split
  ·rename_i hs
   rw [lH mb l seen t,hc]
   by_cases e:t=j
   ·subst e; simp [hs]
   ·simp [e]
  ·rename_i hs
   split
   ·rw [lH mb l (j::seen) t,hc,a7]
    by_cases e:t=j
    ·subst e; simp
    ·simp [e]
   ·rename_i b'
    split
    ·rename_i h1 h2
     rw [a7,Bool.or_eq_true,lH mb l (j::seen) t,hc,a7]
     by_cases e:t=j
     ·subst e; simp [hs,h1,h2]
     ·simp [e]
    ·rename_i h12
     rw [lH mb l (j::seen) t,hc,a7]
     by_cases e:t=j
     ·subst e
      simp only [decide_true,Bool.true_or,Bool.true_eq_false,false_and,if_true,Option.some.injEq,exists_eq_left',false_iff,not_and]
      intro _ h3 h4
      exact h12 h3 h4
     ·simp [e]
theorem wm (bx:List (Nat×Option aY)) : ∀ (l:List Nat) (r:List (Nat×Option aY)) (t:Nat),(aC l t=true→∀ ty cs,lkB bx t=some (.st ty cs)→lkB (MY bx l r) t=some (.st ty (xq cs)))∧((aC l t=false∨∀ ty cs,lkB bx t≠some (.st ty cs))→lkB (MY bx l r) t=lkB r t)
 | [],r,t=>⟨fun h=>(by cases h),fun _=>rfl⟩
 | b::l,r,t=>by
  obtain ⟨h1,h2⟩:=wm bx l r t
  simp only [MY]
  split
  ·rename_i ty cs hb
   refine ⟨fun hm ty2 cs2 h=>?_,fun h=>?_⟩
   ·rw [au]
    by_cases e:t=b
    ·subst e
     rw [hb] at h
     injection h with h
     injection h with e1 e2
     subst e1 e2
     rw [if_pos rfl]
    ·rw [if_neg e]
     rw [a7] at hm
     exact h1 (by simpa [e] using hm) ty2 cs2 h
   ·rw [au]
    by_cases e:t=b
    ·subst e
     rcases h with h | h
     ·rw [a7] at h; simp at h
     ·exact absurd hb (h ty cs)
    ·rw [if_neg e]
     rw [a7] at h
     exact h2 (h.imp (by simp [e]) id)
  ·rename_i hb
   refine ⟨fun hm ty2 cs2 h=>?_,fun h=>?_⟩
   ·by_cases e:t=b
    ·subst e; exact absurd h (hb ty2 cs2)
    ·rw [a7] at hm
     exact h1 (by simpa [e] using hm) ty2 cs2 h
   ·rw [a7] at h
    by_cases e:t=b
    ·subst e; exact h2 (.inr fun ty cs=>hb ty cs)
    ·exact h2 (h.imp (by simp [e]) id)
theorem rv (bx:List (Nat×Option aY)) : ∀ (l:List Nat) (t:Nat),aC (tJ bx l) t=true↔aC l t=true∧∃ ty cs,lkB bx t=some (.st ty cs)
 | [],t=>by simp [tJ,aC]
 | b::l,t=>by
  have ih:=rv bx l t
  simp only [tJ]
  split
  ·rename_i ty cs hb
   rw [a7,a7,Bool.or_eq_true,Bool.or_eq_true,ih]
   by_cases e:t=b
   ·subst e; simp [hb]
   ·simp [e]
  ·rename_i hb
   rw [ih,a7,Bool.or_eq_true]
   by_cases e:t=b
   ·subst e
    refine ⟨fun h=>⟨.inl (by simp),h.2⟩,fun h=>?_⟩
    obtain ⟨ty,cs,h⟩:=h.2
    exact absurd h (hb ty cs)
   ·simp [e]
theorem BL:∀ cs:List SV,(xq cs).length=cs.length
 | []=>rfl
 | c::cs=>by simp [xq,BL cs]
theorem Jq:∀ (cs:List SV) (j:Nat) (c:SV),(xq cs)[j]? = some c→c = .junk
 | [],j,c,h=>by simp [xq] at h
 | _ :: cs,0,c,h=>by simp [xq] at h; exact h.symm
 | _ :: cs,j + 1,c,h=>by simp [xq] at h; exact Jq cs j c h
theorem pA (mb sc:List Nat) : ∀ (l:List (Nat×Option aY)) (seen:List Nat),wv mb sc l seen=true→∀ t ty cs,aC seen t=false→lkB l t=some (.st ty cs)→aC mb t=true∨aC sc t=true∨cF cs=true
 | [],seen,_,t,ty,cs,_,h=>by cases h
 | (j,b)::l,seen,hk,t,ty,cs,hs,h=>by
  simp only [wv] at hk
  rw [au] at h
  split at hk
  ·rename_i hj
   have e : ¬ t=j:=fun e=>by rw [e,hj] at hs; cases hs
   rw [if_neg e] at h
   exact pA mb sc l seen hk t ty cs hs h
  ·split at hk
   ·split at hk
    ·rename_i hm
     by_cases e:t=j
     ·rw [if_pos e] at h
      injection h with h
      injection h with e1 e2
      subst e1 e2 e
      simpa [Bool.or_eq_true] using hm
     ·rw [if_neg e] at h
      exact pA mb sc l (j::seen) hk t ty cs (by rw [a7]; simp [e,hs]) h
    ·cases hk
   ·rename_i hb
    by_cases e:t=j
    ·rw [if_pos e] at h
     exact absurd h (hb ty cs)
    ·rw [if_neg e] at h
     exact pA mb sc l (j::seen) hk t ty cs (by rw [a7]; simp [e,hs]) h
theorem ue:∀ {a b:List Nat},JO a b=true→∀ t,aC a t=true→aC b t=false
 | [],b,_,t,h=>by cases h
 | x::a,b,hd,t,h=>by
  simp only [JO] at hd
  split at hd
  ·cases hd
  ·rename_i hx
   rw [a7,Bool.or_eq_true] at h
   rcases h with h | h
   ·have:=zd h; subst this; exact hx
   ·exact ue hd t h
theorem sG {pr kb:List Nat} : ∀ {cs:List SV} (_:lC pr kb cs=true) {j:Nat} {c:SV},cs[j]? = some c→Ii pr kb c=true
 | [],_,j,c,h=>by simp at h
 | d::cs,h,j,c,hj=>by
  simp only [lC] at h
  split at h
  ·rename_i h1
   cases j with
   | zero=>simp at hj; subst hj; exact h1
   | succ j=>simp at hj; exact sG h hj
  ·cases h
theorem T9 {B B':List (Nat×Option aY)} {pr kb:List Nat} (hrw:∀ t,aC pr t=true→∀ e k ty xs pins,lkB B t=some (.rw e k ty xs pins)→∃ e' k' ty' xs' pins',lkB B' t=some (.rw e' k' ty' xs' pins')∧xs'.length=xs.length)
  (hst:∀ t,aC kb t=true→∀ ty cs,lkB B t=some (.st ty cs)→∃ ty' cs',lkB B' t=some (.st ty' cs')) {v:SV} {q:PV} (h:bf B v q) : Ii pr kb v=true→bf B' v q:=by
 induction h with
 | junk q=>exact fun _=>.junk q
 | d c y h=>exact fun _=>.d c y h
 | ag cs qs hl hr ih=>exact fun hs=>.ag cs qs hl fun j c q h1 h2=>ih j c q h1 h2 (sG hs h1)
 | tup cs qs hl hr ih=>exact fun hs=>.tup cs qs hl fun j c q h1 h2=>ih j c q h1 h2 (sG hs h1)
 | ptr t o ty cs hb=>exact fun hs=>by obtain ⟨ty',cs',h1⟩:=hst t hs ty cs hb; exact .ptr t o ty' cs' h1
 | row t n e k ty xs pins hb hn =>
  intro hs
  obtain ⟨e',k',ty',xs',pins',h1,h2⟩:=hrw t hs e k ty xs pins hb
  exact .row t n e' k' ty' xs' pins' h1 (h2.trans hn)
 | re t p o n i e k ty xs pins pin hb hn hp hi=>exact fun hs=>by cases hs
 | vw t lo hi n e k ty xs pins hb hn=>exact fun hs=>by cases hs
 | fe cs ds h hn=>exact fun _=>.fe cs ds h hn
 | fn f ps qs ps' qs' hl hr hl2 hr2 ih ih2 =>
  intro hs
  have hs:(match lC pr kb ps with | true=>lC pr kb qs | false=>false)=true:=hs
  split at hs
  ·rename_i h1
   exact .fn f ps qs ps' qs' hl (fun j c q h2 h3=>ih j c q h2 h3 (sG h1 h2)) hl2 (fun j c q h2 h3=>ih2 j c q h2 h3 (sG hs h2))
  ·cases hs
mutual
theorem W5 {pr pr' kb:List Nat} (h:∀ t,aC pr t=true→aC pr' t=true) : ∀ v:SV,Ii pr kb v=true→lD pr' v=true
 | .junk,_=>rfl
 | .d _,_=>rfl
 | .fe _,_=>rfl
 | .ptr _ _,_=>rfl
 | .row t,hs=>h t hs
 | .re _ _ _,hs=>by cases hs
 | .vw _ _ _,hs=>by cases hs
 | .ag cs,hs=>by simp only [lD]; exact y6 h cs hs
 | .tup cs,hs=>by simp only [lD]; exact y6 h cs hs
 | .fn f ps qs,hs=>by
  have hs:(match lC pr kb ps with | true=>lC pr kb qs | false=>false)=true:=hs
  split at hs
  ·rename_i h1
   simp only [lD,Bool.and_eq_true]
   exact ⟨y6 h ps h1,y6 h qs hs⟩
  ·cases hs
theorem y6 {pr pr' kb:List Nat} (h:∀ t,aC pr t=true→aC pr' t=true) : ∀ cs:List SV,lC pr kb cs=true→eg pr' cs=true
 | [],_=>rfl
 | c::cs,hs=>by
  simp only [lC] at hs
  split at hs
  ·rename_i h1
   simp only [eg,Bool.and_eq_true]
   exact ⟨W5 h c h1,y6 h cs hs⟩
  ·cases hs
end
theorem p8 {pr:List Nat} : ∀ {cs:List SV} (_:eg pr cs=true) {j:Nat} {c:SV},cs[j]? = some c→lD pr c=true
 | [],_,j,c,h=>by simp at h
 | d::cs,h,j,c,hj=>by
  simp only [eg,Bool.and_eq_true] at h
  cases j with
  | zero=>simp at hj; subst hj; exact h.1
  | succ j=>simp at hj; exact p8 h.2 hj
theorem u4 {pr kb:List Nat} : ∀ {cs:List SV},(∀ (j:Nat) c,cs[j]? = some c→Ii pr kb c=true)→lC pr kb cs=true
 | [],_=>rfl
 | c::cs,h=>by
  simp only [lC]
  rw [h 0 c rfl]
  exact u4 fun j d hj=>h (j + 1) d (by simpa using hj)
theorem P0 {B:List (Nat×Option aY)} {pr pr' kb:List Nat} (h:∀ t,aC pr t=true→aC pr' t=true) (hst:∀ t ty cs,lkB B t=some (.st ty cs)→aC kb t=true) {v:SV} {q:PV} (hv:bf B v q) : lD pr v=true→Ii pr' kb v=true:=by
 induction hv with
 | junk q=>exact fun _=>rfl
 | d c y h=>exact fun _=>rfl
 | ag cs qs hl hr ih =>
  refine fun hs=>u4 fun j c hj=>?_
  have hlt:j < qs.length:=by rw [← hl]; exact (zg.1 hj).1
  exact ih j c qs[j] hj (by simp [hlt]) (p8 hs hj)
 | tup cs qs hl hr ih =>
  refine fun hs=>u4 fun j c hj=>?_
  have hlt:j < qs.length:=by rw [← hl]; exact (zg.1 hj).1
  exact ih j c qs[j] hj (by simp [hlt]) (p8 hs hj)
 | ptr t o ty cs hb=>exact fun _=>hst t ty cs hb
 | row t n e k ty xs pins hb hn=>exact fun hs=>h t hs
 | re t p o n i e k ty xs pins pin hb hn hp hi=>exact fun hs=>by cases hs
 | vw t lo hi n e k ty xs pins hb hn=>exact fun hs=>by cases hs
 | fe cs ds h hn=>exact fun _=>rfl
 | fn f ps qs ps' qs' hl hr hl2 hr2 ih ih2 =>
  intro hs
  simp only [lD,Bool.and_eq_true] at hs
  have k1:lC pr' kb ps=true:=u4 fun j c hj=>by
   have hlt:j < ps'.length:=by rw [← hl]; exact (zg.1 hj).1
   exact ih j c ps'[j] hj (by simp [hlt]) (p8 hs.1 hj)
  have k2:lC pr' kb qs=true:=u4 fun j c hj=>by
   have hlt:j < qs'.length:=by rw [← hl2]; exact (zg.1 hj).1
   exact ih2 j c qs'[j] hj (by simp [hlt]) (p8 hs.2 hj)
  show (match lC pr' kb ps with | true=>lC pr' kb qs | false=>false)=true
  rw [k1]
  exact k2
theorem acq {B:List (Nat×Option aY)} {c:SD} {q:PV} (h:bf B (.d c) q) : ∃ y,q = .d y∧Mz c y:=by
 cases h with
 | d _ y h=>exact ⟨y,rfl,h⟩
theorem aa4 {B:List (Nat×Option aY)} {t:Nat} {q:PV} (h:bf B (.row t) q) : ∃ n,q = .row t n:=by
 cases h with
 | row _ n=>exact ⟨n,rfl⟩
def mG (bx:List (Nat×Option aY)) : Prop:=∀ t e k ty xs pins,lkB bx t=some (.rw e k ty xs pins)→pins = []
theorem mG.cons_rw {bx:List (Nat×Option aY)} (h:mG bx) {R e k:Nat} {t:Ty} {xs:List t.den} : mG ((R,some (.rw e k t xs []))::bx):=by
 intro t' e' k' ty' xs' pins' h1
 rw [au] at h1
 split at h1
 ·injection h1 with h1
  injection h1 with q1 q2 q3 q4 q5
  exact q5.symm
 ·exact h t' e' k' ty' xs' pins' h1
theorem mG.cons_st {bx:List (Nat×Option aY)} (h:mG bx) {R:Nat} {ty:TypeId} {cs:List SV} : mG ((R,some (.st ty cs))::bx):=by
 intro t' e' k' ty' xs' pins' h1
 rw [au] at h1
 split at h1
 ·cases h1
 ·exact h t' e' k' ty' xs' pins' h1
def IX (bx:List (Nat×Option aY)) (p:PS) : Prop:=∀ t b,lkB bx t=some b→mH bx true (some b) (p.b t)
theorem J5 {bx:List (Nat×Option aY)} {p:PS} (hn:mG bx) (hb:IX bx p) {R e k:Nat} {t:Ty} {xs:List t.den} (hR:p.b R=some (.rw e k (xs.map (bK t)))) : BLe bx ((R,some (.rw e k t xs []))::bx):=by
 refine ⟨fun t' e2 k2 ty2 xs2 pins2 h=>?_,fun t' ty2 cs2 h=>?_⟩
 ·rw [au]
  by_cases e1:t' = R
  ·subst e1
   rw [if_pos rfl]
   have h1:=(hb t' _ h).1
   rw [hR] at h1
   injection h1 with h1
   injection h1 with q1 q2 q3
   refine ⟨e,k,t,xs,[],rfl,by simpa using congrArg List.length q3,fun p pin hp=>?_⟩
   rw [hn _ _ _ _ _ _ h] at hp
   cases hp
  ·rw [if_neg e1]; exact ⟨_,_,_,_,_,h,rfl,fun p pin hp=>⟨pin,hp,rfl⟩⟩
 ·rw [au]
  by_cases e1:t' = R
  ·subst e1
   obtain ⟨qs,h1,_⟩:=hb t' _ h
   rw [hR] at h1
   cases h1
  ·rw [if_neg e1]; exact ⟨_,_,h⟩
theorem YF {bx:List (Nat×Option aY)} {p:PS} (hb:IX bx p) {b:Nat} {ty:TypeId} {cs:List SV} {qs:List PV} (hR:p.b b=some (.st ty qs)) : BLe bx ((b,some (.st ty cs))::bx):=by
 refine ⟨fun t' e2 k2 ty2 xs2 pins2 h=>?_,fun t' ty2 cs2 h=>?_⟩
 ·rw [au]
  by_cases e1:t' = b
  ·subst e1
   have h1:=(hb t' _ h).1
   rw [hR] at h1
   cases h1
  ·rw [if_neg e1]; exact ⟨_,_,_,_,_,h,rfl,fun p pin hp=>⟨pin,hp,rfl⟩⟩
 ·rw [au]
  by_cases e1:t' = b
  ·rw [if_pos e1]; exact ⟨_,_,rfl⟩
  ·rw [if_neg e1]; exact ⟨_,_,h⟩
theorem IX.cons {bx:List (Nat×Option aY)} {p:PS} (h:IX bx p) {R:Nat} {b:aY} (hB:BLe bx ((R,some b)::bx)) (hb:mH ((R,some b)::bx) true (some b) (p.b R)) : IX ((R,some b)::bx) p:=by
 intro t b' h1
 rw [au] at h1
 by_cases e:t=R
 ·subst e
  rw [if_pos rfl] at h1
  injection h1 with h1
  subst h1
  exact hb
 ·rw [if_neg e] at h1
  exact (h t b' h1).mono hB
theorem Z3 {t:Ty} {xs ys:List t.den} (h:xs.map (bK t)=ys.map (bK t)) : xs.length=ys.length:=by
 have h9:=congrArg List.length h
 rw [List.length_map,List.length_map] at h9
 exact h9
theorem abd {t t':Ty} {xs:List t.den} {ys:List t'.den} {c:SD} (h:c.as (.sl t)=some xs) (hd:c.toD = .sl (ys.map (bK t'))) : xs.map (bK t)=ys.map (bK t'):=by
 have h1:=SD.as_ok h
 rw [hd] at h1
 have h2 : [D.sl (xs.map (bK t))] = [D.sl (ys.map (bK t'))]:=h1
 injection h2 with h2
 injection h2
theorem vb {s':SS} {p:PS} (hs':g9 s' p) {rows:List (Nat×Nat×Nat×Nat×Ty)} : ∀ {cs:List SV} {qs:List PV} {ds0 ds:List SD} {j:Nat} {bx bx':List (Nat×Option aY)} {vs:List SV},ch s'.bx cs qs→cellsOf s' rows j cs=some ds0→ds0.map SD.toD=ds.map SD.toD→(∀ c∈ds,c≠.nl) →
  mG bx→IX bx p→ga rows j ds bx=some (vs,bx')→mG bx'∧IX bx' p∧BLe bx bx'∧ch bx' vs qs∧(∀ t,(∀ r∈rows,r.2.1≠t)→lkB bx' t=lkB bx t)
 | [],qs,ds0,ds,j,bx,bx',vs,hc,h0,hd,_,hn,hb,h=>by
  rcases hc.cases with ⟨_,rfl⟩ | ⟨_,_,_,_,h1,_⟩
  ·injection h0 with h0
   subst h0
   have:ds = []:=by simpa using hd.symm
   subst this
   injection h with h
   injection h with e1 e2
   subst e1 e2
   exact ⟨hn,hb,.refl _,.nil,fun _ _=>rfl⟩
  ·cases h1
 | c::cs,qs,ds0,ds,j,bx,bx',vs,hc,h0,hd,hnl,hn,hb,h=>by
  rcases hc.cases with ⟨h1,_⟩ | ⟨c',q,cs',qs',h1,rfl,hq,hcs⟩
  ·cases h1
  injection h1 with e1 e2
  subst e1 e2
  have findR_mem:∀ {rows:List (Nat×Nat×Nat×Nat×Ty)} {j R e k:Nat} {t:Ty},qk rows j=some (R,e,k,t)→∃ r∈rows,r.2.1=R:=by
   intro rows
   induction rows with
   | nil=>intro j R e k t h; cases h
   | cons r rows ih =>
    intro j R e k t h
    obtain ⟨j',R',e',k',t'⟩:=r
    simp only [qk] at h
    split at h
    ·injection h with h
     injection h with h _
     exact ⟨_,List.mem_cons_self,h⟩
    ·obtain ⟨r,h1,h2⟩:=ih h
     exact ⟨r,List.mem_cons_of_mem _ h1,h2⟩
  simp only [cellsOf] at h0
  split at h0
  ·rename_i R e k t hf
   split at h0
   ·rename_i R' e' k' t' xs pins hbR
    split at h0
    ·rename_i ht hsame
     have k1:=(aq h0).1
     replace h0:=(aq h0).2
     have k2:=(aq h0).1
     replace h0:=(aq h0).2
     have k3:=(aq h0).1
     replace h0:=(aq h0).2
     replace k1:R' = R:=by simpa [db] using k1
     replace k2:e' = e:=by simpa using k2
     replace k3:k' = k:=by simpa using k3
     subst k1 k2 k3 ht
     split at h0
     ·rename_i r hr
      injection h0 with h0
      subst h0
      cases ds with
      | nil=>simp at hd
      | cons d ds =>
       simp only [List.map_cons,List.cons.injEq] at hd
       obtain ⟨hd1,hd2⟩:=hd
       simp only [ga,hf] at h
       split at h
       ·rename_i xs' vs' bx1 hxs hp
        injection h with h
        injection h with e1 e2
        subst e1 e2
        obtain ⟨m1,m2,m3,m4,m5⟩:=vb hs' hcs hr hd2 (fun c hc=>hnl c (List.mem_cons_of_mem _ hc)) hn hb hp
        have hpR:p.b R' = some (.rw e' k' (xs.map (bK t'))):=(hs'.bx R' _ hbR).1
        have hx:xs'.map (bK t')=xs.map (bK t'):=abd hxs (by rw [← hd1]; rfl)
        have hpR':p.b R' = some (.rw e' k' (xs'.map (bK t'))):=by rw [hx]; exact hpR
        have hB:=J5 m1 m2 hpR'
        refine ⟨m1.cons_rw,m2.cons hB ⟨hpR',fun p pin hp=>by cases hp⟩,m3.trans hB,.cons ?_ (m4.mono hB),fun t2 ht2=>?_⟩
        ·cases hq with
         | row _ n e2 k2 ty2 xs2 pins2 hb2 hn2 =>
          rw [hbR] at hb2
          injection hb2 with hb2
          injection hb2 with q1 q2 q3 q4 q5
          subst q3
          have q4:=eq_of_heq q4
          subst q4
          refine .row R' n e' k' t' xs' [] (by rw [au,if_pos rfl]) ?_
          rw [← hn2]
          exact Z3 hx
        ·rw [au,if_neg (fun e=>by
          obtain ⟨r,h1,h2⟩:=findR_mem hf
          exact ht2 r h1 (h2.trans e.symm))]
         exact m5 t2 ht2
       ·cases h
     ·cases h0
    ·cases h0
   ·cases h0
  ·rename_i hf
   split at h0
   ·rename_i x r hr
    injection h0 with h0
    subst h0
    cases ds with
    | nil=>simp at hd
    | cons d ds =>
     simp only [List.map_cons,List.cons.injEq] at hd
     obtain ⟨hd1,hd2⟩:=hd
     simp only [ga,hf] at h
     split at h
     ·rename_i vs' bx1 hp
      injection h with h
      injection h with e1 e2
      subst e1 e2
      obtain ⟨m1,m2,m3,m4,m5⟩:=vb hs' hcs hr hd2 (fun c hc=>hnl c (List.mem_cons_of_mem _ hc)) hn hb hp
      refine ⟨m1,m2,m3,.cons ?_ m4,m5⟩
      cases hq with
      | d _ y hy =>
       refine .d d y ?_
       have h1:=hy.nrm
       rw [hd1] at h1
       have h2:=hnl d List.mem_cons_self
       cases d <;> first | exact h1 | exact absurd rfl h2
     ·cases h
   ·cases h0
theorem aag {t:Ty} {c:SD} {x:t.den} (h:c.as t=some x) : ru t x≠.nl:=by
 cases t with
 | st i=>simp [SD.as] at h
 | _=>intro e; cases e
theorem Nn {t:Nat} : ∀ {rows:List (Nat×Nat×Nat×Nat×Ty)} {r:Nat×Nat×Nat×Nat×Ty},r∈rows→r.2.1=t→aC (rows.map (·.2.1)) t=true
 | [],r,h,_=>by cases h
 | a::rows,r,h,e=>by
  rw [List.map_cons,a7,Bool.or_eq_true]
  rcases List.mem_cons.1 h with rfl | h
  ·exact .inl (by simp [e])
  ·exact .inr (Nn h e)
theorem Tb {s':SS} {p:PS} (hs':g9 s' p) {m:Mod} {x:m.den} {c c':SS} (hg:BO s' m=some x) (hc:g9 c p) (hn:mG c.bx) (h:sI m x c=some c') :
  g9 c' p∧mG c'.bx∧BLe c.bx c'.bx∧(∀ t,aC (bC [m]) t=false→lkB c'.bx t=lkB c.bx t):=by
 cases m with
 | leaf i t =>
  simp only [sI] at h
  injection h with h
  subst h
  refine ⟨⟨fun j=>?_,hc.bx⟩,hn,.refl _,fun _ _=>rfl⟩
  show bf c.bx (lkV ((i,.d (ru t x))::c.sl) j) (p.t j)
  rw [cZ]
  split
  ·rename_i e
   subst e
   have h1:=hs'.sl j
   have hg:(match lkV s'.sl j with | .d c=>c.as t | _=>none)=some (show t.den from x):=hg
   split at hg
   ·rename_i c0 hc0
    rw [hc0] at h1
    obtain ⟨y,hp,hy⟩:=acq h1
    rw [hp]
    refine .d _ y ?_
    have h2:=hy.nrm
    rw [← En hg] at h2
    have h3:=aag hg
    revert h2 h3
    generalize ru t x=z
    intro h2 h3
    cases z <;> first | exact h2 | exact absurd rfl h3
   ·exact dR hg
  ·exact hc.sl j
 | agg i n =>
  simp only [sI] at h
  injection h with h
  subst h
  refine ⟨⟨fun j=>?_,hc.bx⟩,hn,.refl _,fun _ _=>rfl⟩
  show bf c.bx (lkV ((i,.ag (BI (stC n x)))::c.sl) j) (p.t j)
  rw [cZ]
  split
  ·rename_i e
   subst e
   have h1:=hs'.sl j
   simp only [BO] at hg
   split at hg
   ·rename_i cs hcs
    split at hg
    ·rename_i ds hds
     rw [hcs] at h1
     obtain ⟨qs,h2,h3⟩:=I0 h1
     rw [h2]
     have h4:=wn h3 hds
     have h5:=Bq hg
     have hlen:qs.length=(stC n x).length:=by
      have a:=Bv hds
      have b:=h3.len
      have c:=congrArg List.length h5
      have d:=congrArg List.length (uX n x)
      simp only [List.length_map] at c d
      omega
     refine .ag _ qs (by rw [K3,List.length_map]; exact hlen.symm) (fun k v q k1 k2=>?_)
     rw [K3,List.getElem?_map,zm] at k1
     obtain ⟨z,k3,rfl⟩:=k1
     obtain ⟨y,k4,k5⟩:=zp qs _ h4 |>.2 k (z.toD) (by
      have h7:(stC n x).map SD.toD=stD n x:=uX n x
      rw [h5,← h7,List.getElem?_map,k3]
      rfl)
     rw [k2] at k4
     injection k4 with k4
     subst k4
     have h6:=xN n x z (List.mem_of_getElem? k3)
     refine .d z y ?_
     cases z <;> first | exact k5.symm | exact absurd rfl h6
    ·exact dR hg
   ·exact dR hg
  ·exact hc.sl j
 | row i R e k t =>
  simp only [sI] at h
  injection h with h
  subst h
  simp only [BO] at hg
  split at hg
  ·rename_i R' e' k' t' xs pins hv hb
   split at hg
   ·rename_i ht hsame
    have k1:=(aq hg).1
    replace hg:=(aq hg).2
    have k2:=(aq hg).1
    replace hg:=(aq hg).2
    have k3:=(aq hg).1
    replace hg:=(aq hg).2
    replace k1:R' = R:=by simpa [db] using k1
    replace k2:e' = e:=by simpa using k2
    replace k3:k' = k:=by simpa using k3
    subst k1 k2 k3 ht
    injection hg with hg
    subst hg
    have hpR:p.b R' = some (.rw e' k' (xs.map (bK t'))):=(hs'.bx R' _ hb).1
    have hB:=J5 hn hc.bx hpR
    refine ⟨⟨fun j=>?_,IX.cons hc.bx hB ⟨hpR,fun p pin hp=>by cases hp⟩⟩,hn.cons_rw,hB,fun t2 ht2=>?_⟩
    ·show bf _ (lkV ((i,.row R')::c.sl) j) (p.t j)
     rw [cZ]
     split
     ·rename_i e
      subst e
      have h1:=hs'.sl j
      rw [hv] at h1
      obtain ⟨n,h2⟩:=aa4 h1
      rw [h2] at h1 ⊢
      cases h1 with
      | row _ _ e2 k2 ty2 xs2 pins2 hb2 hn2 =>
       rw [hb] at hb2
       injection hb2 with hb2
       injection hb2 with q1 q2 q3 q4 q5
       subst q3
       have q4:=eq_of_heq q4
       subst q4
       exact .row R' n e' k' t' xs [] (by rw [au,if_pos rfl]; rfl) hn2
     ·exact (hc.sl j).mono hB
    ·show lkB ((R',_)::c.bx) t2 = _
     rw [au,if_neg (fun e=>by subst e; simp [bC,a7] at ht2)]
   ·exact dR hg
  ·exact dR hg
 | box b ty n rows =>
  simp only [sI] at h
  split at h
  ·rename_i vs bx hp
   injection h with h
   subst h
   simp only [BO] at hg
   split at hg
   ·rename_i ty' cs hb
    have k1:=(aq hg).1
    replace hg:=(aq hg).2
    replace k1:ty' = ty:=by simpa using k1
    subst k1
    replace hg:=(aq hg).2
    split at hg
    ·rename_i ds hds
     obtain ⟨qs,h1,h2⟩:=hs'.bx b _ hb
     have h3:=Bq hg
     obtain ⟨m1,m2,m3,m4,m5⟩:=vb hs' h2 hds (h3.trans (uX n x).symm) (xN n x) hn hc.bx hp
     have hB:=YF (cs:=vs) m2 h1
     refine ⟨⟨fun j=>((hc.sl j).mono m3).mono hB,IX.cons m2 hB ⟨qs,h1,m4.mono hB⟩⟩,m1.cons_st,m3.trans hB,fun t2 ht2=>?_⟩
     simp only [bC,a7,dw,Bool.or_eq_false_iff] at ht2
     show lkB ((b,_)::bx) t2 = _
     rw [au,if_neg (fun e=>by have:=ht2.1; simp [e] at this)]
     refine m5 t2 fun r hr e=>?_
     have:=Nn hr e
     rw [this] at ht2
     cases ht2.2.1
    ·exact dR hg
   ·exact dR hg
  ·cases h
section
variable {sc wr:List Nat}
theorem ki (m:Mod) (l:List Mod) (t:Nat) : aC (bC (m::l)) t=(aC (bC [m]) t||aC (bC l) t):=by
 cases m with
 | leaf i t'=>simp [bC,aC]
 | agg i n=>simp [bC,aC]
 | row i R e k t'=>simp [bC,a7,aC]
 | box b ty n rows=>simp [bC,a7,dw,aC,Bool.or_assoc]
def ya:Mod→Option Nat
 | .leaf i _=>some i
 | .agg i _=>some i
 | .row i _ _ _ _=>some i
 | .box ..=>none
theorem Ta {m:Mod} {x:m.den} {l:List (Nat×SV)} {bx:List (Nat×Option aY)} {pr oc:List Nat} {ro:Bool} {s2:SS} (h:sI m x ⟨l,bx,pr,ro,oc⟩=some s2) :
  ∃ X bx2,s2=⟨X++l,bx2,pr,ro,oc⟩∧(∀ l',sI m x ⟨l',bx,pr,ro,oc⟩=some ⟨X++l',bx2,pr,ro,oc⟩)∧∀ i,aC (X.map (·.1)) i=true→ya m=some i:=by
 cases m with
 | leaf i t=>simp only [sI] at h ⊢; injection h with h; subst h; exact ⟨[(i,.d (ru t x))],bx,rfl,fun _=>rfl,fun j hj=>by simp [a7,aC] at hj; simp [ya,hj]⟩
 | agg i n=>simp only [sI] at h ⊢; injection h with h; subst h; exact ⟨[(i,.ag (BI (stC n x)))],bx,rfl,fun _=>rfl,fun j hj=>by simp [a7,aC] at hj; simp [ya,hj]⟩
 | row i R e k t=>simp only [sI] at h ⊢; injection h with h; subst h; exact ⟨[(i,.row R)],_,rfl,fun _=>rfl,fun j hj=>by simp [a7,aC] at hj; simp [ya,hj]⟩
 | box b ty n rows =>
  simp only [sI] at h ⊢
  split at h
  ·rename_i vs bx' hp
   injection h with h
   subst h
   exact ⟨[],_,rfl,fun _=>rfl,fun j hj=>by cases hj⟩
  ·cases h
theorem Na:∀ {ms:List Mod} {st:kg ms} {l:List (Nat×SV)} {bx:List (Nat×Option aY)} {pr oc:List Nat} {ro:Bool} {s2:SS},jS ms st ⟨l,bx,pr,ro,oc⟩=some s2 →
  ∃ X bx2,s2=⟨X++l,bx2,pr,ro,oc⟩∧(∀ l',jS ms st ⟨l',bx,pr,ro,oc⟩=some ⟨X++l',bx2,pr,ro,oc⟩)∧∀ i,aC (X.map (·.1)) i=true→∃ m∈ms,ya m=some i
 | [],st,l,bx,pr,oc,ro,s2,h=>by injection h with h; subst h; exact ⟨[],bx,rfl,fun _=>rfl,fun j hj=>by cases hj⟩
 | [m],st,l,bx,pr,oc,ro,s2,h=>by
  obtain ⟨X,bx2,h1,h2,h3⟩:=Ta (show sI m st _ = some s2 from h)
  exact ⟨X,bx2,h1,h2,fun i hi=>⟨m,List.mem_cons_self,h3 i hi⟩⟩
 | m::m' :: ms,st,l,bx,pr,oc,ro,s2,h=>by
  have h:(match jS (m' :: ms) st.2 ⟨l,bx,pr,ro,oc⟩ with | some s=>sI m st.1 s | none=>none)=some s2:=h
  split at h
  ·rename_i s1 h1
   obtain ⟨X,bx2,rfl,k2,k3⟩:=Na h1
   obtain ⟨Y,bx3,rfl,m2,m3⟩:=Ta h
   refine ⟨Y++X,bx3,by simp,fun l'=>?_,fun i hi=>?_⟩
   ·show (match jS (m' :: ms) st.2 ⟨l',bx,pr,ro,oc⟩ with | some s=>sI m st.1 s | none=>none) = _
    rw [k2 l']
    simp only
    rw [m2]
    simp
   ·rw [List.map_append,dw,Bool.or_eq_true] at hi
    rcases hi with hi | hi
    ·exact ⟨m,List.mem_cons_self,m3 i hi⟩
    ·obtain ⟨m0,h4,h5⟩:=k3 i hi
     exact ⟨m0,List.mem_cons_of_mem _ h4,h5⟩
  ·cases h
theorem K5:∀ (X l:List (Nat×SV)) (i:Nat),lkV (X++l) i=if aC (X.map (·.1)) i=true then lkV X i else lkV l i
 | [],l,i=>by simp [aC]
 | (j,v)::X,l,i=>by
  simp only [List.cons_append,cZ,K5 X l i,List.map_cons,a7]
  by_cases e:i=j
  ·simp [e]
  ·simp [e]
theorem Tw {s':SS} {m:Mod} {x:m.den} (hg:BO s' m=some x) {t:Nat} (ht:aC (bC [m]) t=true) {ty:TypeId} {cs:List SV} (hb:lkB s'.bx t=some (.st ty cs)) : ∃ ty n rows,m = .box t ty n rows:=by
 cases m with
 | leaf i t'=>cases ht
 | agg i n=>cases ht
 | row i R e k t' =>
  simp only [bC,a7,aC,Bool.or_false,decide_eq_true_eq] at ht
  subst ht
  have hg:(match lkV s'.sl i,lkB s'.bx t with | .row R',some (.rw e' k' t2 xs _)=>(match Ty.same t2 t' with | some ⟨h⟩=>chk (Nat.beq R' t) (chk (e' == e) (chk (k' == k) (some (zG h xs)))) | none=>none) | _,_=>none)=some (show List t'.den from x):=hg
  rw [hb] at hg
  split at hg
  ·rename_i h2; cases h2
  ·cases hg
 | box b ty' n rows =>
  simp only [bC,a7,dw,aC,Bool.or_false,Bool.or_eq_true,decide_eq_true_eq] at ht
  rcases ht with ht | ht
  ·subst ht; exact ⟨_,_,_,rfl⟩
  ·exfalso
   simp only [BO] at hg
   split at hg
   ·have h1:=(aq (aq hg).2).1
    have key:∀ rows:List (Nat×Nat×Nat×Nat×Ty),aC (rows.map (·.2.1)) t=true→(rows.all fun r=>abs (lkB s'.bx r.2.1))=true→abs (lkB s'.bx t)=true:=by
     intro rows
     induction rows with
     | nil=>intro h; cases h
     | cons r rows ih =>
      intro h h2
      rw [List.all_cons,Bool.and_eq_true] at h2
      rw [List.map_cons,a7,Bool.or_eq_true] at h
      rcases h with h | h
      ·have:=zd h
       rw [this]; exact h2.1
      ·exact ih h h2.2
    have h2:=key rows ht h1
    rw [hb] at h2
    cases h2
   ·exact dR hg
theorem Nf {s':SS} {p:PS} (hs':g9 s' p) : ∀ {ms:List Mod} {st:kg ms} {c c':SS},uE s' ms=some st→g9 c p→mG c.bx→jS ms st c=some c' →
  g9 c' p∧mG c'.bx∧BLe c.bx c'.bx∧(∀ t,aC (bC ms) t=false→lkB c'.bx t=lkB c.bx t)∧∀ t,aC (bC ms) t=true→∀ ty cs,lkB s'.bx t=some (.st ty cs)→∃ ty' cs',lkB c'.bx t=some (.st ty' cs')
 | [],st,c,c',_,hc,hn,h=>by injection h with h; subst h; exact ⟨hc,hn,.refl _,fun _ _=>rfl,fun t ht=>by cases ht⟩
 | [m],st,c,c',hp,hc,hn,h=>by
  have hg:BO s' m=some st:=hp
  have h:sI m st c=some c':=h
  obtain ⟨h1,h2,h3,h4⟩:=Tb hs' hg hc hn h
  refine ⟨h1,h2,h3,h4,fun t ht ty cs hb=>?_⟩
  obtain ⟨ty',n,rows,rfl⟩:=Tw hg ht hb
  simp only [sI] at h
  split at h
  ·injection h with h
   subst h
   exact ⟨_,_,by show lkB ((t,_) :: _) t = _; rw [au,if_pos rfl]⟩
  ·cases h
 | m::m' :: ms,st,c,c',hp,hc,hn,h=>by
  have hp:Option.bind (BO s' m) (fun x=>Option.bind (uE s' (m' :: ms)) fun xs=>some (x,xs))=some st:=hp
  obtain ⟨x,hg,hp2⟩:=cQ hp
  obtain ⟨xs,hp3,he⟩:=cQ hp2
  injection he with he
  subst he
  have h:(match jS (m' :: ms) xs c with | some s=>sI m x s | none=>none)=some c':=h
  split at h
  ·rename_i c1 h1
   obtain ⟨k1,k2,k3,k4,k5⟩:=Nf hs' hp3 hc hn h1
   obtain ⟨n1,n2,n3,n4⟩:=Tb hs' hg k1 k2 h
   refine ⟨n1,n2,k3.trans n3,fun t ht=>?_,fun t ht ty cs hb=>?_⟩
   ·rw [ki,Bool.or_eq_false_iff] at ht
    rw [n4 t ht.1,k4 t ht.2]
   ·rw [ki,Bool.or_eq_true] at ht
    rcases ht with ht | ht
    ·obtain ⟨ty',n,rows,rfl⟩:=Tw hg ht hb
     simp only [sI] at h
     split at h
     ·injection h with h
      subst h
      exact ⟨_,_,by show lkB ((t,_) :: _) t = _; rw [au,if_pos rfl]⟩
     ·cases h
    ·obtain ⟨ty',cs',h5⟩:=k5 t ht ty cs hb
     exact n3.st t ty' cs' h5
  ·cases h
theorem vi {s:SS} : ∀ {ms:List Mod},qe wr s ms=true→(∀ m∈ms,∀ i,ya m=some i→aC wr i=true∨∃ R,aC (bC ms) R=true∧lkV s.sl i = .row R)∧∀ t,aC (bC ms) t=true→aC s.pr t=false
 | [],_=>⟨fun m hm=>(by cases hm),fun t ht=>(by cases ht)⟩
 | m::ms,h=>by
  have key:qe wr s ms=true∧(∀ i,ya m=some i→aC wr i=true∨∃ R,aC (bC [m]) R=true∧lkV s.sl i = .row R)∧∀ t,aC (bC [m]) t=true→aC s.pr t=false:=by
   cases m with
   | leaf i t =>
    simp only [qe] at h
    split at h
    ·rename_i hw; exact ⟨h,fun j hj=>by injection hj with hj; subst hj; exact .inl hw,fun t ht=>by cases ht⟩
    ·cases h
   | agg i n =>
    simp only [qe] at h
    split at h
    ·rename_i hw; exact ⟨h,fun j hj=>by injection hj with hj; subst hj; exact .inl hw,fun t ht=>by cases ht⟩
    ·cases h
   | row i R e k t =>
    simp only [qe] at h
    split at h
    ·rename_i hp hw
     refine ⟨h,fun j hj=>?_,fun t ht=>?_⟩
     ·injection hj with hj
      subst hj
      rw [Bool.or_eq_true] at hw
      rcases hw with hw | hw
      ·exact .inl hw
      ·unfold aaQ at hw
       split at hw
       ·rename_i R' hv
        rw [db] at hw
        have:=zd hw
        subst this
        exact .inr ⟨R',by simp [bC,a7],hv⟩
       ·cases hw
     ·simp only [bC,a7,aC,Bool.or_false,decide_eq_true_eq] at ht
      subst ht; exact hp
    ·cases h
   | box b ty n rows =>
    simp only [qe] at h
    split at h
    ·rename_i hp hr
     refine ⟨h,fun j hj=>(by cases hj),fun t ht=>?_⟩
     simp only [bC,a7,dw,aC,Bool.or_false,Bool.or_eq_true,decide_eq_true_eq] at ht
     rcases ht with ht | ht
     ·subst ht; exact hp
     ·clear h
      induction rows with
      | nil=>cases ht
      | cons r rows ih =>
       rw [List.all_cons,Bool.and_eq_true] at hr
       rw [List.map_cons,a7,Bool.or_eq_true] at ht
       rcases ht with ht | ht
       ·have:=zd ht
        rw [this]; simpa using hr.1
       ·exact ih hr.2 ht
    ·cases h
  obtain ⟨h1,h2,h3⟩:=key
  obtain ⟨h4,h5⟩:=vi h1
  refine ⟨fun m0 hm i hi=>?_,fun t ht=>?_⟩
  ·rcases List.mem_cons.1 hm with rfl | hm
   ·rcases h2 i hi with h | ⟨R,h6,h7⟩
    ·exact .inl h
    ·exact .inr ⟨R,by rw [ki,h6]; rfl,h7⟩
   ·rcases h4 m0 hm i hi with h | ⟨R,h6,h7⟩
    ·exact .inl h
    ·exact .inr ⟨R,by rw [ki,h6]; simp,h7⟩
  ·rw [ki,Bool.or_eq_true] at ht
   exact ht.elim (h3 t) (h5 t)
theorem nf:∀ {cs:List SV} (_:cF cs=true) {j:Nat} {c:SV},cs[j]? = some c→qd c=true
 | [],_,j,c,h=>by simp at h
 | d::cs,h,j,c,hj=>by
  simp only [cF] at h
  split at h
  ·rename_i h1
   cases j with
   | zero=>simp at hj; subst hj; exact h1
   | succ j=>simp at hj; exact nf h hj
  ·cases h
theorem PE {B B':List (Nat×Option aY)} {v:SV} {q:PV} (h:bf B v q) : qd v=true→bf B' v q:=by
 induction h with
 | junk q=>exact fun _=>.junk q
 | d c y h=>exact fun _=>.d c y h
 | ag cs qs hl hr ih=>exact fun hs=>.ag cs qs hl fun j c q h1 h2=>ih j c q h1 h2 (nf hs h1)
 | tup cs qs hl hr ih=>exact fun hs=>.tup cs qs hl fun j c q h1 h2=>ih j c q h1 h2 (nf hs h1)
 | ptr t o ty cs hb=>exact fun hs=>by cases hs
 | row t n e k ty xs pins hb hn=>exact fun hs=>by cases hs
 | re t p o n i e k ty xs pins pin hb hn hp hi=>exact fun hs=>by cases hs
 | vw t lo hi n e k ty xs pins hb hn=>exact fun hs=>by cases hs
 | fe cs ds h hn=>exact fun _=>.fe cs ds h hn
 | fn f ps qs ps' qs' hl hr hl2 hr2 ih ih2 =>
  intro hs
  have hs:(match cF ps with | true=>cF qs | false=>false)=true:=hs
  split at hs
  ·rename_i h1
   exact .fn f ps qs ps' qs' hl (fun j c q h2 h3=>ih j c q h2 h3 (nf h1 h2)) hl2 (fun j c q h2 h3=>ih2 j c q h2 h3 (nf hs h2))
  ·cases hs
def uF (sc wr:List Nat) (ms:List Mod) (s1:SS) : SS:=⟨s1.sl,s1.bx,(cm sc wr ms s1).pr,s1.ro,s1.oc⟩
theorem rx (ms:List Mod) (s1:SS) (t:Nat) : aC (cm sc wr ms s1).pr t=true↔aC (bC ms) t=false∧aC sc t=false∧∃ b,lkB s1.bx t=some b∧za b=true:=by
 show aC (pw (bC ms++sc) s1.bx []) t=true↔_
 rw [lH,dw,Bool.or_eq_false_iff]
 simp [aC,and_assoc]
theorem BN (ms:List Mod) (s1:SS) : mE (uF sc wr ms s1):=fun t ht=>((rx (wr:=wr) ms s1 t).1 ht).2.2
theorem zJ {ms:List Mod} {s1:SS} {t:Nat} (h:aC (cm sc wr ms s1).pr t=true) : lkB (cm sc wr ms s1).bx t=KA (lkB s1.bx t):=by
 obtain ⟨_,h2,_⟩:=(rx ms s1 t).1 h
 show lkB (MY s1.bx sc (tT (cm sc wr ms s1).pr s1.bx [])) t = _
 rw [(wm s1.bx sc _ t).2 (.inl h2),oq,h]
 simp [aC]
theorem Es {ms:List Mod} {s1:SS} {t:Nat} (h:aC sc t=true) {ty:TypeId} {cs:List SV} (hb:lkB s1.bx t=some (.st ty cs)) : lkB (cm sc wr ms s1).bx t=some (.st ty (xq cs)) :=
 (wm s1.bx sc _ t).1 h ty cs hb
theorem G0 {ms:List Mod} {s1:SS} {t:Nat} {b:aY} (h:lkB (cm sc wr ms s1).bx t=some b) : aC (cm sc wr ms s1).pr t=true∨aC sc t=true∧∃ ty cs,lkB s1.bx t=some (.st ty cs):=by
 by_cases h1:aC sc t=true∧∃ ty cs,lkB s1.bx t=some (.st ty cs)
 ·exact .inr h1
 ·left
  have h2:aC sc t=false∨∀ ty cs,lkB s1.bx t≠some (.st ty cs):=by
   by_cases h3:aC sc t=true
   ·exact .inr fun ty cs h4=>h1 ⟨h3,ty,cs,h4⟩
   ·exact .inl (by simpa using h3)
  have h:lkB (MY s1.bx sc (tT (cm sc wr ms s1).pr s1.bx [])) t=some b:=h
  rw [(wm s1.bx sc _ t).2 h2,oq] at h
  cases h4:aC (cm sc wr ms s1).pr t with
  | true=>rfl
  | false=>rw [h4] at h; simp [aC] at h
theorem K2 {ms:List Mod} {s1 s':SS} {p1 p':PS} {st:kg ms} {s2:SS} (hs1:g9 s1 p1) (hchk:tQ sc wr ms s1.pr s1=true) (hk:dN sc wr (uF sc wr ms s1) s') (hs':g9 s' p') (hpk:uE s' ms=some st) (hput:jS ms st (cm sc wr ms s1)=some s2) :
  g9 s2 p'∧dN sc wr (uF sc wr ms s1) s2∧s2.pr=(cm sc wr ms s1).pr:=by
 unfold tQ at hchk
 simp only [Bool.and_eq_true] at hchk
 obtain ⟨c1,c2,c3,c4⟩:=hchk
 obtain ⟨o1,o2⟩:=vi c1
 have hscm:=ue c3
 obtain ⟨X,bx2,rfl,hX,hkeys⟩:=Na (show jS ms st ⟨(cm sc wr ms s1).sl,(cm sc wr ms s1).bx,(cm sc wr ms s1).pr,(cm sc wr ms s1).ro,(cm sc wr ms s1).oc⟩=some s2 from hput)
 have hX0:=hX []
 rw [List.append_nil] at hX0
 have hsame:∀ t,aC (cm sc wr ms s1).pr t=true→lc (lkB s1.bx t) (lkB s'.bx t):=hk.bx
 have hbx:IX (cm sc wr ms s1).bx p':=by
  intro t b hb
  rcases G0 hb with h | ⟨h,ty,cs,h1⟩
  ·obtain ⟨_,_,b1,h2,h3⟩:=(rx ms s1 t).1 h
   have h4:=hsame t h
   rw [zJ h,h2] at hb
   rw [h2] at h4
   cases b1 with
   | st ty cs =>
    injection hb with hb
    subst hb
    obtain ⟨qs,h5,h6⟩:=hs'.bx t _ h4
    exact ⟨qs,h5,h6.len,fun j c q m1 m2=>PE (h6.rep j c q m1 m2) (nf h3 m1)⟩
   | rw e k ty xs pins =>
    injection hb with hb
    subst hb
    obtain ⟨pins',h4⟩:=h4
    exact ⟨(hs'.bx t _ h4).1,fun p pin hp=>by cases hp⟩
  ·rw [Es h h1] at hb
   injection hb with hb
   subst hb
   obtain ⟨cs',h2,h3⟩:=hk.st t h ty cs h1
   obtain ⟨qs,h4,h5⟩:=hs'.bx t _ h2
   refine ⟨qs,h4,by rw [BL,← h3]; exact h5.len,fun j c q m1 m2=>?_⟩
   rw [Jq cs j c m1]
   exact .junk q
 have hnp:mG (cm sc wr ms s1).bx:=by
  intro t e k ty xs pins hb
  rcases G0 hb with h | ⟨h,ty2,cs,h1⟩
  ·rw [zJ h] at hb
   cases hl:lkB s1.bx t with
   | none=>rw [hl] at hb; cases hb
   | some b =>
    rw [hl] at hb
    cases b with
    | st=>cases hb
    | rw e2 k2 ty2 xs2 pins2 =>
     injection hb with hb
     injection hb with q1 q2 q3 q4 q5
     exact q5.symm
  ·rw [Es h h1] at hb; cases hb
 have hc0:g9 ⟨[],(cm sc wr ms s1).bx,(cm sc wr ms s1).pr,(cm sc wr ms s1).ro,(cm sc wr ms s1).oc⟩ p':=⟨fun i=>.junk _,hbx⟩
 obtain ⟨k1,k2,k3,k4,k5⟩:=Nf hs' hpk hc0 hnp hX0
 have k4:∀ t,aC (bC ms) t=false→lkB bx2 t=lkB (cm sc wr ms s1).bx t:=k4
 have hprm:∀ t,aC (cm sc wr ms s1).pr t=true→aC (bC ms) t=false:=fun t ht=>((rx ms s1 t).1 ht).1
 have hkb:∀ t,aC (bC ms++(tJ s1.bx sc++(cm sc wr ms s1).pr)) t=true→∀ ty cs,lkB s'.bx t=some (.st ty cs)→∃ ty' cs',lkB bx2 t=some (.st ty' cs'):=by
  intro t ht ty cs hb
  rw [dw,dw,Bool.or_eq_true,Bool.or_eq_true] at ht
  rcases ht with ht | ht | ht
  ·exact k5 t ht ty cs hb
  ·obtain ⟨h1,ty2,cs2,h2⟩:=(rv s1.bx sc t).1 ht
   rw [k4 t (hscm t h1),Es h1 h2]
   exact ⟨_,_,rfl⟩
  ·rw [k4 t (hprm t ht),zJ ht]
   have h1:=hsame t ht
   obtain ⟨_,_,b1,h2,h3⟩:=(rx ms s1 t).1 ht
   rw [h2] at h1 ⊢
   cases b1 with
   | st ty2 cs2=>exact ⟨_,_,rfl⟩
   | rw e k ty2 xs pins =>
    obtain ⟨pins',h1⟩:=h1
    rw [h1] at hb
    cases hb
 have hbase:∀ i,lkV (cm sc wr ms s1).sl i=if aC wr i=true then .junk else if Ii (cm sc wr ms s1).pr (bC ms++(tJ s1.bx sc++(cm sc wr ms s1).pr)) (lkV s1.sl i)=true then lkV s1.sl i else .junk:=fun i=>by
  show lkV (tS wr (cm sc wr ms s1).pr (bC ms++(tJ s1.bx sc++(cm sc wr ms s1).pr)) s1.sl []) i = _
  rw [om]
  simp [aC]
 refine ⟨⟨fun i=>?_,k1.bx⟩,⟨rfl,rfl,fun t ht=>?_,fun i hi hsf=>?_,fun t ht ty cs hb=>?_⟩,rfl⟩
 ·show bf bx2 (lkV (X++(cm sc wr ms s1).sl) i) (p'.t i)
  rw [K5]
  split
  ·exact k1.sl i
  ·rw [hbase]
   split
   ·exact .junk _
   ·rename_i hw
    split
    ·rename_i hsf
     have e:=hk.sl i (by simpa using hw) (W5 (fun t h=>h) _ hsf)
     have h1:=hs'.sl i
     rw [e] at h1
     refine T9 (fun t ht e k ty xs pins hb=>?_) hkb h1 hsf
     rw [k4 t (hprm t ht),zJ ht]
     have h2:=hsame t ht
     obtain ⟨_,_,b1,h3,h4⟩:=(rx ms s1 t).1 ht
     rw [h3] at h2 ⊢
     cases b1 with
     | st ty2 cs2=>have h2:lkB s'.bx t=some (.st ty2 cs2):=h2; rw [h2] at hb; cases hb
     | rw e2 k2 ty2 xs2 pins2 =>
      obtain ⟨pins',h2⟩:=h2
      rw [h2] at hb
      injection hb with hb
      injection hb with q1 q2 q3 q4 q5
      subst q3
      have q4:=eq_of_heq q4
      subst q4
      exact ⟨_,_,_,_,_,rfl,rfl⟩
    ·exact .junk _
 ·show lc (lkB s1.bx t) (lkB bx2 t)
  have ht:aC (cm sc wr ms s1).pr t=true:=ht
  rw [k4 t (hprm t ht),zJ ht]
  match lkB s1.bx t with
  | none=>rfl
  | some (.st _ _)=>rfl
  | some (.rw _ _ _ _ _)=>exact ⟨[],rfl⟩
 ·show lkV (X++(cm sc wr ms s1).sl) i=lkV s1.sl i
  have hsf:lD (cm sc wr ms s1).pr (lkV s1.sl i)=true:=hsf
  rw [K5,if_neg,hbase,if_neg (by simp [hi]),if_pos]
  ·refine P0 (fun t h=>h) (fun t ty cs hb=>?_) (hs1.sl i) hsf
   rw [dw,dw,Bool.or_eq_true,Bool.or_eq_true]
   rcases pA _ _ _ _ c4 t ty cs rfl hb with h | h | h
   ·exact .inl h
   ·exact .inr (.inl ((rv s1.bx sc t).2 ⟨h,ty,cs,hb⟩))
   ·by_cases hm:aC (bC ms) t=true
    ·exact .inl hm
    ·by_cases hsc:aC sc t=true
     ·exact .inr (.inl ((rv s1.bx sc t).2 ⟨hsc,ty,cs,hb⟩))
     ·exact .inr (.inr ((rx ms s1 t).2 ⟨by simpa using hm,by simpa using hsc,_,hb,h⟩))
  ·intro hX1
   obtain ⟨m,hm,hkey⟩:=hkeys i hX1
   rcases o1 m hm i hkey with h | ⟨R,h1,h2⟩
   ·rw [h] at hi; cases hi
   ·rw [h2] at hsf
    have hsf:aC (cm sc wr ms s1).pr R=true:=hsf
    rw [hprm R hsf] at h1
    cases h1
 ·show ∃ cs',lkB bx2 t = _∧_
  rw [k4 t (hscm t ht),Es ht (show lkB s1.bx t = _ from hb)]
  exact ⟨_,rfl,BL cs⟩
end
section
theorem Ee {P:Program} {s:SS} {p:PS} (hs:Sim s p) : ∀ {l:List ResultVar} {vs:List SV},M1 P s l=some vs→∃ qs,l.mapM (Ds P p)=some qs∧ch s.bx vs qs
 | [],vs,h=>by injection h with h; subst h; exact ⟨[],rfl,.nil⟩
 | .tmp t::l,vs,h=>by
  simp only [M1] at h
  split at h
  ·rename_i vs' h1
   injection h with h
   subst h
   obtain ⟨qs,h2,h3⟩:=Ee hs h1
   exact ⟨p.t t::qs,by simp [List.mapM_cons,Ds,h2],.cons (hs.sl t) h3⟩
  ·cases h
 | .cell t ty::l,vs,h=>by
  simp only [M1] at h
  split at h
  ·rename_i v vs' h0 h1
   injection h with h
   subst h
   obtain ⟨qs,h2,h3⟩:=Ee hs h1
   obtain ⟨r,h4,h5⟩:=Nq hs (hs.sl t) h0
   exact ⟨r::qs,by simp [List.mapM_cons,Ds,h4,h2],.cons h5 h3⟩
  ·cases h
theorem Ob {s:SS} {p:PS} (hs:Sim s p) : ∀ {rs:List PT} {vs:List SV} {qs:List PV} {x:aX rs},ch s.bx vs qs→JS s rs vs=some x→bR p.b qs=yY rs x
 | [],[],qs,x,hv,h=>by
  rcases hv.cases with ⟨_,rfl⟩ | ⟨_,_,_,_,h1,_⟩
  ·rfl
  ·cases h1
 | [],_ :: _,_,x,_,h=>dR (x:=x) h
 | [t],[],_,x,_,h=>dR (x:=x) h
 | [t],[v],qs,x,hv,h=>by
  rcases hv.cases with ⟨h1,_⟩ | ⟨v',q,vs',qs',h1,rfl,h2,h3⟩
  ·cases h1
  ·injection h1 with e1 e2
   subst e1 e2
   rcases h3.cases with ⟨_,rfl⟩ | ⟨_,_,_,_,h4,_⟩
   ·have:=(Eo hs h2 (show Oj s t v=some x from h)).1
    simp only [bR,yY,this]
   ·cases h4
 | [t],_ :: _ :: _,_,x,_,h=>dR (x:=x) h
 | t::t' :: rs,[],_,x,_,h=>dR (x:=x) h
 | t::t' :: rs,v::vs,qs,x,hv,h=>by
  rcases hv.cases with ⟨h1,_⟩ | ⟨v',q,vs',qs',h1,rfl,h2,h3⟩
  ·cases h1
  ·injection h1 with e1 e2
   subst e1 e2
   have h:Option.bind (Oj s t v) (fun x=>Option.bind (JS s (t' :: rs) vs) fun xs=>some (x,xs))=some x:=h
   obtain ⟨y,h4,h5⟩:=cQ h
   obtain ⟨ys,h6,h7⟩:=cQ h5
   injection h7 with h7
   subst h7
   simp only [bR,yY,(Eo hs h2 h4).1,Ob hs h3 h6]
theorem JR {s:SS} : ∀ {rs:List PT} {vs:List SV} {x:aX rs},JS s rs vs=some x→vs.length=rs.length
 | [],[],x,_=>rfl
 | [],_ :: _,x,h=>dR (x:=x) h
 | [t],[],x,h=>dR (x:=x) h
 | [t],[v],x,_=>rfl
 | [t],_ :: _ :: _,x,h=>dR (x:=x) h
 | t::t' :: rs,[],x,h=>dR (x:=x) h
 | t::t' :: rs,v::vs,x,h=>by
  have h:Option.bind (Oj s t v) (fun x=>Option.bind (JS s (t' :: rs) vs) fun xs=>some (x,xs))=some x:=h
  obtain ⟨y,h4,h5⟩:=cQ h
  obtain ⟨ys,h6,h7⟩:=cQ h5
  simp only [List.length_cons,JR h6]
theorem Nx {C:Cx} {fn:Func} (hv:fn.results.toList=C.vars) {s:SS} {p:PS} (hs:Sim (clr s) p) {r:aX C.rs} (hM:pD C.rs=false) (h:CR C s=some r) : ∃ q,rP C.P fn p=some q∧asData p.b q=toR C.rs r:=by
 unfold CR at h
 rw [hM] at h
 simp only at h
 split at h
 ·rename_i vs hvs
  obtain ⟨qs,h1,h2⟩:=Ee hs hvs
  have h3:=Ob hs h2 h
  have h4:=JR h
  have h5:=h2.len
  unfold rP
  rw [hv,h1]
  match qs,h3,h5 with
  | [],h3,h5 =>
   refine ⟨.tup [],rfl,?_⟩
   rcases sw C.rs r with ⟨q,k1,_⟩ | k1
   ·rw [k1] at h3; simp [bR] at h3
   ·rw [k1,← h3]; rfl
  | [q],h3,h5 =>
   refine ⟨q,rfl,?_⟩
   have:C.rs.length=1:=by rw [← h4,h5]; rfl
   rcases sw C.rs r with ⟨q',k1,k2⟩ | k1
   ·rw [k1] at h3
    rw [k2]
    simpa [bR] using h3
   ·exfalso
    match C.rs,r,this,k1 with
    | [t],r,_,k1=>cases t <;> simp [toR,p5] at k1
  | q::q' :: qs,h3,h5 =>
   refine ⟨.tup (q::q' :: qs),rfl,?_⟩
   rcases sw C.rs r with ⟨q2,k1,_⟩ | k1
   ·rw [k1] at h3; simp [bR] at h3
   ·rw [k1,← h3]; rfl
 ·cases h
theorem Qc:∀ (rs:List PT) (o:ze (cA rs)) (r:aX (fc rs)),jT rs (XT rs o r)=o∧ic rs (XT rs o r)=r
 | [],_,_=>⟨rfl,rfl⟩
 | [.io _],_,_=>⟨rfl,rfl⟩
 | .io _ :: _ :: _,_,_=>⟨rfl,rfl⟩
 | .own .. :: _,_,_=>⟨rfl,rfl⟩
 | .mv .. :: _,_,_=>⟨rfl,rfl⟩
 | .bx .. :: _,_,_=>⟨rfl,rfl⟩
 | .agr .. :: _,_,_=>⟨rfl,rfl⟩
 | .lf _ :: _,_,_=>⟨rfl,rfl⟩
 | .ag _ :: _,_,_=>⟨rfl,rfl⟩
 | .pl _ :: _,_,_=>⟨rfl,rfl⟩
 | .ps _ :: _,_,_=>⟨rfl,rfl⟩
 | .fn .. :: _,_,_=>⟨rfl,rfl⟩
def boI (i:Nat) : (b:IB)→List Nat→b.den→BU
 | .no,_,_=>[]
 | .own e k t,_,xs=>[(uO i,rwU e k t xs)]
 | .bx ty n rows,js,x=>(uO i,.st ty (eh (mI rows js) 0 (stD n x)))::cn (mI rows js) 0 (stD n x)
def tb:Nat→(ls:List IB)→List (List Nat)→ze ls→BU
 | i,b::ls,js::kss,o=>boI i b js o.1++tb (i + 1) ls kss o.2
 | _,_,_,_=>[]
def T5 (C:Cx) (fn:Func) (p:PS) (r:aX C.rs) : Prop :=
 (pD C.rs=false→∃ q,rP C.P fn p=some q∧asData p.b q=toR C.rs r) ∧
 (pD C.rs=true→∃ kss jss,kt (cA C.rs) kss∧iV (fc C.rs) jss∧(dC 0 (cA C.rs)++(br kss++br jss)).Nodup∧(∃ q,rP C.P fn p=some q∧rr q=zi (cW (fc C.rs) jss (ic C.rs r)).1) ∧
  ∀ t Bx,(t,Bx)∈tb 0 (cA C.rs) kss (jT C.rs r)++(cW (fc C.rs) jss (ic C.rs r)).2→∃ B',p.b t=some B'∧sJ B' = Bx)
theorem KV {rows:List (Nat×Nat×Nat×Nat×Ty)} {t:Nat} {Bx:Box} : ∀ {ds:List D} {j:Nat},(t,Bx)∈cn rows j ds→sJ Bx=Bx
 | [],j,h=>by cases h
 | d::ds,j,h=>by
  simp only [cn] at h
  split at h
  ·split at h
   ·rcases List.mem_cons.1 h with e | h
    ·injection e with _ e; subst e; rfl
    ·exact KV h
   ·exact KV h
  ·exact KV h
theorem aar {s:SS} {p:PS} (hs:Sim s p) {i:Nat} {b:IB} {o:b.den} {js:List Nat} (h:aas s i b=some (o,js)) : js.length=b.nJ∧∀ t Bx,(t,Bx)∈boI i b js o→∃ B',p.b t=some B'∧sJ B' = Bx:=by
 cases b with
 | no =>
  injection h with h
  injection h with _ h
  subst h
  exact ⟨rfl,fun _ _ h=>by cases h⟩
 | own e k t =>
  simp only [aas] at h
  split at h
  ·rename_i xs is hd
   injection h with h
   injection h with e1 e2
   subst e1 e2
   refine ⟨rfl,fun t' Bx hm=>?_⟩
   have hbx:=hs.bx (uO i)
   unfold uf at hd
   simp only at hd
   split at hd
   ·rename_i e' k' t2 xs' pins hb
    split at hd
    ·rename_i hty _
     obtain ⟨m2,hd⟩:=aq hd
     obtain ⟨m3,hd⟩:=aq hd
     injection hd with hd
     injection hd with e1 e2
     subst e1 hty
     have m2:=zd m2
     have m3:=zd m3
     subst m2 m3
     rw [hb] at hbx
     simp only [boI,List.mem_cons,List.not_mem_nil,or_false,Prod.mk.injEq] at hm
     obtain ⟨rfl,rfl⟩:=hm
     exact ⟨_,hbx.1,rfl⟩
    ·cases hd
   ·cases hd
  ·cases h
 | bx ty n rows =>
  simp only [aas] at h
  split at h
  ·rename_i ty' cs hb
   obtain ⟨m1,h⟩:=aq h
   have m1:=zd m1
   subst m1
   have hbx:=hs.bx (uO i)
   rw [hb] at hbx
   obtain ⟨qs,k1,k2⟩:=hbx
   obtain ⟨k3,k4,k5⟩:=GC hs k2 h
   refine ⟨k3,fun t Bx hm=>?_⟩
   rcases List.mem_cons.1 hm with e | hm
   ·injection e with e1 e2
    subst e1 e2
    exact ⟨_,k1,by rw [sJ,k4]⟩
   ·exact ⟨_,k5 t Bx hm,KV hm⟩
  ·cases h
theorem Oe {s:SS} {p:PS} (hs:Sim s p) : ∀ {ls:List IB} {i:Nat} {o:ze ls} {kss:List (List Nat)},TT s i ls=some (o,kss)→kt ls kss∧∀ t Bx,(t,Bx)∈tb i ls kss o→∃ B',p.b t=some B'∧sJ B' = Bx
 | [],i,o,kss,h=>by
  injection h with h
  injection h with _ h
  subst h
  exact ⟨trivial,fun _ _ h=>by cases h⟩
 | b::ls,i,o,kss,h=>by
  simp only [TT] at h
  split at h
  ·rename_i o1 js os kss' h1 h2
   injection h with h
   injection h with e1 e2
   subst e1 e2
   obtain ⟨k1,k2⟩:=aar hs h1
   obtain ⟨k3,k4⟩:=Oe hs h2
   refine ⟨⟨k1,k3⟩,fun t Bx hm=>?_⟩
   rcases List.mem_append.1 hm with hm | hm
   ·exact k2 t Bx hm
   ·exact k4 t Bx hm
  ·cases h
theorem JT {s:SS} {p:PS} (hs:Sim s p) : ∀ {rs:List PT} {vs:List SV} {qs:List PV} {x:aX rs} {jss:List (List Nat)},ch s.bx vs qs→Lr s rs vs=some (x,jss) →
  iV rs jss∧dQ qs=(cW rs jss x).1∧∀ t Bx,(t,Bx)∈(cW rs jss x).2→∃ B',p.b t=some B'∧sJ B' = Bx
 | [],[],qs,x,jss,hv,h=>by
  rcases hv.cases with ⟨_,rfl⟩ | ⟨_,_,_,_,h1,_⟩
  ·injection h with h
   injection h with _ h
   subst h
   exact ⟨trivial,rfl,fun _ _ h=>by cases h⟩
  ·cases h1
 | [],_ :: _,_,x,jss,_,h=>dR (x:=(x,jss)) h
 | [pt],[],_,x,jss,_,h=>dR (x:=(x,jss)) h
 | [pt],[v],qs,x,jss,hv,h=>by
  rcases hv.cases with ⟨h1,_⟩ | ⟨v',q,vs',qs',h1,rfl,h2,h3⟩
  ·cases h1
  ·injection h1 with e1 e2
   subst e1 e2
   rcases h3.cases with ⟨_,rfl⟩ | ⟨_,_,_,_,h4,_⟩
   ·have h:(match QR s pt v with | some (x,is)=>some (x,[is]) | none=>none)=some (x,jss):=h
    split at h
    ·rename_i y is hd
     injection h with h
     injection h with e1 e2
     subst e1 e2
     obtain ⟨k1,k2,k3⟩:=Ls hs h2 hd
     exact ⟨⟨k1,trivial⟩,by simp only [dQ,cW,k2],k3⟩
    ·cases h
   ·cases h4
 | [pt],_ :: _ :: _,_,x,jss,_,h=>dR (x:=(x,jss)) h
 | pt::q::l,[],_,x,jss,_,h=>dR (x:=(x,jss)) h
 | pt::q::l,v::vs,qs,x,jss,hv,h=>by
  rcases hv.cases with ⟨h1,_⟩ | ⟨v',qv,vs',qs',h1,rfl,h2,h3⟩
  ·cases h1
  ·injection h1 with e1 e2
   subst e1 e2
   have h:(match QR s pt v,Lr s (q::l) vs with | some (x,is),some (xs,iss)=>some ((x,xs),is::iss) | _,_=>none)=some (x,jss):=h
   split at h
   ·rename_i y is ys iss hd hr
    injection h with h
    injection h with e1 e2
    subst e1 e2
    obtain ⟨k1,k2,k3⟩:=Ls hs h2 hd
    obtain ⟨k4,k5,k6⟩:=JT hs h3 hr
    refine ⟨⟨k1,k4⟩,by simp only [dQ,cW,k2,k5],fun t Bx hm=>?_⟩
    rcases List.mem_append.1 hm with hm | hm
    ·exact k3 t Bx hm
    ·exact k6 t Bx hm
   ·cases h
theorem P4 {P:Program} {fn:Func} {p:PS} {qs:List PV} (h:fn.results.toList.mapM (Ds P p)=some qs) : rP P fn p=some (zi qs):=by
 unfold rP
 rw [h]
 match qs with
 | []=>rfl
 | [q]=>rfl
 | q::q' :: qs=>rfl
theorem ZW (qs:List PV) : rr (zi qs)=zi (dQ qs):=by
 match qs with
 | []=>rfl
 | [q]=>rfl
 | q::q' :: qs=>rfl
theorem Ts {C:Cx} {fn:Func} (hv:fn.results.toList=C.vars) {s:SS} {p:PS} (hpr:mE (clr s)) (hs:Sim (clr s) p) {r:aX C.rs} (h:CR C s=some r) : ∃ p',Le p p'∧T5 C fn p' r:=by
 cases hM:pD C.rs with
 | false=>exact ⟨p,.refl p,fun _=>Nx hv hs hM h,fun e=>by rw [hM] at e; cases e⟩
 | true =>
  unfold CR at h
  rw [hM] at h
  simp only [aaP] at h
  split at h
  ·split at h
   ·rename_i s1 hf
    obtain ⟨p1,k1,k2,_,_⟩:=yi (sc:=C.sc) hpr hs hf
    split at h
    ·rename_i ws hws
     obtain ⟨qs,k3,k4⟩:=Ee k2 hws
     split at h
     ·rename_i o kss r' jss ho hr
      obtain ⟨hn,h⟩:=aq h
      injection h with h
      obtain ⟨e1,e2⟩:=Qc C.rs o r'
      rw [h] at e1 e2
      obtain ⟨m1,m2⟩:=Oe k2 ho
      obtain ⟨m3,m4,m5⟩:=JT k2 k4 hr
      refine ⟨p1,k1,fun e=>(by rw [hM] at e; cases e),fun _=>⟨kss,jss,m1,m3,je hn,⟨_,P4 (by rw [hv]; exact k3),by rw [ZW,m4,e2]⟩,fun t Bx hm=>?_⟩⟩
      rw [e1,e2] at hm
      rcases List.mem_append.1 hm with hm | hm
      ·exact m2 t Bx hm
      ·exact m5 t Bx hm
     ·cases h
    ·cases h
   ·cases h
  ·cases h
def xE (C:Cx) (fn:Func) (W:List Nat) (s:SS) {ρ : Type} (k:Exit→SS→Option ρ) (kr:aX C.rs→Option ρ) (res : ρ) : Exit→PS→Prop
 | .ret,p'=>∃ r,T5 C fn p' r∧kr r=some res
 | e,p'=>∃ s',g9 s' p'∧dN C.sc W s s'∧k e s' = some res
theorem ZY {a b:List Nat} {i:Nat} (h:aC a i=true) : aC (a++b) i=true:=by rw [dw,h]; rfl
theorem Xy {a b:List Nat} {i:Nat} (h:aC b i=true) : aC (a++b) i=true:=by rw [dw,h]; simp
variable {C:Cx} {fn:Func}
theorem ry {W:List Nat} {s:SS} {ρ : Type} {k:Exit→SS→Option ρ} {kr:aX C.rs→Option ρ} {res : ρ} {e:Exit} {p:PS} (he:e≠.ret) (h:xE C fn W s k kr res e p) : ∃ s',g9 s' p∧dN C.sc W s s'∧k e s' = some res:=by
 cases e <;> first | exact h | exact absurd rfl he
theorem Nc {W:List Nat} {s s':SS} {ρ : Type} {k:Exit→SS→Option ρ} {kr:aX C.rs→Option ρ} {res : ρ} {e:Exit} {p:PS} (he:e≠.ret) (h1:g9 s' p) (h2:dN C.sc W s s') (h3:k e s' = some res) : xE C fn W s k kr res e p:=by
 cases e <;> first | exact ⟨s',h1,h2,h3⟩ | exact absurd rfl he
def WA (C:Cx) (fn:Func) (c:Code) (W:List Nat) (body:(ρ : Type)→SS→(Exit→SS→Option ρ)→(aX C.rs→Option ρ)→Option ρ) : Prop :=
 ∀ (ρ : Type) (s:SS) (p:PS) (k:Exit→SS→Option ρ) (kr:aX C.rs→Option ρ) (res : ρ),mE s→g9 s p→body ρ s k kr=some res→PWP C.P C.n c (xE C fn W s k kr res) p
theorem P8 {wr:List Nat} {ms:List Mod} {s s1:SS} (hpr:mE s) (hk:dN C.sc wr s s1) (hchk:tQ C.sc wr ms s.pr s1=true) : ∀ t,aC s.pr t=true→aC (cm C.sc wr ms s1).pr t=true:=by
 intro t ht
 unfold tQ at hchk
 simp only [Bool.and_eq_true] at hchk
 obtain ⟨c1,c2,c3,c4⟩:=hchk
 rw [rx]
 refine ⟨?_,?_,hk.prOk hpr t (by rw [hk.pr]; exact ht)⟩
 ·cases hm:aC (bC ms) t with
  | false=>rfl
  | true =>
   have:=(vi c1).2 t hm
   rw [hk.pr,ht] at this
   cases this
 ·cases hm:aC C.sc t with
  | false=>rfl
  | true =>
   have:=ue c2 t hm
   rw [ht] at this
   cases this
mutual
theorem EY {pr pr':List Nat} (h:∀ t,aC pr t=true→aC pr' t=true) : ∀ v:SV,lD pr v=true→lD pr' v=true
 | .junk,_=>rfl
 | .d _,_=>rfl
 | .fe _,_=>rfl
 | .ptr _ _,_=>rfl
 | .row t,hs=>h t hs
 | .re _ _ _,hs=>by cases hs
 | .vw _ _ _,hs=>by cases hs
 | .ag cs,hs=>by simp only [lD] at hs ⊢; exact og h cs hs
 | .tup cs,hs=>by simp only [lD] at hs ⊢; exact og h cs hs
 | .fn f ps qs,hs=>by simp only [lD,Bool.and_eq_true] at hs ⊢; exact ⟨og h ps hs.1,og h qs hs.2⟩
theorem og {pr pr':List Nat} (h:∀ t,aC pr t=true→aC pr' t=true) : ∀ cs:List SV,eg pr cs=true→eg pr' cs=true
 | [],_=>rfl
 | c::cs,hs=>by
  simp only [eg,Bool.and_eq_true] at hs ⊢
  exact ⟨EY h c hs.1,og h cs hs.2⟩
end
theorem ye {wr:List Nat} {ms:List Mod} {s s1 s2:SS} {oc:List Nat} (hk:dN C.sc wr s s1) (hsub:∀ t,aC s.pr t=true→aC (cm C.sc wr ms s1).pr t=true) (hk2:dN C.sc wr (uF C.sc wr ms s1) s2) : dN C.sc wr s ⟨s2.sl,s2.bx,s.pr,s.ro,oc⟩:=by
 refine ⟨rfl,rfl,fun t ht=>(hk.bx t ht).trans (hk2.bx t (hsub t ht)),fun i hi hsf=>?_,fun t ht ty cs hb=>?_⟩
 ·have e:=hk.sl i hi hsf
  have:=hk2.sl i hi (EY hsub _ (by show lD s.pr (lkV s1.sl i)=true; rw [e]; exact hsf))
  exact this.trans e
 ·obtain ⟨cs1,h1,h2⟩:=hk.st t ht ty cs hb
  obtain ⟨cs2,h3,h4⟩:=hk2.st t ht ty cs1 h1
  exact ⟨cs2,h3,h4.trans h2⟩
theorem y9 {s:SS} (h:mE s) : mE (clr s):=h
theorem Nz {W:List Nat} {s s':SS} (h:dN C.sc W (clr s) s') : dN C.sc W s s':=⟨h.pr,h.ro,h.bx,h.sl,h.st⟩
theorem yR {c:Code} {wr:List Nat} {h:uR} {body:(ρ : Type)→SS→(Exit→SS→Option ρ)→(aX C.rs→Option ρ)→Option ρ} (hb:WA C fn c wr body) : WA C fn c wr (IZ C wr h body):=by
 intro ρ s p k kr res hpr hs hx
 unfold IZ at hx
 split at hx
 ·rename_i ms h'
  split at hx
  ·cases hx
  ·rename_i s1 hnil
   obtain ⟨hchk,hx⟩:=aq hx
   obtain ⟨st,h1,h2⟩:=cQ hx
   split at h2
   ·rename_i s2 hput
    refine u9 (BK hs) ?_
    obtain ⟨p2,k1,k2,k3,k4⟩:=rB (sc:=C.sc) (s:=clr s) rfl (y9 hpr) (sF hs) hnil
    refine u9 k1 ?_
    have hk1:dN C.sc wr s s1:=Nz k3
    have hw:g9 (uF C.sc wr ms s1) p2:=⟨k2.w.sl,k2.w.bx⟩
    refine fF (hb _ (uF C.sc wr ms s1) p2 _ _ st (BN ms s1) hw h1) fun e p' hq=>?_
    by_cases he:e = .ret
    ·subst he
     obtain ⟨r,_,h⟩:=hq
     cases h
    ·obtain ⟨s',m1,m2,m3⟩:=ry he hq
     cases e with
     | normal =>
      have m3:rz ms s' = some st:=m3
      unfold rz at m3
      split at m3
      ·rename_i s'' hf
       obtain ⟨p'',n1,n2,n3⟩:=sR (sc:=C.sc) (m2.prOk (BN ms s1)) m1 hf
       have hchk':tQ C.sc wr ms s1.pr s1=true:=by rw [hk1.pr]; exact hchk
       obtain ⟨o1,o2,o3⟩:=K2 k2.w hchk' (m2.trans (n3 wr)) n2 m3 hput
       exact ⟨p'',n1,⟨s2.sl,s2.bx,s.pr,s.ro,s.oc⟩,⟨o1.sl,o1.bx⟩,ye hk1 (P8 hpr hk1 hchk) o2,h2⟩
      ·cases m3
     | ret=>exact absurd rfl he
     | _=>cases m3
   ·cases h2
 ·exact hb ρ s p k kr res hpr hs hx
end
section
variable {C:Cx} {fn:Func}
theorem sE:∀ {l:List Oper},WZ l=true→∀ o∈l,∀ t x y,o.op = .store t x y→o.dst=none
 | [],_,o,ho,_,_,_,_=>by cases ho
 | x::l,h,o,ho,t,a,b,hop=>by
  simp only [WZ] at h
  rcases List.mem_cons.1 ho with rfl | ho
  ·cases hd:o.dst with
   | none=>rfl
   | some d=>rw [hop,hd] at h; cases h
  ·split at h
   ·cases h
   ·exact sE h o ho t a b hop
theorem S8 (hT:rK C.P C.T) (hm:C.P.follows .mixedOrders=true) (id:Nat) (ops:Array Oper) (draw:Bool) : WA C fn (.region id ops draw) (co ops.toList) (fun _ s k _=>Xc C id ops draw s fun s=>k .normal s):=by
 intro ρ s p k kr res hpr hs h
 have ha:ops.toList.toArray=ops:=by simp
 have hW:∀ o∈ops.toList,∀ d,o.dst=some d→aC (co ops.toList) d=true:=fun o ho d hd=>ud ho hd
 have hO:∀ (j:Nat) (o:Oper),ops[j]? = some o→∀ d,o.dst=some d→aC (co ops.toList) d=true:=fun j o ho d hd=>ud (by
  rw [Array.mem_toList_iff]
  exact Array.mem_of_getElem? ho) hd
 replace h:Xc C id ops draw s (fun s=>k .normal s)=some res:=h
 unfold Xc at h
 cases hf:lO (lkF C.fz id) s with
 | none=>rw [hf] at h; cases h
 | some s0 =>
  rw [hf] at h
  obtain ⟨p1,k1,k2,k3⟩:=sR (sc:=C.sc) hpr hs hf
  refine u9 k1 (u9 (BK k2) ?_)
  have hs2:=sF k2
  have hpr2:mE ⟨s0.sl,s0.bx,s0.pr,s0.ro,[]⟩:=(k3 []).prOk hpr
  have fin:∀ p',HJ C.sc (co ops.toList) ops.toList ⟨s0.sl,s0.bx,s0.pr,s0.ro,[]⟩ (yq s0 p1) (fun s=>k .normal s) res p'→xE C fn (co ops.toList) s k kr res .normal p':=by
   rintro p' ⟨s',m1,m2,m3,m4,_⟩
   exact ⟨s',m1.w,(k3 _).trans ⟨m2.pr,m2.ro,m2.bx,m2.sl,m2.st⟩,m4⟩
  simp only at h
  cases draw <;> simp only at h
  ·obtain ⟨h1,h2⟩:=aq h
   rw [Bool.and_eq_true] at h1
   have hrun:=Eb (q:=true) (sc:=C.sc) hT (ops:=ops) 1000 0 [] ops.toList hW hO (sE h1.1) hpr2 hs2 h2
   have:=M8 (P:=C.P) (n:=C.n) (id:=id) (Qs:=xE C fn (co ops.toList) s k kr res) (s:=yq s0 p1) h1.2 (by rw [ha]; exact fY hrun fin)
   rw [ha] at this
   exact this
  ·obtain ⟨h1,h2⟩:=aq h
   obtain ⟨h3,h4⟩:=aq h2
   split at h4
   ·have hrun:=Eb (q:=false) (sc:=C.sc) hT (ops:=ops) 1000 0 [] ops.toList hW hO (sE h1) hpr2 hs2 h4
    have:=Xg (P:=C.P) (n:=C.n) (id:=id) (l:=ops.toList) (Qs:=xE C fn (co ops.toList) s k kr res) (s:=yq s0 p1) _ hm (by rw [ha]; exact h3) (by
     rw [ha]
     exact Bt (P:=C.P) (ops:=ops) ops.toList 0 (yq s0 p1) (fun j hj=>by simp) (fY hrun fin))
    rw [ha] at this
    exact this
   ·obtain ⟨h5,h6⟩:=aq h4
    rw [Bool.and_eq_true] at h5
    have hle:=zd h5.2
    have hsub1:∀ o∈ops.toList.take (jc ops),o∈ops.toList:=fun o ho=>List.mem_of_mem_take ho
    have hsub2:∀ o∈ops.toList.drop (jc ops),o∈ops.toList:=fun o ho=>List.mem_of_mem_drop ho
    have hrun1:=Eb (q:=false) (sc:=C.sc) hT (ops:=ops) 1000 0 [] (ops.toList.take (jc ops)) (fun o ho=>hW o (hsub1 o ho)) hO (fun o ho=>sE h1 o (hsub1 o ho)) hpr2 hs2 h6
    have hrun:w7 false C.P ops (zk (lm C.T ⟨s0.sl,s0.bx,s0.pr,s0.ro,[]⟩ ops.toList [] [])) 0 (ops.toList.take (jc ops)) (yq s0 p1) fun p'=>w7 true C.P ops (zk []) 0 (ops.toList.drop (jc ops)) p' (xE C fn (co ops.toList) s k kr res .normal):=by
     refine fY hrun1 fun p' hp=>?_
     obtain ⟨s',m1,m2,m3,m4,_⟩:=hp
     have hrun2:=Eb (q:=true) (sc:=C.sc) hT (ops:=ops) 1000 0 [] (ops.toList.drop (jc ops)) (fun o ho=>hW o (hsub2 o ho)) hO (fun o ho=>sE h1 o (hsub2 o ho)) m3 m1 m4
     refine fY hrun2 fun p2 hp2=>?_
     obtain ⟨s3,n1,n2,n3,n4,_⟩:=hp2
     exact ⟨s3,n1.w,(k3 _).trans ((show dN C.sc (co ops.toList) s0 s' from ⟨m2.pr,m2.ro,m2.bx,m2.sl,m2.st⟩).trans n2),n4⟩
    have:=Uw (P:=C.P) (n:=C.n) (id:=id) (l:=ops.toList) (Qs:=xE C fn (co ops.toList) s k kr res) (s:=yq s0 p1) _ (jc ops) hle hm (by rw [ha]; exact h3) (by rw [ha]; exact h5.1) (by
     rw [ha]
     have e1:(ops.toList.take (jc ops)).length=jc ops:=by rw [List.length_take]; exact Nat.min_eq_left (by simpa using hle)
     have e2:(ops.toList.drop (jc ops)).length=ops.toList.length - jc ops:=by simp
     rw [← e2]
     have r1:=Bt (P:=C.P) (ops:=ops) (ops.toList.take (jc ops)) 0 (yq s0 p1) (fun j hj=>by
      rw [e1] at hj
      rw [List.getElem?_take,if_pos hj]
      simp) hrun
     rw [e1] at r1
     refine Ja r1 fun p' hp=>SZ _ _ _ _ (fun j hj=>by rw [List.getElem?_drop]; simp) hp)
    rw [ha] at this
    exact this
theorem ZI (hT:rK C.P C.T) (hm:C.P.follows .mixedOrders=true) (id:Nat) (ops:Array Oper) (draw:Bool) : WA C fn (.region id ops draw) (co ops.toList) (fun _ s k _=>ZJ C id ops draw s fun s=>k .normal s):=by
 intro ρ s p k kr res hpr hs h
 replace h:ZJ C id ops draw s (fun s=>k .normal s)=some res:=h
 unfold ZJ at h
 split at h
 ·exact S8 hT hm id ops draw ρ s p k kr res hpr hs h
 ·rename_i t l _
  obtain ⟨h1,h2⟩:=aq h
  have h3:=S8 (fn:=fn) hT hm id ops draw ρ s p (fun e s=>match e with | .normal=>(match JE C.sc (t::l) s with | some s=>k .normal s | none=>none) | e=>k e s) kr res hpr hs h2
  refine fF h3 fun e p' hq=>?_
  by_cases he:e = .ret
  ·subst he; exact ⟨p',.refl _,hq⟩
  ·obtain ⟨s',m1,m2,m3⟩:=ry he hq
   cases e with
   | ret=>exact absurd rfl he
   | normal =>
    have m3:(match JE C.sc (t::l) s' with | some s=>k .normal s | none=>none)=some res:=m3
    split at m3
    ·rename_i s2 hfb
     obtain ⟨p2,k1,k2,k3⟩:=NU hs (m2.prOk hpr) h1 m2 m1 hfb
     exact ⟨p2,k1,s2,k2,k3,m3⟩
    ·cases m3
   | _=>exact ⟨p',.refl _,Nc he m1 m2 m3⟩
theorem ET {s:SS} {p:PS} (hs:g9 s p) {x:Operand} {b:Bool} (h:evX s x = .d (.bool b)) : g9 (xp s x b) p:=by
 unfold xp
 split
 ·rename_i i
  refine ⟨fun j=>?_,hs.bx⟩
  show bf s.bx (lkV ((i,.d (.bool b))::s.sl) j) (p.t j)
  rw [cZ]
  split
  ·rename_i e
   subst e
   have:=hs.sl j
   rw [show lkV s.sl j = .d (.bool b) from h] at this
   exact this
  ·exact hs.sl j
 ·exact hs
theorem FK {W:List Nat} {s:SS} {x:Operand} {b:Bool} (h:∀ i,x = .tmp i→aC W i=true) : dN C.sc W s (xp s x b):=by
 unfold xp
 split
 ·rename_i i
  refine ⟨rfl,rfl,fun _ _=>.refl _,fun j hj _=>?_,fun _ _ _ cs h=>⟨cs,h,rfl⟩⟩
  show lkV ((i,.d (.bool b))::s.sl) j = _
  rw [cZ,if_neg (fun e=>by rw [e,h i rfl] at hj; cases hj)]
 ·exact .refl _ _
theorem FG {s:SS} {x:Operand} {b:Bool} (h:mE s) : mE (xp s x b):=by unfold xp; split <;> exact h
theorem Yi {s:SS} {p:PS} (hs:g9 s p) (x:Operand) : bf s.bx (evX s x) (ev p x):=by
 cases x with
 | tmp i=>exact hs.sl i
 | const v=>exact GL v
 | global g=>exact .junk _
 | func f=>exact .fn f [] [] [] [] rfl (fun j c q h=>by simp at h) rfl (fun j c q h=>by simp at h)
theorem xW {W W':List Nat} {s s0:SS} {ρ : Type} {k:Exit→SS→Option ρ} {kr:aX C.rs→Option ρ} {res : ρ} (hW:∀ i,aC W i=true→aC W' i=true) (hk:dN C.sc W' s0 s) {e:Exit} {p:PS} (h:xE C fn W s k kr res e p) : xE C fn W' s0 k kr res e p:=by
 by_cases he:e = .ret
 ·subst he; exact h
 ·obtain ⟨s',h1,h2,h3⟩:=ry he h
  exact Nc he h1 (hk.trans (h2.wide hW)) h3
theorem Fz {σ τ : Type} {f : σ→Option (σ⊕τ)} {m:Nat} {st : σ} {out : τ} (h:ai f m st=some out) : ∃ m',m=m' + 1∧((∃ st',f st=some (.inl st')∧ai f m' st' = some out)∨f st=some (.inr out)):=by
 cases m with
 | zero=>cases h
 | succ m =>
  refine ⟨m,rfl,?_⟩
  unfold ai at h
  split at h
  ·cases h
  ·rename_i st' hf; exact .inl ⟨st',hf,h⟩
  ·rename_i r hf; injection h with h; subst h; exact .inr hf
theorem Tn {c:Code} {ms:List Mod} {id:Nat} {τ : Type} {inr:kg ms→τ} {ret:aX C.rs→Option τ} {step:kg ms→Option (kg ms⊕τ)} {body:(ρ : Type)→SS→(Exit→SS→Option ρ)→(aX C.rs→Option ρ)→Option ρ} (hb:WA C fn c (wrC c) body)
  {s0:SS} (hstep:step=fun st=>match jS ms st (cm C.sc (wrC c) ms s0) with
   | none=>none
   | some sh=>body (kg ms⊕τ) sh (fun e s'=>match e with
    | .normal=>Option.bind (rz ms s') fun st'=>some (.inl st')
    | .exit id'=>(match Nat.beq id' id with | true=>Option.bind (rz ms s') fun st'=>some (.inr (inr st')) | false=>none)
    | _=>none) (fun r=>(ret r).map .inr))
  {st0:kg ms} {p:PS} (hs0:g9 s0 p) (hchk:tQ C.sc (wrC c) ms s0.pr s0=true) (hpack:uE s0 ms=some st0) {out : τ} (hl:ai step ab st0=some out)
  (hput:∀ st,inr st=out→∃ s2,jS ms st (cm C.sc (wrC c) ms s0)=some s2) {Q:Exit→PS→Prop} (hexit:∀ st s2 p',inr st=out→jS ms st (cm C.sc (wrC c) ms s0)=some s2→g9 s2 p'→dN C.sc (wrC c) (uF C.sc (wrC c) ms s0) s2→Q (.exit id) p')
  (hret:∀ r p',ret r=some out→T5 C fn p' r→Q .ret p') : PWP C.P C.n (.loop c) Q p:=by
 have put_of:∀ {m st out},ai step m st=some out→∃ sh,jS ms st (cm C.sc (wrC c) ms s0)=some sh:=by
  intro m st out h
  obtain ⟨m',_,h⟩:=Fz h
  have:∃ r,step st=some r:=by rcases h with ⟨st',h,_⟩ | h <;> exact ⟨_,h⟩
  obtain ⟨r,hr⟩:=this
  rw [hstep] at hr
  simp only at hr
  split at hr
  ·cases hr
  ·rename_i sh hsh; exact ⟨sh,hsh⟩
 refine Uu (ks:=[]) (bs:=[]) (fun q m=>∃ st sh,jS ms st (cm C.sc (wrC c) ms s0)=some sh∧g9 sh q∧dN C.sc (wrC c) (uF C.sc (wrC c) ms s0) sh∧ai step m st=some out) ab ?_ ?_
 ·obtain ⟨sh,hsh⟩:=put_of hl
  obtain ⟨o1,o2,o3⟩:=K2 hs0 hchk (.refl _ _) (s':=uF C.sc (wrC c) ms s0) ⟨hs0.sl,hs0.bx⟩ (show uE (uF C.sc (wrC c) ms s0) ms=some st0 from (by
   have:∀ (l:List Mod) (s s':SS),s.sl=s'.sl→s.bx=s'.bx→uE s l=uE s' l:=by
    intro l s s' h1 h2
    have cells:∀ (rows:List (Nat×Nat×Nat×Nat×Ty)) (cs:List SV) (j:Nat),cellsOf s rows j cs=cellsOf s' rows j cs:=by
     intro rows cs
     induction cs with
     | nil=>intro j; rfl
     | cons c cs ih=>intro j; simp only [cellsOf,h2,ih]
    have one:∀ m:Mod,BO s m=BO s' m:=by
     intro m
     cases m <;> simp only [BO,h1,h2,cells]
    induction l with
    | nil=>rfl
    | cons m l ih =>
     cases l with
     | nil=>exact one m
     | cons m' l=>simp only [uE,one,ih]
   exact (this ms (uF C.sc (wrC c) ms s0) s0 rfl rfl).trans hpack)) hsh
  exact ⟨st0,sh,hsh,o1,o2,hl⟩
 ·rintro q m ⟨st,sh,hsh,hq,hk,hlo⟩
  obtain ⟨m',rfl,hcase⟩:=Fz hlo
  have hrun:∃ fr,step st=some fr∧((∃ st',fr = .inl st'∧ai step m' st' = some out)∨fr = .inr out):=by
   rcases hcase with ⟨st',h1,h2⟩ | h1
   ·exact ⟨_,h1,.inl ⟨st',rfl,h2⟩⟩
   ·exact ⟨_,h1,.inr rfl⟩
  obtain ⟨fr,hfr,hcase⟩:=hrun
  have hbody:body (kg ms⊕τ) sh (fun e s'=>match e with
    | .normal=>Option.bind (rz ms s') fun st'=>some (.inl st')
    | .exit id'=>(match Nat.beq id' id with | true=>Option.bind (rz ms s') fun st'=>some (.inr (inr st')) | false=>none)
    | _=>none) (fun r=>(ret r).map .inr)=some fr:=by
   rw [hstep] at hfr
   simp only [hsh] at hfr
   exact hfr
  have hprh:mE sh:=hk.prOk (BN ms s0)
  have meet:∀ {s':SS} {p':PS} {st':kg ms} {s2:SS},g9 s' p'→dN C.sc (wrC c) sh s'→rz ms s' = some st'→jS ms st' (cm C.sc (wrC c) ms s0)=some s2→∃ p'',Le p' p''∧g9 s2 p''∧dN C.sc (wrC c) (uF C.sc (wrC c) ms s0) s2:=by
   intro s' p' st' s2 m1 m2 m3 m4
   unfold rz at m3
   split at m3
   ·rename_i s'' hf
    obtain ⟨p'',n1,n2,n3⟩:=sR (sc:=C.sc) (m2.prOk hprh) m1 hf
    obtain ⟨o1,o2,o3⟩:=K2 hs0 hchk ((hk.trans m2).trans (n3 (wrC c))) n2 m3 m4
    exact ⟨p'',n1,o1,o2⟩
   ·cases m3
  refine fF (hb _ sh q _ _ fr hprh hq hbody) fun e p' hpost=>?_
  by_cases he:e = .ret
  ·subst he
   obtain ⟨r,h1,h3⟩:=hpost
   rw [zm] at h3
   obtain ⟨v,h4,h5⟩:=h3
   rcases hcase with ⟨st',rfl,_⟩ | rfl
   ·cases h5
   ·injection h5 with h5
    subst h5
    exact ⟨p',.refl _,hret r p' h4 h1⟩
  ·obtain ⟨s',m1,m2,m3⟩:=ry he hpost
   cases e with
   | normal =>
    obtain ⟨st',m4,m5⟩:=cQ m3
    injection m5 with m5
    rcases hcase with ⟨st2,h1,h2⟩ | h1
    ·rw [← m5] at h1
     injection h1 with h1
     subst h1
     obtain ⟨sh',hsh'⟩:=put_of h2
     obtain ⟨p'',n1,n2,n3⟩:=meet m1 m2 m4 hsh'
     exact ⟨p'',n1,p'',fun _ _ _ _ _ h=>h,m',⟨st',sh',hsh',n2,n3,h2⟩,Nat.lt_succ_self _⟩
    ·rw [← m5] at h1; cases h1
   | exit id' =>
    replace m3:(match Nat.beq id' id with | true=>Option.bind (rz ms s') fun st'=>some (.inr (inr st')) | false=>none)=some fr:=m3
    split at m3
    ·rename_i hid
     rw [db] at hid
     have hid:=zd hid
     subst hid
     obtain ⟨st',m4,m5⟩:=cQ m3
     injection m5 with m5
     rcases hcase with ⟨st2,h1,h2⟩ | h1
     ·rw [← m5] at h1; cases h1
     ·rw [← m5] at h1
      injection h1 with h1
      obtain ⟨s2,hs2⟩:=hput st' h1
      obtain ⟨p'',n1,n2,n3⟩:=meet m1 m2 m4 hs2
      exact ⟨p'',n1,hexit st' s2 p'' h1 hs2 n2 n3⟩
    ·cases m3
   | ret=>exact absurd rfl he
   | _=>cases m3
end
section
variable {C:Cx} {fn:Func}
theorem pC (hT:rK C.P C.T) (hm:C.P.follows .mixedOrders=true) (hv:fn.results.toList=C.vars) : ∀ (c:Code) (h:uR),WA C fn c (wrC c) (ym C c h)
 | .skip,h=>fun ρ s p k kr res hpr hs hx=>Xe ⟨s,hs,.refl _ _,hx⟩
 | .label l,h=>fun ρ s p k kr res hpr hs hx=>Uv ⟨s,hs,.refl _ _,hx⟩
 | .exit id,h=>fun ρ s p k kr res hpr hs hx=>Xf ⟨s,hs,.refl _ _,hx⟩
 | .ret,h=>fun ρ s p k kr res hpr hs hx=>by
  obtain ⟨r,h1,h2⟩:=cQ (show Option.bind (CR C s) kr=some res from hx)
  obtain ⟨p',h3,h4⟩:=Ts hv (y9 hpr) (sF hs) h1
  exact u9 ((BK hs).trans h3) (ZM ⟨r,h4,h2⟩)
 | .region id ops draw,h=>yR (ZI hT hm id ops draw)
 | .seq a b,h=>by
  refine yR (c:=.seq a b) (wr:=wrC a++wrC b) fun ρ s p k kr res hpr hs hx=>?_
  refine ZL (fF (pC hT hm hv a h.l ρ s p _ _ res hpr hs hx) fun e p' hq=>⟨p',.refl _,?_⟩)
  by_cases he:e = .ret
  ·subst he; exact hq
  ·obtain ⟨s',m1,m2,m3⟩:=ry he hq
   have hk:dN C.sc (wrC a++wrC b) s s':=m2.wide fun i hi=>ZY hi
   cases e with
   | normal =>
    refine fF (pC hT hm hv b h.r ρ s' p' k kr res (hk.prOk hpr) m1 m3) fun e p2 hq2=>⟨p2,.refl _,?_⟩
    exact xW (fun i hi=>Xy hi) hk hq2
   | ret=>exact absurd rfl he
   | _=>exact ⟨s',m1,hk,m3⟩
 | .cond x a b,h=>by
  have hwA:∀ i,aC (wrC a) i=true→aC (wrC (.cond x a b)) i=true:=fun i hi=>by
   cases x <;> simp only [wrC,a7,dw,hi,Bool.true_or,Bool.or_true]
  have hwB:∀ i,aC (wrC b) i=true→aC (wrC (.cond x a b)) i=true:=fun i hi=>by
   cases x <;> simp only [wrC,a7,dw,hi,Bool.or_true]
  have hwx:∀ i,x = .tmp i→aC (wrC (.cond x a b)) i=true:=fun i hi=>by
   subst hi; simp only [wrC,a7,decide_true,Bool.true_or]
  refine yR (c:=.cond x a b) (wr:=wrC (.cond x a b)) fun ρ s p k kr res hpr hs hx=>?_
  have hx:(match evX s x with | .d (.bool t)=>if t=true then ym C a h.l ρ (xp s x true) k kr else ym C b h.r ρ (xp s x false) k kr | _=>none)=some res:=hx
  split at hx
  ·rename_i t ht
   have hq:=Yi hs x
   rw [ht] at hq
   have hb:=lr hq
   cases t
   ·rw [if_neg (by simp)] at hx
    refine M9 false (by rw [hb]; rfl) ?_
    rw [if_neg (by simp)]
    exact fF (pC hT hm hv b h.r ρ _ p k kr res (FG hpr) (ET hs ht) hx) fun e p' hq=>⟨p',.refl _,xW hwB (FK hwx) hq⟩
   ·rw [if_pos rfl] at hx
    refine M9 true (by rw [hb]; rfl) ?_
    rw [if_pos rfl]
    exact fF (pC hT hm hv a h.l ρ _ p k kr res (FG hpr) (ET hs ht) hx) fun e p' hq=>⟨p',.refl _,xW hwA (FK hwx) hq⟩
  ·cases hx
 | .block id c,h=>by
  refine yR (c:=.block id c) (wr:=wrC c) fun ρ s p k kr res hpr hs hx=>?_
  refine Ux (fF (pC hT hm hv c h.l ρ s p _ _ res hpr hs hx) fun e p' hq=>⟨p',.refl _,?_⟩)
  by_cases he:e = .ret
  ·subst he; exact hq
  ·obtain ⟨s',m1,m2,m3⟩:=ry he hq
   cases e with
   | exit id' =>
    have m3:(match Nat.beq id' id with | true=>k .normal s' | false=>k (.exit id') s')=some res:=m3
    simp only [FQ]
    rw [db] at m3
    by_cases hid:id' = id
    ·rw [if_pos hid]
     simp only [hid,decide_true] at m3
     exact ⟨s',m1,m2,m3⟩
    ·rw [if_neg hid]
     simp only [hid,decide_false] at m3
     exact ⟨s',m1,m2,m3⟩
   | ret=>exact absurd rfl he
   | _=>exact ⟨s',m1,m2,m3⟩
 | .loop c,h=>fun ρ s p k kr res hpr hs hx=>by
  cases h with
  | lp ms id ret hb =>
   unfold ym at hx
   cases he:QL (wrC c) ms (clr s) with
   | none=>rw [he] at hx; cases hx
   | some s0 =>
    rw [he] at hx
    obtain ⟨hchk,hx⟩:=aq hx
    refine u9 (BK hs) ?_
    unfold QL at he
    split at he
    ·rename_i s1 hnil
     obtain ⟨p2,k1,k2,k3,k4⟩:=rB (sc:=C.sc) (s:=clr s) rfl (y9 hpr) (sF hs) hnil
     refine u9 k1 ?_
     have hk1:dN C.sc (wrC c) s s1:=Nz k3
     obtain ⟨p3,n1,n2,n3⟩:=sR (sc:=C.sc) (hk1.prOk hpr) k2.w he
     refine u9 n1 ?_
     have hk0:dN C.sc (wrC c) s s0:=hk1.trans (n3 _)
     have hchk':tQ C.sc (wrC c) ms s0.pr s0=true:=by rw [hk0.pr]; exact hchk
     cases hpk:uE s0 ms with
     | none=>rw [hpk] at hx; cases hx
     | some st0 =>
      rw [hpk] at hx
      cases ret with
      | false =>
       obtain ⟨out,h1,h2⟩:=cQ hx
       refine Tn (C:=C) (fn:=fn) (c:=c) (ms:=ms) (id:=id) (τ:=kg ms) (inr:=fun st=>st) (ret:=fun _=>none) (body:=ym C c hb) (pC hT hm hv c hb) rfl n2 hchk' hpk h1 ?_ ?_ ?_
       ·intro st hst
        subst hst
        split at h2
        ·rename_i s2 hs2; exact ⟨s2,hs2⟩
        ·cases h2
       ·intro st s2 p' hst hs2 m1 m2
        subst hst
        rw [hs2] at h2
        exact ⟨⟨s2.sl,s2.bx,s.pr,s.ro,s.oc⟩,⟨m1.sl,m1.bx⟩,ye hk0 (P8 hpr hk0 hchk) m2,h2⟩
       ·intro r p' hr; cases hr
      | true =>
       obtain ⟨out,h1,h2⟩:=cQ hx
       refine Tn (C:=C) (fn:=fn) (c:=c) (ms:=ms) (id:=id) (τ:=kg ms⊕aX C.rs) (inr:=.inl) (ret:=fun r=>some (.inr r)) (body:=ym C c hb) (pC hT hm hv c hb) rfl n2 hchk' hpk h1 ?_ ?_ ?_
       ·intro st hst
        subst hst
        have h2:(match jS ms st (cm C.sc (wrC c) ms s0) with | some s2=>k (.exit id) ⟨s2.sl,s2.bx,s.pr,s.ro,s.oc⟩ | none=>none)=some res:=h2
        split at h2
        ·rename_i s2 hs2; exact ⟨s2,hs2⟩
        ·cases h2
       ·intro st s2 p' hst hs2 m1 m2
        subst hst
        have h2:(match jS ms st (cm C.sc (wrC c) ms s0) with | some s2=>k (.exit id) ⟨s2.sl,s2.bx,s.pr,s.ro,s.oc⟩ | none=>none)=some res:=h2
        rw [hs2] at h2
        exact ⟨⟨s2.sl,s2.bx,s.pr,s.ro,s.oc⟩,⟨m1.sl,m1.bx⟩,ye hk0 (P8 hpr hk0 hchk) m2,h2⟩
       ·intro r p' hr h3
        injection hr with hr
        subst hr
        exact ⟨r,h3,h2⟩
    ·cases he
  | _=>cases hx
 | .rangeFunc ..,h=>fun ρ s p k kr res hpr hs hx=>by cases hx
 | .scope ..,h=>fun ρ s p k kr res hpr hs hx=>by cases hx
 | .goto ..,h=>fun ρ s p k kr res hpr hs hx=>by cases hx
 | .refuse ..,h=>fun ρ s p k kr res hpr hs hx=>by cases hx
theorem LS:∀ (vs:List SV) (i j:Nat),lkV (Ca i vs) (i + j)=(vs[j]?).getD .junk
 | [],i,j=>by simp [Ca,lkV]
 | v::vs,i,0=>by simp [Ca,cZ]
 | v::vs,i,j + 1=>by
  simp only [Ca,cZ]
  rw [if_neg (by omega),show i + (j + 1)=i + 1 + j by omega,LS vs (i + 1) j]
  simp
theorem I2:∀ (ps:List PT) (x:cg ps),(sy ps x).length=ps.length
 | [],_=>rfl
 | p::ps,x=>by simp [sy,I2 ps]
theorem cd {P:Program} {T:List (Nat×Ent)} {n:Nat} {ps rs:List PT} {vars:List ResultVar} {fz:List (Nat×List Nat)} {sc:List Nat} {fb:List (Nat×List Nat)} {h:uR} {f:FuncId} {fn:Func} {c:Code} (hT:rK P T) (hm:P.follows .mixedOrders=true) (hf:P.funcs[f]? = some fn) (hb:fn.body=some c) (hcb:dH P f=true) (hn:fn.ntmps=n) (hv:fn.results.toList=vars) (hl:((decide (ps.length≤n)&&vd ps) && !(pD ps||pD rs))=true)
  {F:cg ps→Option (aX rs)} (hF:∀ x,fj ⟨P,T,n,rs,vars,fz,sc,fb⟩ c h ps x=F x) : bI P f ps rs F:=by
 intro x r hx
 rw [Bool.and_eq_true] at hl
 obtain ⟨hl,hl3⟩:=hl
 refine ⟨fun hnM=>?_,fun h=>by rw [h] at hl3; cases hl3⟩
 have hrs:pD rs=false:=by rw [Bool.or_eq_false_iff] at hnM; exact hnM.2
 rw [← hF] at hx
 rw [Bool.and_eq_true] at hl
 have hlen:=zd hl.1
 subst hn
 refine Xl hf hb hcb (by rw [I2]; exact hlen) ?_
 have hargs:=JM (B:=[]) ps x hl.2
 have hs:g9 ⟨Ca 0 (C2 ps x),[],[],false,[]⟩ ⟨mO (sy ps x),dZ⟩:=by
  refine ⟨fun i=>?_,fun t b hb=>by cases hb⟩
  show bf [] (lkV (Ca 0 (C2 ps x)) i) (mO (sy ps x) i)
  have:=LS (C2 ps x) 0 i
  rw [Nat.zero_add] at this
  rw [this]
  unfold mO
  cases h1:(C2 ps x)[i]? with
  | none=>exact .junk _
  | some v =>
   have hlt:i < (sy ps x).length:=by rw [← hargs.len]; exact (zg.1 h1).1
   rw [zq hlt]
   exact hargs.rep i v _ h1 (zq hlt)
 have hpr:mE ⟨Ca 0 (C2 ps x),[],[],false,[]⟩:=fun t ht=>by cases ht
 refine fF (pC (C:=⟨P,T,fn.ntmps,rs,vars,fz,sc,fb⟩) (fn:=fn) hT hm hv c h _ _ _ _ _ r hpr hs hx) fun e p' hq=>?_
 by_cases he:e = .ret
 ·subst he
  obtain ⟨r',h1,h3⟩:=hq
  injection h3 with h3
  subst h3
  obtain ⟨q,h1,h2⟩:=h1.1 hrs
  exact ⟨p',.refl _,trivial,q,h1,h2⟩
 ·obtain ⟨s',m1,m2,m3⟩:=ry he hq
  cases e with
  | normal =>
   obtain ⟨q,h1,h2⟩:=Nx (C:=⟨P,T,fn.ntmps,rs,vars,fz,sc,fb⟩) hv (sF m1) hrs m3
   exact ⟨yq s' p',BK m1,trivial,q,h1,h2⟩
  | ret=>exact absurd rfl he
  | _=>cases m3
end
def XA:List Nat→List Nat→Nat→Nat
 | a::xs,b::bs,t=>if t=a then b else XA xs bs t
 | _,_,t=>t
theorem Fx:∀ {xs bs:List Nat},xs.Nodup→xs.length=bs.length→xs.map (XA xs bs)=bs
 | [],[],_,_=>rfl
 | [],_ :: _,_,h=>by cases h
 | _ :: _,[],_,h=>by cases h
 | a::xs,b::bs,hn,hl=>by
  rw [List.nodup_cons] at hn
  have ih:=Fx (xs:=xs) (bs:=bs) hn.2 (by simpa using hl)
  simp only [List.map_cons,XA,if_true]
  congr 1
  conv=>rhs; rw [← ih]
  apply List.map_congr_left
  intro t ht
  rw [if_neg (fun (e:t=a)=>hn.1 (by rw [← e]; exact ht))]
theorem BE {f:Nat→Nat} : ∀ {l:List Nat},(l.map f).Nodup→∀ x∈l,∀ y∈l,f x=f y→x=y
 | [],_,x,hx,_,_=>by cases hx
 | a::l,h,x,hx,y,hy=>by
  rw [List.map_cons,List.nodup_cons] at h
  intro e
  have hm:∀ z∈l,f z≠f a:=fun z hz e=>h.1 (by rw [← e]; exact List.mem_map_of_mem hz)
  rcases List.mem_cons.1 hx with h1 | h1
  ·rcases List.mem_cons.1 hy with h2 | h2
   ·rw [h1,h2]
   ·exact absurd (by rw [← e,h1]) (hm y h2)
  ·rcases List.mem_cons.1 hy with h2 | h2
   ·exact absurd (by rw [e,h2]) (hm x h1)
   ·exact BE h.2 x h1 y h2 e
theorem wE {τ : Nat→Nat} : ∀ {xs bs:List (List Nat)},xs.map List.length=bs.map List.length→(br xs).map τ = br bs→xs.map (·.map τ)=bs
 | [],[],_,_=>rfl
 | [],_ :: _,h,_=>by cases h
 | _ :: _,[],h,_=>by cases h
 | a::xs,b::bs,hl,h=>by
  simp only [List.map_cons,List.cons.injEq] at hl
  simp only [br,List.map_append] at h
  obtain ⟨h1,h2⟩:=List.append_inj h (by simpa using hl.1)
  rw [List.map_cons,h1,wE hl.2 h2]
theorem xQ:∀ {ps:List PT} {xs bs:List (List Nat)},iV ps xs→iV ps bs→xs.map List.length=bs.map List.length
 | [],[],[],_,_=>rfl
 | [],_ :: _,_,h,_=>h.elim
 | [],[],_ :: _,_,h=>h.elim
 | _ :: _,[],_,h,_=>h.elim
 | _ :: _,_ :: _,[],_,h=>h.elim
 | p::ps,a::xs,b::bs,h1,h2=>by simp only [List.map_cons,h1.1,h2.1,xQ h1.2 h2.2]
theorem y5:∀ {ls:List IB} {xs bs:List (List Nat)},kt ls xs→kt ls bs→xs.map List.length=bs.map List.length
 | [],[],[],_,_=>rfl
 | [],_ :: _,_,h,_=>h.elim
 | [],[],_ :: _,_,h=>h.elim
 | _ :: _,[],_,h,_=>h.elim
 | _ :: _,_ :: _,[],_,h=>h.elim
 | p::ps,a::xs,b::bs,h1,h2=>by simp only [List.map_cons,h1.1,h2.1,y5 h1.2 h2.2]
theorem sM:∀ {xs bs:List (List Nat)},xs.map List.length=bs.map List.length→(br xs).length=(br bs).length
 | [],[],_=>rfl
 | [],_ :: _,h=>by cases h
 | _ :: _,[],h=>by cases h
 | a::xs,b::bs,h=>by
  simp only [List.map_cons,List.cons.injEq] at h
  simp only [br,List.length_append,h.1,sM h.2]
theorem CJ:∀ (ps:List PT) (i:Nat),iV ps (bk i ps)
 | [],_=>trivial
 | p::ps,i=>⟨by cases p <;> first | rfl | simp [mU,PT.nI],CJ ps (i + 1)⟩
mutual
theorem lb (τ : Nat→Nat) : ∀ q:PV,clean q=true→mL τ q=q∧bg q = []
 | .junk,_=>⟨rfl,rfl⟩
 | .d _,_=>⟨rfl,rfl⟩
 | .fe _,_=>⟨rfl,rfl⟩
 | .ptr _ _,h=>by cases h
 | .row _ _,h=>by cases h
 | .re _ _ _ _,h=>by cases h
 | .vw _ _ _ _,h=>by cases h
 | .ag cs,h=>by simp only [mL,bg]; rw [(fI τ cs h).1,(fI τ cs h).2]; exact ⟨rfl,rfl⟩
 | .tup cs,h=>by simp only [mL,bg]; rw [(fI τ cs h).1,(fI τ cs h).2]; exact ⟨rfl,rfl⟩
 | .fn f ps qs,h=>by
  have h:(cO ps&&cO qs)=true:=h
  rw [Bool.and_eq_true] at h
  simp only [mL,bg]; rw [(fI τ ps h.1).1,(fI τ qs h.2).1,(fI τ ps h.1).2,(fI τ qs h.2).2]; exact ⟨rfl,rfl⟩
theorem fI (τ : Nat→Nat) : ∀ cs:List PV,cO cs=true→fm τ cs=cs∧bO cs = []
 | [],_=>⟨rfl,rfl⟩
 | c::cs,h=>by
  simp only [cO,Bool.and_eq_true] at h
  simp only [fm,bO]; rw [(lb τ c h.1).1,(fI τ cs h.2).1,(lb τ c h.1).2,(fI τ cs h.2).2]; exact ⟨rfl,rfl⟩
end
theorem Ga (τ : Nat→Nat) : ∀ (rows:List (Nat×Nat×Nat×Ty)) (is:List Nat) (j:Nat),qk (mI rows (is.map τ)) j=(qk (mI rows is) j).map fun r=>(τ r.1,r.2)
 | [],is,j=>by cases is <;> rfl
 | (j0,e,k,t)::rows,[],j=>rfl
 | (j0,e,k,t)::rows,R::is,j=>by
  simp only [List.map_cons,mI,qk]
  split
  ·rfl
  ·exact Ga τ rows is j
theorem KQ (τ : Nat→Nat) (rows:List (Nat×Nat×Nat×Ty)) (is:List Nat) : ∀ (ds:List D) (j:Nat),eh (mI rows (is.map τ)) j ds=fm τ (eh (mI rows is) j ds)
 | [],_=>rfl
 | d::ds,j=>by
  simp only [eh,fm,KQ τ rows is ds (j + 1),Ga]
  congr 1
  cases qk (mI rows is) j with
  | none=>rfl
  | some r =>
   obtain ⟨R,e,k,t⟩:=r
   cases d <;> rfl
theorem Bz (τ : Nat→Nat) (rows:List (Nat×Nat×Nat×Ty)) (is:List Nat) : ∀ (ds:List D) (j:Nat),cn (mI rows (is.map τ)) j ds=mJ τ (cn (mI rows is) j ds)
 | [],_=>rfl
 | d::ds,j=>by
  simp only [cn,Ga]
  cases qk (mI rows is) j with
  | none=>exact Bz τ rows is ds (j + 1)
  | some r =>
   obtain ⟨R,e,k,t⟩:=r
   cases d with
   | v=>exact Bz τ rows is ds (j + 1)
   | sl es=>simp only [Option.map_some,mJ,Bz τ rows is ds (j + 1)]; rfl
theorem u6 (τ : Nat→Nat) : ∀ (a b:BU),mJ τ (a++b)=mJ τ a++mJ τ b
 | [],b=>rfl
 | (t,B)::a,b=>by simp only [List.cons_append,mJ,u6 τ a b]
theorem ip:∀ (a b:BU),ca (a++b)=ca a++ca b
 | [],b=>rfl
 | (t,B)::a,b=>by simp only [List.cons_append,ca,ip a b]
theorem N9 (τ : Nat→Nat) : ∀ (a:BU),ca (mJ τ a)=(ca a).map τ
 | []=>rfl
 | (t,B)::a=>by simp only [mJ,ca,N9 τ a,List.map_cons]
theorem KC (τ : Nat→Nat) (p:PT) (is:List Nat) (x:p.den) : toI p (is.map τ) x=(mL τ (toI p is x).1,mJ τ (toI p is x).2):=by
 cases p with
 | io=>rfl
 | lf t=>simp only [toI]; rw [(lb τ _ (dV (.lf t) x)).1]; rfl
 | ag t=>simp only [toI]; rw [(lb τ _ (dV (.ag t) x)).1]; rfl
 | pl t=>simp only [toI]; rw [(lb τ _ (dV (.pl t) x)).1]; rfl
 | ps t=>simp only [toI]; rw [(lb τ _ (dV (.ps t) x)).1]; rfl
 | fn f a b=>simp only [toI]; rw [(lb τ _ (dV (.fn f a b) x)).1]; rfl
 | own e k t=>match is with
  | []=>rfl
  | [i]=>rfl
  | _ :: _ :: _=>rfl
 | mv e k t=>match is with
  | []=>rfl
  | [i]=>rfl
  | _ :: _ :: _=>rfl
 | bx ty n rows=>match is with
  | []=>rfl
  | i::is=>simp only [toI,List.map_cons,KQ,Bz]; rfl
 | agr n rows=>simp only [toI,KQ,Bz]; rfl
theorem MN (τ : Nat→Nat) : ∀ (ps:List PT) (iss:List (List Nat)) (x:cg ps),dP ps (iss.map (·.map τ)) x=(fm τ (dP ps iss x).1,mJ τ (dP ps iss x).2)
 | [],iss,x=>by cases iss <;> rfl
 | p::ps,[],x=>rfl
 | p::ps,is::iss,x=>by simp only [List.map_cons,dP,KC,MN τ ps iss x.2,fm,u6]
theorem Bn (τ : Nat→Nat) : ∀ (rs:List PT) (iss:List (List Nat)) (x:aX rs),cW rs (iss.map (·.map τ)) x=(fm τ (cW rs iss x).1,mJ τ (cW rs iss x).2)
 | [],iss,x=>by cases iss <;> rfl
 | [p],[],x=>rfl
 | [p],is::iss,x=>by
  have h:=KC τ p is x
  show ([(toI p (is.map τ) x).1],(toI p (is.map τ) x).2)=([mL τ (toI p is x).1],mJ τ (toI p is x).2)
  exact congrArg (fun z:PV×BU=>([z.1],z.2)) h
 | p::q::l,[],x=>rfl
 | p::q::l,is::iss,x=>by
  have h1:=KC τ p is x.1
  have h2:=Bn τ (q::l) iss x.2
  have h3:((toI p (is.map τ) x.1).1::(cW (q::l) (iss.map (·.map τ)) x.2).1,(toI p (is.map τ) x.1).2++(cW (q::l) (iss.map (·.map τ)) x.2).2)=(mL τ (toI p is x.1).1::fm τ (cW (q::l) iss x.2).1,mJ τ (toI p is x.1).2++mJ τ (cW (q::l) iss x.2).2) :=
   congr (f₁:=fun (y:List PV×BU)=>((toI p (is.map τ) x.1).1::y.1,(toI p (is.map τ) x.1).2++y.2)) (f₂:=fun (y:List PV×BU)=>(mL τ (toI p is x.1).1::y.1,mJ τ (toI p is x.1).2++y.2)) (congrArg (fun (z:PV×BU) (y:List PV×BU)=>(z.1::y.1,z.2++y.2)) h1) h2
  refine h3.trans ?_
  rw [← u6]; rfl
theorem ZT (τ : Nat→Nat) (qs:List PV) : mL τ (zi qs)=zi (fm τ qs):=by
 match qs with
 | []=>rfl
 | [q]=>rfl
 | q::q' :: qs=>rfl
theorem MM (τi τ : Nat→Nat) : ∀ (ps:List PT) (ls:List IB) (i:Nat) (iss kss:List (List Nat)) (x:cg ps) (o:ze ls),Qg ps ls=true→iV ps iss→kt ls kss→(∀ s∈dC i ls,τ s = τi s)→(bk i ps).map (·.map τi)=iss→PI ps ls iss (kss.map (·.map τ)) x o=mJ τ (tb i ls kss o)
 | [],[],i,iss,kss,x,o,_,_,_,_,_=>rfl
 | [],_ :: _,_,_,_,_,_,h,_,_,_,_=>by cases h
 | _ :: _,[],_,_,_,_,_,h,_,_,_,_=>by cases h
 | p::ps,b::ls,i,[],kss,x,o,_,h,_,_,_=>h.elim
 | p::ps,b::ls,i,is::iss,[],x,o,_,_,h,_,_=>h.elim
 | p::ps,b::ls,i,is::iss,js::kss,x,o,hio,hs,hk,hkk,he=>by
  simp only [Qg] at hio
  split at hio
  ·rename_i h1
   simp only [bk,List.map_cons,List.cons.injEq] at he
   obtain ⟨e1,e2⟩:=he
   have hk2:∀ s∈dC (i + 1) ls,τ s = τi s:=fun s hs=>hkk s (by cases b <;> simp [dC,hs])
   have ih:=MM τi τ ps ls (i + 1) iss kss x.2 o.2 hio hs.2 hk.2 hk2 e2
   simp only [List.map_cons,PI,tb,u6,ih]
   congr 1
   cases p with
   | own e k t=>cases b with
    | own e' k' t' =>
     subst e1
     have:=hkk (uO i) (by simp [dC])
     simp only [toO,mU,List.map_cons,List.map_nil,boI,mJ,this]; rfl
    | _=>cases h1
   | bx ty n rows=>cases b with
    | bx ty' n' rows' =>
     subst e1
     have:=hkk (uO i) (by simp [dC])
     simp only [toO,mU,List.map_cons,boI,mJ,KQ,Bz,this]; rfl
    | _=>cases h1
   | mv=>cases b <;> first | rfl | cases h1
   | lf=>cases b <;> first | rfl | cases h1
   | ag=>cases b <;> first | rfl | cases h1
   | pl=>cases b <;> first | rfl | cases h1
   | ps=>cases b <;> first | rfl | cases h1
   | fn=>cases b <;> first | rfl | cases h1
   | agr=>cases h1
   | io=>cases h1
  ·cases hio
def g8 (l:BU) : Prop:=∀ t B,(t,B)∈l→∀ s∈M5 B,s∈ca l
theorem g8.app {a b:BU} (h:g8 a) (h':g8 b) : g8 (a++b):=fun t B hm s hs=>by
 rw [ip,List.mem_append]
 rcases List.mem_append.1 hm with hm | hm
 ·exact .inl (h t B hm s hs)
 ·exact .inr (h' t B hm s hs)
theorem g8.u {l:BU} (h:g8 l) : LA l:=fun t B hl=>h t B (py hl)
theorem KR {rows:List (Nat×Nat×Nat×Nat×Ty)} : ∀ (ds:List D) (j:Nat),∀ s∈bO (eh rows j ds),s∈ca (cn rows j ds)
 | [],_,s,h=>by cases h
 | d::ds,j,s,h=>by
  simp only [eh,bO,List.mem_append] at h
  simp only [cn]
  have ih:=KR (rows:=rows) ds (j + 1) s
  cases hf:qk rows j with
  | none =>
   rw [hf] at h
   exact ih (h.resolve_left (by simp [bg]))
  | some r =>
   obtain ⟨R,e,k,t⟩:=r
   rw [hf] at h
   cases d with
   | v=>exact ih (h.resolve_left (by simp [bg]))
   | sl es =>
    simp only [ca,List.mem_cons]
    rcases h with h | h
    ·simp only [bg,List.mem_cons,List.not_mem_nil,or_false] at h; exact .inl h
    ·exact .inr (ih h)
theorem pP {rows:List (Nat×Nat×Nat×Nat×Ty)} : ∀ (ds:List D) (j:Nat) t B,(t,B)∈cn rows j ds→M5 B = []∧∃ e k es,B = .rw e k es
 | [],_,t,B,h=>by cases h
 | d::ds,j,t,B,h=>by
  simp only [cn] at h
  split at h
  ·split at h
   ·rcases List.mem_cons.1 h with e | h
    ·injection e with _ e; subst e; exact ⟨rfl,_,_,_,rfl⟩
    ·exact pP ds (j + 1) t B h
   ·exact pP ds (j + 1) t B h
  ·exact pP ds (j + 1) t B h
theorem I4 {rows:List (Nat×Nat×Nat×Nat×Ty)} (i:Nat) (ty:TypeId) (ds:List D) : g8 ((i,.st ty (eh rows 0 ds))::cn rows 0 ds):=fun t B hm s hs=>by
 simp only [ca,List.mem_cons]
 rcases List.mem_cons.1 hm with e | hm
 ·injection e with _ e
  subst e
  exact .inr (KR ds 0 s hs)
 ·rw [(pP ds 0 t B hm).1] at hs; cases hs
theorem xY (i:Nat) (e k:Nat) (t:Ty) (xs:List t.den) : g8 [(i,rwU e k t xs)]:=fun t B hm s hs=>by
 simp only [List.mem_cons,List.not_mem_nil,or_false,Prod.mk.injEq] at hm
 rw [hm.2] at hs
 cases hs
theorem df:g8 []:=fun t B hm=>by cases hm
theorem EK (p:PT) (is:List Nat) (x:p.den) : (∀ s∈bg (toI p is x).1,s∈ca (toI p is x).2)∧g8 (toI p is x).2:=by
 have plain:∀ {q:PV},clean q=true→(∀ s∈bg q,s∈ca [])∧g8 []:=fun hq=>⟨fun s h=>(by rw [(lb id _ hq).2] at h; cases h),df⟩
 cases p with
 | io=>exact ⟨fun s h=>(by cases h),df⟩
 | lf t=>exact plain (dV (.lf t) x)
 | ag t=>exact plain (dV (.ag t) x)
 | pl t=>exact plain (dV (.pl t) x)
 | ps t=>exact plain (dV (.ps t) x)
 | fn f a b=>exact plain (dV (.fn f a b) x)
 | own e k t=>match is with
  | []=>exact ⟨fun s h=>(by cases h),df⟩
  | [i]=>exact ⟨fun s h=>h,xY i e k t x⟩
  | _ :: _ :: _=>exact ⟨fun s h=>(by cases h),df⟩
 | mv e k t=>match is with
  | []=>exact ⟨fun s h=>(by cases h),df⟩
  | [i]=>exact ⟨fun s h=>h,xY i e k t x⟩
  | _ :: _ :: _=>exact ⟨fun s h=>(by cases h),df⟩
 | bx ty n rows=>match is with
  | []=>exact ⟨fun s h=>(by cases h),df⟩
  | i::is=>exact ⟨fun s h=>by simp only [toI,bg,List.mem_cons,List.not_mem_nil,or_false] at h; simp only [toI,ca,List.mem_cons]; exact .inl h,I4 i ty _⟩
 | agr n rows=>exact ⟨fun s h=>KR _ 0 s h,fun t B hm s hs=>by rw [(pP _ 0 t B hm).1] at hs; cases hs⟩
theorem I3:∀ (ps:List PT) (iss:List (List Nat)) (x:cg ps),(∀ s∈bO (dP ps iss x).1,s∈ca (dP ps iss x).2)∧g8 (dP ps iss x).2
 | [],iss,x=>⟨fun s h=>(by cases h),df⟩
 | p::ps,[],x=>⟨fun s h=>(by cases h),df⟩
 | p::ps,is::iss,x=>by
  obtain ⟨h1,h2⟩:=EK p is x.1
  obtain ⟨h3,h4⟩:=I3 ps iss x.2
  refine ⟨fun s h=>?_,h2.app h4⟩
  simp only [dP,bO,List.mem_append] at h
  simp only [dP,ip,List.mem_append]
  exact h.imp (h1 s) (h3 s)
theorem EI:∀ (rs:List PT) (iss:List (List Nat)) (x:aX rs),(∀ s∈bO (cW rs iss x).1,s∈ca (cW rs iss x).2)∧g8 (cW rs iss x).2
 | [],iss,x=>⟨fun s h=>(by cases h),df⟩
 | [p],[],x=>⟨fun s h=>(by cases h),df⟩
 | [p],is::iss,x=>by
  obtain ⟨h1,h2⟩:=EK p is (show p.den from x)
  refine ⟨fun s h=>?_,h2⟩
  have h:s∈bg (toI p is (show p.den from x)).1 ++ []:=h
  rw [List.append_nil] at h
  exact h1 s h
 | p::q::l,[],x=>⟨fun s h=>(by cases h),df⟩
 | p::q::l,is::iss,x=>by
  obtain ⟨h1,h2⟩:=EK p is x.1
  obtain ⟨h3,h4⟩:=EI (q::l) iss x.2
  refine ⟨fun s h=>?_,h2.app h4⟩
  have h:s∈bg (toI p is x.1).1++bO (cW (q::l) iss x.2).1:=h
  show s∈ca ((toI p is x.1).2++(cW (q::l) iss x.2).2)
  rw [ip,List.mem_append]
  exact (List.mem_append.1 h).imp (h1 s) (h3 s)
theorem Xr (qs:List PV) : ∀ s∈bg (zi qs),s∈bO qs:=by
 match qs with
 | []=>exact fun s h=>by cases h
 | [q]=>exact fun s h=>by simpa [bO,zi] using h
 | q::q' :: qs=>exact fun s h=>h
theorem I1:∀ {rs:List PT} {iss:List (List Nat)} {x:aX rs} {t:Nat},t∈ca (cW rs iss x).2→t∈br iss
 | [],iss,x,t,h=>by cases h
 | [p],[],x,t,h=>by cases h
 | [p],is::iss,x,t,h=>by
  have h:t∈ca (toI p is (show p.den from x)).2:=h
  rw [sU,List.mem_append]
  obtain ⟨B,hB⟩:=cT.1 h
  exact .inl (KD (py hB))
 | p::q::l,[],x,t,h=>by cases h
 | p::q::l,is::iss,x,t,h=>by
  have h:t∈ca ((toI p is x.1).2++(cW (q::l) iss x.2).2):=h
  rw [ip,List.mem_append] at h
  rw [sU,List.mem_append]
  rcases h with h | h
  ·obtain ⟨B,hB⟩:=cT.1 h
   exact .inl (KD (py hB))
  ·exact .inr (I1 h)
theorem aaB (i:Nat) (b:IB) (js:List Nat) (o:b.den) : g8 (boI i b js o)∧∀ t∈ca (boI i b js o),t=uO i∧b≠.no∨t∈js:=by
 cases b with
 | no=>exact ⟨df,fun t h=>by cases h⟩
 | own e k t=>exact ⟨xY _ _ _ _ _,fun t' h=>by simp only [boI,ca,List.mem_cons,List.not_mem_nil,or_false] at h; exact .inl ⟨h,fun e=>by cases e⟩⟩
 | bx ty n rows =>
  refine ⟨I4 _ _ _,fun t h=>?_⟩
  simp only [boI,ca,List.mem_cons] at h
  rcases h with h | h
  ·exact .inl ⟨h,fun e=>by cases e⟩
  ·obtain ⟨B,hB⟩:=cT.1 h
   exact .inr (xV (py hB))
theorem vp {i:Nat} {b:IB} {ls:List IB} {s:Nat} : s∈dC i (b::ls)↔(s=uO i∧b≠.no)∨s∈dC (i + 1) ls:=by
 cases b <;> simp [dC]
theorem GZ:∀ (ls:List IB) (i:Nat) (kss:List (List Nat)) (o:ze ls),kt ls kss→g8 (tb i ls kss o)∧(∀ t∈ca (tb i ls kss o),t∈dC i ls∨t∈br kss)∧∀ t∈dC i ls,t∈ca (tb i ls kss o)
 | [],i,kss,o,_=>⟨df,fun t h=>(by cases h),fun t h=>by cases h⟩
 | b::ls,i,[],o,h=>h.elim
 | b::ls,i,js::kss,o,h=>by
  obtain ⟨h1,h2⟩:=aaB i b js o.1
  obtain ⟨h3,h4,h5⟩:=GZ ls (i + 1) kss o.2 h.2
  refine ⟨h1.app h3,fun t ht=>?_,fun t ht=>?_⟩
  ·simp only [tb,ip,List.mem_append] at ht
   rw [vp,sU,List.mem_append]
   rcases ht with ht | ht
   ·rcases h2 t ht with h6 | h6
    ·exact .inl (.inl h6)
    ·exact .inr (.inl h6)
   ·rcases h4 t ht with h6 | h6
    ·exact .inl (.inr h6)
    ·exact .inr (.inr h6)
  ·rw [vp] at ht
   simp only [tb,ip,List.mem_append]
   rcases ht with ⟨rfl,hb⟩ | ht
   ·left
    cases b with
    | no=>exact absurd rfl hb
    | own=>simp [boI,ca]
    | bx=>simp [boI,ca]
   ·exact .inr (h5 t ht)
theorem Ny:∀ (ls:List IB) (i:Nat),∀ s∈dC i ls,1000000≤s
 | [],i,s,h=>by cases h
 | b::ls,i,s,h=>by
  rw [vp] at h
  rcases h with ⟨rfl,_⟩ | h
  ·unfold uO; omega
  ·exact Ny ls (i + 1) s h
theorem CH:∀ (ps:List PT) (ls:List IB) (i:Nat) (x:cg ps),Qg ps ls=true →
  (∀ s∈dC i ls,s∈ca (dP ps (bk i ps) x).2)∧∀ t B,(t,B)∈(dP ps (bk i ps) x).2→t ∉ dC i ls→(∃ e k es,B = .rw e k es)∧t∈pg ps (bk i ps)
 | [],[],i,x,_=>⟨fun s h=>(by cases h),fun t B h=>by cases h⟩
 | [],_ :: _,_,_,h=>by cases h
 | _ :: _,[],_,_,h=>by cases h
 | p::ps,b::ls,i,x,hio=>by
  simp only [Qg] at hio
  split at hio
  ·rename_i h1
   obtain ⟨k1,k2⟩:=CH ps ls (i + 1) x.2 hio
   have head:(b≠.no→uO i∈ca (toI p (mU i p) x.1).2)∧∀ t B,(t,B)∈(toI p (mU i p) x.1).2→¬ (t=uO i∧b≠.no)→(∃ e k es,B = .rw e k es)∧t∈FV p (mU i p):=by
    cases p with
    | own e k t=>cases b with
     | own e' k' t' =>
      refine ⟨fun _=>by simp [toI,mU,ca],fun t B hm hn=>?_⟩
      simp only [toI,mU,List.mem_cons,List.not_mem_nil,or_false,Prod.mk.injEq] at hm
      exact absurd ⟨hm.1,fun e=>by cases e⟩ hn
     | _=>cases h1
    | mv e k t=>cases b with
     | no =>
      refine ⟨fun h=>absurd rfl h,fun t B hm _=>?_⟩
      simp only [toI,mU,List.mem_cons,List.not_mem_nil,or_false,Prod.mk.injEq] at hm
      obtain ⟨rfl,rfl⟩:=hm
      exact ⟨⟨_,_,_,rfl⟩,by simp [FV,mU]⟩
     | _=>cases h1
    | bx ty n rows=>cases b with
     | bx ty' n' rows' =>
      refine ⟨fun _=>by simp [toI,mU,ca],fun t B hm hn=>?_⟩
      simp only [toI,mU] at hm
      rcases List.mem_cons.1 hm with e | hm
      ·injection e with e _
       exact absurd ⟨e,fun e=>by cases e⟩ hn
      ·exact ⟨(pP _ 0 t B hm).2,xV hm⟩
     | _=>cases h1
    | lf=>cases b <;> first | exact ⟨fun h=>absurd rfl h,fun t B hm=>by cases hm⟩ | cases h1
    | ag=>cases b <;> first | exact ⟨fun h=>absurd rfl h,fun t B hm=>by cases hm⟩ | cases h1
    | pl=>cases b <;> first | exact ⟨fun h=>absurd rfl h,fun t B hm=>by cases hm⟩ | cases h1
    | ps=>cases b <;> first | exact ⟨fun h=>absurd rfl h,fun t B hm=>by cases hm⟩ | cases h1
    | fn=>cases b <;> first | exact ⟨fun h=>absurd rfl h,fun t B hm=>by cases hm⟩ | cases h1
    | agr=>cases h1
    | io=>cases h1
   refine ⟨fun s hs=>?_,fun t B hm hn=>?_⟩
   ·simp only [bk,dP,ip,List.mem_append]
    rcases vp.1 hs with ⟨rfl,h⟩ | h
    ·exact .inl (head.1 h)
    ·exact .inr (k1 s h)
   ·simp only [bk,dP] at hm
    simp only [bk,pg,List.mem_append]
    rw [vp,not_or] at hn
    rcases List.mem_append.1 hm with hm | hm
    ·obtain ⟨q1,q2⟩:=head.2 t B hm hn.1
     exact ⟨q1,.inl q2⟩
    ·obtain ⟨q1,q2⟩:=k2 t B hm hn.2
     exact ⟨q1,.inr q2⟩
  ·cases hio
theorem Jv (τ : Nat→Nat) : ∀ (ps:List PT) (iss:List (List Nat)),pg ps (iss.map (·.map τ))=(pg ps iss).map τ
 | [],iss=>by cases iss <;> rfl
 | p::ps,[]=>rfl
 | p::ps,is::iss=>by
  simp only [List.map_cons,pg,Jv τ ps iss,List.map_append]
  congr 1
  cases p with
  | bx=>cases is <;> rfl
  | _=>rfl
theorem FT:∀ (ps:List PT) (iss:List (List Nat)),∀ s∈pg ps iss,s∈br iss
 | [],iss,s,h=>by cases iss <;> cases h
 | p::ps,[],s,h=>by cases h
 | p::ps,is::iss,s,h=>by
  simp only [pg,List.mem_append] at h
  rw [sU,List.mem_append]
  rcases h with h | h
  ·left
   cases p with
   | mv=>exact h
   | bx=>cases is with
    | nil=>cases h
    | cons a is=>exact List.mem_cons_of_mem _ h
   | _=>cases h
  ·exact .inr (FT ps iss s h)
theorem FU (l:BU) : ∀ (is:List Nat) (t:Nat),lkU (CW l is) t=if t∈is then some (match lkU l t with | some B=>X4 B | none=>.st 0 []) else none
 | [],t=>rfl
 | a::is,t=>by
  simp only [CW,lkU]
  by_cases h:t=a
  ·subst h; simp only [if_true,List.mem_cons,true_or]; rfl
  ·simp only [h,if_false,List.mem_cons,false_or]; exact FU l is t
theorem K6 (a b:BU) (t:Nat) : lkU (a++b) t=match lkU a t with | some B=>some B | none=>lkU b t:=by
 induction a with
 | nil=>rfl
 | cons x a ih =>
  obtain ⟨j,B⟩:=x
  simp only [List.cons_append,lkU]
  split
  ·rfl
  ·exact ih
theorem aax {P:Program} {f:FuncId} {ps rs:List PT} {x:cg ps} {r:aX rs} (hio:Qg ps (cA rs)=true) (hlen:Nt ps (cA rs) x (jT rs r)) (hn0:(br (bk 0 ps)).Nodup) (hgk:∀ s∈pg ps (bk 0 ps),s ∉ dC 0 (cA rs))
  (h:PCm P f (dP ps (bk 0 ps) x).1 (dP ps (bk 0 ps) x).2 (dC 0 (cA rs)) fun q bo=>∃ kss jss,kt (cA rs) kss∧iV (fc rs) jss∧(dC 0 (cA rs)++(br kss++br jss)).Nodup∧q=zi (cW (fc rs) jss (ic rs r)).1∧bo=tb 0 (cA rs) kss (jT rs r)++(cW (fc rs) jss (ic rs r)).2) : acn P f ps rs x r:=by
 refine ⟨hlen,fun iss kss jss hsi hsk hsj hnd hlt hall=>⟨h.1,fun w0 F0 ρ b w F vs args hargs hb hbn hi hv=>?_⟩⟩
 have hK:=CH ps (cA rs) 0 x hio
 have hl0:=xQ (CJ ps 0) hsi
 let τi:=XA (br (bk 0 ps)) (br iss)
 have e1:(br (bk 0 ps)).map τi=br iss:=Fx hn0 (sM hl0)
 have e2:(bk 0 ps).map (·.map τi)=iss:=wE hl0 e1
 obtain ⟨n1,n2,n3⟩:=List.nodup_append.1 hnd
 have hinj:∀ s∈br (bk 0 ps),∀ s'∈br (bk 0 ps),τi s = τi s'→s=s':=BE (by rw [e1]; exact n1)
 have hdom:∀ s∈ca (dP ps (bk 0 ps) x).2,s∈br (bk 0 ps):=fun s hs=>by
  obtain ⟨B,hB⟩:=cT.1 hs
  exact EJ (py hB)
 have hren:=MN τi ps (bk 0 ps) x
 rw [e2] at hren
 have hfl:∀ s∈br (bk 0 ps),s∈ca (dP ps (bk 0 ps) x).2:=fun s hs=>by
  have h1 : τi s∈br iss:=by rw [← e1]; exact List.mem_map_of_mem hs
  have h2:=hall _ h1
  rw [hren] at h2
  simp only [N9] at h2
  obtain ⟨s',h3,h4⟩:=List.mem_map.1 h2
  rw [← hinj s' (hdom s' h3) s hs h4]
  exact h3
 have hii:∀ s∈ca (dP ps (bk 0 ps) x).2,∀ s'∈ca (dP ps (bk 0 ps) x).2,τi s = τi s'→s=s':=fun s h1 s' h2=>hinj s (hdom s h1) s' (hdom s' h2)
 have hcl:=I3 ps (bk 0 ps) x
 refine YD (τi:=τi) (N:=br kss++br jss) (u:=qf ps rs iss kss jss x r) h hii ?_ hlt hcl.1 (by rw [hargs,hren]) hcl.2.u w0 F0 ρ b w F vs (fun s B hs=>?_) hbn hi hv
 rotate_left
 ·have:=Eh (σ:=τi) hii hs
  rw [show mJ τi (dP ps (bk 0 ps) x).2=(dP ps iss x).2 from by rw [hren]] at this
  exact hb _ _ this
 rintro q bo ⟨kss0,jss0,m1,m2,m3,rfl,rfl⟩
 have hl1:=y5 m1 hsk
 have hl2:=xQ m2 hsj
 have hKf:∀ s∈dC 0 (cA rs),s∈br (bk 0 ps):=fun s hs=>hdom s (hK.1 s hs)
 have ⟨p1,p2,p3⟩:=List.nodup_append.1 m3
 have hKn:((dC 0 (cA rs)).map τi).Nodup:=by
  have:∀ l:List Nat,l.Nodup→(∀ s∈l,s∈br (bk 0 ps))→(l.map τi).Nodup:=fun l=>by
   induction l with
   | nil=>intro _ _; exact List.nodup_nil
   | cons a l ih =>
    intro hn hs
    rw [List.nodup_cons] at hn
    rw [List.map_cons,List.nodup_cons]
    refine ⟨fun hm=>?_,ih hn.2 fun s h=>hs s (List.mem_cons_of_mem _ h)⟩
    obtain ⟨s,h1,h2⟩:=List.mem_map.1 hm
    have:=hinj s (hs s (List.mem_cons_of_mem _ h1)) a (hs a List.mem_cons_self) h2
    rw [this] at h1
    exact hn.1 h1
  exact this _ p1 hKf
 have htg:((dC 0 (cA rs)).map τi++(br kss++br jss)).Nodup:=by
  refine List.nodup_append.2 ⟨hKn,n2,fun a ha b' hb'=>?_⟩
  obtain ⟨s,h1,rfl⟩:=List.mem_map.1 ha
  exact n3 _ (by rw [← e1]; exact List.mem_map_of_mem (hKf s h1)) _ hb'
 let τ:=XA (dC 0 (cA rs)++(br kss0++br jss0)) ((dC 0 (cA rs)).map τi++(br kss++br jss))
 have et:(dC 0 (cA rs)++(br kss0++br jss0)).map τ = (dC 0 (cA rs)).map τi++(br kss++br jss):=Fx m3 (by simp [sM hl1,sM hl2])
 have hinjo:=BE (f:=τ) (l:=dC 0 (cA rs)++(br kss0++br jss0)) (by rw [et]; exact htg)
 have et2:=et
 rw [List.map_append,List.map_append] at et2
 obtain ⟨q1,q2⟩:=List.append_inj et2 (by simp)
 obtain ⟨q2,q3⟩:=List.append_inj q2 (by simp [sM hl1])
 have hτK:∀ s∈dC 0 (cA rs),τ s = τi s:=List.map_inj_left.1 q1
 have b1:=wE hl1 q2
 have b2:=wE hl2 q3
 obtain ⟨c1,c2,c3⟩:=GZ (cA rs) 0 kss0 (jT rs r) m1
 have hbo:∀ s∈ca (tb 0 (cA rs) kss0 (jT rs r)++(cW (fc rs) jss0 (ic rs r)).2),s∈dC 0 (cA rs)∨s∈br kss0++br jss0:=fun s hs=>by
  rw [ip,List.mem_append] at hs
  rw [List.mem_append]
  rcases hs with hs | hs
  ·rcases c2 s hs with h | h
   ·exact .inl h
   ·exact .inr (.inl h)
  ·exact .inr (.inr (I1 hs))
 have hbo':∀ s∈ca (tb 0 (cA rs) kss0 (jT rs r)++(cW (fc rs) jss0 (ic rs r)).2),s∈dC 0 (cA rs)++(br kss0++br jss0):=fun s hs=>List.mem_append.2 (hbo s hs)
 have hnewm:∀ s∈br kss0++br jss0,τ s∈br kss++br jss:=fun s hs=>by
  rw [← q2,← q3,← List.map_append]
  exact List.mem_map_of_mem hs
 have hoo:∀ s∈ca (tb 0 (cA rs) kss0 (jT rs r)++(cW (fc rs) jss0 (ic rs r)).2),∀ s'∈ca (tb 0 (cA rs) kss0 (jT rs r)++(cW (fc rs) jss0 (ic rs r)).2),τ s = τ s'→s=s':=fun s h1 s' h2=>hinjo s (hbo' s h1) s' (hbo' s' h2)
 have hfit:acm τi τ (dP ps (bk 0 ps) x).2 (tb 0 (cA rs) kss0 (jT rs r)++(cW (fc rs) jss0 (ic rs r)).2) (dC 0 (cA rs)):=by
  refine ⟨hii,hoo,fun s hs s' hs' e=>?_,fun s hs=>⟨hK.1 s hs,by rw [ip,List.mem_append]; exact .inl (c3 s hs),(hτK s hs).symm⟩⟩
  rcases hbo s' hs' with h1 | h1
  ·rw [hτK s' h1] at e
   have:=hii s hs s' (hK.1 s' h1) e
   subst this
   exact ⟨rfl,h1⟩
  ·exact absurd e (n3 _ (by rw [← e1]; exact List.mem_map_of_mem (hdom s hs)) _ (hnewm s' h1))
 have hgo:pg ps iss=(pg ps (bk 0 ps)).map τi:=by rw [← Jv,e2]
 have hu:qf ps rs iss kss jss x r=mJ τ (tb 0 (cA rs) kss0 (jT rs r)++(cW (fc rs) jss0 (ic rs r)).2)++CW (mJ τi (dP ps (bk 0 ps) x).2) (pg ps iss):=by
  unfold qf
  rw [hren]
  have h1:=MM τi τ ps (cA rs) 0 iss kss0 x (jT rs r) hio hsi m1 hτK e2
  rw [b1] at h1
  have h2:=Bn τ (fc rs) jss0 (ic rs r)
  rw [b2] at h2
  rw [h1,h2,u6,List.append_assoc]
 refine ⟨τ,hfit,⟨fun s B hs=>?_,fun s B hs hk=>?_,fun i B hB=>?_⟩,?_,fun s hs hk=>?_⟩
 ·rw [hu,K6,Eh hoo hs]
 ·have hm:=py hs
  obtain ⟨⟨e,k,es,rfl⟩,hg⟩:=hK.2 s B hm hk
  have hnone:lkU (mJ τ (tb 0 (cA rs) kss0 (jT rs r)++(cW (fc rs) jss0 (ic rs r)).2)) (τi s)=none:=by
   cases hl:lkU (mJ τ (tb 0 (cA rs) kss0 (jT rs r)++(cW (fc rs) jss0 (ic rs r)).2)) (τi s) with
   | none=>rfl
   | some C =>
    obtain ⟨s',h1,h2⟩:=vm hl
    exact absurd (hfit.io s (cT.2 ⟨_,hs⟩) s' h1 h2).2 hk
  refine ⟨e,k,es,es ++ [[]],rfl,?_,by simp⟩
  rw [hu,K6,hnone]
  simp only
  rw [FU,if_pos (by rw [hgo]; exact List.mem_map_of_mem hg),Eh hii hs]
  rfl
 ·rw [hu,K6] at hB
  split at hB
  ·rename_i C hC
   obtain ⟨s',h1,h2⟩:=vm hC
   exact .inl ⟨s',h1,h2⟩
  ·rw [FU] at hB
   split at hB
   ·rename_i hm
    rw [hgo] at hm
    obtain ⟨s,h1,h2⟩:=List.mem_map.1 hm
    exact .inr ⟨s,hfl s (FT _ _ s h1),hgk s h1,h2.symm⟩
   ·cases hB
 ·have h2:=Bn τ (fc rs) jss0 (ic rs r)
  rw [b2] at h2
  rw [ZT,h2]
 ·exact hnewm s ((hbo s hs).resolve_left hk)
theorem Ep {P:Program} {T:List (Nat×Ent)} {n:Nat} {ps rs:List PT} {vars:List ResultVar} {fz:List (Nat×List Nat)} {sc:List Nat} {fb:List (Nat×List Nat)} {h:uR} {f:FuncId} {fn:Func} {c:Code} (hT:rK P T) (hm:P.follows .mixedOrders=true) (hf:P.funcs[f]? = some fn) (hb:fn.body=some c) (hcb:dH P f=true) (hn:fn.ntmps=n) (hv:fn.results.toList=vars)
  (hl:(decide (ps.length≤n)&&(tN ps&&(pD rs&&(Qg ps (cA rs)&&(tP (br (bk 0 ps))&&JO (pg ps (bk 0 ps)) (dC 0 (cA rs)))))))=true)
  {F:cg ps→Option (aX rs)} (hlen:∀ x r,F x=some r→Nt ps (cA rs) x (jT rs r)) (hF:∀ x,Jb ⟨P,T,n,rs,vars,fz,sc,fb⟩ c h ps x=F x) : bI P f ps rs F:=by
 intro x r hx
 simp only [Bool.and_eq_true] at hl
 obtain ⟨hl1,hl2,hl3,hl4,hl5,hl6⟩:=hl
 refine ⟨fun hnM=>(by rw [Bool.or_eq_false_iff,hl3] at hnM; cases hnM.2),fun _=>?_⟩
 have hln:=hlen x r hx
 rw [← hF] at hx
 have hlen:=zd hl1
 subst hn
 unfold Jb at hx
 split at hx
 rotate_left
 ·cases hx
 rename_i vs bx hen
 obtain ⟨hnd,hx⟩:=aq hx
 have hseen:w6 bx bx:=by have:=Ea (l':=[]) (je hnd); rw [List.append_nil] at this; exact this
 obtain ⟨hal,hargs⟩:=Gi (G:=[]) hl2 hen hseen
 have halen:(dP ps (bk 0 ps) x).1.length=ps.length:=by
  have:∀ (ps:List PT) (i:Nat) (x:cg ps),(dP ps (bk i ps) x).1.length=ps.length:=fun ps=>by
   induction ps with
   | nil=>intro i x; rfl
   | cons p ps ih=>intro i x; simp only [bk,dP,List.length_cons,ih]
  exact this ps 0 x
 refine aax hl4 hln (je hl5) (fun s hs hk=>?_) ?_
 ·have:=ue hl6 s (dY.2 hs)
  rw [zn] at this
  exact this hk
 refine UC hf hb hcb (by rw [halen]; exact hlen) (Ny _ 0) ?_
 have hs:g9 ⟨Ca 0 vs,bx,[],false,[]⟩ ⟨mO (dP ps (bk 0 ps) x).1,lkU (dP ps (bk 0 ps) x).2⟩:=by
  refine ⟨fun i=>?_,fun t b hbl=>?_⟩
  ·show bf bx (lkV (Ca 0 vs) i) (mO (dP ps (bk 0 ps) x).1 i)
   have:=LS vs 0 i
   rw [Nat.zero_add] at this
   rw [this]
   unfold mO
   cases h1:vs[i]? with
   | none=>exact .junk _
   | some v =>
    have hlt:i < (dP ps (bk 0 ps) x).1.length:=by rw [← hargs.len]; exact (zg.1 h1).1
    rw [zq hlt]
    exact hargs.rep i v _ h1 (zq hlt)
  ·show mH bx true (some b) (lkU (dP ps (bk 0 ps) x).2 t)
   have hbl:lkB bx t=some b:=hbl
   rcases WW hal [] t with ⟨_,sb,b',m2,m3,m4,_⟩ | ⟨_,m2,_⟩
   ·rw [List.append_nil,hbl] at m2
    rw [m3]
    exact m4 b m2.symm
   ·rw [List.append_nil,hbl] at m2
    cases m2
 have hpr:mE ⟨Ca 0 vs,bx,[],false,[]⟩:=fun t ht=>by cases ht
 have fin:∀ {e:Exit} {p':PS},(match e with | .normal=>True | .ret=>True | _=>False)→T5 ⟨P,T,fn.ntmps,rs,vars,fz,sc,fb⟩ fn p' r→aci P fn (dC 0 (cA rs)) (fun q bo=>∃ kss jss,kt (cA rs) kss∧iV (fc rs) jss∧(dC 0 (cA rs)++(br kss++br jss)).Nodup∧q=zi (cW (fc rs) jss (ic rs r)).1∧bo=tb 0 (cA rs) kss (jT rs r)++(cW (fc rs) jss (ic rs r)).2) e p':=fun {e p'} he hr=>by
  obtain ⟨kss,jss,m1,m2,m3,⟨q,m4,m5⟩,m6⟩:=hr.2 hl3
  have m1:kt (cA rs) kss:=m1
  have m2:iV (fc rs) jss:=m2
  have m5:rr q=zi (cW (fc rs) jss (ic rs r)).1:=m5
  obtain ⟨c1,c2,c3⟩:=GZ (cA rs) 0 kss (jT rs r) m1
  obtain ⟨d1,d2⟩:=EI (fc rs) jss (ic rs r)
  refine ⟨he,_,_,⟨kss,jss,m1,m2,m3,rfl,rfl⟩,fun t ht=>by rw [ip,List.mem_append]; exact .inl (c3 t ht),fun s hs=>?_,(c1.app d2).u,⟨q,m4,m5⟩,fun t B ht=>m6 t B (py ht)⟩
  rw [ip,List.mem_append]
  exact .inr (d1 s (Xr _ s hs))
 refine fF (pC (C:=⟨P,T,fn.ntmps,rs,vars,fz,sc,fb⟩) (fn:=fn) hT hm hv c h _ _ _ _ _ r hpr hs hx) fun e p' hq=>?_
 by_cases he:e = .ret
 ·subst he
  obtain ⟨r',h1,h3⟩:=hq
  injection h3 with h3
  subst h3
  exact ⟨p',.refl _,fin trivial h1⟩
 ·obtain ⟨s',m1,m2,m3⟩:=ry he hq
  cases e with
  | normal =>
   obtain ⟨p2,h1,h2⟩:=Ts (C:=⟨P,T,fn.ntmps,rs,vars,fz,sc,fb⟩) hv (y9 (m2.prOk hpr)) (sF m1) m3
   exact ⟨p2,(BK m1).trans h1,fin trivial h2⟩
  | ret=>exact absurd rfl he
  | _=>cases m3
theorem ZQ {w:World} {B e k n:Nat} {v:Value} {xs:List Value} (h:w.ownsRow B e k v n xs) : w.ownsRow 0 e k v n xs∧∀ g,blk v=some g→B≤g:=by
 refine ⟨⟨h.1,?_⟩,fun g hg=>?_⟩
 ·rcases h.2 with hn | ⟨g,cap,cur,rfl,hb,hr⟩
  ·exact .inl hn
  ·exact .inr ⟨g,cap,cur,rfl,Nat.zero_le _,hr⟩
 ·rcases h.2 with ⟨rfl,_⟩ | ⟨g',cap,cur,rfl,hb,hr⟩
  ·cases hg
  ·injection hg with hg; subst hg; exact hb
theorem aav {P:Program} {f:FuncId} {ty:Ty} {e k:Nat} {F:List ty.den→Option (List ty.den)} (hk:tyN ty=k) (hk0 : 0 < k) (hcall:dH P f=true)
  (H:∀ (xs zs:List ty.den) (w:World) (G:Nat→Prop) (v:Value),F xs=some zs→(∀ g,G g→g < w.heap.size)→ep w G v (.sl (xs.map (bK ty)))→Calls P f #[v] w fun en w'=>∃ v' us,en = .returned v'∧w'.ownsRow w.heap.size e k v' zs.length us∧Ext w w'∧us.length=zs.length * k∧∀ (j:Nat) u d,us[j]? = some u→(zs.map (bK ty)).flatten[j]? = some d→ep w G u d) :
  bI P f [.lf (.sl ty)] [.io [.no],.own e k ty] (fun x=>(F x.1).bind fun z=>some (((),()),z)):=by
 rintro ⟨xs,⟨⟩⟩ zz hF
 change List ty.den at xs
 obtain ⟨zs,hz,hF⟩:=cQ hF
 injection hF with hF
 subst hF
 refine ⟨fun h=>(by cases h),fun _=>⟨⟨trivial,trivial⟩,fun iss kss jss h1 h2 h3 h4 h5 h6=>⟨hcall,?_⟩⟩⟩
 match iss,h1 with
 | [is],h1 =>
 match is,h1.1 with
 | [],_ =>
 match kss,h2 with
 | [ks],h2 =>
 match ks,h2.1 with
 | [],_ =>
 match jss,h3 with
 | [js],h3 =>
 match js,h3.1 with
 | [j],_ =>
 intro w0 F0 ρ b w G vs args ha hb0 hb hi hr
 have hj:j < 1000000:=h5 j (by simp [br])
 have hbj:b j=none:=hb j (by simp [br])
 have hal:args.length=1:=by rw [← gb args,ha]; rfl
 match args,hal with
 | [a],_ =>
 have ha:rr a = .d (.sl (xs.map (bK ty))):=by
  simp only [dQ,dP,toI,List.cons.injEq] at ha
  exact ha.1
 have hvl:vs.toList.length=1:=hr.len
 obtain ⟨v,hv⟩ : ∃ v,vs = #[v]:=by
  match hv:vs.toList,hvl with
  | [v],_=>exact ⟨v,by apply Array.ext'; simpa using hv⟩
 subst hv
 have hrep:=(hr.rep 0 v a rfl rfl).nrmd
 rw [ha] at hrep
 have hd:ep w G v (.sl (xs.map (bK ty))):=by
  cases hrep with
  | d _ _ h=>exact h
 refine (H xs zs w G v hz hi.flt hd).mono ?_
 rintro en w' ⟨v',us,rfl,ho,hx,hl,hu⟩
 obtain ⟨ho0,hbase⟩:=ZQ ho
 have hzl:∀ x∈zs.map (bK ty),x.length=k:=fun x hx=>by
  obtain ⟨y,_,rfl⟩:=List.mem_map.1 hx
  rw [lQ,hk]
 have:=Ft (P:=P) (t:=j) (e:=e) (k:=k) (es:=zs.map (bK ty)) (xs:=us) (v:=v') (w':=w') hi hj hbj hk0 hx hbase (by rw [List.length_map]; exact ho0) hzl (by rw [hl,cH k _ hzl,List.length_map]) hu
 obtain ⟨v2,w2,ρ',e1,k1,k2,k3⟩:=this
 injection e1 with e1 e2
 subst e1 e2
 have hU:dD b (qf [.lf (.sl ty)] [.io [.no],.own e k ty] [[]] [[]] [[j]] (xs,()) (((),()),zs))=cR b (some (j,.rw e k (zs.map (bK ty)))):=by
  rw [← B9]; rfl
 rw [hU]
 refine ⟨v',ρ',G,rfl,k1,k2,?_⟩
 rw [List.length_map] at k3
 exact k3
theorem aau {P:Program} {f:FuncId} {F:cg [.lf .str]→Option (aX [.lf .str])} (hcall:dH P f=true)
  (H:∀ (x z:ByteArray) (w:World),F (x,())=some z→Calls P f #[.string x] w fun en w'=>en = .returned (.string z)∧Ext w w') : bI P f [.lf .str] [.lf .str] F:=by
 rintro ⟨x,⟨⟩⟩ z hF
 refine ⟨fun _=>⟨hcall,fun w G vs hG hr=>?_⟩,fun h=>(by cases h)⟩
 have hvl:vs.toList.length=1:=hr.len
 obtain ⟨v,hv⟩ : ∃ v,vs = #[v]:=by
  match hv:vs.toList,hvl with
  | [v],_=>exact ⟨v,by apply Array.ext'; simpa using hv⟩
 subst hv
 obtain ⟨rfl,_⟩:=aJ.vv (hr.rep 0 v _ rfl rfl)
 refine (H x z w hF).mono ?_
 rintro en w' ⟨rfl,hx⟩
 exact ⟨_,G,rfl,hx,fun _ h=>h,fun g hg=>Nat.lt_of_lt_of_le (hG g hg) hx.size,fun _ h=>.inl h,.d _ _ (.v _ rfl)⟩
end Go.Proofs.YtmjkjaahbgikjaaGreat
