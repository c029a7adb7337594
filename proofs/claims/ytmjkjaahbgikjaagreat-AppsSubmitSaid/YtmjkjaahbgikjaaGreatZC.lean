/- My texts, in one. -/
import Derived.Test.YtmjkjaahbgikjaaGreatZB
set_option linter.all false
set_option maxRecDepth 100000
set_option maxHeartbeats 4000000
namespace Go.Proofs.YtmjkjaahbgikjaaGreat
open Go.RowKit
open IntKind (i64)
open Go.Proofs.Tryz (prog)
section
def Le (p p':PS) : Prop:=∀ (n:Nat) (w0:WM) (F0:Nat→Prop) (a:Act) (w:World),oh n w0 F0 p a w→oh n w0 F0 p' a w
theorem Le.refl (p:PS) : Le p p:=fun _ _ _ _ _ h=>h
theorem Le.trans {p p' p'':PS} (h:Le p p') (h':Le p' p'') : Le p p'':=fun n w0 F0 a w hc=>h' n w0 F0 a w (h n w0 F0 a w hc)
theorem uF {P:Program} {n:Nat} {c:Code} {Q:Exit→PS→Prop} {p p':PS} (hl:Le p p') (h:PWP P n c Q p') : PWP P n c Q p:=fun w0 F0 a w hc=>h w0 F0 a w (hl n w0 F0 a w hc)
theorem fx {P:Program} {n:Nat} {c:Code} {Q Q':Exit→PS→Prop} {p:PS} (h:PWP P n c Q p) (hq:∀ e p',Q e p'→∃ p'',Le p' p''∧Q' e p'') : PWP P n c Q' p :=
 fun w0 F0 a w hc=>wp_mono (h w0 F0 a w hc) fun e a' w' ⟨s',h1,h2⟩=>by
  obtain ⟨p'',h3,h4⟩:=hq e s' h1
  exact ⟨p'',h4,h3 n w0 F0 a' w' h2⟩
structure gY (s:SS) (p:PS) : Prop where
 sl:∀ i,bf s.bx (lkV s.sl i) (p.t i)
 bx:∀ t b,lkB s.bx t=some b→mq s.bx true (some b) (p.b t)
theorem mq.some {B:List (Nat×Option aW)} {o o':Bool} {b:aW} {q:Option Box} (h:mq B o (some b) q) : mq B o' (some b) q:=by cases b <;> exact h
theorem Sim.w {s:SS} {p:PS} (h:Sim s p) : gY s p:=⟨h.sl,fun t b hb=>by have:=h.bx t; rw [hb] at this; exact this.some⟩
mutual
def Xb:SV→PV→PV
 | .junk,_=>.junk
 | .ag cs,.ag qs=>.ag (oP cs qs)
 | .tup cs,.tup qs=>.tup (oP cs qs)
 | .fn _ ps qs,.fn f ps' qs'=>.fn f (oP ps ps') (oP qs qs')
 | _,q=>q
def oP:List SV→List PV→List PV
 | [],_=>[]
 | _,[]=>[]
 | c::cs,q::qs=>Xb c q::oP cs qs
end
def Kn:aW→Box→Box
 | .st _ cs,.st ty qs=>.st ty (oP cs qs)
 | _,b=>b
def xM (s:SS) (p:PS) : PS:=⟨fun i=>Xb (lkV s.sl i) (p.t i),fun t=>match lkB s.bx t with | none=>none | some b=>(p.b t).map (Kn b)⟩
theorem ga:∀ (cs:List SV) (qs:List PV),cs.length=qs.length→(oP cs qs).length=qs.length
 | [],[],_=>rfl
 | [],_ :: _,h=>by simp at h
 | _ :: _,[],h=>by simp at h
 | c::cs,q::qs,h=>by simp only [oP,List.length_cons,ga cs qs (by simpa using h)]
theorem gb:∀ (cs:List SV) (qs:List PV) (j:Nat) (r:PV),(oP cs qs)[j]? = some r→∃ c q,cs[j]? = some c∧qs[j]? = some q∧r=Xb c q
 | [],qs,j,r,h=>by simp [oP] at h
 | _ :: _,[],j,r,h=>by simp [oP] at h
 | c::cs,q::qs,0,r,h=>by simp [oP] at h; exact ⟨c,q,rfl,rfl,h.symm⟩
 | c::cs,q::qs,j + 1,r,h=>by
  simp [oP] at h
  simpa using gb cs qs j r h
theorem Ly {B:List (Nat×Option aW)} {v:SV} {q:PV} (h:bf B v q) : bf B v (Xb v q):=by
 induction h with
 | junk q=>exact .junk _
 | d c y h=>exact .d c y h
 | ag cs qs hl hr ih =>
  refine .ag cs _ (by rw [ga cs qs hl]; exact hl) (fun j c r h1 h2=>?_)
  obtain ⟨c',q',h3,h4,rfl⟩:=gb cs qs j r h2
  rw [h1] at h3
  injection h3 with h3
  subst h3
  exact ih j c q' h1 h4
 | tup cs qs hl hr ih =>
  refine .tup cs _ (by rw [ga cs qs hl]; exact hl) (fun j c r h1 h2=>?_)
  obtain ⟨c',q',h3,h4,rfl⟩:=gb cs qs j r h2
  rw [h1] at h3
  injection h3 with h3
  subst h3
  exact ih j c q' h1 h4
 | ptr t o ty cs hb=>exact .ptr t o ty cs hb
 | row t n e k ty xs pins hb hn=>exact .row t n e k ty xs pins hb hn
 | re t p o n i e k ty xs pins pin hb hn hp hi=>exact .re t p o n i e k ty xs pins pin hb hn hp hi
 | vw t lo hi n e k ty xs pins hb hn=>exact .vw t lo hi n e k ty xs pins hb hn
 | fe cs ds h hn=>exact .fe cs ds h hn
 | fn f ps qs ps' qs' hl hr hl2 hr2 ih ih2 =>
  refine .fn f ps qs _ _ (by rw [ga ps ps' hl]; exact hl) (fun j c r h1 h2=>?_) (by rw [ga qs qs' hl2]; exact hl2) (fun j c r h1 h2=>?_)
  ·obtain ⟨c',q',h3,h4,rfl⟩:=gb ps ps' j r h2
   rw [h1] at h3
   injection h3 with h3
   subst h3
   exact ih j c q' h1 h4
  ·obtain ⟨c',q',h3,h4,rfl⟩:=gb qs qs' j r h2
   rw [h1] at h3
   injection h3 with h3
   subst h3
   exact ih2 j c q' h1 h4
theorem Xe {B:List (Nat×Option aW)} {cs:List SV} {qs:List PV} (h:ca B cs qs) : ca B cs (oP cs qs) :=
 ⟨by rw [ga cs qs h.len]; exact h.len,fun j c r h1 h2=>by
  obtain ⟨c',q',h3,h4,rfl⟩:=gb cs qs j r h2
  rw [h1] at h3
  injection h3 with h3
  subst h3
  exact Ly (h.rep j c q' h1 h4)⟩
section
variable {ρ : Nat→Value} {b b':Nat→Option Box} {w:World} {F:Nat→Prop} {B:List (Nat×Option aW)}
theorem L3 (hst:∀ t ty cs ty' qs,lkB B t=some (.st ty cs)→b t=some (.st ty' qs)→∃ ty2 qs2,b' t=some (.st ty2 qs2)) (hrw:∀ t e k ty xs pins,lkB B t=some (.rw e k ty xs pins)→b' t=b t) {v:SV} {q:PV} (hv:bf B v q) :
  ∀ {x:Value},aJ ρ b w F x q→aJ ρ b' w F x (Xb v q):=by
 induction hv with
 | junk q=>exact fun _=>.junk _
 | d c y h =>
  intro x hp
  cases hp with
  | d _ _ h=>exact .d _ _ h
 | ag cs qs hl hr ih =>
  intro x hp
  cases hp with
  | ag xs _ hl2 h1 hr2 =>
   refine .ag xs _ (by rw [ga cs qs hl]; exact hl2) h1 (fun j x r h2 h3=>?_)
   obtain ⟨c,q,h4,h5,rfl⟩:=gb cs qs j r h3
   exact ih j c q h4 h5 (hr2 j x q h2 h5)
 | tup cs qs hl hr ih =>
  intro x hp
  cases hp with
  | tup xs _ hl2 hr2 =>
   refine .tup xs _ (by rw [ga cs qs hl]; exact hl2) (fun j x r h2 h3=>?_)
   obtain ⟨c,q,h4,h5,rfl⟩:=gb cs qs j r h3
   exact ih j c q h4 h5 (hr2 j x q h2 h5)
 | ptr t o ty cs hb =>
  intro x hp
  cases hp with
  | ptr _ _ g ty' qs h1 h2 =>
   obtain ⟨ty2,qs2,h3⟩:=hst t ty cs ty' qs hb h1
   exact .ptr t o g ty2 qs2 h3 h2
 | row t n e k ty xs pins hb hn =>
  intro x hp
  cases hp with
  | row _ _ A c e2 k2 es h1 h2 h3 h4 h5=>exact .row t n A c e2 k2 es (by rw [hrw t e k ty xs pins hb]; exact h1) h2 h3 h4 h5
 | re t p o n i e k ty xs pins pin hb hn hp hi =>
  intro x hx
  cases hx with
  | re _ _ _ _ a e2 k2 es h1 h2 h3 h4=>exact .re t n i o a e2 k2 es (by rw [hrw t e k ty xs pins hb]; exact h1) h2 h3 h4
 | vw t lo hi n e k ty xs pins hb hn=>
  intro x hp
  cases hp with
  | vw _ _ _ _ A m c e2 k2 es h1 h2 h3 h4 h5 h6=>exact .vw t n lo hi A m c e2 k2 es (by rw [hrw t e k ty xs pins hb]; exact h1) h2 h3 h4 h5 h6
 | fe cs ds h hn =>
  intro x hx
  cases hx with
  | fe a _ us h1 h2 h3=>exact .fe a ds us h1 h2 h3
 | fn f ps qs ps' qs' hl hr hl2 hr2 ih ih2 =>
  intro x hx
  cases hx with
  | fn _ xs ys _ _ m1 m2 m3 m4 =>
   refine .fn f xs ys _ _ (by rw [ga ps ps' hl]; exact m1) (fun j x r h2 h3=>?_) (by rw [ga qs qs' hl2]; exact m3) (fun j x r h2 h3=>?_)
   ·obtain ⟨c,q,h4,h5,rfl⟩:=gb ps ps' j r h3
    exact ih j c q h4 h5 (m2 j x q h2 h5)
   ·obtain ⟨c,q,h4,h5,rfl⟩:=gb qs qs' j r h3
    exact ih2 j c q h4 h5 (m4 j x q h2 h5)
end
theorem rX {s:SS} {p:PS} (h:gY s p) : Sim ⟨s.sl,s.bx,s.pr,s.ro,[]⟩ (xM s p):=by
 refine ⟨fun i=>Ly (h.sl i),fun t=>?_⟩
 show mq s.bx (aA [] t) (lkB s.bx t) (match lkB s.bx t with | none=>none | some b=>(p.b t).map (Kn b))
 cases hb:lkB s.bx t with
 | none=>exact fun _=>rfl
 | some bx =>
  have h1:=h.bx t bx hb
  cases bx with
  | st ty cs =>
   obtain ⟨qs,h2,h3⟩:=h1
   rw [h2]
   exact ⟨oP cs qs,rfl,Xe h3⟩
  | rw e k ty xs pins =>
   obtain ⟨h2,h3⟩:=h1
   rw [h2]
   exact ⟨rfl,h3⟩
theorem A0 {s:SS} {p:PS} (h:gY s p) : Le p (xM s p):=by
 intro n w0 F0 a w ⟨h1,h2,ρ,F,hi,hev⟩
 have hst:∀ t ty cs ty' qs,lkB s.bx t=some (.st ty cs)→p.b t=some (.st ty' qs)→∃ ty2 qs2,(xM s p).b t=some (.st ty2 qs2):=fun t ty cs ty' qs k1 k2=>by
  refine ⟨ty',oP cs qs,?_⟩
  show (match lkB s.bx t with | none=>none | some b=>(p.b t).map (Kn b)) = _
  rw [k1,k2]; rfl
 have hrw:∀ t e k ty xs pins,lkB s.bx t=some (.rw e k ty xs pins)→(xM s p).b t=p.b t:=fun t e k ty xs pins k1=>by
  show (match lkB s.bx t with | none=>none | some b=>(p.b t).map (Kn b)) = _
  rw [k1,(h.bx t _ k1).1]; rfl
 have hreg:∀ t q,pW ρ p.b t q→pW ρ (xM s p).b t q:=fun t q k=>by
  cases hl:lkB s.bx t with
  | none=>exact k.less (.inl (by show (match lkB s.bx t with | none=>none | some b=>(p.b t).map (Kn b)) = _; rw [hl]))
  | some b =>
   have hc:(xM s p).b t=(p.b t).map (Kn b):=by show (match lkB s.bx t with | none=>none | some b=>(p.b t).map (Kn b)) = _; rw [hl]
   cases b with
   | st ty cs =>
    refine k.mono (fun e=>by rw [hc,e]; rfl) (fun ty' qs e=>⟨⟨ty',_,by rw [hc,e]; rfl⟩,rfl⟩) (fun e k' es he=>⟨e,es,by rw [hc,he]; rfl,Nat.le_refl _,fun _=>rfl⟩)
   | rw e k' ty xs pins=>exact k.same (hrw t e k' ty xs pins hl) rfl
 have hb:∀ t Bx,(xM s p).b t=some Bx→∃ b B0,lkB s.bx t=some b∧p.b t=some B0∧Bx=Kn b B0:=fun t Bx k=>by
  have k:(match lkB s.bx t with | none=>none | some b=>(p.b t).map (Kn b))=some Bx:=k
  cases hl:lkB s.bx t with
  | none=>rw [hl] at k; cases k
  | some b =>
   rw [hl] at k
   rw [zm] at k
   obtain ⟨B0,k1,k2⟩:=k
   exact ⟨b,B0,rfl,k1,k2.symm⟩
 refine ⟨h1,h2,ρ,F,⟨hi.ext,hi.f0,hi.flt,hi.fnew,fun t Bx k=>?_,fun t t' Bx Bx' g k1 k2=>?_,fun t q hq=>⟨(hi.reg t q hq).1,hreg t q (hi.reg t q hq).2⟩⟩,fun i=>L3 hst hrw (h.sl i) (hev i)⟩
 ·obtain ⟨b,B0,k1,k2,rfl⟩:=hb t Bx k
  have hbx:=hi.box t B0 k2
  have hs:=h.bx t b k1
  cases b with
  | st ty cs =>
   obtain ⟨qs,k3,k4⟩:=hs
   rw [k2] at k3
   injection k3 with k3
   subst k3
   cases hbx with
   | st _ _ g xs hρ hg hF hh hl h1x hr =>
    refine .st ty _ g xs hρ hg hF hh (by rw [ga cs qs k4.len]; exact hl) h1x (fun j x r m1 m2=>?_)
    obtain ⟨c,q,m3,m4,rfl⟩:=gb cs qs j r m2
    exact L3 hst hrw (k4.rep j c q m3 m4) (hr j x q m1 m4)
  | rw e k ty xs pins =>
   obtain ⟨k3,_⟩:=hs
   rw [k2] at k3
   injection k3 with k3
   subst k3
   cases hbx with
   | rw _ _ _ xs' hk0 ho hF hk hl hr hown=>exact .rw _ _ _ xs' hk0 ho hF hk hl hr hown
   | gn _ _ _ hρ=>exact .gn _ _ _ hρ
 ·obtain ⟨_,B1,_,m1,_⟩:=hb t Bx k1
  obtain ⟨_,B2,_,m2,_⟩:=hb t' Bx' k2
  exact hi.dist t t' B1 B2 g m1 m2
def aaV (t:Nat) (es:List (List D)) (p:PS) : PS:=⟨fun i=>frz t es (p.t i),fun i=>if i=t then none else (p.b i).map (A8 t es)⟩
theorem Ws {p:PS} (t:Nat) {e k:Nat} {es:List (List D)} (hb0:p.b t=some (.rw e k es)) : Le p (aaV t es p):=by
 intro n w0 F0 a w ⟨h1,h2,ρ,F,hi,hev⟩
 have hb':∀ i,(aaV t es p).b i=if i=t then none else (p.b i).map (A8 t es):=fun i=>rfl
 have hbt:=(hi.box t _ hb0)
 refine ⟨h1,h2,ρ,fun g=>F g∨blk (ρ t)=some g,⟨hi.ext,fun g hg=>.inl (hi.f0 g hg),?_,?_,fun t' B h=>?_,fun t1 t2 B1 B2 g k1 k2 hne=>?_,hi.reg_frz hb'⟩,fun i=>(hev i).frz hi hb0 hb'⟩
 ·rintro g (hg | hg)
  ·exact hi.flt g hg
  ·exact (hbt.lt hg).1
 ·rintro g (hg | hg)
  ·exact hi.fnew g hg
  ·exact .inr (hbt.lt hg).2.1
 ·rw [hb'] at h
  split at h
  ·cases h
  ·rename_i ht
   rw [zm] at h
   obtain ⟨B0,hB0,rfl⟩:=h
   have hnF:∀ g,blk (ρ t')=some g→¬ (F g∨blk (ρ t)=some g):=by
    rintro g hg (h | h)
    ·exact ((hi.box t' B0 hB0).lt hg).2.2 h
    ·exact hi.dist t' t B0 _ g hB0 hb0 ht hg h
   cases hi.box t' B0 hB0 with
   | st ty cs g xs hρ hg hF hh hl h1 hr =>
    refine .st ty _ g xs hρ hg (hnF g (by rw [hρ]; rfl)) hh (by rw [ib]; exact hl) h1 (fun j x c k1 k2=>?_)
    obtain ⟨d,h4,rfl⟩:=ic t es cs j c k2
    exact (hr j x d k1 h4).frz hi hb0 hb'
   | rw e' k' es' xs hk0 ho hF hk hl hr hown=>exact .rw e' k' es' xs hk0 ho hnF hk hl (fun j x d k1 k2=>(hr j x d k1 k2).mono (fun g h=>.inl h) (fun _ _=>rfl)) hown
   | gn e' k' es' hρ=>exact .gn e' k' es' hρ
 ·rw [hb'] at k1 k2
  split at k1
  ·cases k1
  ·split at k2
   ·cases k2
   ·rw [zm] at k1 k2
    obtain ⟨B1',k1,_⟩:=k1
    obtain ⟨B2',k2,_⟩:=k2
    exact hi.dist t1 t2 B1' B2' g k1 k2 hne
def WL (t:Nat) (c:SD) : aW→aW
 | .st ty cs=>.st ty (n5 t c cs)
 | b=>b
theorem lw (t:Nat) (c:SD) : ∀ (l:List (Nat×Option aW)) (i:Nat),lkB (sk t c l) i=(lkB l i).map (WL t c)
 | [],_=>rfl
 | (j,none)::l,i=>by simp only [sk,ar,lw t c l i]; split <;> rfl
 | (j,some (.st ty cs))::l,i=>by simp only [sk,ar,lw t c l i]; split <;> rfl
 | (j,some (.rw e k ty xs pins))::l,i=>by simp only [sk,ar,lw t c l i]; split <;> rfl
theorem Dr (t:Nat) (c:SD) : ∀ (l:List (Nat×SV)) (i:Nat),lkV (EX t c l) i=uU t c (lkV l i)
 | [],_=>rfl
 | (j,v)::l,i=>by simp only [EX,cW,Dr t c l i]; split <;> rfl
theorem mW (t:Nat) (c:SD) : ∀ (cs:List SV) (j:Nat),(n5 t c cs)[j]? = (cs[j]?).map (uU t c)
 | [],j=>by simp [n5]
 | v::cs,0=>by simp [n5]
 | v::cs,j + 1=>by simpa [n5] using mW t c cs j
theorem kO (t:Nat) (c:SD) : ∀ cs:List SV,(n5 t c cs).length=cs.length
 | []=>rfl
 | v::cs=>by simp [n5,kO t c cs]
theorem bf.frz {B B':List (Nat×Option aW)} {t e k:Nat} {ty:Ty} {xs:List ty.den} {pins:List (Nat×Pin)} (ht:lkB B t=some (.rw e k ty xs pins)) (hB:VC t B B') {v:SV} {q:PV} (h:bf B v q) : bf B' (uU t (.sl ty xs) v) (Go.Proofs.YtmjkjaahbgikjaaGreat.frz t (xs.map (bH ty)) q):=by
 induction h with
 | junk q=>exact .junk _
 | d c y h=>exact .d c y h
 | ag cs qs hl hr ih =>
  refine .ag _ _ (by rw [kO,ib]; exact hl) (fun j c r h1 h2=>?_)
  rw [mW,zm] at h1
  obtain ⟨c',h3,rfl⟩:=h1
  obtain ⟨q',h4,rfl⟩:=ic _ _ qs j r h2
  exact ih j c' q' h3 h4
 | tup cs qs hl hr ih =>
  refine .tup _ _ (by rw [kO,ib]; exact hl) (fun j c r h1 h2=>?_)
  rw [mW,zm] at h1
  obtain ⟨c',h3,rfl⟩:=h1
  obtain ⟨q',h4,rfl⟩:=ic _ _ qs j r h2
  exact ih j c' q' h3 h4
 | ptr t' o ty2 cs hb=>obtain ⟨ty',cs',h1⟩:=hB.st t' ty2 cs hb; exact .ptr t' o ty' cs' h1
 | row t' n e2 k2 ty2 xs2 pins2 hb hn =>
  simp only [uU,Go.Proofs.YtmjkjaahbgikjaaGreat.frz,cY]
  by_cases h:t' = t
  ·subst h
   rw [ht] at hb
   injection hb with hb
   injection hb with e1 e2 e3 e4 e5
   subst e3
   have e4:=eq_of_heq e4
   subst e4
   simp only [decide_true,if_true,List.length_map,hn]
   exact Ot ty xs
  ·simp only [h,decide_false,if_false]
   exact .row t' n e2 k2 ty2 xs2 pins2 (hB.rw t' h _ _ _ _ _ hb) hn
 | re t' p o n i e2 k2 ty2 xs2 pins2 pin hb hn hp hi =>
  simp only [uU,Go.Proofs.YtmjkjaahbgikjaaGreat.frz,cY]
  by_cases h:t' = t
  ·simp only [h,decide_true]; exact .junk _
  ·simp only [h,decide_false,if_false]
   exact .re t' p o n i e2 k2 ty2 xs2 pins2 pin (hB.rw t' h _ _ _ _ _ hb) hn hp hi
 | vw t' lo hi n e2 k2 ty2 xs2 pins2 hb hn=>
  simp only [uU,Go.Proofs.YtmjkjaahbgikjaaGreat.frz,cY]
  by_cases h:t' = t
  ·simp only [h,decide_true]; exact .junk _
  ·simp only [h,decide_false,if_false]
   exact .vw t' lo hi n e2 k2 ty2 xs2 pins2 (hB.rw t' h _ _ _ _ _ hb) hn
 | fe cs ds h hn=>exact .fe cs ds h hn
 | fn f ps qs ps' qs' hl hr hl2 hr2 ih ih2 =>
  refine .fn f _ _ _ _ (by rw [kO,ib]; exact hl) (fun j c r h1 h2=>?_) (by rw [kO,ib]; exact hl2) (fun j c r h1 h2=>?_)
  ·rw [mW,zm] at h1
   obtain ⟨c',h3,rfl⟩:=h1
   obtain ⟨q',h4,rfl⟩:=ic _ _ ps' j r h2
   exact ih j c' q' h3 h4
  ·rw [mW,zm] at h1
   obtain ⟨c',h3,rfl⟩:=h1
   obtain ⟨q',h4,rfl⟩:=ic _ _ qs' j r h2
   exact ih2 j c' q' h3 h4
mutual
theorem Mz {pr:List Nat} {t:Nat} {c:SD} (ht:aA pr t=false) : ∀ v:SV,lj pr v=true→uU t c v=v
 | .junk,_=>rfl
 | .d _,_=>rfl
 | .fe _,_=>rfl
 | .ptr _ _,_=>rfl
 | .row t',h=>by
  have:=Et ht (show aA pr t' = true from h)
  simp only [uU,cY,this,decide_false]
 | .re _ _ _,h=>by cases h
 | .vw _ _ _,h=>by cases h
 | .ag cs,h=>by simp only [uU]; rw [sj ht cs h]
 | .tup cs,h=>by simp only [uU]; rw [sj ht cs h]
 | .fn f ps qs,h=>by
  have h:(ed pr ps&&ed pr qs)=true:=h
  rw [Bool.and_eq_true] at h
  simp only [uU]; rw [sj ht ps h.1,sj ht qs h.2]
theorem sj {pr:List Nat} {t:Nat} {c:SD} (ht:aA pr t=false) : ∀ cs:List SV,ed pr cs=true→n5 t c cs=cs
 | [],_=>rfl
 | v::cs,h=>by
  simp only [ed,Bool.and_eq_true] at h
  simp only [n5]
  rw [Mz ht v h.1,sj ht cs h.2]
end
mutual
theorem TP {t:Nat} {c:SD} : ∀ v:SV,pJ v=true→uU t c v=v
 | .junk,_=>rfl
 | .d _,_=>rfl
 | .fe _,_=>rfl
 | .ptr _ _,_=>rfl
 | .row _,h=>by cases h
 | .re _ _ _,h=>by cases h
 | .vw _ _ _,h=>by cases h
 | .ag cs,h=>by simp only [uU]; rw [mU cs h]
 | .tup cs,h=>by simp only [uU]; rw [mU cs h]
 | .fn f ps qs,h=>by
  have h:(match cz ps with | true=>cz qs | false=>false)=true:=h
  split at h
  ·rename_i h1; simp only [uU]; rw [mU ps h1,mU qs h]
  ·cases h
theorem mU {t:Nat} {c:SD} : ∀ cs:List SV,cz cs=true→n5 t c cs=cs
 | [],_=>rfl
 | v::cs,h=>by
  simp only [cz] at h
  split at h
  ·rename_i h1
   simp only [n5]
   rw [TP v h1,mU cs h]
  ·cases h
end
theorem Sf {sc:List Nat} {s s':SS} {p:PS} {t:Nat} (hpr:ml s) (hs:gY s p) (h:Pi t s=some s') : ∃ p',Le p p'∧gY s' p'∧∀ W,dK sc W s s':=by
 unfold Pi at h
 split at h
 ·rename_i e k ty xs pins hb
  split at h
  ·rename_i ht
   injection h with h
   subst h
   have hpb:p.b t=some (.rw e k (xs.map (bH ty))):=(hs.bx t _ hb).1
   have hX:VC t s.bx ((t,none)::sk t (.sl ty xs) s.bx):=by
    refine ⟨fun t' ht' e2 k2 ty2 xs2 pins2 h=>?_,fun t' ty2 cs2 h=>?_⟩
    ·rw [ar,if_neg ht',lw,h]; rfl
    ·have : ¬ t' = t:=fun e=>by rw [e,hb] at h; cases h
     rw [ar,if_neg this,lw,h]
     exact ⟨_,_,rfl⟩
   refine ⟨_,Ws t hpb,⟨fun i=>?_,fun t' b h=>?_⟩,fun W=>⟨rfl,rfl,fun t' ht'=>?_,fun i _ hsf=>?_,fun t' _ ty2 cs2 h=>?_⟩⟩
   ·show bf _ (lkV (EX t (.sl ty xs) s.sl) i) (frz t (xs.map (bH ty)) (p.t i))
    rw [Dr]
    exact (hs.sl i).frz hb hX
   ·have h:lkB ((t,none)::sk t (.sl ty xs) s.bx) t' = some b:=h
    rw [ar] at h
    split at h
    ·cases h
    ·rename_i hne
     rw [lw,zm] at h
     obtain ⟨b0,h1,rfl⟩:=h
     have h2:=hs.bx t' b0 h1
     show mq _ true (some (WL t (.sl ty xs) b0)) (if t' = t then none else (p.b t').map (A8 t (xs.map (bH ty))))
     rw [if_neg hne]
     cases b0 with
     | st ty2 cs =>
      obtain ⟨qs,h3,h4⟩:=h2
      rw [h3]
      refine ⟨_,rfl,by rw [kO,ib]; exact h4.len,fun j c r k1 k2=>?_⟩
      rw [mW,zm] at k1
      obtain ⟨c',k3,rfl⟩:=k1
      obtain ⟨q',k4,rfl⟩:=ic _ _ qs j r k2
      exact (h4.rep j c' q' k3 k4).frz hb hX
     | rw e2 k2 ty2 xs2 pins2 =>
      obtain ⟨h3,h4⟩:=h2
      rw [h3]
      exact ⟨rfl,h4⟩
   ·show kQ _ (lkB ((t,none)::sk t (.sl ty xs) s.bx) t')
    rw [ar,if_neg (fun e=>by rw [e,ht] at ht'; cases ht'),lw]
    obtain ⟨b',h1,h2⟩:=hpr t' ht'
    rw [h1]
    cases b' with
    | st ty2 cs=>simp only [Option.map_some,WL]; rw [mU cs h2]; rfl
    | rw e2 k2 ty2 xs2 pins2=>exact ⟨pins2,rfl⟩
   ·show lkV (EX t (.sl ty xs) s.sl) i = _
    rw [Dr]
    exact Mz ht _ hsf
   ·show ∃ cs',lkB ((t,none)::sk t (.sl ty xs) s.bx) t' = _∧_
    rw [ar,if_neg (fun e=>by rw [e,hb] at h; cases h),lw,h]
    exact ⟨_,rfl,kO _ _ cs2⟩
  ·injection h with h
   subst h
   exact ⟨p,.refl p,hs,fun W=>.refl W s⟩
 ·injection h with h
  subst h
  exact ⟨p,.refl p,hs,fun W=>.refl W s⟩
theorem WK {sc:List Nat} {s s':SS} {p:PS} {t:Nat} (hpr:ml s) (hs:Sim s p) (h:Pi t s=some s') : ∃ p',Le p p'∧Sim s' p'∧(∀ W,dK sc W s s')∧s'.oc=s.oc:=by
 unfold Pi at h
 split at h
 ·rename_i e k ty xs pins hb
  split at h
  ·rename_i ht
   have h0:Pi t s=some s':=by unfold Pi; rw [hb]; simp only; rw [ht]; exact h
   injection h with h
   have hpb:p.b t=some (.rw e k (xs.map (bH ty))):=by have:=hs.bx t; rw [hb] at this; exact this.1
   obtain ⟨p2,k1,k2,k3⟩:=Sf (sc:=sc) hpr hs.w h0
   have hX:VC t s.bx ((t,none)::sk t (.sl ty xs) s.bx):=by
    refine ⟨fun t' ht' e2 k2 ty2 xs2 pins2 h=>?_,fun t' ty2 cs2 h=>?_⟩
    ·rw [ar,if_neg ht',lw,h]; rfl
    ·have : ¬ t' = t:=fun e=>by rw [e,hb] at h; cases h
     rw [ar,if_neg this,lw,h]
     exact ⟨_,_,rfl⟩
   subst h
   refine ⟨_,Ws t hpb,⟨fun i=>?_,fun t'=>?_⟩,k3,rfl⟩
   ·show bf _ (lkV (EX t (.sl ty xs) s.sl) i) (frz t (xs.map (bH ty)) (p.t i))
    rw [Dr]
    exact (hs.sl i).frz hb hX
   ·show mq _ (aA s.oc t') (lkB ((t,none)::sk t (.sl ty xs) s.bx) t') (if t' = t then none else (p.b t').map (A8 t (xs.map (bH ty))))
    rw [ar]
    by_cases hne:t' = t
    ·rw [if_pos hne,if_pos hne]; exact fun _=>rfl
    ·rw [if_neg hne,if_neg hne,lw]
     have h2:=hs.bx t'
     cases hl:lkB s.bx t' with
     | none=>rw [hl] at h2; exact fun ho=>by rw [h2 ho]; rfl
     | some b0 =>
      rw [hl] at h2
      cases b0 with
      | st ty2 cs =>
       obtain ⟨qs,h3,h4⟩:=h2
       rw [h3]
       refine ⟨_,rfl,by rw [kO,ib]; exact h4.len,fun j c r k1 k2=>?_⟩
       rw [mW,zm] at k1
       obtain ⟨c',k3,rfl⟩:=k1
       obtain ⟨q',k4,rfl⟩:=ic _ _ qs j r k2
       exact (h4.rep j c' q' k3 k4).frz hb hX
      | rw e2 k2 ty2 xs2 pins2 =>
       obtain ⟨h3,h4⟩:=h2
       rw [h3]
       exact ⟨rfl,h4⟩
  ·injection h with h
   subst h
   exact ⟨p,.refl p,hs,fun W=>.refl W s,rfl⟩
 ·injection h with h
  subst h
  exact ⟨p,.refl p,hs,fun W=>.refl W s,rfl⟩
theorem xF {sc:List Nat} : ∀ {l:List Nat} {s s':SS} {p:PS},ml s→Sim s p→lz l s=some s'→∃ p',Le p p'∧Sim s' p'∧(∀ W,dK sc W s s')∧s'.oc=s.oc
 | [],s,s',p,_,hs,h=>by injection h with h; subst h; exact ⟨p,.refl p,hs,fun W=>.refl W s,rfl⟩
 | t::l,s,s',p,hpr,hs,h=>by
  simp only [lz] at h
  split at h
  ·rename_i s1 h1
   obtain ⟨p1,k1,k2,k3,k4⟩:=WK (sc:=sc) hpr hs h1
   obtain ⟨p2,m1,m2,m3,m4⟩:=xF (sc:=sc) ((k3 []).prOk hpr) k2 h
   exact ⟨p2,k1.trans m1,m2,fun W=>(k3 W).trans (m3 W),m4.trans k4⟩
  ·cases h
theorem sn {sc:List Nat} : ∀ {l:List Nat} {s s':SS} {p:PS},ml s→gY s p→lz l s=some s'→∃ p',Le p p'∧gY s' p'∧∀ W,dK sc W s s'
 | [],s,s',p,_,hs,h=>by injection h with h; subst h; exact ⟨p,.refl p,hs,fun W=>.refl W s⟩
 | t::l,s,s',p,hpr,hs,h=>by
  simp only [lz] at h
  split at h
  ·rename_i s1 h1
   obtain ⟨p1,k1,k2,k3⟩:=Sf hpr hs h1
   obtain ⟨p2,k4,k5,k6⟩:=sn ((k3 []).prOk hpr) k2 h
   exact ⟨p2,k1.trans k4,k5,fun W=>(k3 W).trans (k6 W)⟩
  ·cases h
mutual
def fzp (t:Nat) (ds:List D) : PV→PV
 | .ptr t' o=>if t' = t then .fe (ds.drop o) else .ptr t' o
 | .ag cs=>.ag (EU t ds cs)
 | .tup cs=>.tup (EU t ds cs)
 | .fn f ps qs=>.fn f (EU t ds ps) (EU t ds qs)
 | p=>p
def EU (t:Nat) (ds:List D) : List PV→List PV
 | []=>[]
 | c::cs=>fzp t ds c::EU t ds cs
end
def EV (t:Nat) (ds:List D) : Box→Box
 | .st ty cs=>.st ty (EU t ds cs)
 | B=>B
def aaU (t:Nat) (ds:List D) (p:PS) : PS:=⟨fun i=>fzp t ds (p.t i),fun i=>if i=t then none else (p.b i).map (EV t ds)⟩
theorem ja (t:Nat) (ds:List D) : ∀ cs:List PV,(EU t ds cs).length=cs.length
 | []=>rfl
 | c::cs=>by simp [EU,ja t ds cs]
theorem jb (t:Nat) (ds:List D) : ∀ (cs:List PV) (j:Nat) (c:PV),(EU t ds cs)[j]? = some c→∃ d,cs[j]? = some d∧c=fzp t ds d
 | [],j,c,h=>by simp [EU] at h
 | d::cs,j,c,h=>by
  simp only [EU] at h
  cases j with
  | zero=>simp at h; exact ⟨d,rfl,h.symm⟩
  | succ j=>simp at h; simpa using jb t ds cs j c h
section
variable {ρ : Nat→Value} {b b':Nat→Option Box} {w:World} {F F0:Nat→Prop} {w0:WM}
theorem aJ.fzp {x:Value} {p:PV} {t:Nat} {ty:TypeId} {cs:List PV} {ds:List D} (hi:Inv w0 F0 ρ b w F) (hb:b t=some (.st ty cs)) (hl:ds.length=cs.length) (hc:∀ (j:Nat) d,ds[j]? = some d→∃ y,cs[j]? = some (.d y)∧nrm y=d) (hb':∀ i,b' i=if i=t then none else (b i).map (EV t ds)) (h:aJ ρ b w F x p) :
  aJ ρ b' w (fun g=>F g∨blk (ρ t)=some g) x (Go.Proofs.YtmjkjaahbgikjaaGreat.fzp t ds p):=by
 have hF:∀ g,F g→(F g∨blk (ρ t)=some g):=fun g h=>.inl h
 induction h with
 | junk x=>exact .junk x
 | d x d h=>exact .d x d (h.mono hF (fun _ _=>rfl))
 | ag xs cs hl h1 hr ih =>
  refine .ag xs _ (by rw [ja]; exact hl) h1 (fun j x c h2 h3=>?_)
  obtain ⟨d,h4,rfl⟩:=jb t ds cs j c h3
  exact ih j x d h2 h4
 | tup xs cs hl hr ih =>
  refine .tup xs _ (by rw [ja]; exact hl) (fun j x c h2 h3=>?_)
  obtain ⟨d,h4,rfl⟩:=jb t ds cs j c h3
  exact ih j x d h2 h4
 | fn f xs ys ps qs hl hr hl2 hr2 ih ih2 =>
  refine .fn f xs ys _ _ (by rw [ja]; exact hl) (fun j x c h2 h3=>?_) (by rw [ja]; exact hl2) (fun j x c h2 h3=>?_)
  ·obtain ⟨d,h4,rfl⟩:=jb t ds ps j c h3
   exact ih j x d h2 h4
  ·obtain ⟨d,h4,rfl⟩:=jb t ds qs j c h3
   exact ih2 j x d h2 h4
 | row t' m A cc e' k' es' hb2 hn hcc hA hρ =>
  have:t'≠t:=fun e=>by rw [e,hb] at hb2; cases hb2
  exact .row t' m A cc e' k' es' (by rw [hb',if_neg this,hb2]; rfl) hn hcc hA hρ
 | re t' m i o a e' k' es' hb2 hn hi' hρ =>
  have:t'≠t:=fun e=>by rw [e,hb] at hb2; cases hb2
  exact .re t' m i o a e' k' es' (by rw [hb',if_neg this,hb2]; rfl) hn hi' hρ
 | vw t' m lo hi' A mm cc e' k' es' hb2 hn hl hh hm hρ=>
  have:t'≠t:=fun e=>by rw [e,hb] at hb2; cases hb2
  exact .vw t' m lo hi' A mm cc e' k' es' (by rw [hb',if_neg this,hb2]; rfl) hn hl hh hm hρ
 | fe a cs us hF' hcell hrep=>exact .fe a cs us (.inl hF') hcell (fun j d h=>(hrep j d h).mono hF (fun _ _=>rfl))
 | ptr t' off g ty' cs' hb2 hρ =>
  simp only [Go.Proofs.YtmjkjaahbgikjaaGreat.fzp]
  by_cases ht:t' = t
  ·subst ht
   rw [if_pos rfl]
   cases hi.box t' _ hb with
   | st _ _ g' xs hρ' hg hFg hh hlx h1 hr =>
    rw [hρ] at hρ'
    injection hρ' with e
    injection e with e
    injection e with e
    subst e
    have key:∀ (j:Nat) d,(ds.drop off)[j]? = some d→∃ u,w.cell? ⟨g,off + j,none⟩=some u∧ej w F u d:=fun j d hj=>by
     rw [List.getElem?_drop] at hj
     obtain ⟨y,k1,k2⟩:=hc _ d hj
     have hlt:off + j < xs.size:=by rw [hlx,← hl]; exact (zg.1 hj).1
     have k3:=hr (off + j) xs[off + j] _ (by simp [hlt]) k1
     refine ⟨xs[off + j],by rw [cell_of_row w g (off + j) xs ty (0,0) hh]; simp [hlt],?_⟩
     rw [← k2]
     exact k3.dd.nrm
    refine .fe _ _ (fun j=>(w.cell? ⟨g,off + j,none⟩).getD undef) (.inr (by rw [hρ]; rfl)) (fun j d hj=>?_) (fun j d hj=>?_)
    ·obtain ⟨u,k1,_⟩:=key j d hj
     rw [rn,k1]; rfl
    ·obtain ⟨u,k1,k2⟩:=key j d hj
     rw [k1]
     exact k2.mono hF (fun _ _=>rfl)
  ·rw [if_neg ht]
   exact .ptr t' off g ty' _ (by rw [hb',if_neg ht,hb2]; rfl) hρ
end
theorem Inv.reg_fzp {ρ : Nat→Value} {b b':Nat→Option Box} {w:World} {w0:WM} {F F0:Nat→Prop} {t:Nat} {ds:List D} (hi:Inv w0 F0 ρ b w F) (hb':∀ i,b' i=if i=t then none else (b i).map (EV t ds)) : ∀ i q,w0.R i=some q→1000000≤i∧pW ρ b' i q:=by
 intro i q h
 obtain ⟨h1,h2⟩:=hi.reg i q h
 refine ⟨h1,?_⟩
 by_cases hit:i=t
 ·exact h2.less (.inl (by rw [hb',if_pos hit]))
 ·refine h2.mono (fun e=>by rw [hb',if_neg hit,e]; rfl) (fun ty cs e=>⟨⟨ty,_,by rw [hb',if_neg hit,e]; rfl⟩,rfl⟩) (fun e k es' he=>⟨e,es',by rw [hb',if_neg hit,he]; rfl,Nat.le_refl _,fun _=>rfl⟩)
theorem aab {p:PS} (t:Nat) {ty:TypeId} {cs:List PV} {ds:List D} (hb0:p.b t=some (.st ty cs)) (hl:ds.length=cs.length) (hc:∀ (j:Nat) d,ds[j]? = some d→∃ y,cs[j]? = some (.d y)∧nrm y=d) : Le p (aaU t ds p):=by
 intro n w0 F0 a w ⟨h1,h2,ρ,F,hi,hev⟩
 have hb':∀ i,(aaU t ds p).b i=if i=t then none else (p.b i).map (EV t ds):=fun i=>rfl
 have hbt:=(hi.box t _ hb0)
 refine ⟨h1,h2,ρ,fun g=>F g∨blk (ρ t)=some g,⟨hi.ext,fun g hg=>.inl (hi.f0 g hg),?_,?_,fun t' B h=>?_,fun t1 t2 B1 B2 g k1 k2 hne=>?_,hi.reg_fzp hb'⟩,fun i=>(hev i).fzp hi hb0 hl hc hb'⟩
 ·rintro g (hg | hg)
  ·exact hi.flt g hg
  ·exact (hbt.lt hg).1
 ·rintro g (hg | hg)
  ·exact hi.fnew g hg
  ·exact .inr (hbt.lt hg).2.1
 ·rw [hb'] at h
  split at h
  ·cases h
  ·rename_i ht
   rw [zm] at h
   obtain ⟨B0,hB0,rfl⟩:=h
   have hnF:∀ g,blk (ρ t')=some g→¬ (F g∨blk (ρ t)=some g):=by
    rintro g hg (h | h)
    ·exact ((hi.box t' B0 hB0).lt hg).2.2 h
    ·exact hi.dist t' t B0 _ g hB0 hb0 ht hg h
   cases hi.box t' B0 hB0 with
   | st ty cs g xs hρ hg hF hh hl2 h1 hr =>
    refine .st ty _ g xs hρ hg (hnF g (by rw [hρ]; rfl)) hh (by rw [ja]; exact hl2) h1 (fun j x c k1 k2=>?_)
    obtain ⟨d,h4,rfl⟩:=jb t ds cs j c k2
    exact (hr j x d k1 h4).fzp hi hb0 hl hc hb'
   | rw e' k' es' xs hk0 ho hF hk hl hr hown=>exact .rw e' k' es' xs hk0 ho hnF hk hl (fun j x d k1 k2=>(hr j x d k1 k2).mono (fun g h=>.inl h) (fun _ _=>rfl)) hown
   | gn e' k' es' hρ=>exact .gn e' k' es' hρ
 ·rw [hb'] at k1 k2
  split at k1
  ·cases k1
  ·split at k2
   ·cases k2
   ·rw [zm] at k1 k2
    obtain ⟨B1',k1,_⟩:=k1
    obtain ⟨B2',k2,_⟩:=k2
    exact hi.dist t1 t2 B1' B2' g k1 k2 hne
def Sg (t:Nat) (c:List SD) : aW→aW
 | .st ty cs=>.st ty (pO t c cs)
 | b=>b
theorem o6 (t:Nat) (c:List SD) : ∀ (l:List (Nat×Option aW)) (i:Nat),lkB (so t c l) i=(lkB l i).map (Sg t c)
 | [],_=>rfl
 | (j,none)::l,i=>by simp only [so,ar,o6 t c l i]; split <;> rfl
 | (j,some (.st ty cs))::l,i=>by simp only [so,ar,o6 t c l i]; split <;> rfl
 | (j,some (.rw e k ty xs pins))::l,i=>by simp only [so,ar,o6 t c l i]; split <;> rfl
theorem JW (t:Nat) (c:List SD) : ∀ (l:List (Nat×SV)) (i:Nat),lkV (EY t c l) i=xG t c (lkV l i)
 | [],_=>rfl
 | (j,v)::l,i=>by simp only [EY,cW,JW t c l i]; split <;> rfl
theorem iG (t:Nat) (c:List SD) : ∀ (cs:List SV) (j:Nat),(pO t c cs)[j]? = (cs[j]?).map (xG t c)
 | [],j=>by simp [pO]
 | v::cs,0=>by simp [pO]
 | v::cs,j + 1=>by simpa [pO] using iG t c cs j
theorem fX (t:Nat) (c:List SD) : ∀ cs:List SV,(pO t c cs).length=cs.length
 | []=>rfl
 | v::cs=>by simp [pO,fX t c cs]
structure abd (t:Nat) (B B':List (Nat×Option aW)) : Prop where
 rw:∀ t' e k ty xs pins,lkB B t' = some (.rw e k ty xs pins)→lkB B' t' = some (.rw e k ty xs pins)
 st:∀ t',t'≠t→∀ ty cs,lkB B t' = some (.st ty cs)→∃ ty' cs',lkB B' t' = some (.st ty' cs')
theorem bf.frp {B B':List (Nat×Option aW)} {t:Nat} {ds:List SD} (hn:∀ c∈ds,c≠.nl) (hB:abd t B B') {v:SV} {q:PV} (h:bf B v q) : bf B' (xG t ds v) (fzp t (ds.map SD.toD) q):=by
 induction h with
 | junk q=>exact .junk _
 | d c y h=>exact .d c y h
 | ag cs qs hl hr ih =>
  refine .ag _ _ (by rw [fX,ja]; exact hl) (fun j c r h1 h2=>?_)
  rw [iG,zm] at h1
  obtain ⟨c',h3,rfl⟩:=h1
  obtain ⟨q',h4,rfl⟩:=jb _ _ qs j r h2
  exact ih j c' q' h3 h4
 | tup cs qs hl hr ih =>
  refine .tup _ _ (by rw [fX,ja]; exact hl) (fun j c r h1 h2=>?_)
  rw [iG,zm] at h1
  obtain ⟨c',h3,rfl⟩:=h1
  obtain ⟨q',h4,rfl⟩:=jb _ _ qs j r h2
  exact ih j c' q' h3 h4
 | fn f ps qs ps' qs' hl hr hl2 hr2 ih ih2 =>
  refine .fn f _ _ _ _ (by rw [fX,ja]; exact hl) (fun j c r h1 h2=>?_) (by rw [fX,ja]; exact hl2) (fun j c r h1 h2=>?_)
  ·rw [iG,zm] at h1
   obtain ⟨c',h3,rfl⟩:=h1
   obtain ⟨q',h4,rfl⟩:=jb _ _ ps' j r h2
   exact ih j c' q' h3 h4
  ·rw [iG,zm] at h1
   obtain ⟨c',h3,rfl⟩:=h1
   obtain ⟨q',h4,rfl⟩:=jb _ _ qs' j r h2
   exact ih2 j c' q' h3 h4
 | ptr t' o ty2 cs hb =>
  simp only [xG,fzp,cY]
  by_cases h:t' = t
  ·simp only [h,decide_true,if_true]
   exact .fe _ _ (by rw [List.map_drop]) (fun c hc=>hn c (List.mem_of_mem_drop hc))
  ·simp only [h,decide_false,if_false]
   obtain ⟨ty',cs',h1⟩:=hB.st t' h ty2 cs hb
   exact .ptr t' o ty' cs' h1
 | row t' n e2 k2 ty2 xs2 pins2 hb hn=>exact .row t' n e2 k2 ty2 xs2 pins2 (hB.rw t' _ _ _ _ _ hb) hn
 | re t' p o n i e2 k2 ty2 xs2 pins2 pin hb hn hp hi=>exact .re t' p o n i e2 k2 ty2 xs2 pins2 pin (hB.rw t' _ _ _ _ _ hb) hn hp hi
 | vw t' lo hi n e2 k2 ty2 xs2 pins2 hb hn=>exact .vw t' lo hi n e2 k2 ty2 xs2 pins2 (hB.rw t' _ _ _ _ _ hb) hn
 | fe cs ds h hn=>exact .fe cs ds h hn
theorem vS {cs cs':List SV} (hl:cs'.length=cs.length) (h:∀ (j:Nat) c,cs[j]? = some c→cs'[j]? = some c) : cs' = cs:=by
 apply List.ext_getElem?
 intro j
 cases hj:cs[j]? with
 | none=>rw [List.getElem?_eq_none_iff] at hj ⊢; omega
 | some c=>exact h j c hj
theorem YT {B:List (Nat×Option aW)} {t:Nat} {ds:List SD} (ht:lkB B t=none) {v:SV} {q:PV} (h:bf B v q) : xG t ds v=v:=by
 induction h with
 | ag cs qs hl hr ih =>
  simp only [xG]
  rw [vS (fX _ _ _) fun j c hj=>?_]
  rw [iG,hj,Option.map_some,ih j c (qs[j]'(by rw [← hl]; exact (zg.1 hj).1)) hj (by simp)]
 | tup cs qs hl hr ih =>
  simp only [xG]
  rw [vS (fX _ _ _) fun j c hj=>?_]
  rw [iG,hj,Option.map_some,ih j c (qs[j]'(by rw [← hl]; exact (zg.1 hj).1)) hj (by simp)]
 | fn f ps qs ps' qs' hl hr hl2 hr2 ih ih2 =>
  simp only [xG]
  rw [vS (cs:=ps) (fX _ _ _) fun j c hj=>?_,vS (cs:=qs) (fX _ _ _) fun j c hj=>?_]
  ·rw [iG,hj,Option.map_some,ih2 j c (qs'[j]'(by rw [← hl2]; exact (zg.1 hj).1)) hj (by simp)]
  ·rw [iG,hj,Option.map_some,ih j c (ps'[j]'(by rw [← hl]; exact (zg.1 hj).1)) hj (by simp)]
 | ptr t' o ty cs hb =>
  have : ¬ t' = t:=fun e=>by rw [e,ht] at hb; cases hb
  simp only [xG,cY,this,decide_false]
 | _=>rfl
mutual
theorem TQ {t:Nat} {c:List SD} : ∀ v:SV,pJ v=true→xG t c v=v
 | .junk,_=>rfl
 | .d _,_=>rfl
 | .fe _,_=>rfl
 | .ptr _ _,h=>by cases h
 | .row _,h=>by cases h
 | .re _ _ _,h=>by cases h
 | .vw _ _ _,h=>by cases h
 | .ag cs,h=>by simp only [xG]; rw [ky cs h]
 | .tup cs,h=>by simp only [xG]; rw [ky cs h]
 | .fn f ps qs,h=>by
  have h:(match cz ps with | true=>cz qs | false=>false)=true:=h
  split at h
  ·rename_i h1; simp only [xG]; rw [ky ps h1,ky qs h]
  ·cases h
theorem ky {t:Nat} {c:List SD} : ∀ cs:List SV,cz cs=true→pO t c cs=cs
 | [],_=>rfl
 | v::cs,h=>by
  simp only [cz] at h
  split at h
  ·rename_i h1
   simp only [pO]
   rw [TQ v h1,ky cs h]
  ·cases h
end
theorem H8:∀ {ds:List SD},Z7 ds=true→∀ c∈ds,c≠.nl
 | [],_,c,h=>by cases h
 | d::ds,h,c,hc=>by
  rcases List.mem_cons.1 hc with rfl | hc'
  ·intro e; subst e; cases h
  ·cases d with
   | nl=>cases h
   | _=>exact H8 (ds:=ds) h c hc'
theorem Eb:∀ {cs:List SV} {ds:List SD},tZ cs=some ds→cs.length=ds.length∧∀ (j:Nat) d,ds[j]? = some d→cs[j]? = some (.d d)
 | [],ds,h=>by injection h with h; subst h; exact ⟨rfl,fun j d hj=>by simp at hj⟩
 | v::cs,ds,h=>by
  simp only [tZ] at h
  split at h
  ·rename_i c l hc hl
   injection h with h
   subst h
   obtain ⟨h1,h2⟩:=Eb hl
   refine ⟨by simp [h1],fun j d hj=>?_⟩
   cases j with
   | zero =>
    simp at hj
    subst hj
    cases v <;> simp [ZZ] at hc
    subst hc
    rfl
   | succ j=>simp at hj; simpa using h2 j d hj
  ·cases h
theorem aag {sc W:List Nat} {s0 s s':SS} {p0 p:PS} {t:Nat} (hpr:ml s) (h0:gY s0 p0) (hnew:lkB s0.bx t=none) (hk:dK sc W s0 s) (hs:gY s p) (h:fbX sc t s=some s') : ∃ p',Le p p'∧gY s' p'∧dK sc W s0 s'∧ml s':=by
 unfold fbX at h
 split at h
 ·rename_i ty cs hb
  split at h
  ·rename_i ds hds
   obtain ⟨h1,h2⟩:=ao h
   injection h2 with h2
   subst h2
   rw [Bool.and_eq_true,Bool.and_eq_true] at h1
   obtain ⟨h1,h3,h4⟩:=h1
   have h3:aA s.pr t=false:=by simpa using h3
   have h4:aA sc t=false:=by simpa using h4
   have hnl:=H8 h1
   obtain ⟨hlen,hget⟩:=Eb hds
   obtain ⟨qs,hq,hqs⟩:=hs.bx t _ hb
   have hc:∀ (j:Nat) d,(ds.map SD.toD)[j]? = some d→∃ y,qs[j]? = some (.d y)∧nrm y=d:=fun j d hj=>by
    rw [List.getElem?_map,zm] at hj
    obtain ⟨c,hc,rfl⟩:=hj
    have hc2:=hget j c hc
    have hlt:j < qs.length:=by rw [← hqs.len]; exact (zg.1 hc2).1
    have:=hqs.rep j _ qs[j] hc2 (by simp)
    rw [zq hlt]
    revert this
    generalize qs[j] = q
    intro this
    cases this with
    | d _ y hd=>exact ⟨y,rfl,hd.nrm⟩
   have hl:(ds.map SD.toD).length=qs.length:=by rw [List.length_map,← hlen,hqs.len]
   have hX:abd t s.bx ((t,none)::so t ds s.bx):=by
    refine ⟨fun t' e k ty2 xs pins h=>?_,fun t' ht' ty2 cs2 h=>?_⟩
    ·have : ¬ t' = t:=fun e=>by rw [e,hb] at h; cases h
     rw [ar,if_neg this,o6,h]; rfl
    ·rw [ar,if_neg ht',o6,h]; exact ⟨_,_,rfl⟩
   have hkp:dK sc W s0 ⟨EY t ds s.sl,(t,none)::so t ds s.bx,s.pr,s.ro,s.oc⟩:=by
    refine ⟨hk.pr,hk.ro,fun t' ht'=>?_,fun i hi hsf=>?_,fun t' ht' ty2 cs2 h=>?_⟩
    ·have hpt:aA s.pr t' = true:=by rw [hk.pr]; exact ht'
     refine (hk.bx t' ht').trans ?_
     show kQ _ (lkB ((t,none)::so t ds s.bx) t')
     rw [ar,if_neg (fun e=>by rw [e,h3] at hpt; cases hpt),o6]
     obtain ⟨b',k1,k2⟩:=hpr t' hpt
     rw [k1]
     cases b' with
     | st ty2 cs=>simp only [Option.map_some,Sg]; rw [ky cs k2]; rfl
     | rw e2 k2 ty2 xs2 pins2=>exact ⟨pins2,rfl⟩
    ·show lkV (EY t ds s.sl) i = _
     rw [JW,hk.sl i hi hsf]
     exact YT hnew (h0.sl i)
    ·obtain ⟨cs',k1,k2⟩:=hk.st t' ht' ty2 cs2 h
     show ∃ cs',lkB ((t,none)::so t ds s.bx) t' = _∧_
     rw [ar,if_neg (fun e=>by rw [e,h4] at ht'; cases ht'),o6,k1]
     exact ⟨_,rfl,by rw [fX]; exact k2⟩
   refine ⟨_,aab t hq hl hc,⟨fun i=>?_,fun t' b h=>?_⟩,hkp,fun t' ht'=>?_⟩
   ·show bf _ (lkV (EY t ds s.sl) i) (fzp t (ds.map SD.toD) (p.t i))
    rw [JW]
    exact (hs.sl i).frp hnl hX
   ·have h:lkB ((t,none)::so t ds s.bx) t' = some b:=h
    rw [ar] at h
    split at h
    ·cases h
    ·rename_i hne
     rw [o6,zm] at h
     obtain ⟨b0,h1,rfl⟩:=h
     have h2:=hs.bx t' b0 h1
     show mq _ true (some (Sg t ds b0)) (if t' = t then none else (p.b t').map (EV t (ds.map SD.toD)))
     rw [if_neg hne]
     cases b0 with
     | st ty2 cs =>
      obtain ⟨qs,h3,h4⟩:=h2
      rw [h3]
      refine ⟨_,rfl,by rw [fX,ja]; exact h4.len,fun j c r k1 k2=>?_⟩
      rw [iG,zm] at k1
      obtain ⟨c',k3,rfl⟩:=k1
      obtain ⟨q',k4,rfl⟩:=jb _ _ qs j r k2
      exact (h4.rep j c' q' k3 k4).frp hnl hX
     | rw e2 k2 ty2 xs2 pins2 =>
      obtain ⟨h3,h4⟩:=h2
      rw [h3]
      exact ⟨rfl,h4⟩
   ·obtain ⟨b',k1,k2⟩:=hpr t' ht'
    show ∃ b,lkB ((t,none)::so t ds s.bx) t' = some b∧_
    rw [ar,if_neg (fun e=>by rw [e,h3] at ht'; cases ht'),o6,k1]
    refine ⟨_,rfl,?_⟩
    cases b' with
    | st ty2 cs=>simp only [Sg]; rw [ky cs k2]; exact k2
    | rw e2 k2 ty2 xs2 pins2=>rfl
  ·cases h
 ·cases h
theorem ME {sc W:List Nat} {s0:SS} {p0:PS} (h0:gY s0 p0) : ∀ {l:List Nat} {s s':SS} {p:PS},ml s→So s0 l=true→dK sc W s0 s→gY s p→Iz sc l s=some s'→∃ p',Le p p'∧gY s' p'∧dK sc W s0 s'
 | [],s,s',p,_,_,hk,hs,h=>by injection h with h; subst h; exact ⟨p,.refl p,hs,hk⟩
 | t::l,s,s',p,hpr,hn,hk,hs,h=>by
  simp only [Iz] at h
  simp only [So] at hn
  split at hn
  ·rename_i hnew
   split at h
   ·rename_i s1 h1
    obtain ⟨p1,k1,k2,k3,k4⟩:=aag hpr h0 hnew hk hs h1
    obtain ⟨p2,m1,m2,m3⟩:=ME h0 k4 hn k3 k2 h
    exact ⟨p2,k1.trans m1,m2,m3⟩
   ·cases h
  ·cases hn
end
section
theorem DZ {m:Nat} {ops:Array Oper} (h:LH m ops=true) {i k:Nat} (hi:i < ops.size) (hm : ¬ i < m) (hk:k < i) : yN ops 4 i k=true:=by
 unfold LH at h
 rw [List.all_eq_true] at h
 have h:=h i (List.mem_range.2 hi)
 simp only [Bool.or_eq_true,decide_eq_true_eq,List.all_eq_true] at h
 exact (h.resolve_left hm) k (List.mem_range.2 hk)
section
variable {P:Program} {w0:WM} {F0:Nat→Prop} {n:Nat} {ops:Array Oper} {Q:Exit→Act→World→Prop}
def Un (P:Program) (ops:Array Oper) : List Nat→PS→(PS→Prop)→Prop
 | [],s,K=>K s
 | i::l,s,K=>∃ s1,Le s s1∧∃ o r u,ops[i]? = some o∧Eff P ops o s1 r u∧Un P ops l (s1.updL o.dst r u) K
theorem SJ {bd:Nat→Bd} {mT:Nat} {Qs:Exit→PS→Prop} (hQ:∀ e s a w,Qs e s→oh n w0 F0 s a w→Q e a w) (hB:Fu bd n ops=true) (hT:LH mT ops=true) : ∀ (m:Nat) (l lt:List Nat) (listed:Array Bool) (s:PS) (a:Act) (w:World),(l++lt).length=m→(l++lt).Pairwise (· < ·)→(∀ j∈l,j < mT)→(∀ j∈lt,¬ j < mT)→(∀ j,j∈l++lt↔(j < ops.size∧listed.getD j true=false))→listed.size=ops.size→Rr ops listed →
  FR P ops bd l s (fun s'=>Un P ops lt s' (Qs .normal))→oh n w0 F0 s a w→wpAny P .any ops Q m listed a w
 | 0,l,lt,listed,s,a,w,hl,_,_,_,hm,hls,_,h,hc=>by
  have h0:l++lt = []:=List.eq_nil_of_length_eq_zero hl
  obtain ⟨rfl,rfl⟩:=List.append_eq_nil_iff.1 h0
  refine ⟨?_,hQ _ s a w h hc⟩
  rw [List.eq_nil_iff_forall_not_mem]
  intro j hj
  obtain ⟨h1,o,h2,_⟩:=mem_ready.1 hj
  have:=(hm j).2 ⟨(Array.getElem?_eq_some_iff.1 h2).1,h1⟩
  simp at this
 | m + 1,l,lt,listed,s,a,w,hl,hs,hlm,hltm,hm,hls,hcl,h,hc=>by
  have notdone:∀ {k:Nat},k∈l++lt→listed.getD k false=false:=fun {k} hk=>by
   have h1:=(hm k).1 hk
   have hsz:k < listed.size:=by rw [hls]; exact h1.1
   have h2:=h1.2
   simp [hsz] at h2 ⊢
   exact h2
  refine ⟨fun h0=>?_,fun i hi=>?_⟩
  ·exfalso
   cases hll:l++lt with
   | nil=>rw [hll] at hl; simp at hl
   | cons k ls =>
    have hk:=(hm k).1 (by rw [hll]; simp)
    have hok:ops[k]? = some ops[k]:=Array.getElem?_eq_getElem hk.1
    have:k∈Region.ready .any ops listed:=by
     refine mem_ready.2 ⟨hk.2,_,hok,fun e he hb=>?_⟩
     have hlt:=(mY hB hok).2.1 e he hb
     cases hx:listed.getD e.on false with
     | true=>rfl
     | false =>
      exfalso
      have hsz:e.on < listed.size:=by rw [hls]; omega
      have h2:listed.getD e.on true=false:=by
       simp [hsz] at hx ⊢; exact hx
      have h3:=(hm e.on).2 ⟨by omega,h2⟩
      rw [hll] at h3 hs
      rcases List.mem_cons.1 h3 with h | h
      ·omega
      ·have:=(List.pairwise_cons.1 hs).1 _ h
       omega
    rw [h0] at this
    cases this
  ·obtain ⟨hun,oi,hoi,hall⟩:=mem_ready.1 hi
   have hisz:=(Array.getElem?_eq_some_iff.1 hoi).1
   have hin:i∈l++lt:=(hm i).2 ⟨hisz,hun⟩
   have hready:∀ k,k∈l++lt→yN ops 4 i k=true→False:=fun k hk hh=>by
    have h1:=xE hcl 4 i k hh (fun o' ho' e he hb=>by rw [hoi] at ho'; cases ho'; exact hall e he hb)
    rw [notdone hk] at h1
    cases h1
   have key:∃ l' lt' s1 r u,Le s s1∧Eff P ops oi s1 r u∧FR P ops bd l' (s1.updL oi.dst r u) (fun s'=>Un P ops lt' s' (Qs .normal))∧(l' ++ lt').length=m∧(l' ++ lt').Pairwise (· < ·)∧(∀ j∈l',j < mT)∧(∀ j∈lt',¬ j < mT)∧(∀ j,j∈l' ++ lt'↔(j∈l++lt∧j≠i)):=by
    by_cases him:i < mT
    ·have hil:i∈l:=by
      rcases List.mem_append.1 hin with h | h
      ·exact h
      ·exact absurd him (hltm i h)
     obtain ⟨l1,l2,rfl⟩:=List.append_of_mem hil
     have hpw0:=List.pairwise_append.1 hs
     have hpw:=List.pairwise_append.1 hpw0.1
     have hfront:=xw (P:=P) (bd:=bd) (K:=fun s'=>Un P ops lt s' (Qs .normal)) hoi l1 l2 s (fun k hk ok hok=>by
      have hlt:k < i:=hpw.2.2 k hk i (by simp)
      rcases (mY hB hoi).2.2 k ok hlt hok with hh | h
      ·exact (hready k (by simp [hk]) hh).elim
      ·exact h) h
     obtain ⟨o',r,u,ho',h1,_,h2⟩:=hfront
     rw [hoi] at ho'
     injection ho' with ho'
     subst ho'
     have hc3:=List.pairwise_cons.1 hpw.2.1
     have hne:∀ x,x∈l1++l2→x≠i:=fun x hx e=>by
      subst e
      rcases List.mem_append.1 hx with h | h
      ·have:=hpw.2.2 x h x (by simp); omega
      ·have:=hc3.1 x h; omega
     refine ⟨l1++l2,lt,s,r,u,.refl s,h1,h2,by simp at hl ⊢; omega,?_,fun j hj=>hlm j (by rcases List.mem_append.1 hj with h | h <;> simp [h]),hltm,fun j=>?_⟩
     ·refine List.pairwise_append.2 ⟨List.pairwise_append.2 ⟨hpw.1,hc3.2,fun x hx y hy=>hpw.2.2 x hx y (by simp [hy])⟩,hpw0.2.1,fun x hx y hy=>hpw0.2.2 x (by rcases List.mem_append.1 hx with h | h <;> simp [h]) y hy⟩
     ·refine ⟨fun hj=>?_,fun ⟨hj,hji⟩=>?_⟩
      ·rcases List.mem_append.1 hj with hj2 | hj2
       ·exact ⟨by rcases List.mem_append.1 hj2 with h | h <;> simp [h],hne j hj2⟩
       ·exact ⟨by simp [hj2],fun e=>by subst e; exact hltm j hj2 him⟩
      ·rcases List.mem_append.1 hj with h | h
       ·rcases List.mem_append.1 h with h | h
        ·simp [h]
        ·rcases List.mem_cons.1 h with h | h
         ·exact absurd h hji
         ·simp [h]
       ·simp [h]
    ·have hnil:l = []:=by
      cases l with
      | nil=>rfl
      | cons k l =>
       exfalso
       have hk:=hlm k (by simp)
       exact hready k (by simp) (DZ hT hisz him (by omega))
     subst hnil
     cases lt with
     | nil=>simp at hin
     | cons k lt =>
      have hki:k=i:=by
       rcases List.mem_cons.1 hin with h | h
       ·exact h.symm
       ·exfalso
        have hlt:=(List.pairwise_cons.1 hs).1 i h
        exact hready k (by simp) (DZ hT hisz him hlt)
      subst hki
      obtain ⟨s1,hle,o',r,u,ho',h1,h2⟩:=h
      rw [hoi] at ho'
      injection ho' with ho'
      subst ho'
      have hc3:=List.pairwise_cons.1 hs
      refine ⟨[],lt,s1,r,u,hle,h1,h2,by simp at hl ⊢; omega,hc3.2,fun j hj=>(by cases hj),fun j hj=>hltm j (by simp [hj]),fun j=>?_⟩
      refine ⟨fun hj=>⟨by simp at hj; simp [hj],fun e=>by
       subst e
       have:=hc3.1 j (by simpa using hj)
       omega⟩,fun ⟨hj,hji⟩=>?_⟩
      rcases List.mem_cons.1 hj with h | h
      ·exact absurd h hji
      ·simpa using h
   obtain ⟨l',lt',s1,r,u,hle,h1,h2,k1,k2,k3,k4,k5⟩:=key
   have hc1:=hle n w0 F0 a w hc
   have hstep:=Wa (f:=0) (Q:=Q) (K:=wpAny P .any ops Q m (listed.setIfInBounds i true)) hc1 h1 (mY hB hoi).1 (fun a' w' hc'=>by
    have hmono:∀ j,listed.getD j false=true→(listed.setIfInBounds i true).getD j false=true:=fun j hj=>by
     by_cases hji:j=i
     ·subst hji
      have hsz:j < listed.size:=by rw [hls]; exact hisz
      simp [hsz]
     ·rw [getD_set_ne false (Ne.symm hji)]; exact hj
    refine SJ hQ hB hT m l' lt' _ _ a' w' k1 k2 k3 k4 (fun j=>?_) (by simpa using hls) (fun j hj o ho e he hb=>?_) h2 hc'
    ·by_cases hji:j=i
     ·subst hji
      have hsz:j < listed.size:=by rw [hls]; exact hisz
      refine ⟨fun hmem=>absurd rfl ((k5 j).1 hmem).2,fun ⟨_,hx⟩=>?_⟩
      simp [hsz] at hx
     ·rw [getD_set_ne true (Ne.symm hji),k5 j,hm j]
      simp [hji]
    ·by_cases hji:j=i
     ·subst hji
      rw [hoi] at ho
      cases ho
      exact hmono _ (hall e he hb)
     ·rw [getD_set_ne false (Ne.symm hji)] at hj
      exact hmono _ (hcl j hj o ho e he hb))
   unfold wpOp
   rw [hoi]
   simp only
   split
   ·rename_i hw
    rw [if_pos hw] at hstep
    exact .inl hstep
   ·rename_i hw
    rw [if_neg hw] at hstep
    exact hstep
theorem Ti (bd:Nat→Bd) {Qs:Exit→PS→Prop} {s:PS} {id:Nat} {l:List Oper} (mT:Nat) (hmT:mT≤l.length) (hm:P.follows .mixedOrders=true) (hB:Fu bd n l.toArray=true) (hT:LH mT l.toArray=true) (h:FR P l.toArray bd (List.range' 0 mT) s (fun s'=>Un P l.toArray (List.range' mT (l.length - mT)) s' (Qs .normal))) : PWP P n (.region id l.toArray true) Qs s:=by
 intro w0 F0 a w hc
 refine wp_region_any hm ?_
 have hr:List.range' 0 mT++List.range' mT (l.length - mT)=List.range' 0 l.length:=by
  have:=List.range'_append (s:=0) (m:=mT) (n:=l.length - mT) (step:=1)
  simp only [Nat.one_mul,Nat.zero_add] at this
  rw [this]
  congr 1
  omega
 refine SJ (Qs:=Qs) (mT:=mT) (fun _ s' _ _ h1 h2=>⟨s',h1,h2⟩) hB hT l.toArray.size (List.range' 0 mT) (List.range' mT (l.length - mT)) _ s a _ (by rw [hr]; simp) (by rw [hr]; exact List.pairwise_lt_range') (fun j hj=>by simp [List.mem_range'_1] at hj; exact hj) (fun j hj=>by simp [List.mem_range'_1] at hj; omega) (fun j=>?_) (by simp) (fun j hj=>by exfalso; simp only [Array.getD_eq_getD_getElem?,Array.getElem?_replicate] at hj; split at hj <;> cases hj) h (hc.drew _)
 rw [hr]
 simp only [List.mem_range'_1,Nat.zero_le,true_and,Nat.zero_add,List.size_toArray]
 refine ⟨fun h=>⟨h,by simp [h]⟩,fun h=>h.1⟩
end
end
section
variable {B B':List (Nat×Option aW)} {s:SS} {p:PS} {P:Program} {ρ : Type}
theorem rU (ks:List Nat) : ∀ (cs:List SV) (j:Nat),(um ks cs)[j]? = (cs[j]?).map (stV ks)
 | [],j=>by simp [um]
 | c::cs,0=>by simp [um]
 | c::cs,j + 1=>by simpa [um] using rU ks cs j
theorem pE (ks:List Nat) : ∀ cs:List SV,(um ks cs).length=cs.length
 | []=>rfl
 | c::cs=>by simp [um,pE ks cs]
theorem O5 (ks:List Nat) : ∀ (l:List (Nat×SV)) (i:Nat),lkV (SZ ks l) i=stV ks (lkV l i)
 | [],_=>rfl
 | (j,v)::l,i=>by simp only [SZ,cW,O5 ks l i]; split <;> rfl
def aaA (ks:List Nat) : aW→aW
 | .st ty cs=>.st ty (um ks cs)
 | b=>b
theorem uR (ks:List Nat) : ∀ (l:List (Nat×Option aW)) (i:Nat),lkB (xi ks l) i=(lkB l i).map (aaA ks)
 | [],_=>rfl
 | (j,none)::l,i=>by simp only [xi,ar,uR ks l i]; split <;> rfl
 | (j,some (.st ty cs))::l,i=>by simp only [xi,ar,uR ks l i]; split <;> rfl
 | (j,some (.rw e k ty xs pins))::l,i=>by simp only [xi,ar,uR ks l i]; split <;> rfl
structure aav (ks:List Nat) (B B':List (Nat×Option aW)) : Prop where
 rw:∀ t,aA ks t=false→∀ e k ty xs pins,lkB B t=some (.rw e k ty xs pins)→∃ e' k' ty' xs' pins',lkB B' t=some (.rw e' k' ty' xs' pins')∧xs'.length=xs.length∧∀ p pin,lkP pins p=some pin→∃ pin',lkP pins' p=some pin'∧pin'.i=pin.i
 st:∀ t ty cs,lkB B t=some (.st ty cs)→∃ ty' cs',lkB B' t=some (.st ty' cs')
theorem bf.st {ks:List Nat} {v:SV} {q:PV} (h:bf B v q) (hB:aav ks B B') : bf B' (stV ks v) q:=by
 induction h with
 | junk q=>exact .junk q
 | d c y h=>exact .d c y h
 | ag cs qs hl hr ih =>
  refine .ag _ qs (by rw [pE]; exact hl) (fun j c q h1 h2=>?_)
  rw [rU,zm] at h1
  obtain ⟨c',h3,rfl⟩:=h1
  exact ih j c' q h3 h2
 | tup cs qs hl hr ih =>
  refine .tup _ qs (by rw [pE]; exact hl) (fun j c q h1 h2=>?_)
  rw [rU,zm] at h1
  obtain ⟨c',h3,rfl⟩:=h1
  exact ih j c' q h3 h2
 | ptr t' o ty cs hb=>obtain ⟨ty',cs',h1⟩:=hB.st t' ty cs hb; exact .ptr t' o ty' cs' h1
 | row t' n e k ty xs pins hb hn =>
  simp only [stV]
  split
  ·exact .junk _
  ·rename_i h
   obtain ⟨e',k',ty',xs',pins',h1,h2,h3⟩:=hB.rw t' h e k ty xs pins hb
   exact .row t' n e' k' ty' xs' pins' h1 (h2.trans hn)
 | re t' p o n i e k ty xs pins pin hb hn hp hi =>
  simp only [stV]
  split
  ·exact .junk _
  ·rename_i h
   obtain ⟨e',k',ty',xs',pins',h1,h2,h3⟩:=hB.rw t' h e k ty xs pins hb
   obtain ⟨pin',h4,h5⟩:=h3 p pin hp
   exact .re t' p o n i e' k' ty' xs' pins' pin' h1 (h2.trans hn) h4 (by rw [h5]; exact hi)
 | vw t' lo hi n e k ty xs pins hb hn=>
  simp only [stV]
  split
  ·exact .junk _
  ·rename_i h
   obtain ⟨e',k',ty',xs',pins',h1,h2,h3⟩:=hB.rw t' h e k ty xs pins hb
   exact .vw t' lo hi n e' k' ty' xs' pins' h1 (h2.trans hn)
 | fe cs ds h hn=>exact .fe cs ds h hn
 | fn f ps qs ps' qs' hl hr hl2 hr2 ih ih2 =>
  refine .fn f _ _ ps' qs' (by rw [pE]; exact hl) (fun j c q h1 h2=>?_) (by rw [pE]; exact hl2) (fun j c q h1 h2=>?_)
  ·rw [rU,zm] at h1
   obtain ⟨c',h3,rfl⟩:=h1
   exact ih j c' q h3 h2
  ·rw [rU,zm] at h1
   obtain ⟨c',h3,rfl⟩:=h1
   exact ih2 j c' q h3 h2
theorem ca.st {ks:List Nat} {cs:List SV} {qs:List PV} (h:ca B cs qs) (hB:aav ks B B') : ca B' (um ks cs) qs :=
 ⟨by rw [pE]; exact h.len,fun j c q h1 h2=>by
  rw [rU,zm] at h1
  obtain ⟨c',h3,rfl⟩:=h1
  exact (h.rep j c' q h3 h2).st hB⟩
mutual
theorem RB {pr ks:List Nat} (hk:∀ t,aA ks t=true→aA pr t=false) : ∀ v:SV,lj pr v=true→stV ks v=v
 | .junk,_=>rfl
 | .d _,_=>rfl
 | .fe _,_=>rfl
 | .ptr _ _,_=>rfl
 | .row t,h=>by
  have h:aA pr t=true:=h
  simp only [stV]
  split
  ·rename_i h1; rw [hk t h1] at h; cases h
  ·rfl
 | .re _ _ _,h=>by cases h
 | .vw _ _ _,h=>by cases h
 | .ag cs,h=>by simp only [stV]; rw [ux hk cs h]
 | .tup cs,h=>by simp only [stV]; rw [ux hk cs h]
 | .fn f ps qs,h=>by
  have h:(ed pr ps&&ed pr qs)=true:=h
  rw [Bool.and_eq_true] at h
  simp only [stV]; rw [ux hk ps h.1,ux hk qs h.2]
theorem ux {pr ks:List Nat} (hk:∀ t,aA ks t=true→aA pr t=false) : ∀ cs:List SV,ed pr cs=true→um ks cs=cs
 | [],_=>rfl
 | c::cs,h=>by
  simp only [ed,Bool.and_eq_true] at h
  simp only [um]
  rw [RB hk c h.1,ux hk cs h.2]
end
mutual
theorem VO {ks:List Nat} : ∀ v:SV,pJ v=true→stV ks v=v
 | .junk,_=>rfl
 | .d _,_=>rfl
 | .fe _,_=>rfl
 | .ptr _ _,_=>rfl
 | .row _,h=>by cases h
 | .re _ _ _,h=>by cases h
 | .vw _ _ _,h=>by cases h
 | .ag cs,h=>by simp only [stV]; rw [pk cs h]
 | .tup cs,h=>by simp only [stV]; rw [pk cs h]
 | .fn f ps qs,h=>by
  have h:(match cz ps with | true=>cz qs | false=>false)=true:=h
  split at h
  ·rename_i h1; simp only [stV]; rw [pk ps h1,pk qs h]
  ·cases h
theorem pk {ks:List Nat} : ∀ cs:List SV,cz cs=true→um ks cs=cs
 | [],_=>rfl
 | c::cs,h=>by
  simp only [cz] at h
  split at h
  ·rename_i h1
   simp only [um]
   rw [VO c h1,pk cs h]
  ·cases h
end
inductive UAl (G:List Nat) (B':List (Nat×Option aW)) : List (Nat×Option aW)→BU→Prop
 | nil:UAl G B' [] []
 | cons (t:Nat) (sb:Option aW) (b:Box) (us:List (Nat×Option aW)) (u:BU) (h1:∀ x,sb=some x→mq B' true (some x) (some b)) (h2:sb=none→aA G t=true) (h:UAl G B' us u) : UAl G B' ((t,sb)::us) ((t,b)::u)
variable {G:List Nat}
theorem UAl.app {us us':List (Nat×Option aW)} {u u':BU} (h:UAl G B' us u) (h':UAl G B' us' u') : UAl G B' (us++us') (u++u'):=by
 induction h with
 | nil=>exact h'
 | cons t sb b us u h1 h2 h ih=>exact .cons t sb b _ _ h1 h2 ih
theorem fj:∀ {us:List (Nat×Option aW)} {t:Nat},t∈idU us↔∃ sb,(t,sb)∈us
 | [],t=>by simp [idU]
 | (i,b)::us,t=>by
  simp only [idU,List.mem_cons,Prod.mk.injEq]
  constructor
  ·rintro (rfl | h)
   ·exact ⟨b,.inl ⟨rfl,rfl⟩⟩
   ·obtain ⟨sb,h⟩:=fj.1 h; exact ⟨sb,.inr h⟩
  ·rintro ⟨sb,⟨rfl,_⟩ | h⟩
   ·exact .inl rfl
   ·exact .inr (fj.2 ⟨sb,h⟩)
theorem VM {us:List (Nat×Option aW)} {u:BU} (h:UAl G B' us u) (l:List (Nat×Option aW)) (t:Nat) :
  (t∈idU us∧∃ sb b,lkB (us++l) t=sb∧lkU u t=some b∧(∀ x,sb=some x→mq B' true (some x) (some b))∧(sb=none→aA G t=true))∨(t ∉ idU us∧lkB (us++l) t=lkB l t∧lkU u t=none):=by
 induction h with
 | nil=>exact .inr ⟨by simp [idU],rfl,rfl⟩
 | cons i sb b us u h1 h2 h ih =>
  by_cases hi:t=i
  ·subst hi
   refine .inl ⟨by simp [idU],sb,b,?_,?_,h1,h2⟩
   ·rw [List.cons_append,ar,if_pos rfl]
   ·simp [lkU]
  ·rcases ih with ⟨m1,sb',b',m2,m3,m4⟩ | ⟨m1,m2,m3⟩
   ·refine .inl ⟨by simp [idU,m1],sb',b',?_,?_,m4⟩
    ·rw [List.cons_append,ar,if_neg hi]; exact m2
    ·simp only [lkU,if_neg hi]; exact m3
   ·refine .inr ⟨by simp [idU,m1,hi],?_,?_⟩
    ·rw [List.cons_append,ar,if_neg hi]; exact m2
    ·simp only [lkU,if_neg hi]; exact m3
theorem dW:∀ {l:List Nat} {i:Nat},aA l i=true↔i∈l
 | [],i=>by simp [aA]
 | j::l,i=>by
  simp only [aA,cY,List.mem_cons]
  by_cases h:i=j
  ·simp [h]
  ·simp only [h,decide_false,false_or]; exact dW
theorem yG {l:List Nat} {i:Nat} : aA l i=false↔i ∉ l:=by rw [← dW]; simp
theorem i8:∀ {l:List Nat},tm l=true→l.Nodup
 | [],_=>List.nodup_nil
 | a::l,h=>by
  simp only [tm] at h
  split at h
  ·cases h
  ·rename_i h1
   exact List.nodup_cons.2 ⟨yG.1 h1,i8 h⟩
theorem rS:∀ {l m:List Nat},OA l m=true→∀ x∈l,x∈m
 | [],_,_,x,hx=>by cases hx
 | a::l,m,h,x,hx=>by
  simp only [OA] at h
  split at h
  ·rename_i h1
   rcases List.mem_cons.1 hx with rfl | hx
   ·exact dW.1 h1
   ·exact rS h x hx
  ·cases h
theorem En:∀ {l:List Nat},RT s l=true→∀ i∈l,aA s.pr i=false
 | [],_,i,hi=>by cases hi
 | a::l,h,i,hi=>by
  simp only [RT] at h
  split at h
  ·cases h
  ·rename_i h1
   rcases List.mem_cons.1 hi with rfl | hi
   ·exact h1
   ·exact En h i hi
theorem Eo:∀ {l:List Nat},RU s l=true→∀ i∈l,JT s i=true∧lkB s.bx i=none∧i < 1000000
 | [],_,i,hi=>by cases hi
 | a::l,h,i,hi=>by
  simp only [RU] at h
  split at h
  ·rename_i h1 h2 h3
   rcases List.mem_cons.1 hi with rfl | hi
   ·exact ⟨h1,h2,Nat.le_of_ble_eq_true h3⟩
   ·exact Eo h i hi
  ·cases h
theorem Ep:∀ {us:List (Nat×Option aW)},RV s us=true→∀ t sb,(t,sb)∈us→∀ ty cs,lkB s.bx t=some (.st ty cs)→∃ cs',sb=some (.st ty cs')∧cs'.length=cs.length
 | [],_,t,sb,h,_,_,_=>by cases h
 | (i,b)::us,h,t,sb,hm,ty,cs,hl=>by
  simp only [RV,Bool.and_eq_true] at h
  rcases List.mem_cons.1 hm with e | hm
  ·injection e with e1 e2
   subst e1 e2
   have h1:=h.1
   rw [hl] at h1
   simp only at h1
   split at h1
   ·rename_i ty' cs'
    rw [Bool.and_eq_true,Nat.beq_eq] at h1
    have:=zd h1.1
    subst this
    exact ⟨cs',rfl,h1.2.symm⟩
   ·cases h1
  ·exact Ep h.2 t sb hm ty cs hl
mutual
theorem IX (b:Nat→Option Box) : ∀ q:PV,clean q=true→asData b q=qK q
 | .junk,_=>rfl
 | .d _,_=>rfl
 | .fe _,_=>rfl
 | .ptr _ _,h=>by cases h
 | .row _ _,h=>by cases h
 | .re _ _ _ _,h=>by cases h
 | .vw _ _ _ _,h=>by cases h
 | .ag cs,h=>by simp only [asData,qK]; rw [pV b cs h]
 | .tup cs,h=>by simp only [asData,qK]; rw [pV b cs h]
 | .fn f ps qs,h=>by
  have h:(cL ps&&cL qs)=true:=h
  rw [Bool.and_eq_true] at h
  simp only [asData,qK]; rw [pV b ps h.1,pV b qs h.2]
theorem pV (b:Nat→Option Box) : ∀ cs:List PV,cL cs=true→bQ b cs=dM cs
 | [],_=>rfl
 | c::cs,h=>by
  simp only [cL,Bool.and_eq_true] at h
  simp only [bQ,dM]; rw [IX b c h.1,pV b cs h.2]
end
theorem xQ (hs:Sim s p) {rows:List (Nat×Nat×Nat×Nat×Ty)} : ∀ {cs:List SV} {qs:List PV} {ds:List SD} {j:Nat},ca s.bx cs qs→cellsOf s rows j cs=some ds →
  dM qs=ef rows j (ds.map SD.toD)∧∀ t Bx,(t,Bx)∈ch rows j (ds.map SD.toD)→p.b t=some Bx
 | [],qs,ds,j,hv,h=>by
  rcases hv.cases with ⟨_,rfl⟩ | ⟨_,_,_,_,h1,_⟩
  ·injection h with h; subst h; exact ⟨rfl,fun _ _ h=>by cases h⟩
  ·cases h1
 | c::cs,qs,ds,j,hv,h=>by
  rcases hv.cases with ⟨h1,_⟩ | ⟨c',q,cs',qs',h1,rfl,h2,h3⟩
  ·cases h1
  ·injection h1 with e1 e2
   subst e1 e2
   simp only [cellsOf] at h
   split at h
   ·rename_i R e k t hf
    split at h
    ·rename_i R' e' k' t' xs pins hb
     split at h
     ·rename_i hty _
      obtain ⟨m1,h⟩:=ao h
      obtain ⟨m2,h⟩:=ao h
      obtain ⟨m3,h⟩:=ao h
      split at h
      ·rename_i r hr
       injection h with h
       subst h hty
       rw [Nat.beq_eq] at m1
       have m2:=zd m2
       have m3:=zd m3
       subst m1 m2 m3
       obtain ⟨k1,k2⟩:=xQ hs h3 hr
       have hbx:=hs.bx R'
       rw [hb] at hbx
       cases h2 with
       | row _ n e2 k2' ty2 xs2 pins2 hb2 hn =>
        rw [hb] at hb2
        injection hb2 with hb2
        injection hb2 with q1 q2 q3 q4 q5
        subst q3
        have q4:=eq_of_heq q4
        subst q4
        refine ⟨?_,?_⟩
        ·simp only [dM,qK,List.map_cons,ef,hf,SD.toD,k1]
         simp [yV,hn]
        ·intro t Bx hm
         simp only [List.map_cons,ch,hf,SD.toD,List.mem_cons,Prod.mk.injEq] at hm
         rcases hm with ⟨rfl,rfl⟩ | hm
         ·exact hbx.1
         ·exact k2 t Bx hm
      ·cases h
     ·cases h
    ·cases h
   ·rename_i hf
    split at h
    ·rename_i x r hr
     injection h with h
     subst h
     obtain ⟨k1,k2⟩:=xQ hs h3 hr
     cases h2 with
     | d _ y hy =>
      refine ⟨?_,?_⟩
      ·simp only [dM,qK,List.map_cons,ef,hf,k1,hy.nrm]
      ·intro t Bx hm
       simp only [List.map_cons,ch,hf] at hm
       exact k2 t Bx hm
    ·cases h
theorem B6:∀ {rows:List (Nat×Nat×Nat×Ty)} {cs:List SV} {is:List Nat},Dp rows cs=some is→is.length=rows.length
 | [],_,is,h=>by injection h with h; subst h; rfl
 | (j,e)::rows,cs,is,h=>by
  simp only [Dp] at h
  split at h
  ·rename_i R is' _ h1
   injection h with h
   subst h
   simp [B6 h1]
  ·cases h
theorem Fw (hs:Sim s p) {rows:List (Nat×Nat×Nat×Ty)} {n:Nat} {cs:List SV} {qs:List PV} {x:ST n} {is:List Nat} (hv:ca s.bx cs qs) (h:MX s rows n cs=some (x,is)) :
  is.length=rows.length∧dM qs=ef (mr rows is) 0 (stD n x)∧∀ t Bx,(t,Bx)∈ch (mr rows is) 0 (stD n x)→p.b t=some Bx:=by
 unfold MX at h
 split at h
 ·rename_i is' hi
  split at h
  ·rename_i ds hd
   split at h
   ·rename_i x' hx
    injection h with h
    injection h with e1 e2
    subst e1 e2
    rw [← AH hx]
    exact ⟨B6 hi,xQ hs hv hd⟩
   ·cases h
  ·cases h
 ·cases h
structure aa9 (p:PS) (pt:PT) (q:PV) (x:pt.den) (is:List Nat) : Prop where
 len:is.length=pt.nI
 v:qK q=(toI pt is x).1
 b:∀ t Bx,(t,Bx)∈(toI pt is x).2→∃ B',p.b t=some B'∧sd B' = Bx
theorem Bj (hs:Sim s p) {e k:Nat} {t:Ty} {v:SV} {q:PV} {xs:List t.den} {is:List Nat} (hv:bf s.bx v q) (h:tG s e k t v=some (xs,is)) : ∃ i,is = [i]∧q = .row i xs.length∧p.b i=some (rwU e k t xs)∧∃ e' k' t' xs' pins,lkB s.bx i=some (.rw e' k' t' xs' pins)∧xs'.length=xs.length:=by
 unfold tG at h
 split at h
 ·rename_i i
  split at h
  ·rename_i e' k' t' xs' pins hb
   split at h
   ·rename_i hty _
    obtain ⟨m2,h⟩:=ao h
    obtain ⟨m3,h⟩:=ao h
    injection h with h
    injection h with e1 e2
    subst e1 e2 hty
    have m2:=zd m2
    have m3:=zd m3
    subst m2 m3
    have hbx:=hs.bx i
    rw [hb] at hbx
    cases hv with
    | row _ n e2 k2' ty2 xs2 pins2 hb2 hn =>
     rw [hb] at hb2
     injection hb2 with hb2
     injection hb2 with q1 q2 q3 q4 q5
     subst q3
     have q4:=eq_of_heq q4
     subst q4
     exact ⟨i,rfl,by rw [← hn]; rfl,hbx.1,_,_,_,_,_,hb,rfl⟩
   ·cases h
  ·cases h
 ·cases h
theorem Zb (hs:Sim s p) {pt:PT} {v:SV} {q:PV} {x:pt.den} {is:List Nat} (hv:bf s.bx v q) (h:MZ s pt v=some (x,is)) : is = []∧qK q=pD pt x:=by
 unfold MZ at h
 obtain ⟨h1,h⟩:=ao h
 split at h
 ·rename_i x' hx
  injection h with h
  injection h with e1 e2
  subst e1 e2
  obtain ⟨k1,k2⟩:=(Dy hs hv hx).2 h1
  exact ⟨rfl,by rw [← IX dY q k1]; exact k2⟩
 ·cases h
theorem Kj (hs:Sim s p) : ∀ {pt:PT} {v:SV} {q:PV} {x:pt.den} {is:List Nat},bf s.bx v q→Px s pt v=some (x,is)→aa9 p pt q x is:=by
 intro pt v q x is hv h
 have plain:∀ {pt:PT} {x:pt.den},pt.nI=0→(toI pt [] x)=(pD pt x,[])→MZ s pt v=some (x,is)→aa9 p pt q x is:=fun {pt x} h0 h1 h=>by
  obtain ⟨rfl,h2⟩:=Zb hs hv h
  exact ⟨h0.symm,by rw [h1]; exact h2,by rw [h1]; exact fun _ _ h=>by cases h⟩
 have row:∀ {e k:Nat} {t:Ty} {xs:List t.den},tG s e k t v=some (xs,is)→is.length=1∧∃ i,is = [i]∧q = .row i xs.length∧p.b i=some (rwU e k t xs):=fun {e k t xs} h=>by
  obtain ⟨i,rfl,h1,h2,_⟩:=Bj hs hv h
  exact ⟨rfl,i,rfl,h1,h2⟩
 cases pt with
 | lf t=>exact plain rfl rfl h
 | ag i=>exact plain rfl rfl h
 | pl t=>exact plain rfl rfl h
 | ps i=>exact plain rfl rfl h
 | fn f a b=>exact plain rfl rfl h
 | io l=>exact dN (x:=(x,is)) h
 | own e k t =>
  obtain ⟨h1,i,rfl,h2,h3⟩:=row (xs:=x) h
  refine ⟨h1,by rw [h2]; rfl,fun t' Bx hm=>?_⟩
  simp only [toI,List.mem_cons,List.not_mem_nil,or_false,Prod.mk.injEq] at hm
  obtain ⟨rfl,rfl⟩:=hm
  exact ⟨_,h3,rfl⟩
 | mv e k t =>
  obtain ⟨h1,i,rfl,h2,h3⟩:=row (xs:=x) h
  refine ⟨h1,by rw [h2]; rfl,fun t' Bx hm=>?_⟩
  simp only [toI,List.mem_cons,List.not_mem_nil,or_false,Prod.mk.injEq] at hm
  obtain ⟨rfl,rfl⟩:=hm
  exact ⟨_,h3,rfl⟩
 | bx ty n rows =>
  replace h:M3 s ty n rows v=some (x,is):=h
  unfold M3 at h
  split at h
  ·rename_i i
   split at h
   ·rename_i ty' cs hb
    obtain ⟨m1,h⟩:=ao h
    have m1:=zd m1
    subst m1
    split at h
    ·rename_i x' is' hd
     injection h with h
     injection h with e1 e2
     subst e1 e2
     have hbx:=hs.bx i
     rw [hb] at hbx
     obtain ⟨qs,k1,k2⟩:=hbx
     obtain ⟨k3,k4,k5⟩:=Fw hs k2 hd
     cases hv with
     | ptr _ _ _ _ _ =>
      refine ⟨by simp [k3,PT.nI],rfl,fun t' Bx hm=>?_⟩
      simp only [toI,List.mem_cons,Prod.mk.injEq] at hm
      rcases hm with ⟨rfl,rfl⟩ | hm
      ·exact ⟨_,k1,by rw [sd,k4]⟩
      ·have:=k5 t' Bx hm
       refine ⟨Bx,this,?_⟩
       have:∀ {rows:List (Nat×Nat×Nat×Nat×Ty)} {ds:List D} {j:Nat},(t',Bx)∈ch rows j ds→sd Bx=Bx:=by
        intro rows ds
        induction ds with
        | nil=>intro j h; cases h
        | cons d ds ih =>
         intro j h
         simp only [ch] at h
         split at h
         ·split at h
          ·rcases List.mem_cons.1 h with e | h
           ·injection e with _ e; subst e; rfl
           ·exact ih h
          ·exact ih h
         ·exact ih h
       exact this hm
    ·cases h
   ·cases h
  ·cases h
 | agr n rows =>
  replace h:Py s n rows v=some (x,is):=h
  unfold Py at h
  split at h
  ·rename_i cs
   obtain ⟨qs,rfl,hq⟩:=HA hv
   obtain ⟨k3,k4,k5⟩:=Fw hs hq h
   refine ⟨k3,by simp only [qK,toI,k4],fun t' Bx hm=>?_⟩
   have:=k5 t' Bx hm
   refine ⟨Bx,this,?_⟩
   have:∀ {rows:List (Nat×Nat×Nat×Nat×Ty)} {ds:List D} {j:Nat},(t',Bx)∈ch rows j ds→sd Bx=Bx:=by
    intro rows ds
    induction ds with
    | nil=>intro j h; cases h
    | cons d ds ih =>
     intro j h
     simp only [ch] at h
     split at h
     ·split at h
      ·rcases List.mem_cons.1 h with e | h
       ·injection e with _ e; subst e; rfl
       ·exact ih h
      ·exact ih h
     ·exact ih h
   exact this hm
  ·cases h
theorem M0 (hs:Sim s p) : ∀ {ps:List PT} {vs:List SV} {qs:List PV} {x:ct ps} {iss:List (List Nat)},ca s.bx vs qs→IV s ps vs=some (x,iss) →
  iQ ps iss∧dM qs=(dL ps iss x).1∧∀ t Bx,(t,Bx)∈(dL ps iss x).2→∃ B',p.b t=some B'∧sd B' = Bx
 | [],[],qs,x,iss,hv,h=>by
  rcases hv.cases with ⟨_,rfl⟩ | ⟨_,_,_,_,h1,_⟩
  ·injection h with h
   injection h with _ h
   subst h
   exact ⟨trivial,rfl,fun _ _ h=>by cases h⟩
  ·cases h1
 | [],_ :: _,_,_,_,_,h=>by cases h
 | _ :: _,[],_,_,_,_,h=>by cases h
 | pt::ps,v::vs,qs,x,iss,hv,h=>by
  rcases hv.cases with ⟨h1,_⟩ | ⟨v',q,vs',qs',h1,rfl,h2,h3⟩
  ·cases h1
  ·injection h1 with e1 e2
   subst e1 e2
   simp only [IV] at h
   split at h
   ·rename_i y is ys iss' m1 m2
    injection h with h
    injection h with e1 e2
    subst e1 e2
    obtain ⟨k1,k2,k3⟩:=Kj hs h2 m1
    obtain ⟨k4,k5,k6⟩:=M0 hs h3 m2
    refine ⟨⟨k1,k4⟩,by simp only [dM,dL,k2,k5],fun t Bx hm=>?_⟩
    simp only [dL,List.mem_append] at hm
    rcases hm with hm | hm
    ·exact k3 t Bx hm
    ·exact k6 t Bx hm
   ·cases h
end
section
variable {B B':List (Nat×Option aW)} {s:SS} {p:PS} {P:Program} {ρ : Type} {G:List Nat} {sc:List Nat}
def ww (B':List (Nat×Option aW)) (bx:List (Nat×Option aW)) : Prop:=∀ t x,(t,some x)∈bx→lkB B' t=some x
theorem ww.app {a b:List (Nat×Option aW)} (h:ww B' (a++b)) : ww B' a∧ww B' b:=⟨fun t x hm=>h t x (List.mem_append_left _ hm),fun t x hm=>h t x (List.mem_append_right _ hm)⟩
theorem OQ {rows:List (Nat×Nat×Nat×Nat×Ty)} : ∀ {cs:List SD} {j:Nat} {vs:List SV} {bx:List (Nat×Option aW)},fU rows j cs [] = some (vs,bx)→(∀ c∈cs,c≠.nl) →
  UAl G B' bx (ch rows j (cs.map SD.toD))∧(ww B' bx→ca B' vs (ef rows j (cs.map SD.toD)))
 | [],j,vs,bx,h,_=>by
  simp only [fU] at h
  injection h with h
  injection h with e1 e2
  subst e1 e2
  exact ⟨.nil,fun _=>.nil⟩
 | c::cs,j,vs,bx,h,hn=>by
  simp only [fU] at h
  have hn':=fun c' hc=>hn c' (List.mem_cons_of_mem _ hc)
  split at h
  ·rename_i R e k t hf
   split at h
   ·rename_i xs vs' bx' hx hr
    injection h with h
    injection h with e1 e2
    subst e1 e2
    obtain ⟨k1,k2⟩:=OQ hr hn'
    have hD:c.toD = .sl ((show List t.den from xs).map (bH t)):=by
     rw [← Dx hx]; rfl
    simp only [List.map_cons,ch,ef,hf,hD]
    refine ⟨.cons R _ _ _ _ (fun x hx=>?_) (fun h=>by cases h) k1,fun hs=>.cons ?_ (k2 fun t x hm=>hs t x (List.mem_cons_of_mem _ hm))⟩
    ·injection hx with hx
     subst hx
     exact ⟨rfl,fun p pin h=>by cases h⟩
    ·exact .row R _ e k t xs [] (hs R _ List.mem_cons_self) (show List.length (show List t.den from xs) = _ from (List.length_map _).symm)
   ·cases h
  ·rename_i hf
   split at h
   ·rename_i vs' bx' hr
    injection h with h
    injection h with e1 e2
    subst e1 e2
    obtain ⟨k1,k2⟩:=OQ hr hn'
    simp only [List.map_cons,ch,ef,hf]
    exact ⟨k1,fun hs=>.cons (.d _ _ (Lo.of (hn c List.mem_cons_self))) (k2 hs)⟩
   ·cases h
theorem Fa {rows:List (Nat×Nat×Nat×Ty)} {is:List Nat} {n:Nat} {x:ST n} {vs:List SV} {bx:List (Nat×Option aW)} (h:MH rows is n x=some (vs,bx)) :
  UAl G B' bx (ch (mr rows is) 0 (stD n x))∧(ww B' bx→ca B' vs (ef (mr rows is) 0 (stD n x))):=by
 rw [← uy n x]
 exact OQ h (xh n x)
theorem IH {e k:Nat} {t:Ty} (xs:List t.den) {is:List Nat} {v:SV} {bx:List (Nat×Option aW)} (h:(match is with | [i]=>some (SV.row i,[(i,some (aW.rw e k t xs []))]) | _=>none)=some (v,bx)) (hs:ww B' bx) :
  ∃ i,is = [i]∧v = .row i∧UAl G B' bx [(i,rwU e k t xs)]∧bf B' v (.row i xs.length):=by
 split at h
 ·rename_i i
  injection h with h
  injection h with e1 e2
  subst e1 e2
  exact ⟨i,rfl,rfl,.cons i _ _ _ _ (fun x hx=>by injection hx with hx; subst hx; exact ⟨rfl,fun p pin h=>by cases h⟩) (fun h=>by cases h) .nil,.row i _ e k t xs [] (hs i _ List.mem_cons_self) rfl⟩
 ·cases h
theorem Kd {pt:PT} {is:List Nat} {x:pt.den} {v:SV} {bx:List (Nat×Option aW)} (hp:(pt.isM||Tn pt)=true) (h:ML pt is x=some (v,bx)) (hs:ww B' bx) :
  UAl G B' bx (toI pt is x).2∧bf B' v (toI pt is x).1:=by
 have plain:∀ {pt:PT} {x:pt.den},pt.isM=false→(pt.isM||Tn pt)=true→(toI pt is x)=(pD pt x,[])→v=T1 pt x→bx = []→UAl G B' bx (toI pt is x).2∧bf B' v (toI pt is x).1:=fun {pt x} h1 h2 h3 h4 h5=>by
  subst h4 h5
  rw [h1,Bool.false_or] at h2
  rw [h3]
  exact ⟨.nil,yS pt x h2⟩
 cases pt with
 | lf t=>injection h with h; injection h with e1 e2; exact plain rfl hp rfl e1.symm e2.symm
 | ag t=>injection h with h; injection h with e1 e2; exact plain rfl hp rfl e1.symm e2.symm
 | pl t=>injection h with h; injection h with e1 e2; exact plain rfl hp rfl e1.symm e2.symm
 | ps t=>injection h with h; injection h with e1 e2; exact plain rfl hp rfl e1.symm e2.symm
 | fn f a b=>injection h with h; injection h with e1 e2; exact plain rfl hp rfl e1.symm e2.symm
 | io l=>cases h
 | own e k t=>obtain ⟨i,rfl,rfl,k1,k2⟩:=IH (G:=G) (B':=B') (show List t.den from x) h hs; exact ⟨k1,k2⟩
 | mv e k t=>obtain ⟨i,rfl,rfl,k1,k2⟩:=IH (G:=G) (B':=B') (show List t.den from x) h hs; exact ⟨k1,k2⟩
 | bx ty n rows =>
  simp only [ML] at h
  split at h
  ·rename_i i is'
   split at h
   ·rename_i vs bx' he
    injection h with h
    injection h with e1 e2
    subst e1 e2
    obtain ⟨k1,k2⟩:=Fa (G:=G) (B':=B') he
    have hc:=k2 fun t x hm=>hs t x (List.mem_cons_of_mem _ hm)
    exact ⟨.cons i _ _ _ _ (fun x hx=>by injection hx with hx; subst hx; exact ⟨_,rfl,hc⟩) (fun h=>by cases h) k1,.ptr i 0 _ _ (hs i _ List.mem_cons_self)⟩
   ·cases h
  ·cases h
 | agr n rows =>
  simp only [ML] at h
  split at h
  ·rename_i vs bx' he
   injection h with h
   injection h with e1 e2
   subst e1 e2
   obtain ⟨k1,k2⟩:=Fa (G:=G) (B':=B') he
   have hc:=k2 hs
   exact ⟨k1,.ag _ _ hc.len hc.rep⟩
  ·cases h
theorem II:∀ {rs:List PT} {jss:List (List Nat)} {r:bc rs} {vs:List SV} {bs:List (Nat×Option aW)},th rs=true→Kc rs jss r=some (vs,bs)→ww B' bs→UAl G B' bs (cT rs jss r).2∧ca B' vs (cT rs jss r).1
 | [],[],r,vs,bs,_,h,_=>by
  have h:some (([] : List SV),([] : List (Nat×Option aW)))=some (vs,bs):=h
  injection h with h
  injection h with e1 e2
  subst e1 e2
  exact ⟨.nil,.nil⟩
 | [],_ :: _,r,vs,bs,_,h,_=>by cases h
 | [pt],[],r,vs,bs,_,h,_=>by cases h
 | [pt],[is],r,vs,bs,hp,h,hs=>by
  have h:(match ML pt is r with | some (v,b)=>some ([v],b) | none=>none)=some (vs,bs):=h
  simp only [th] at hp
  split at hp
  ·rename_i hp1
   split at h
   ·rename_i v b he
    injection h with h
    injection h with e1 e2
    subst e1 e2
    obtain ⟨k1,k2⟩:=Kd (G:=G) (B':=B') hp1 he hs
    exact ⟨k1,.cons k2 .nil⟩
   ·cases h
  ·cases hp
 | [pt],_ :: _ :: _,r,vs,bs,_,h,_=>by cases h
 | pt::q::l,[],r,vs,bs,_,h,_=>by cases h
 | pt::q::l,is::iss,r,vs,bs,hp,h,hs=>by
  have h:(match ML pt is r.1,Kc (q::l) iss r.2 with | some (v,b),some (vs,bs)=>some (v::vs,b++bs) | _,_=>none)=some (vs,bs):=h
  rw [th] at hp
  split at hp
  ·rename_i hp1
   split at h
   ·rename_i v b vs' bs' he hr
    injection h with h
    injection h with e1 e2
    subst e1 e2
    obtain ⟨s1,s2⟩:=hs.app
    obtain ⟨k1,k2⟩:=Kd (G:=G) (B':=B') hp1 he s1
    obtain ⟨k3,k4⟩:=II hp hr s2
    exact ⟨k1.app k3,.cons k2 k4⟩
   ·cases h
  ·cases hp
theorem Wc {vs:List SV} {qs:List PV} (h:ca B vs qs) : bf B (Wd vs) (yC qs):=by
 match vs,qs,h with
 | [],[],h=>exact .tup _ _ rfl (fun j c q h1=>by simp at h1)
 | [v],[q],h=>exact h.head
 | v::v' :: vs,q::q' :: qs,h=>exact .tup _ _ h.len h.rep
 | [],_ :: _,h=>have:=h.len; simp at this
 | _ :: _,[],h=>have:=h.len; simp at this
 | [_],_ :: _ :: _,h=>have:=h.len; simp at this
 | _ :: _ :: _,[_],h=>have:=h.len; simp at this
def Bq (s:SS) (ks js:List Nat) (t:Nat) (sb:Option aW) : Prop :=
 aA ks t=true∨t∈js∨(∃ ty cs,lkB s.bx t=some (.st ty cs))∨∃ e k ty xs pins e' k' ty' xs',lkB s.bx t=some (.rw e k ty xs pins)∧sb=some (.rw e' k' ty' xs' (wM pins))∧xs'.length=xs.length
theorem DK:∀ {rows:List (Nat×Nat×Nat×Ty)} {is:List Nat} {j R e k:Nat} {t:Ty},pQ (mr rows is) j=some (R,e,k,t)→R∈is
 | [],is,j,R,e,k,t,h=>by cases is <;> cases h
 | (j0,e0,k0,t0)::rows,[],j,R,e,k,t,h=>by cases h
 | (j0,e0,k0,t0)::rows,R0::is,j,R,e,k,t,h=>by
  simp only [mr,pQ] at h
  split at h
  ·injection h with h
   injection h with h _
   subst h
   exact List.mem_cons_self
  ·exact List.mem_cons_of_mem _ (DK h)
theorem JM {rows:List (Nat×Nat×Nat×Ty)} {is:List Nat} : ∀ {cs:List SD} {j:Nat} {vs:List SV} {bx:List (Nat×Option aW)},fU (mr rows is) j cs [] = some (vs,bx)→∀ t sb,(t,sb)∈bx→t∈is
 | [],j,vs,bx,h,t,sb,hm=>by
  simp only [fU] at h
  injection h with h
  injection h with e1 e2
  subst e1 e2
  cases hm
 | c::cs,j,vs,bx,h,t,sb,hm=>by
  simp only [fU] at h
  split at h
  ·rename_i R e k t' hf
   split at h
   ·rename_i xs vs' bx' hx hr
    injection h with h
    injection h with e1 e2
    subst e1 e2
    rcases List.mem_cons.1 hm with e | hm
    ·injection e with e _
     subst e
     exact DK hf
    ·exact JM hr t sb hm
   ·cases h
  ·split at h
   ·rename_i vs' bx' hr
    injection h with h
    injection h with e1 e2
    subst e1 e2
    exact JM hr t sb hm
   ·cases h
theorem Y0 (hs:Sim s p) {pt:PT} {b:IB} {is js:List Nat} {x:pt.den} {o:b.den} {v:SV} {q:PV} {m:MU} (hv:bf s.bx v q) (hd:Px s pt v=some (x,is)) (hl:aaP pt b x o) (h:aak s pt b is js o=some m) (hsn:ww B' m.us) :
  (UAl G B' m.us (toO pt b is js x o)∧m.gs=ES pt is∧∀ i∈m.gs,aA m.ks i=true)∧∀ t sb,(t,sb)∈m.us→Bq s m.ks js t sb:=by
 have nil:some (⟨[],[],[]⟩ : MU)=some m→toO pt b is js x o = []→ES pt is = []→(UAl G B' m.us (toO pt b is js x o)∧m.gs=ES pt is∧∀ i∈m.gs,aA m.ks i=true)∧∀ t sb,(t,sb)∈m.us→Bq s m.ks js t sb:=fun h1 h2 h3=>by
  injection h1 with h1
  subst h1
  rw [h2,h3]
  exact ⟨⟨.nil,rfl,fun _ h=>by cases h⟩,fun t sb h=>by cases h⟩
 cases pt with
 | lf t=>cases b with
  | no=>exact nil h rfl rfl
  | _=>cases h
 | ag t=>cases b with
  | no=>exact nil h rfl rfl
  | _=>cases h
 | pl t=>cases b with
  | no=>exact nil h rfl rfl
  | _=>cases h
 | ps t=>cases b with
  | no=>exact nil h rfl rfl
  | _=>cases h
 | fn f a c=>cases b with
  | no=>exact nil h rfl rfl
  | _=>cases h
 | io l=>cases b <;> cases h
 | agr n rows=>cases b <;> cases h
 | own e k t=>cases b with
  | no=>cases h
  | bx=>cases h
  | own e' k' t' =>
   obtain ⟨i,rfl,h1,h2,e2,k2,t2,xs2,pins,h3,h4⟩:=Bj hs hv (show tG s e k t v=some (x,is) from hd)
   have h:some (⟨[],[(i,some (.rw e' k' t' o (JQ s i)))],[]⟩ : MU)=some m:=h
   injection h with h
   subst h
   have hp:JQ s i=wM pins:=by unfold JQ; rw [h3]
   rw [hp]
   have hl:(show List t'.den from o).length=(show List t.den from x).length:=hl
   refine ⟨⟨.cons i _ _ _ _ (fun y hy=>?_) (fun h=>by cases h) .nil,rfl,fun _ h=>by cases h⟩,fun t sb hm=>?_⟩
   ·injection hy with hy
    subst hy
    refine ⟨rfl,fun pp pin hpin=>?_⟩
    rw [mQ,zm] at hpin
    obtain ⟨pin0,h5,rfl⟩:=hpin
    have hbx:=hs.bx i
    rw [h3] at hbx
    obtain ⟨h6,_⟩:=hbx.2 pp pin0 h5
    exact ⟨by show pin0.i.toNat < (show List t'.den from o).length; rw [hl]; show _ < List.length _; rw [← h4]; exact h6,fun cs h=>by cases h⟩
   ·simp only [List.mem_cons,List.not_mem_nil,or_false,Prod.mk.injEq] at hm
    obtain ⟨rfl,rfl⟩:=hm
    exact .inr (.inr (.inr ⟨_,_,_,_,_,_,_,_,_,h3,rfl,by show (show List t'.den from o).length = _; rw [hl]; exact h4.symm⟩))
 | mv e k t=>cases b with
  | own=>cases h
  | bx=>cases h
  | no =>
   obtain ⟨i,rfl,_⟩:=Bj hs hv (show tG s e k t v=some (x,is) from hd)
   have h:some (⟨[i],[],[i]⟩ : MU)=some m:=h
   injection h with h
   subst h
   exact ⟨⟨.nil,rfl,fun j hj=>dW.2 hj⟩,fun t sb hm=>by cases hm⟩
 | bx ty n rows=>cases b with
  | own=>cases h
  | no=>cases h
  | bx ty' n' rows' =>
   have hb:∃ i is' cs ty0,is=i::is'∧lkB s.bx i=some (.st ty0 cs):=by
    replace hd:M3 s ty n rows v=some (x,is):=hd
    clear h
    unfold M3 at hd
    split at hd
    ·rename_i i
     split at hd
     ·rename_i ty0 cs hb
      obtain ⟨_,hd⟩:=ao hd
      split at hd
      ·injection hd with hd
       injection hd with _ hd
       exact ⟨i,_,cs,ty0,hd.symm,hb⟩
      ·cases hd
     ·cases hd
    ·cases hd
   obtain ⟨i,is',cs,ty0,rfl,hb⟩:=hb
   have h:(match MH rows' js n' o with | some (vs,bx)=>some (⟨is',(i,some (.st ty' vs))::bx,is'⟩ : MU) | none=>none)=some m:=h
   split at h
   ·rename_i vs bx he
    injection h with h
    subst h
    obtain ⟨k1,k2⟩:=Fa (G:=G) (B':=B') he
    have hc:=k2 fun t x hm=>hsn t x (List.mem_cons_of_mem _ hm)
    refine ⟨⟨.cons i _ _ _ _ (fun x hx=>by injection hx with hx; subst hx; exact ⟨_,rfl,hc⟩) (fun h=>by cases h) k1,rfl,fun j hj=>dW.2 hj⟩,fun t sb hm=>?_⟩
    rcases List.mem_cons.1 hm with e | hm
    ·injection e with e1 e2
     subst e1 e2
     exact .inr (.inr (.inl ⟨_,_,hb⟩))
    ·exact .inr (.inl (JM he t sb hm))
   ·cases h
theorem Bq.more {ks ks' js js':List Nat} {t:Nat} {sb:Option aW} (h:Bq s ks js t sb) (hk:∀ t,aA ks t=true→aA ks' t=true) (hj:∀ t∈js,t∈js') : Bq s ks' js' t sb:=by
 rcases h with h | h | h
 ·exact .inl (hk t h)
 ·exact .inr (.inl (hj t h))
 ·exact .inr (.inr h)
theorem MI (hs:Sim s p) : ∀ {ps:List PT} {ls:List IB} {iss kss:List (List Nat)} {x:ct ps} {o:yB ls} {vs:List SV} {qs:List PV} {m:MU},ca s.bx vs qs→IV s ps vs=some (x,iss)→Ml ps ls x o→Ss s ps ls iss kss o=some m→ww B' m.us →
  (UAl G B' m.us (Ow ps ls iss kss x o)∧m.gs=oO ps iss∧∀ i∈m.gs,aA m.ks i=true)∧∀ t sb,(t,sb)∈m.us→Bq s m.ks (br kss) t sb
 | [],[],[],[],x,o,vs,qs,m,_,_,_,h,_=>by
  have h:some (⟨[],[],[]⟩ : MU)=some m:=h
  injection h with h
  subst h
  exact ⟨⟨.nil,rfl,fun _ h=>by cases h⟩,fun t sb h=>by cases h⟩
 | [],[],[],_ :: _,x,o,vs,qs,m,_,_,_,h,_=>by cases h
 | [],[],_ :: _,_,x,o,vs,qs,m,_,_,_,h,_=>by cases h
 | [],_ :: _,_,_,x,o,vs,qs,m,_,_,_,h,_=>by cases h
 | _ :: _,[],_,_,x,o,vs,qs,m,_,_,_,h,_=>by cases h
 | _ :: _,_ :: _,[],_,x,o,vs,qs,m,_,_,_,h,_=>by cases h
 | _ :: _,_ :: _,_ :: _,[],x,o,vs,qs,m,_,_,_,h,_=>by cases h
 | pt::ps,b::ls,is::iss,js::kss,x,o,vs,qs,m,hv,hd,hl,h,hsn=>by
  have h:(match aak s pt b is js o.1,Ss s ps ls iss kss o.2 with | some m,some m'=>some (m.app m') | _,_=>none)=some m:=h
  cases vs with
  | nil=>cases hd
  | cons v vs =>
  rcases hv.cases with ⟨h1,_⟩ | ⟨v',q,vs',qs',h1,rfl,h2,h3⟩
  ·cases h1
  ·injection h1 with e1 e2
   subst e1 e2
   simp only [IV] at hd
   split at hd
   ·rename_i y is1 ys iss1 m1 m2
    injection hd with hd
    injection hd with e1 e2
    injection e2 with e2 e3
    subst e1 e2 e3
    split at h
    ·rename_i ma mb ha hb
     injection h with h
     subst h
     have hsn:ww B' (ma.us++mb.us):=hsn
     obtain ⟨s1,s2⟩:=hsn.app
     obtain ⟨⟨k1,g1,g2⟩,k2⟩:=Y0 hs h2 m1 hl.1 ha s1
     obtain ⟨⟨k3,g3,g4⟩,k4⟩:=MI hs h3 m2 hl.2 hb s2
     refine ⟨⟨k1.app k3,by show ma.gs++mb.gs = _; rw [g1,g3]; rfl,fun i hi=>?_⟩,fun t sb hm=>?_⟩
     ·have hi:i∈ma.gs++mb.gs:=hi
      rcases List.mem_append.1 hi with hi | hi
      ·exact dW.2 (List.mem_append_left _ (dW.1 (g2 i hi)))
      ·exact dW.2 (List.mem_append_right _ (dW.1 (g4 i hi)))
     have hm:(t,sb)∈ma.us++mb.us:=hm
     rcases List.mem_append.1 hm with hm | hm
     ·exact (k2 t sb hm).more (fun t ht=>dW.2 (List.mem_append_left _ (dW.1 ht))) fun t ht=>List.mem_append_left _ ht
     ·exact (k4 t sb hm).more (fun t ht=>dW.2 (List.mem_append_right _ (dW.1 ht))) fun t ht=>List.mem_append_right _ ht
    ·cases h
   ·cases hd
theorem My (l:BU) : ∀ (is:List Nat),(∀ i∈is,aA G i=true)→UAl G B' (ly is) (Cd l is)
 | [],_=>.nil
 | a::is,hg=>.cons a _ _ _ _ (fun y hy=>by cases hy) (fun _=>hg a List.mem_cons_self) (My l is fun i hi=>hg i (List.mem_cons_of_mem _ hi))
theorem si:∀ {is:List Nat} {t:Nat} {sb:Option aW},(t,sb)∈ly is→t∈is∧sb=none
 | [],t,sb,h=>by cases h
 | a::is,t,sb,h=>by
  rcases List.mem_cons.1 h with e | h
  ·injection e with e1 e2; subst e1 e2; exact ⟨List.mem_cons_self,rfl⟩
  ·obtain ⟨h1,h2⟩:=si h; exact ⟨List.mem_cons_of_mem _ h1,h2⟩
theorem Iq:∀ {is:List Nat} {t:Nat},t∈is→(t,none)∈ly is
 | a::is,t,h=>by
  rcases List.mem_cons.1 h with rfl | h
  ·exact List.mem_cons_self
  ·exact List.mem_cons_of_mem _ (Iq h)
theorem Fb:∀ {ps:List PT} {iss:List (List Nat)} {x:ct ps} {vs:List SV} {bs:List (Nat×Option aW)},th ps=true→MJ ps iss x=some (vs,bs)→ww B' bs→UAl G B' bs (dL ps iss x).2∧ca B' vs (dL ps iss x).1
 | [],[],x,vs,bs,_,h,_=>by
  injection h with h
  injection h with e1 e2
  subst e1 e2
  exact ⟨.nil,.nil⟩
 | [],_ :: _,x,vs,bs,_,h,_=>by cases h
 | _ :: _,[],x,vs,bs,_,h,_=>by cases h
 | pt::ps,is::iss,x,vs,bs,hp,h,hs=>by
  simp only [MJ] at h
  simp only [th] at hp
  split at hp
  ·rename_i hp1
   split at h
   ·rename_i v b vs' bs' he hr
    injection h with h
    injection h with e1 e2
    subst e1 e2
    obtain ⟨s1,s2⟩:=hs.app
    obtain ⟨k1,k2⟩:=Kd (G:=G) (B':=B') hp1 he s1
    obtain ⟨k3,k4⟩:=Fb hp hr s2
    exact ⟨k1.app k3,.cons k2 k4⟩
   ·cases h
  ·cases hp
theorem UAl.dom {us:List (Nat×Option aW)} {u:BU} (h:UAl G B' us u) : bU u=idU us:=by
 induction h with
 | nil=>rfl
 | cons t sb b us u h1 h2 h ih=>simp only [bU,idU,ih]
theorem Dl:∀ {l l':List (Nat×Option aW)},(idU l).Nodup→ww (l++l') l
 | [],_,_,t,x,hm=>by cases hm
 | (i,b)::l,l',hn,t,x,hm=>by
  rw [show idU ((i,b)::l)=i::idU l from rfl,List.nodup_cons] at hn
  rw [List.cons_append,ar]
  rcases List.mem_cons.1 hm with e | hm
  ·injection e with e1 e2
   subst e1 e2
   rw [if_pos rfl]
  ·rw [if_neg (fun (e:t=i)=>hn.1 (by rw [← e]; exact fj.2 ⟨_,hm⟩))]
   exact Dl hn.2 t x hm
end
section
variable {B B':List (Nat×Option aW)} {s:SS} {p:PS} {P:Program} {ρ : Type} {G:List Nat} {sc:List Nat}
theorem HM:∀ (rs:List PT) (base:Nat),iQ rs (ot base rs)
 | [],_=>trivial
 | p::l,base=>⟨List.length_range',HM l _⟩
theorem B3:∀ (ls:List IB) (base:Nat),jZ ls (uM base ls)
 | [],_=>trivial
 | p::l,base=>⟨List.length_range',B3 l _⟩
theorem o5:∀ {l:BU} {t:Nat} {B:Box},lkU l t=some B→(t,B)∈l
 | [],t,B,h=>by cases h
 | (j,C)::l,t,B,h=>by
  simp only [lkU] at h
  split at h
  ·rename_i e; subst e; injection h with h; subst h; exact List.mem_cons_self
  ·exact List.mem_cons_of_mem _ (o5 h)
theorem xp {rows:List (Nat×Nat×Nat×Ty)} {is:List Nat} : ∀ {ds:List D} {j t:Nat} {Bx:Box},(t,Bx)∈ch (mr rows is) j ds→t∈is
 | [],j,t,Bx,h=>by cases h
 | d::ds,j,t,Bx,h=>by
  simp only [ch] at h
  split at h
  ·rename_i hf
   split at h
   ·rcases List.mem_cons.1 h with e | h
    ·injection e with e _; subst e; exact DK hf
    ·exact xp h
   ·exact xp h
  ·exact xp h
theorem Jz {pt:PT} {is:List Nat} {x:pt.den} {t:Nat} {Bx:Box} (h:(t,Bx)∈(toI pt is x).2) : t∈is:=by
 cases pt with
 | lf=>cases h
 | ag=>cases h
 | pl=>cases h
 | ps=>cases h
 | fn=>cases h
 | io=>cases h
 | own e k t' =>
  simp only [toI] at h
  split at h
  ·simp only [List.mem_cons,List.not_mem_nil,or_false,Prod.mk.injEq] at h; simp [h.1]
  ·cases h
 | mv e k t' =>
  simp only [toI] at h
  split at h
  ·simp only [List.mem_cons,List.not_mem_nil,or_false,Prod.mk.injEq] at h; simp [h.1]
  ·cases h
 | bx ty n rows =>
  simp only [toI] at h
  split at h
  ·rcases List.mem_cons.1 h with e | h
   ·injection e with e _; subst e; exact List.mem_cons_self
   ·exact List.mem_cons_of_mem _ (xp h)
  ·cases h
 | agr n rows=>exact xp h
theorem sp (l:List Nat) (ls:List (List Nat)) : br (l::ls)=l++br ls:=rfl
theorem DV:∀ {ps:List PT} {iss:List (List Nat)} {x:ct ps} {t:Nat} {Bx:Box},(t,Bx)∈(dL ps iss x).2→t∈br iss
 | [],_,_,_,_,h=>by cases h
 | _ :: _,[],_,_,_,h=>by cases h
 | p::ps,is::iss,x,t,Bx,h=>by
  simp only [dL,List.mem_append] at h
  rw [sp,List.mem_append]
  exact h.imp Jz DV
def Xr (p:PS) : List Nat→BU
 | []=>[]
 | t::l=>match p.b t with | some B=>(t,B)::Xr p l | none=>Xr p l
theorem vZ (p:PS) : ∀ (l:List Nat) (t:Nat),lkU (Xr p l) t=if t∈l then p.b t else none
 | [],t=>rfl
 | a::l,t=>by
  simp only [Xr]
  cases ha:p.b a with
  | none =>
   rw [vZ p l t]
   by_cases h:t=a
   ·subst h; simp [ha]
   ·simp [h]
  | some B =>
   simp only [lkU]
   by_cases h:t=a
   ·subst h; simp [ha]
   ·simp only [h,if_false,List.mem_cons,false_or]; exact vZ p l t
structure ZN (sc:List Nat) (P:Program) (f:Nat) (dst:Option Nat) (s:SS) (p:PS) (qs:List PV) (v:SV) (m:MU) (r:PV) (u:BU) : Prop where
 ro:s.ro=false
 call:ZO P p.b f qs r u
 sim:Sim (s.updM dst v m) (p.updL dst r u)
 keep:∀ W,(∀ d,dst=some d→aA W d=true)→dK sc W s (s.updM dst v m)
 foot:∀ t Bx,lkU u t=some Bx→t∈idU m.us
theorem Xn {T:List (Nat×Ent)} (hT:qZ P T) (hpr:ml s) (hs:Sim s p) {f:Nat} {dst:Option Nat} {vs:List SV} {qs:List PV} (hM:TC T f vs=true) (hv:ca s.bx vs qs) {k:SV→MU→Option ρ} {res : ρ} (h:SH T f s dst vs k=some res) :
  ∃ v m r u,k v m=some res∧ZN sc P f dst s p qs v m r u:=by
 unfold SH at h
 split at h
 ·cases h
 ·rename_i hro
  split at h
  ·rename_i en d hen
   split at h
   ·rename_i x iss hd
    obtain ⟨r,hf,h⟩:=cN h
    simp only at h
    split at h
    ·rename_i m ws bs hm hbs
     obtain ⟨hc,h⟩:=ao h
     simp only [Bool.and_eq_true] at hc
     obtain ⟨c1,c2,c3,c4,c5,c6,c7,c10,c8,c9,c11⟩:=hc
     have c1:=En c1
     have c2:=Eo c2
     have c3:=i8 c3
     have c4:=i8 c4
     have c5:=Ep c5
     have c6:=rS c6
     have c7:=rS c7
     have c8:=rS c8
     have hE:(pa en.ps||pa en.rs)=true:=by unfold TC at hM; rw [hen] at hM; exact hM
     obtain ⟨hlen,hsem⟩:=(hT f _ en hen x r hf).2 hE
     obtain ⟨hsh,hargs,hbox⟩:=M0 hs hv hd
     have hall:∀ i∈br iss,i∈bU (dL en.ps iss x).2:=fun i hi=>by
      unfold ZJ at c10
      split at c10
      ·rename_i vv bi hbi
       rw [Bool.and_eq_true] at c10
       have hse:=Dl (l':=[]) (i8 c10.1)
       obtain ⟨z1,_⟩:=Fb (G:=[]) c11 hbi hse
       rw [z1.dom]
       exact rS c10.2 i hi
      ·cases c10
     obtain ⟨hcb,hsem⟩:=hsem iss (uM (500000 + 64 * d) (cx en.rs)) (ot (500000 + 64 * d + D0 (cx en.rs)) (eZ en.rs)) hsh (B3 _ _) (HM _ _) c3 (fun j hj=>(c2 j (List.mem_append_right _ hj)).2.2) hall
     have hseen:ww ((m.us++(bs++ly m.gs))++xi m.ks s.bx) (m.us++(bs++ly m.gs)):=Dl c4
     have hG:∀ i∈m.gs,aA (m.gs++s.oc) i=true:=fun i hi=>dW.2 (List.mem_append_left _ hi)
     obtain ⟨s1,s23⟩:=hseen.app
     obtain ⟨s2,_⟩:=s23.app
     obtain ⟨⟨k1,g1,g2⟩,k2⟩:=MI (G:=m.gs++s.oc) hs hv hd hlen hm s1
     obtain ⟨k3,k4⟩:=II (G:=m.gs++s.oc) c9 hbs s2
     have hal:=k1.app (k3.app (My (dL en.ps iss x).2 m.gs hG))
     have hids:∀ t,t∈idU m.us++m.gs→t∈idU (m.us++(bs++ly m.gs)):=fun t ht=>by
      rcases List.mem_append.1 ht with ht | ht
      ·obtain ⟨sb,h⟩:=fj.1 ht; exact fj.2 ⟨sb,List.mem_append_left _ h⟩
      ·exact fj.2 ⟨none,List.mem_append_right _ (List.mem_append_right _ (Iq ht))⟩
     have hids2:∀ t,t∈idU bs→t∈idU (m.us++(bs++ly m.gs)):=fun t ht=>by obtain ⟨sb,h⟩:=fj.1 ht; exact fj.2 ⟨sb,List.mem_append_right _ (List.mem_append_left _ h)⟩
     have hids3:∀ t,t∈idU (m.us++(bs++ly m.gs))→t∈idU m.us++m.gs∨t∈idU bs:=fun t ht=>by
      obtain ⟨sb,h⟩:=fj.1 ht
      rcases List.mem_append.1 h with h | h
      ·exact .inl (List.mem_append_left _ (fj.2 ⟨sb,h⟩))
      ·rcases List.mem_append.1 h with h | h
       ·exact .inr (fj.2 ⟨sb,h⟩)
       ·exact .inl (List.mem_append_right _ (si h).1)
     have hlk:=fun t=>VM hal (xi m.ks s.bx) t
     have hnone2:∀ t,t∈idU bs++(br (uM (500000 + 64 * d) (cx en.rs))++br (ot (500000 + 64 * d + D0 (cx en.rs)) (eZ en.rs)))→p.b t=none:=fun t ht=>by
      obtain ⟨n1,n2,_⟩:=c2 t ht
      have:=hs.bx t
      rw [n2] at this
      exact this (mO n1).1
     have hnone:∀ t,t∈idU bs→p.b t=none:=fun t ht=>hnone2 t (List.mem_append_left _ ht)
     have hBL:aav m.ks s.bx ((m.us++(bs++ly m.gs))++xi m.ks s.bx):=by
      refine ⟨fun t hk e kk ty xs pins hb=>?_,fun t ty cs hb=>?_⟩
      ·rcases hlk t with ⟨m1,sb,b,m2,m3,m4,m5⟩ | ⟨m1,m2,_⟩
       ·obtain ⟨sb',hsb'⟩:=fj.1 m1
        rcases List.mem_append.1 hsb' with hin | hin
        ·rcases k2 t sb' hin with q | q | ⟨ty',cs',q⟩ | ⟨e1,kk1,ty1,xs1,pins1,e2,kk2,ty2,xs2,q1,q2,q3⟩
         ·rw [hk] at q; cases q
         ·have:=(c2 t (List.mem_append_right _ (List.mem_append_left _ q))).2.1
          rw [hb] at this
          cases this
         ·rw [hb] at q; cases q
         ·rw [hb] at q1
          injection q1 with q1
          injection q1 with z1 z2 z3 z4 z5
          subst z3
          have z4:=eq_of_heq z4
          subst z1 z2 z4 z5 q2
          refine ⟨_,_,_,_,_,hseen t _ (List.mem_append_left _ hin),q3,fun pp pin hp=>⟨⟨pin.i,none⟩,by rw [mQ,hp]; rfl,rfl⟩⟩
        ·rcases List.mem_append.1 hin with hin | hin
         ·have:=(c2 t (List.mem_append_left _ (fj.2 ⟨_,hin⟩))).2.1
          rw [hb] at this
          cases this
         ·rw [g2 t (si hin).1] at hk; cases hk
       ·exact ⟨e,kk,ty,xs,pins,by rw [m2,uR,hb]; rfl,rfl,fun _ pin hp=>⟨pin,hp,rfl⟩⟩
      ·rcases hlk t with ⟨m1,sb,b,m2,m3,m4,m5⟩ | ⟨m1,m2,_⟩
       ·obtain ⟨sb',hsb'⟩:=fj.1 m1
        rcases List.mem_append.1 hsb' with hin | hin
        ·obtain ⟨cs',q1,_⟩:=c5 t sb' (List.mem_append_left _ hin) ty cs hb
         subst q1
         exact ⟨ty,cs',hseen t _ (List.mem_append_left _ hin)⟩
        ·rcases List.mem_append.1 hin with hin | hin
         ·have:=(c2 t (List.mem_append_left _ (fj.2 ⟨_,hin⟩))).2.1
          rw [hb] at this
          cases this
         ·obtain ⟨cs',q1,_⟩:=c5 t sb' (List.mem_append_right _ hin) ty cs hb
          rw [(si hin).2] at q1
          cases q1
       ·exact ⟨ty,_,by rw [m2,uR,hb]; rfl⟩
     have hu:∀ t,lkU (pN en.ps en.rs iss (uM (500000 + 64 * d) (cx en.rs)) (ot (500000 + 64 * d + D0 (cx en.rs)) (eZ en.rs)) x r) t=lkU (Ow en.ps (cx en.rs) iss (uM (500000 + 64 * d) (cx en.rs)) x (jN en.rs r)++((cT (eZ en.rs) (ot (500000 + 64 * d + D0 (cx en.rs)) (eZ en.rs)) (hZ en.rs r)).2++Cd (dL en.ps iss x).2 m.gs)) t:=fun t=>by unfold pN; rw [g1]
     refine ⟨Wd ws,⟨m.ks,m.us++(bs++ly m.gs),m.gs⟩,yC (cT (eZ en.rs) (ot (500000 + 64 * d + D0 (cx en.rs)) (eZ en.rs)) (hZ en.rs r)).1,pN en.ps en.rs iss (uM (500000 + 64 * d) (cx en.rs)) (ot (500000 + 64 * d + D0 (cx en.rs)) (eZ en.rs)) x r,h,hro,⟨hcb,Xr p (br iss),fun t Bx ht=>?_,fun t Bx ht hn=>?_,fun w0 F0 ρ' b w F ws' hb hbn hi hr=>?_⟩,⟨fun i=>?_,fun t=>?_⟩,fun W hW=>?_,fun t Bx ht=>?_⟩
     ·rw [vZ] at ht
      split at ht
      ·rename_i hin
       rcases hlk t with ⟨_,_,b,_,m3,_⟩ | ⟨m1,_⟩
       ·exact ⟨⟨b,(hu t).trans m3⟩,ht⟩
       ·exact absurd (hids t (c6 t hin)) m1
      ·cases ht
     ·rw [vZ] at hn
      rcases hlk t with ⟨m1,_⟩ | ⟨_,_,m3⟩
      ·rcases hids3 t m1 with m1 | m1
       ·rcases List.mem_append.1 (c7 t m1) with m1 | m1
        ·rw [if_pos m1] at hn; exact hn
        ·exact hnone2 t (List.mem_append_right _ (List.mem_append_left _ m1))
       ·exact hnone t m1
      ·rw [hu,m3] at ht; cases ht
     ·refine hsem w0 F0 ρ' b w F ws' qs hargs (fun t Bx ht=>?_) (fun t ht=>?_) hi hr
      ·have hm:=o5 ht
       obtain ⟨B1,q1,q2⟩:=hbox t Bx hm
       exact ⟨B1,hb t B1 (by rw [vZ,if_pos (DV hm)]; exact q1),q2⟩
      ·have hin:=c8 t ht
       rcases hlk t with ⟨_,_,b1,_,m3,_⟩ | ⟨m1,_⟩
       ·refine hbn t b1 ((hu t).trans m3) ?_
        rw [vZ,if_neg (fun h1=>?_)]
        exact (List.nodup_append.1 c3).2.2 t h1 t ht rfl
       ·exact absurd ((List.mem_append.1 hin).elim (fun h=>hids t (List.mem_append_left _ h)) (hids2 t)) m1
     ·show bf ((m.us++(bs++ly m.gs))++xi m.ks s.bx) (lkV (sY (SZ m.ks s.sl) (some d) (Wd ws)) i) (xg p.t (some d) _ i)
      rw [vR]
      unfold xg
      split
      ·exact Wc k4
      ·rw [O5]; exact (hs.sl i).st hBL
     ·show mq ((m.us++(bs++ly m.gs))++xi m.ks s.bx) (aA (m.gs++s.oc) t) (lkB ((m.us++(bs++ly m.gs))++xi m.ks s.bx) t) (dx p.b _ t)
      rcases hlk t with ⟨_,sb,b,m2,m3,m4,m5⟩ | ⟨_,m2,m3⟩
      ·rw [m2]
       have hb:dx p.b (pN en.ps en.rs iss (uM (500000 + 64 * d) (cx en.rs)) (ot (500000 + 64 * d + D0 (cx en.rs)) (eZ en.rs)) x r) t=some b:=by simp only [dx,hu,m3]
       rw [hb]
       cases sb with
       | none=>intro ho; rw [m5 rfl] at ho; cases ho
       | some y=>have:=m4 y rfl; cases y <;> exact this
      ·rw [m2,uR]
       have hb:dx p.b (pN en.ps en.rs iss (uM (500000 + 64 * d) (cx en.rs)) (ot (500000 + 64 * d + D0 (cx en.rs)) (eZ en.rs)) x r) t=p.b t:=by simp only [dx,hu,m3]
       rw [hb]
       have hbx:=hs.bx t
       cases hl:lkB s.bx t with
       | none =>
        rw [hl] at hbx
        intro ho
        refine hbx (yG.2 fun hi=>?_)
        rw [yG] at ho
        exact ho (List.mem_append_right _ hi)
       | some y =>
        rw [hl] at hbx
        cases y with
        | st ty cs=>obtain ⟨qs',z1,z2⟩:=hbx; exact ⟨qs',z1,z2.st hBL⟩
        | rw e kk ty xs pins=>exact hbx
     ·have hkp:∀ t,aA m.ks t=true→aA s.pr t=false:=fun t ht=>c1 t (List.mem_append_right _ (List.mem_append_left _ (dW.1 ht)))
      refine ⟨rfl,rfl,fun t ht=>?_,fun i hi hsf=>?_,fun t _ ty cs hb=>?_⟩
      ·show kQ _ (lkB ((m.us++(bs++ly m.gs))++xi m.ks s.bx) t)
       rcases hlk t with ⟨m1,_⟩ | ⟨_,m2,_⟩
       ·rcases hids3 t m1 with m1 | m1
        ·have:t∈idU m.us++(m.ks++m.gs):=by
          rcases List.mem_append.1 m1 with m1 | m1
          ·exact List.mem_append_left _ m1
          ·exact List.mem_append_right _ (List.mem_append_right _ m1)
         rw [c1 t this] at ht; cases ht
        ·rw [(mO (c2 t (List.mem_append_left _ m1)).1).2] at ht; cases ht
       ·rw [m2,uR]
        obtain ⟨b',z1,z2⟩:=hpr t ht
        rw [z1]
        cases b' with
        | st ty cs=>simp only [Option.map_some,aaA]; rw [pk cs z2]; rfl
        | rw e kk ty xs pins=>exact ⟨pins,rfl⟩
      ·show lkV (sY (SZ m.ks s.sl) (some d) (Wd ws)) i=lkV s.sl i
       rw [vR,if_neg (fun e=>by rw [hW i e] at hi; cases hi),O5]
       exact RB hkp _ hsf
      ·show ∃ cs',lkB ((m.us++(bs++ly m.gs))++xi m.ks s.bx) t = _∧_
       rcases hlk t with ⟨m1,sb,b,m2,m3,m4,m5⟩ | ⟨m1,m2,_⟩
       ·obtain ⟨sb',hsb'⟩:=fj.1 m1
        rcases List.mem_append.1 hsb' with hin | hin
        ·obtain ⟨cs',q1,q2⟩:=c5 t sb' (List.mem_append_left _ hin) ty cs hb
         subst q1
         exact ⟨cs',hseen t _ (List.mem_append_left _ hin),q2⟩
        ·rcases List.mem_append.1 hin with hin | hin
         ·have:=(c2 t (List.mem_append_left _ (fj.2 ⟨_,hin⟩))).2.1
          rw [hb] at this
          cases this
         ·obtain ⟨cs',q1,q2⟩:=c5 t sb' (List.mem_append_right _ hin) ty cs hb
          rw [(si hin).2] at q1
          cases q1
       ·exact ⟨_,by rw [m2,uR,hb]; rfl,pE _ _⟩
     ·rcases hlk t with ⟨m1,_⟩ | ⟨_,_,m3⟩
      ·exact m1
      ·rw [hu,m3] at ht; cases ht
    ·cases h
   ·cases h
  ·cases h
end
section
variable {sc:List Nat} {P:Program} {T:List (Nat×Ent)} {ops:Array Oper}
def LeQ (q:Bool) (p p':PS) : Prop:=match q with | true=>Le p p' | false=>p' = p
theorem LeQ.refl (q:Bool) (p:PS) : LeQ q p p:=by cases q; exact rfl; exact Le.refl p
def wy (q:Bool) (P:Program) (ops:Array Oper) (bd:Nat→Bd) : Nat→List Oper→PS→(PS→Prop)→Prop
 | _,[],s,K=>K s
 | i,o::l,s,K=>∃ s1,LeQ q s s1∧∃ r u,Eff P ops o s1 r u∧(q=false→fw ops o s1 u (bd i))∧wy q P ops bd (i + 1) l (s1.updL o.dst r u) K
theorem Mj {bd:Nat→Bd} {w0:WM} {F0:Nat→Prop} {n:Nat} {Q:Exit→Act→World→Prop} {Qs:Exit→PS→Prop} (hQ:∀ e s a w,Qs e s→oh n w0 F0 s a w→Q e a w) : ∀ (i:Nat) (l:List Oper) (s:PS) (a:Act) (w:World),IL n l=true→wy true P ops bd i l s (Qs .normal)→oh n w0 F0 s a w→wpList P ops Q l a w
 | _,[],s,a,w,_,h,hc=>hQ _ s a w h hc
 | i,o::l,s,a,w,hd,h,hc=>by
  obtain ⟨s1,h1,r,u,h2,_,h3⟩:=h
  have hc1:=(show Le s s1 from h1) n w0 F0 a w hc
  obtain ⟨hd1,hd2⟩:=Pv hd
  exact wpList_step fun K hK=>Wa (f:=0) hc1 h2 hd1 (fun a' w' hc'=>hK _ _ (Mj hQ (i + 1) l _ a' w' hd2 h3 hc'))
theorem L0 {bd:Nat→Bd} {n:Nat} {Qs:Exit→PS→Prop} {s:PS} {id:Nat} {l:List Oper} (hd:IL n l=true) (h:wy true P l.toArray bd 0 l s (Qs .normal)) : PWP P n (.region id l.toArray false) Qs s :=
 fun _ _ a w hc=>wp_region_lit (Mj (Qs:=Qs) (fun _ s' _ _ h1 h2=>⟨s',h1,h2⟩) 0 l s a w hd h hc)
theorem AK {bd:Nat→Bd} {K:PS→Prop} : ∀ (l:List Oper) (k:Nat) (s:PS),(∀ j,j < l.length→l[j]? = ops[k + j]?)→wy false P ops bd k l s K→FR P ops bd (List.range' k l.length) s K
 | [],k,s,_,h=>h
 | o::l,k,s,hl,h=>by
  obtain ⟨s1,he,r,u,h1,hf,h2⟩:=h
  have he:s1=s:=he
  subst he
  have h0:ops[k]? = some o:=by simpa using (hl 0 (by simp)).symm
  rw [List.length_cons,List.range'_succ]
  exact ⟨o,r,u,h0,h1,hf rfl,AK l (k + 1) _ (fun j hj=>by have:=hl (j + 1) (by simp; omega); simpa [Nat.add_assoc,Nat.add_comm 1 j] using this) h2⟩
theorem RG {bd:Nat→Bd} {K:PS→Prop} : ∀ (l:List Oper) (i k:Nat) (s:PS),(∀ j,j < l.length→l[j]? = ops[k + j]?)→wy true P ops bd i l s K→Un P ops (List.range' k l.length) s K
 | [],i,k,s,_,h=>h
 | o::l,i,k,s,hl,h=>by
  obtain ⟨s1,hle,r,u,h1,_,h2⟩:=h
  have h0:ops[k]? = some o:=by simpa using (hl 0 (by simp)).symm
  rw [List.length_cons,List.range'_succ]
  exact ⟨s1,hle,o,r,u,h0,h1,RG l (i + 1) (k + 1) _ (fun j hj=>by have:=hl (j + 1) (by simp; omega); simpa [Nat.add_assoc,Nat.add_comm 1 j] using this) h2⟩
theorem fS {q:Bool} {bd:Nat→Bd} : ∀ {l:List Oper} {i:Nat} {p:PS} {K K':PS→Prop},wy q P ops bd i l p K→(∀ p',K p'→K' p')→wy q P ops bd i l p K'
 | [],i,p,K,K',h,hk=>hk p h
 | o::l,i,p,K,K',h,hk=>by
  obtain ⟨s1,h1,r,u,h2,hf,h3⟩:=h
  exact ⟨s1,h1,r,u,h2,hf,fS h3 hk⟩
theorem B5 {q:Bool} {bd:Nat→Bd} : ∀ {a b:List Oper} {i:Nat} {p:PS} {K:PS→Prop},wy q P ops bd i a p (fun p'=>wy q P ops bd (i + a.length) b p' K)→wy q P ops bd i (a++b) p K
 | [],b,i,p,K,h=>h
 | o::a,b,i,p,K,h=>by
  obtain ⟨s1,h1,r,u,h2,hf,h3⟩:=h
  refine ⟨s1,h1,r,u,h2,hf,B5 ?_⟩
  rw [List.length_cons] at h3
  rw [show i + 1 + a.length=i + (a.length + 1) by omega]
  exact h3
mutual
theorem pH {B:List (Nat×Option aW)} : ∀ {v:SV} {q:PV} {l:List Nat},bf B v q→wN v=some l→∀ x∈bg q,x∈l
 | .junk,q,l,_,h,x,hx=>by cases h
 | .d c,q,l,hv,h,x,hx=>by cases hv with | d _ y _=>simp [bg] at hx
 | .fe cs,q,l,hv,h,x,hx=>by cases hv with | fe _ ds _ _=>simp [bg] at hx
 | .ptr t o,q,l,hv,h,x,hx=>by
  cases hv with
  | ptr _ _ ty cs hb=>injection h with h; subst h; simpa [bg] using hx
 | .row t,q,l,hv,h,x,hx=>by
  cases hv with
  | row _ n e k ty xs pins hb hn=>injection h with h; subst h; simpa [bg] using hx
 | .re t p o,q,l,hv,h,x,hx=>by
  cases hv with
  | re _ _ _ n i e k ty xs pins pin hb hn hp hi=>injection h with h; subst h; simpa [bg] using hx
 | .vw t p o,q,l,hv,h,x,hx=>by
  cases hv with
  | vw _ _ _ n e k ty xs pins hb hn=>injection h with h; subst h; simpa [bg] using hx
 | .ag cs,q,l,hv,h,x,hx=>by
  cases hv with
  | ag _ qs hl hr=>exact mM (qs:=qs) ⟨hl,hr⟩ h x (by simpa [bg] using hx)
 | .tup cs,q,l,hv,h,x,hx=>by
  cases hv with
  | tup _ qs hl hr=>exact mM (qs:=qs) ⟨hl,hr⟩ h x (by simpa [bg] using hx)
 | .fn f ps qs,q,l,hv,h,x,hx=>by
  cases hv with
  | fn _ _ _ ps' qs' hl hr hl2 hr2 =>
   simp only [wN] at h
   split at h
   ·rename_i a b ha hb
    injection h with h
    subst h
    simp only [bg,List.mem_append] at hx ⊢
    rcases hx with hx | hx
    ·exact .inl (mM (qs:=ps') ⟨hl,hr⟩ ha x hx)
    ·exact .inr (mM (qs:=qs') ⟨hl2,hr2⟩ hb x hx)
   ·cases h
theorem mM {B:List (Nat×Option aW)} : ∀ {cs:List SV} {qs:List PV} {l:List Nat},ca B cs qs→rh cs=some l→∀ x∈bL qs,x∈l
 | [],qs,l,hv,h,x,hx=>by
  rcases hv.cases with ⟨_,rfl⟩ | ⟨_,_,_,_,h1,_⟩
  ·simp [bL] at hx
  ·cases h1
 | c::cs,qs,l,hv,h,x,hx=>by
  rcases hv.cases with ⟨h1,_⟩ | ⟨c',q,cs',qs',h1,rfl,h2,h3⟩
  ·cases h1
  ·injection h1 with e1 e2
   subst e1 e2
   simp only [rh] at h
   split at h
   ·rename_i a b ha hb
    injection h with h
    subst h
    simp only [bL,List.mem_append] at hx ⊢
    rcases hx with hx | hx
    ·exact .inl (pH h2 ha x hx)
    ·exact .inr (mM h3 hb x hx)
   ·cases h
end
theorem MA {o:Oper} {s:SS} {p:PS} {l:List Nat} (hs:Sim s p) (h:Sj o s=some l) : ∀ x∈pP o p,x∈l:=by
 unfold Sj at h
 unfold pP
 split at h <;> rename_i ho <;> simp only [ho]
 ·exact pH (bZ hs _) h
 ·exact pH (bZ hs _) h
 ·exact pH (bZ hs _) h
 ·exact pH (bZ hs _) h
 ·exact pH (bZ hs _) h
 ·rename_i c
  split at h
  ·rename_i f hf
   simp only [hf]
   split at h
   ·rename_i a b ha hb
    injection h with h
    subst h
    intro x hx
    rcases List.mem_append.1 hx with hx | hx
    ·exact List.mem_append_left _ (pH (bZ hs f) ha x hx)
    ·exact List.mem_append_right _ (mM (n7 hs c.args.toList) hb x hx)
   ·cases h
  ·rename_i hf
   split
   ·rename_i f hf2
    exact absurd hf2 (hf f)
   ·exact mM (n7 hs c.args.toList) h
 ·intro x hx
  simp at hx
theorem rT:∀ {l m:List Nat},OB l m=true→∀ x∈l,fw.memL m x=true
 | [],m,_,x,hx=>by cases hx
 | a::l,m,h,x,hx=>by
  simp only [OB] at h
  split at h
  ·rename_i ha
   rcases List.mem_cons.1 hx with rfl | hx
   ·exact ha
   ·exact rT h x hx
  ·cases h
theorem Ia:∀ {l:List Nat} {x:Nat},fw.memL l x=true→x∈l
 | [],x,h=>by cases h
 | a::l,x,h=>by
  rw [AX,Bool.or_eq_true] at h
  rcases h with h | h
  ·have:=zd h; subst this; simp
  ·exact List.mem_cons_of_mem _ (Ia h)
theorem MB {B:List Bd} {i:Nat} {o:Oper} {s:SS} {p:PS} {u:Upd} {w:Option (Nat×Box)} (hs:Sim s p) (hw:OkW s o.dst u w) {q:Bool} (h:It q B i o s u=true) : q=false→fw ops o p w.toList (yE B i):=by
 intro hq
 subst hq
 unfold It at h
 simp only at h
 split at h
 ·rename_i fs hf
  rw [Bool.and_eq_true] at h
  refine ⟨fun _ x hx=>rT h.1 x (MA hs hf x hx),fun x Bx hx=>?_⟩
  cases w with
  | none=>cases hx
  | some y =>
   obtain ⟨t,b⟩:=y
   simp only [Option.toList,lkU] at hx
   split at hx
   ·rename_i e
    subst e
    exact rT h.2 x (Ia (hw x b rfl).2)
   ·cases hx
 ·cases h
theorem WS {B:List Bd} {i:Nat} {o:Oper} {s:SS} {p:PS} {m:MU} {u:BU} (hs:Sim s p) (hw:∀ t Bx,lkU u t=some Bx→t∈idU m.us) {q:Bool} (h:Sk q B i o s m=true) : q=false→fw ops o p u (yE B i):=by
 intro hq
 subst hq
 unfold Sk at h
 simp only at h
 split at h
 ·rename_i fs hf
  rw [Bool.and_eq_true] at h
  exact ⟨fun _ x hx=>rT h.1 x (MA hs hf x hx),fun x Bx hx=>rT h.2 x (hw x Bx hx)⟩
 ·cases h
theorem dj:∀ (a b:List Nat) (i:Nat),aA (a++b) i=(aA a i||aA b i)
 | [],b,i=>rfl
 | j::a,b,i=>by
  simp only [List.cons_append,aA,dj a b i]
  split <;> simp
theorem aZ (j:Nat) (l:List Nat) (i:Nat) : aA (j::l) i=(decide (i=j)||aA l i):=by
 simp only [aA,cY]
 by_cases h:i=j
 ·simp [h]
 ·simp [h]
theorem DR:∀ {g:Nat} {l a b:List Oper} {d:Nat},RA g l=some (a,d,b)→l=a++b∧∃ o∈a,o.dst=some d
 | g,[],a,b,d,h=>by cases h
 | g,o::l,a,b,d,h=>by
  simp only [RA] at h
  split at h
  ·rename_i d' hd
   injection h with h
   injection h with h1 h2
   injection h2 with h2 h3
   subst h1 h2 h3
   refine ⟨rfl,o,List.mem_cons_self,?_⟩
   split at hd
   ·rename_i g' d2 e1 e2 hdst
    split at hd
    ·injection hd with hd; subst hd; exact hdst
    ·cases hd
   ·cases hd
  ·split at h
   ·rename_i a' d' b' h'
    injection h with h
    injection h with h1 h2
    injection h2 with h2 h3
    subst h1 h2 h3
    obtain ⟨h4,o',h5,h6⟩:=DR h'
    exact ⟨by rw [h4]; rfl,o',List.mem_cons_of_mem _ h5,h6⟩
   ·cases h
theorem tE:∀ {l:List Oper} {o:Oper} {d:Nat},o∈l→o.dst=some d→aA (ci l) d=true
 | [],o,d,h,_=>by cases h
 | x::l,o,d,h,hd=>by
  rcases List.mem_cons.1 h with rfl | h
  ·simp only [ci,hd,aZ,decide_true,Bool.true_or]
  ·have:=tE h hd
   simp only [ci]
   split
   ·simp [aZ,this]
   ·exact this
theorem Bh:∀ {l:List Oper} {d:Nat},aA (ci l) d=true→∃ o∈l,o.dst=some d
 | [],d,h=>by cases h
 | x::l,d,h=>by
  simp only [ci] at h
  split at h
  ·rename_i d' hd'
   rw [aZ,Bool.or_eq_true] at h
   rcases h with h | h
   ·have:=zd h
    subst this
    exact ⟨x,List.mem_cons_self,hd'⟩
   ·obtain ⟨o,h1,h2⟩:=Bh h
    exact ⟨o,List.mem_cons_of_mem _ h1,h2⟩
  ·obtain ⟨o,h1,h2⟩:=Bh h
   exact ⟨o,List.mem_cons_of_mem _ h1,h2⟩
theorem xL:∀ (a b:List Oper),ci (a++b)=ci a++ci b
 | [],b=>rfl
 | o::a,b=>by
  simp only [List.cons_append,ci,xL a b]
  split <;> rfl
theorem uP:∀ (ds:List Nat) (l:List (Nat×SV)) (i:Nat),lkV (o8 ds l) i=if aA ds i=true then .junk else lkV l i
 | [],l,i=>by simp [o8,aA]
 | d::ds,l,i=>by
  simp only [o8,cW,uP ds l i,aZ]
  by_cases h:i=d
  ·simp [h]
  ·simp [h]
structure Fr (l:List Oper) (s:SS) (p p':PS) : Prop where
 t:s.ro=true→∀ i,aA (ci l) i=false→p'.t i=p.t i
 b:s.ro=true→∀ t,(lkB s.bx t≠none∨aA (ci l) t=false)→p'.b t=p.b t
theorem ZT {s:SS} {dst:Option Nat} {v:SV} {u:Upd} {t:Nat} (h:lkB s.bx t≠none) : lkB (s.upd dst v u).bx t≠none:=by
 cases u with
 | no=>exact h
 | grow t' b =>
  show lkB ((t',some b)::oq t' s.bx) t≠none
  rw [ar]
  split
  ·simp
  ·rw [jr]; simpa using h
 | _ =>
  rename_i t' b
  show lkB ((t',some b)::s.bx) t≠none
  rw [ar]
  split
  ·simp
  ·exact h
theorem VI {s:SS} {dst:Option Nat} {v:SV} {u:Upd} : (s.upd dst v u).ro=s.ro:=by cases u <;> rfl
theorem YU {o:Oper} {l:List Oper} {s:SS} {p p':PS} {v:SV} {u:Upd} {q:PV} {w:Option (Nat×Box)} (hw:OkW s o.dst u w) (h:Fr l (s.upd o.dst v u) (p.upd o.dst q w) p') : Fr (o::l) s p p':=by
 have sub:∀ i,aA (ci (o::l)) i=false→aA (ci l) i=false∧o.dst≠some i:=fun i hi=>by
  simp only [ci] at hi
  split at hi
  ·rename_i d hd
   rw [aZ,Bool.or_eq_false_iff] at hi
   refine ⟨hi.2,fun e=>?_⟩
   rw [hd] at e
   injection e with e
   have:=of_decide_eq_false hi.1
   exact this e.symm
  ·rename_i hd
   exact ⟨hi,fun e=>by rw [hd] at e; cases e⟩
 refine ⟨fun hro i hi=>?_,fun hro t ht=>?_⟩
 ·obtain ⟨h1,h2⟩:=sub i hi
  rw [h.t (by rw [VI]; exact hro) i h1]
  simp only [PS.upd,xg,if_neg h2]
 ·have hb:(p.upd o.dst q w).b t=p.b t:=by
   show cP p.b w t=p.b t
   unfold cP
   split
   ·rename_i j Bx
    rcases (hw j Bx rfl).1 with ⟨h1,h2⟩ | h1
    ·split
     ·rename_i e
      subst e
      rcases ht with ht | ht
      ·exact absurd h1 ht
      ·exact absurd h2 (sub t ht).2
     ·rfl
    ·rw [hro] at h1; cases h1
   ·rfl
  rw [h.b (by rw [VI]; exact hro) t (ht.imp ZT fun ht=>(sub t ht).1),hb]
def Gz (sc W:List Nat) (l:List Oper) (s:SS) (p:PS) {ρ : Type} (k:SS→Option ρ) (res : ρ) (p':PS) : Prop:=∃ s',Sim s' p'∧dK sc W s s'∧ml s'∧k s' = some res∧Fr l s p p'
theorem AP {W:List Nat} {o:Oper} {l:List Oper} {s:SS} {p p':PS} {ρ : Type} {k:SS→Option ρ} {res : ρ} {v:SV} {u:Upd} {q:PV} {w:Option (Nat×Box)} (hW:∀ d,o.dst=some d→aA W d=true) (hpr:ml s) (hu:OkU s u) (hw:OkW s o.dst u w)
  (h:Gz sc W l (s.upd o.dst v u) (p.upd o.dst q w) k res p') : Gz sc W (o::l) s p k res p':=by
 obtain ⟨s',h1,h2,h3,h4,h5⟩:=h
 exact ⟨s',h1,(yM hu hW hpr).trans h2,h3,h4,YU hw h5⟩
theorem OV {W:List Nat} {f:Nat} {qs:List PV} {o:Oper} {l:List Oper} {s:SS} {p p':PS} {ρ : Type} {k:SS→Option ρ} {res : ρ} {v:SV} {m:MU} {r:PV} {u:BU} (hW:∀ d,o.dst=some d→aA W d=true) (hR:ZN sc P f o.dst s p qs v m r u)
  (h:Gz sc W l (s.updM o.dst v m) (p.updL o.dst r u) k res p') : Gz sc W (o::l) s p k res p':=by
 obtain ⟨s',h1,h2,h3,h4,h5⟩:=h
 exact ⟨s',h1,(hR.keep W hW).trans h2,h3,h4,fun hro=>(by rw [hR.ro] at hro; cases hro),fun hro=>(by rw [hR.ro] at hro; cases hro)⟩
theorem Yy {q:Bool} {o:Oper} {s s':SS} {p:PS} (hpr:ml s) (hs:Sim s p) (h:Yz q T o s=some s') : ∃ p',LeQ q p p'∧Sim s' p'∧(∀ W,dK sc W s s')∧(s.ro=true→s' = s∧p' = p)∧(o.guard=none∨p' = p):=by
 have triv:s' = s→∃ p',LeQ q p p'∧Sim s' p'∧(∀ W,dK sc W s s')∧(s.ro=true→s' = s∧p' = p)∧(o.guard=none∨p' = p):=fun e=>by
  subst e; exact ⟨p,.refl _ _,hs,fun W=>.refl W s',fun _=>⟨rfl,rfl⟩,.inr rfl⟩
 unfold Yz at h
 split at h
 ·rename_i hro hg
  have froz:∀ {l:List Nat},lz l s=some s'→∃ p',LeQ true p p'∧Sim s' p'∧(∀ W,dK sc W s s')∧(s.ro=true→s' = s∧p' = p)∧(o.guard=none∨p' = p):=fun h=>by
   obtain ⟨p',k1,k2,k3,k4⟩:=xF (sc:=sc) hpr hs h
   exact ⟨p',k1,k2,k3,fun h=>(by rw [hro] at h; cases h),.inl hg⟩
  split at h
  ·exact froz h
  ·split at h
   ·split at h
    ·split at h
     ·exact froz h
     ·split at h
      ·injection h with h; exact triv h.symm
      ·exact froz h
    ·injection h with h; exact triv h.symm
   ·injection h with h; exact triv h.symm
  ·injection h with h; exact triv h.symm
 ·injection h with h; exact triv h.symm
theorem Eg {W:List Nat} {l:List Oper} {s s1:SS} {p p1 p':PS} {ρ : Type} {k:SS→Option ρ} {res : ρ} (hk:dK sc W s s1) (hro:s.ro=true→s1=s∧p1=p) (h:Gz sc W l s1 p1 k res p') : Gz sc W l s p k res p':=by
 obtain ⟨s',h1,h2,h3,h4,h5⟩:=h
 refine ⟨s',h1,hk.trans h2,h3,h4,fun hr=>?_,fun hr=>?_⟩
 ·obtain ⟨e1,e2⟩:=hro hr
  subst e1 e2
  exact h5.t hr
 ·obtain ⟨e1,e2⟩:=hro hr
  subst e1 e2
  exact h5.b hr
theorem Dm {q:Bool} {B:List Bd} (hT:qZ P T) {W:List Nat} : ∀ (n i:Nat) (kn:List Nat) (l:List Oper) {ρ : Type} {s:SS} {p:PS} {k:SS→Option ρ} {res : ρ},(∀ o∈l,∀ d,o.dst=some d→aA W d=true)→(∀ (j:Nat) (o:Oper),ops[j]? = some o→∀ d,o.dst=some d→aA W d=true) →
  (∀ o∈l,∀ t x y,o.op = .store t x y→o.dst=none)→ml s→Sim s p→uC q P T ops B n i kn l s k=some res→wy q P ops (yE B) i l p (Gz sc W l s p k res):=by
 intro n
 induction n with
 | zero =>
  intro i kn l ρ s p k res hW hO hst hpr hs h
  cases l with
  | nil=>exact ⟨s,hs,.refl _ _,hpr,h,fun _ _ _=>rfl,fun _ _ _=>rfl⟩
  | cons o l=>cases h
 | succ n ih =>
  intro i kn l ρ s p k res hW hO hst hpr hs h
  cases l with
  | nil=>exact ⟨s,hs,.refl _ _,hpr,h,fun _ _ _=>rfl,fun _ _ _=>rfl⟩
  | cons o l =>
   have hWo:=hW o List.mem_cons_self
   have hWl:∀ o∈l,∀ d,o.dst=some d→aA W d=true:=fun o ho=>hW o (List.mem_cons_of_mem _ ho)
   have hstl:∀ o∈l,∀ t x y,o.op = .store t x y→o.dst=none:=fun o ho=>hst o (List.mem_cons_of_mem _ ho)
   have goOk:kx ops o p=some true→(match Yz q T o s with
     | none=>none
     | some s=>(match u7 o with
      | some (x,xs)=>(match evX s x with
       | .fn f ps qs=>(match TC T f (ps++wv s xs++qs) with
        | false=>chk (It q B i o s .no) (SG T f s (ps++wv s xs++qs) fun r=>uC q P T ops B n (i + 1) kn l (s.upd o.dst r .no) k)
        | true=>SH T f s o.dst (ps++wv s xs++qs) fun v m=>chk (Sk q B i o s m) (uC q P T ops B n (i + 1) kn l (s.updM o.dst v m) k))
       | _=>none)
      | none=>Y5 P o s fun v u=>chk (It q B i o s u) (uC q P T ops B n (i + 1) kn l (s.upd o.dst v u) k)))=some res→wy q P ops (yE B) i (o::l) p (Gz sc W (o::l) s p k res):=by
    intro hg h
    split at h
    ·cases h
    ·rename_i s1 hfz
     obtain ⟨p1,hle,hs1,hk1,hro,hgn⟩:=Yy (sc:=sc) hpr hs hfz
     have hg1:kx ops o p1=some true:=by
      rcases hgn with hgn | hgn
      ·simp [kx,hgn]
      ·rw [hgn]; exact hg
     have hpr1:ml s1:=(hk1 []).prOk hpr
     have mk:∀ {r:PV} {u:BU},Ln P o p1 r u→Eff P ops o p1 r u:=fun h=>by unfold Eff; rw [hg1]; exact h
     split at h
     ·rename_i x xs hc
      have hx:=bZ hs1 x
      split at h
      rotate_left
      ·cases h
      rename_i f ps qs hev
      rw [hev] at hx
      obtain ⟨ps',qs',e1,e2,e3⟩:=Zt hx
      split at h
      rotate_left
      ·rename_i hM
       obtain ⟨v,m,r,u,h,hR⟩:=Xn (sc:=sc) hT hpr1 hs1 hM ((e2.append (n7 hs1 xs)).append e3) h
       obtain ⟨hfb,h⟩:=ao h
       refine ⟨p1,hle,r,u,mk ?_,WS hs1 hR.foot hfb,?_⟩
       ·unfold Ln
        simp only [hc,e1,CJ]
        exact .inr hR.call
       exact fS (ih (i + 1) kn l hWl hO hstl ((hR.keep W hWo).prOk hpr1) hR.sim h) fun p' hp=>Eg (hk1 W) hro (OV hWo hR hp)
      rename_i hM
      obtain ⟨hfb,h⟩:=ao h
      obtain ⟨v,r,h1,h2,h3⟩:=Xl hT hs1 hM ((e2.append (n7 hs1 xs)).append e3) h
      refine ⟨p1,hle,r,[],mk ?_,MB (w:=none) hs1 dV hfb,?_⟩
      ·unfold Ln
       simp only [hc,e1,CJ]
       exact .inl ⟨trivial,h1⟩
      have hs':Sim (s1.upd o.dst v .no) (p1.upd o.dst r none):=lg hs1 h3
      rw [show ([] : BU)=(none:Option (Nat×Box)).toList from rfl,DS]
      exact fS (ih (i + 1) kn l hWl hO hstl ((yM (sc:=sc) (u:=.no) trivial hWo hpr1).prOk hpr1) hs' h2) fun p' hp=>Eg (hk1 W) hro (AP (u:=.no) hWo hpr1 trivial dV hp)
     ·rename_i hc
      obtain ⟨v,u,qv,w,h1,h2,h3,h4,h5⟩:=Y4 hs1 (hst o List.mem_cons_self) h
      obtain ⟨hfb,h2⟩:=ao h2
      refine ⟨p1,hle,qv,w.toList,mk ?_,MB hs1 h5 hfb,?_⟩
      ·unfold Ln
       simp only [hc]
       exact ⟨w,h1,rfl⟩
      rw [DS]
      exact fS (ih (i + 1) kn l hWl hO hstl ((yM (sc:=sc) h4 hWo hpr1).prOk hpr1) h3 h2) fun p' hp=>Eg (hk1 W) hro (AP hWo hpr1 h4 h5 hp)
   have skipOk:kx ops o p=some false→uC q P T ops B n (i + 1) kn l (s.upd o.dst (.tup []) .no) k=some res→wy q P ops (yE B) i (o::l) p (Gz sc W (o::l) s p k res):=by
    intro hg h
    refine ⟨p,.refl _ _,.tup [],[],by unfold Eff; rw [hg]; exact ⟨rfl,rfl⟩,fun _=>⟨fun h=>(by rw [hg] at h; cases h),fun x Bx h=>(by cases h)⟩,?_⟩
    rw [show ([] : BU)=(none:Option (Nat×Box)).toList from rfl,DS]
    have hs':Sim (s.upd o.dst (.tup []) .no) (p.upd o.dst (.tup []) none):=lg hs (.tup [] [] rfl (fun j c q h=>by simp at h))
    exact fS (ih (i + 1) kn l hWl hO hstl ((yM (sc:=sc) (u:=.no) trivial hWo hpr).prOk hpr) hs' h) fun p' hp=>AP (u:=.no) hWo hpr trivial dV hp
   unfold uC at h
   simp only at h
   split at h
   ·rename_i hg
    exact goOk (by simp [kx,hg]) h
   ·rename_i j want hg
    split at h
    ·cases h
    ·rename_i g hgd
     have hsg:=hs.sl g
     split at h
     ·rename_i hv
      rw [hv] at hsg
      obtain ⟨qs,h1,h2⟩:=VF hsg
      have:qs = []:=by have:=h2.len; simpa using this.symm
      subst this
      exact skipOk (by simp [kx,hg,hgd,h1]) h
     ·rename_i b hv
      rw [hv] at hsg
      have hpg:=kY hsg
      have hgb:kx ops o p=some (b==want):=by simp [kx,hg,hgd,hpg,asB]
      split at h
      ·split at h
       ·split at h
        ·exact goOk (by rw [hgb]; rfl) h
        ·exact skipOk (by rw [hgb]; rfl) h
       ·split at h
        ·exact skipOk (by rw [hgb]; rfl) h
        ·exact goOk (by rw [hgb]; rfl) h
      ·split at h
       ·cases h
       ·rename_i l1 d l2 hup
        obtain ⟨h1,o1,h2,h3⟩:=DR hup
        obtain ⟨qb,h4,h5⟩:=cN h
        have hg0:∃ o',ops[j]? = some o'∧o'.dst=some g:=by
         cases ho:ops[j]? with
         | none=>simp [ho] at hgd
         | some o'=>exact ⟨o',rfl,by simpa [ho] using hgd⟩
        obtain ⟨o',ho',hdo'⟩:=hg0
        have hWg:aA W g=true:=hO j o' ho' g hdo'
        rw [h1]
        have hW1:∀ o∈l1,∀ d,o.dst=some d→aA W d=true:=fun o ho=>hW o (by rw [h1]; exact List.mem_append_left _ ho)
        have hW2:∀ o∈l2,∀ d,o.dst=some d→aA W d=true:=fun o ho=>hW o (by rw [h1]; exact List.mem_append_right _ ho)
        have hst1:∀ o∈l1,∀ t x y,o.op = .store t x y→o.dst=none:=fun o ho=>hst o (by rw [h1]; exact List.mem_append_left _ ho)
        have hst2:∀ o∈l2,∀ t x y,o.op = .store t x y→o.dst=none:=fun o ho=>hst o (by rw [h1]; exact List.mem_append_right _ ho)
        have hsb:Sim ⟨(g,.d (.bool b))::s.sl,s.bx,s.pr,true,s.oc⟩ p:=by
         refine ⟨fun i=>?_,hs.bx⟩
         show bf s.bx (lkV ((g,.d (.bool b))::s.sl) i) (p.t i)
         rw [cW]
         split
         ·rename_i e; subst e; exact hsg
         ·exact hs.sl i
        have hA:wy q P ops (yE B) i l1 p (Gz sc W l1 ⟨(g,.d (.bool b))::s.sl,s.bx,s.pr,true,s.oc⟩ p (Di d) qb):=by
         cases b
         ·exact ih i (g::kn) l1 hW1 hO hst1 hpr hsb (by simpa using h4)
         ·exact ih i (g::kn) l1 hW1 hO hst1 hpr hsb (by simpa using h4)
        refine B5 (fS hA fun p1 hp1=>?_)
        obtain ⟨s1,k1,k2,k3,k4,k5⟩:=hp1
        have hd:aA (ci l1) d=true:=tE h2 h3
        have hpd:p1.t d = .d (.v (.bool qb)):=by
         have:=k1.sl d
         unfold Di at k4
         split at k4
         ·rename_i b' hb'
          injection k4 with k4
          subst k4
          rw [hb'] at this
          exact kY this
         ·cases k4
        have hs2:Sim ⟨(d,.d (.bool qb))::o8 (ci l1) s.sl,s.bx,s.pr,s.ro,ci l1++s.oc⟩ p1:=by
         refine ⟨fun i=>?_,fun t=>?_⟩
         ·show bf s.bx (lkV ((d,.d (.bool qb))::o8 (ci l1) s.sl) i) (p1.t i)
          rw [cW]
          split
          ·rename_i e; subst e; rw [hpd]; exact eY qb
          ·rw [uP]
           split
           ·exact .junk _
           ·rename_i hi
            rw [k5.t rfl i (by simpa using hi)]
            exact hs.sl i
         ·show mq s.bx (aA (ci l1++s.oc) t) (lkB s.bx t) (p1.b t)
          have hbt:=hs.bx t
          cases hl:lkB s.bx t with
          | none =>
           rw [hl] at hbt
           intro hoc
           rw [dj,Bool.or_eq_false_iff] at hoc
           rw [k5.b rfl t (.inr hoc.1)]
           exact hbt hoc.2
          | some bx =>
           rw [hl] at hbt
           rw [k5.b rfl t (.inl (by show lkB s.bx t≠none; rw [hl]; simp))]
           cases bx <;> exact hbt
        have hk2:dK sc W s ⟨(d,.d (.bool qb))::o8 (ci l1) s.sl,s.bx,s.pr,s.ro,ci l1++s.oc⟩:=by
         refine ⟨rfl,rfl,fun _ _=>.refl _,fun i hi _=>?_,fun _ _ _ cs h=>⟨cs,h,rfl⟩⟩
         show lkV ((d,.d (.bool qb))::o8 (ci l1) s.sl) i = _
         rw [cW,if_neg (fun e=>by rw [e,hW1 o1 h2 d h3] at hi; cases hi),uP]
         rw [if_neg (fun e=>by
          obtain ⟨o2,m1,m2⟩:=Bh e
          rw [hW1 o2 m1 i m2] at hi
          cases hi)]
        refine fS (ih (i + l1.length) kn l2 hW2 hO hst2 (hk2.prOk hpr) hs2 h5) fun p2 hp2=>?_
        obtain ⟨s3,m1,m2,m3,m4,m5⟩:=hp2
        refine ⟨s3,m1,hk2.trans m2,m3,m4,fun hro i hi=>?_,fun hro t ht=>?_⟩
        ·rw [xL,dj,Bool.or_eq_false_iff] at hi
         rw [m5.t hro i hi.2,k5.t rfl i hi.1]
        ·rw [xL,dj,Bool.or_eq_false_iff] at ht
         rw [m5.b hro t (ht.imp id fun h=>h.2),k5.b rfl t (ht.imp id fun h=>h.1)]
     ·cases h
end
theorem TA {p:PS} (i e k:Nat) (ht:p.t i = .d (.v (.slice none 0 0))) (hb:p.b i=none) (hi0:i < 1000000) (hk : 0 < k) : Le p (p.upd (some i) (.row i 0) (some (i,.rw e k []))):=by
 intro n w0 F0 a w ⟨h1,h2,ρ,F,hi,hev⟩
 have hx:=(hev i)
 rw [ht] at hx
 obtain ⟨hx,_⟩:=hx.vv
 have hnew:=Ev (P:=default) (t:=i) (e:=e) (k:=k) (es:=[]) (xs:=[]) (v:=.slice none 0 0) (w':=w) hi hi0 hb hk (Ext.refl w) (fun g hg=>by cases hg) (World.ownsRow_nil w _ e k) (by simp) rfl (by simp)
 obtain ⟨v,w',ρ',hok,k1,k2,k3⟩:=hnew
 injection hok with e1 e2
 subst e1 e2
 refine ⟨h1,h2,ρ',F,k1,fun j=>?_⟩
 by_cases hj:i=j
 ·subst hj
  rw [hx]
  simpa [PS.upd,xg] using k3
 ·have:(p.upd (some i) (.row i 0) (some (i,.rw e k []))).t j=p.t j:=by simp [PS.upd,xg,hj]
  rw [this]
  exact (hev j).mono k2
theorem O8 {p:PS} (i t j e k:Nat) {ty:TypeId} {cs:List PV} (hb:p.b t=some (.st ty cs)) (hc:cs[j]? = some (.d (.v (.slice none 0 0)))) (hi:p.b i=none) (hi0:i < 1000000) (hk : 0 < k) :
  Le p ⟨p.t,cP (cP p.b (some (i,.rw e k []))) (some (t,.st ty (cs.set j (.row i 0))))⟩:=by
 intro n w0 F0 a w ⟨h1,h2,ρ,F,hinv,hev⟩
 have hnew:=Ev (P:=default) (t:=i) (e:=e) (k:=k) (es:=[]) (xs:=[]) (v:=.slice none 0 0) (w':=w) hinv hi0 hi hk (Ext.refl w) (fun g hg=>by cases hg) (World.ownsRow_nil w _ e k) (by simp) rfl (by simp)
 obtain ⟨v,w',ρ',hok,k1,k2,k3⟩:=hnew
 injection hok with e1 e2
 subst e1 e2
 have hti:t≠i:=fun e=>by rw [e,hi] at hb; cases hb
 have hb1:(cP p.b (some (i,.rw e k []))) t=some (.st ty cs):=by rw [cp _ _ hti]; exact hb
 have hs2:Stp ρ' (cP p.b (some (i,.rw e k []))) w F ρ' (cP (cP p.b (some (i,.rw e k []))) (some (t,.st ty (cs.set j (.row i 0))))) w F:=by
  refine ⟨fun _ h=>h,fun _ _=>rfl,fun t' ty' cs' h=>⟨?_,rfl⟩,fun t' e' k' es h=>?_⟩
  ·by_cases h':t' = t
   ·subst h'; rw [cX]; exact ⟨_,_,rfl⟩
   ·rw [cp _ _ h']; exact ⟨_,_,h⟩
  ·have h':t'≠t:=fun e=>by rw [e,hb1] at h; cases h
   rw [cp _ _ h']
   exact ⟨e',es,h,Nat.le_refl _,fun _=>rfl⟩
 have hinv2:Inv w0 F0 ρ' (cP (cP p.b (some (i,.rw e k []))) (some (t,.st ty (cs.set j (.row i 0))))) w F:=by
  have hs3:=hs2
  rw [← de ρ' t] at hs3
  have:=Inv.turn (v:=ρ' t) (B':=.st ty (cs.set j (.row i 0))) (w':=w) k1 hb1 (by rw [de] at hs3 ⊢; exact hs2) k1.ext (Nat.le_refl _) (fun _ _ _=>rfl) (fun g hg=>.inl hg) ?_
  ·rw [de] at this; exact this
  ·rw [de]
   cases k1.box t _ hb1 with
   | st _ _ g xs hρ hg hF hh hl h1x hr =>
    refine .st ty _ g xs hρ hg hF hh (by rw [List.length_set]; exact hl) h1x (fun p x c h4 h5=>?_)
    rw [List.getElem?_set] at h5
    split at h5
    ·rename_i hjp
     subst hjp
     split at h5
     ·injection h5 with h5
      subst h5
      have hx:=hr j x _ h4 hc
      obtain ⟨hx,_⟩:=hx.vv
      rw [hx]
      exact k3.mono hs2
     ·cases h5
    ·exact (hr p x c h4 h5).mono hs2
 exact ⟨h1,h2,ρ',F,hinv2,fun q=>((hev q).mono k2).mono hs2⟩
theorem BLe.trans {B B' B'':List (Nat×Option aW)} (h:BLe B B') (h':BLe B' B'') : BLe B B'':=by
 refine ⟨fun t e k ty xs pins h1=>?_,fun t ty cs h1=>?_⟩
 ·obtain ⟨e1,k1,ty1,xs1,pins1,h2,h3,h4⟩:=h.rw t e k ty xs pins h1
  obtain ⟨e2,k2,ty2,xs2,pins2,h5,h6,h7⟩:=h'.rw t e1 k1 ty1 xs1 pins1 h2
  refine ⟨e2,k2,ty2,xs2,pins2,h5,h6.trans h3,fun p pin hp=>?_⟩
  obtain ⟨pin1,h8,h9⟩:=h4 p pin hp
  obtain ⟨pin2,h10,h11⟩:=h7 p pin1 h8
  exact ⟨pin2,h10,h11.trans h9⟩
 ·obtain ⟨ty1,cs1,h2⟩:=h.st t ty cs h1
  exact h'.st t ty1 cs1 h2
theorem YM {B:List (Nat×Option aW)} {b:Nat} {x:Option aW} (h:lkB B b=x) (t:Nat) : lkB ((b,x)::B) t=lkB B t:=by
 rw [ar]
 split
 ·rename_i e; subst e; exact h.symm
 ·rfl
theorem bf.lk {B B':List (Nat×Option aW)} (h:∀ t,lkB B' t=lkB B t) {v:SV} {q:PV} (hv:bf B v q) : bf B' v q :=
 hv.mono ⟨fun t e k ty xs pins h1=>⟨e,k,ty,xs,pins,by rw [h]; exact h1,rfl,fun _ pin hp=>⟨pin,hp,rfl⟩⟩,fun t ty cs h1=>⟨ty,cs,by rw [h]; exact h1⟩⟩
theorem mq.lk {B B':List (Nat×Option aW)} (h:∀ t,lkB B' t=lkB B t) {o:Bool} {b:Option aW} {q:Option Box} (hv:mq B o b q) : mq B' o b q :=
 hv.mono ⟨fun t e k ty xs pins h1=>⟨e,k,ty,xs,pins,by rw [h]; exact h1,rfl,fun _ pin hp=>⟨pin,hp,rfl⟩⟩,fun t ty cs h1=>⟨ty,cs,by rw [h]; exact h1⟩⟩
theorem Sim.lk {sl:List (Nat×SV)} {B B':List (Nat×Option aW)} {pr oc:List Nat} {ro:Bool} {p:PS} (h:∀ t,lkB B' t=lkB B t) (hs:Sim ⟨sl,B,pr,ro,oc⟩ p) : Sim ⟨sl,B',pr,ro,oc⟩ p :=
 ⟨fun i=>(hs.sl i).lk h,fun t=>by show mq B' _ (lkB B' t) _; rw [h]; exact (hs.bx t).lk h⟩
theorem uK {s:SS} {b:Nat} {ty:TypeId} : ∀ {rows:List (Nat×Nat×Nat×Nat×Ty)} {cs cs':List SV} {bx bx':List (Nat×Option aW)} {p:PS},(∃ x,lkB bx b=some x)→Sim ⟨s.sl,(b,some (.st ty cs))::bx,s.pr,s.ro,[]⟩ p→uL s rows cs bx=some (cs',bx') →
  ∃ p',Le p p'∧Sim ⟨s.sl,(b,some (.st ty cs'))::bx',s.pr,s.ro,[]⟩ p'∧(∀ t,aA s.pr t=true→lkB bx' t=lkB bx t)∧cs'.length=cs.length∧∀ t x,lkB bx t=some x→lkB bx' t=some x
 | [],cs,cs',bx,bx',p,_,hs,h=>by
  injection h with h
  injection h with e1 e2
  subst e1 e2
  exact ⟨p,.refl p,hs,fun _ _=>rfl,rfl,fun _ _ h=>h⟩
 | (j,R,e,k,t)::l,cs,cs',bx,bx',p,hb,hs,h=>by
  simp only [uL] at h
  split at h
  ·rename_i hj
   split at h
   ·rename_i hR hk hp
    have hk:=zd hk
    obtain ⟨xb,hxb⟩:=hb
    have hRb : ¬ R=b:=fun e=>by rw [e,hxb] at hR; cases hR
    have hbx:=hs.bx b
    have hbx:mq ((b,some (.st ty cs))::bx) (aA [] b) (lkB ((b,some (.st ty cs))::bx) b) (p.b b):=hbx
    rw [ar,if_pos rfl] at hbx
    obtain ⟨qs,h1,h2⟩:=hbx
    have hRn:lkB ((b,some (.st ty cs))::bx) R=none:=by rw [ar,if_neg hRb]; exact hR
    have hpR:p.b R=none:=by
     have h3:=hs.bx R
     have h3:mq ((b,some (.st ty cs))::bx) (aA [] R) (lkB ((b,some (.st ty cs))::bx) R) (p.b R):=h3
     rw [hRn] at h3
     exact h3 rfl
    have hlt:j < qs.length:=by rw [← h2.len]; exact (zg.1 hj).1
    have hqj:qs[j]? = some (.d (.v (.slice none 0 0))):=by
     have h3:qs[j]? = some qs[j]:=by simp [hlt]
     rw [h3,Ry (h2.rep j _ _ hj h3)]
    have hle:=O8 R b j e k h1 hqj hpR hk.2 hk.1
    have hB1:BLe ((b,some (.st ty cs))::bx) ((R,some (.rw e k t [] []))::(b,some (.st ty cs))::bx):=qY hRn
    have hB2:BLe ((R,some (.rw e k t [] []))::(b,some (.st ty cs))::bx) ((b,some (.st ty (cs.set j (.row R))))::(R,some (.rw e k t [] []))::(b,some (.st ty cs))::bx):=PE (ty:=ty) (cs:=cs) (by rw [ar,if_neg (fun e=>hRb e.symm),ar,if_pos rfl])
    have hB:=hB1.trans hB2
    have hsame:∀ t',lkB ((b,some (.st ty (cs.set j (.row R))))::(R,some (.rw e k t [] []))::bx) t' = lkB ((b,some (.st ty (cs.set j (.row R))))::(R,some (.rw e k t [] []))::(b,some (.st ty cs))::bx) t':=fun t'=>by
     simp only [ar]
     split
     ·rfl
     ·rename_i h'; split
      ·rfl
      ·rfl
    have hs1:Sim ⟨s.sl,(b,some (.st ty (cs.set j (.row R))))::(R,some (.rw e k t [] []))::(b,some (.st ty cs))::bx,s.pr,s.ro,[]⟩ ⟨p.t,cP (cP p.b (some (R,.rw e k []))) (some (b,.st ty (qs.set j (.row R 0))))⟩:=by
     refine ⟨fun i=>(hs.sl i).mono hB,fun t'=>?_⟩
     show mq _ (aA [] t') (lkB ((b,some (.st ty (cs.set j (.row R))))::(R,some (.rw e k t [] []))::(b,some (.st ty cs))::bx) t') (cP (cP p.b (some (R,.rw e k []))) (some (b,.st ty (qs.set j (.row R 0)))) t')
     rw [ar]
     by_cases e1:t' = b
     ·subst e1
      rw [if_pos rfl,cX]
      refine ⟨_,rfl,by simpa using h2.len,fun j' c q m1 m2=>?_⟩
      rw [List.getElem?_set] at m1 m2
      by_cases e2:j=j'
      ·subst e2
       have hlc:j < cs.length:=by rw [h2.len]; exact hlt
       rw [if_pos rfl,if_pos hlc] at m1
       rw [if_pos rfl,if_pos hlt] at m2
       injection m1 with m1
       injection m2 with m2
       subst m1 m2
       exact .row R 0 e k t [] [] (by rw [ar,if_neg hRb,ar,if_pos rfl]) rfl
      ·rw [if_neg e2] at m1 m2
       exact (h2.rep j' c q m1 m2).mono hB
     ·rw [if_neg e1,cp _ _ e1,ar]
      by_cases e2:t' = R
      ·subst e2
       rw [if_pos rfl,cX]
       exact ⟨rfl,fun p pin hp=>by cases hp⟩
      ·rw [if_neg e2,cp _ _ e2]
       exact (hs.bx t').mono hB
    have hs2:=hs1.lk hsame
    obtain ⟨p',k1,k2,k3,k4,k5⟩:=uK (s:=s) (b:=b) (ty:=ty) ⟨xb,by rw [ar,if_neg (fun e=>hRb e.symm)]; exact hxb⟩ hs2 h
    refine ⟨p',hle.trans k1,k2,fun t' ht'=>?_,by rw [k4,List.length_set],fun t' x hx=>k5 t' x ?_⟩
    ·rw [k3 t' ht',ar,if_neg (fun e=>by rw [e,hp] at ht'; cases ht')]
    ·rw [ar,if_neg (fun e=>by rw [e,hR] at hx; cases hx)]; exact hx
   ·cases h
  ·exact uK hb hs h
theorem qR {sc wr:List Nat} : ∀ {ms:List Mod} {s s':SS} {p:PS},s.oc = []→ml s→Sim s p→G0 wr ms s=some s'→∃ p',Le p p'∧Sim s' p'∧dK sc wr s s'∧s'.oc = []
 | [],s,s',p,ho,_,hs,h=>by injection h with h; subst h; exact ⟨p,.refl p,hs,.refl _ _,ho⟩
 | .leaf _ _ :: l,s,s',p,ho,hpr,hs,h=>qR (ms:=l) ho hpr hs h
 | .agg _ _ :: l,s,s',p,ho,hpr,hs,h=>qR (ms:=l) ho hpr hs h
 | .box _ _ _ [] :: l,s,s',p,ho,hpr,hs,h=>qR (ms:=l) ho hpr hs h
 | .box b _ _ (r::rows)::l,s,s',p,ho,hpr,hs,h=>by
  simp only [G0] at h
  split at h
  ·rename_i ty cs hb
   split at h
   ·rename_i cs' bx' hp hn
    have hs0:Sim ⟨s.sl,(b,some (.st ty cs))::s.bx,s.pr,s.ro,[]⟩ p:=by
     have:Sim ⟨s.sl,s.bx,s.pr,s.ro,[]⟩ p:=by rw [← ho]; exact hs
     exact this.lk (YM hb)
    obtain ⟨p1,k1,k2,k3,k4,k5⟩:=uK ⟨_,hb⟩ hs0 hn
    have hk:dK sc wr s ⟨s.sl,(b,some (.st ty cs'))::bx',s.pr,s.ro,s.oc⟩:=by
     refine ⟨rfl,rfl,fun t ht=>?_,fun _ _ _=>rfl,fun t _ ty2 cs2 h2=>?_⟩
     ·show kQ _ (lkB ((b,some (.st ty cs'))::bx') t)
      rw [ar,if_neg (fun e=>by rw [e,hp] at ht; cases ht),k3 t ht]
      exact .refl _
     ·show ∃ cs3,lkB ((b,some (.st ty cs'))::bx') t = _∧_
      rw [ar]
      by_cases e:t=b
      ·rw [e,hb] at h2
       injection h2 with h2
       injection h2 with e1 e2
       subst e1 e2
       rw [if_pos e]
       exact ⟨_,rfl,k4⟩
      ·rw [if_neg e]
       exact ⟨cs2,k5 t _ h2,rfl⟩
    obtain ⟨p2,m1,m2,m3,m4⟩:=qR (ms:=l) (s:=⟨s.sl,(b,some (.st ty cs'))::bx',s.pr,s.ro,s.oc⟩) ho (hk.prOk hpr) (by rw [ho]; exact k2) h
    exact ⟨p2,k1.trans m1,m2,hk.trans m3,m4⟩
   ·cases h
  ·cases h
 | .row i R e k t::l,s,s',p,ho,hpr,hs,h=>by
  simp only [G0] at h
  split at h
  ·rename_i hv
   split at h
   ·rename_i hR hb hk hw hp
    have hk:=zd hk
    have hsi:=hs.sl i
    rw [hv] at hsi
    have hpt:=Ry hsi
    have hpb:p.b i=none:=by
     have:=hs.bx i
     rw [hb] at this
     exact this (by rw [ho]; rfl)
    have hle:=TA (p:=p) i e k hpt hpb hk.2 hk.1
    have hs1:Sim ⟨sY s.sl (some i) (.row i),(i,some (.rw e k t [] []))::s.bx,s.pr,s.ro,s.oc⟩ (p.upd (some i) (.row i 0) (some (i,.rw e k (([] : List t.den).map (bH t))))) :=
     oY hs (qY hb) (fun _=>⟨rfl,fun p pin hp=>by cases hp⟩) (.row i 0 e k t [] [] (by rw [ar,if_pos rfl]) rfl)
    have hkp:dK sc wr s ⟨(i,.row i)::s.sl,(i,some (.rw e k t [] []))::s.bx,s.pr,s.ro,s.oc⟩:=by
     refine ⟨rfl,rfl,fun t' ht'=>?_,fun j hj _=>?_,fun t' _ ty2 cs2 h2=>⟨cs2,by show lkB ((i,some (.rw e k t [] []))::s.bx) t' = _; rw [ar,if_neg (fun e=>by rw [e,hb] at h2; cases h2)]; exact h2,rfl⟩⟩
     ·show kQ _ (lkB ((i,some (.rw e k t [] []))::s.bx) t')
      rw [ar,if_neg (fun e=>by rw [e,hp] at ht'; cases ht')]
      exact .refl _
     ·show lkV ((i,.row i)::s.sl) j = _
      rw [cW,if_neg (fun e=>by rw [e,hw] at hj; cases hj)]
    obtain ⟨p2,m1,m2,m3,m4⟩:=qR (ms:=l) (s:=⟨(i,.row i)::s.sl,(i,some (.rw e k t [] []))::s.bx,s.pr,s.ro,s.oc⟩) ho (hkp.prOk hpr) hs1 h
    exact ⟨p2,hle.trans m1,m2,hkp.trans m3,m4⟩
   ·cases h
  ·exact qR (ms:=l) ho hpr hs h
theorem nY (wr pr kb:List Nat) : ∀ (l:List (Nat×SV)) (seen:List Nat) (i:Nat),lkV (tp wr pr kb l seen) i=if aA seen i=true then .junk else if aA wr i=true then .junk else if GW pr kb (lkV l i)=true then lkV l i else .junk
 | [],seen,i=>by simp [tp,lkV,GW]
 | (j,v)::l,seen,i=>by
  simp only [tp]
  have hc:=cW j v l i
  split
  ·rename_i hs
   rw [nY wr pr kb l seen i,hc]
   by_cases e:i=j
   ·subst e; simp [hs]
   ·simp [e]
  ·rename_i hs
   split
   ·rename_i hw
    rw [nY wr pr kb l (j::seen) i,hc,aZ]
    by_cases e:i=j
    ·subst e; simp [hw]
    ·simp [e]
   ·rename_i hw
    split
    ·rename_i hf
     rw [cW,nY wr pr kb l (j::seen) i,hc,aZ]
     by_cases e:i=j
     ·subst e; simp [hs,hw,hf]
     ·simp [e]
    ·rename_i hf
     rw [nY wr pr kb l (j::seen) i,hc,aZ]
     by_cases e:i=j
     ·subst e; simp [hf]
     ·simp [e]
theorem nZ (pr:List Nat) : ∀ (l:List (Nat×Option aW)) (seen:List Nat) (t:Nat),lkB (tq pr l seen) t=if aA seen t=true then none else if aA pr t=true then Jw (lkB l t) else none
 | [],seen,t=>by simp [tq,lkB,Jw]
 | (j,b)::l,seen,t=>by
  simp only [tq]
  have hc:=ar j b l t
  split
  ·rename_i hs
   rw [nZ pr l seen t,hc]
   by_cases e:t=j
   ·subst e; simp [hs]
   ·simp [e]
  ·rename_i hs
   split
   ·rename_i hw
    rw [ar,nZ pr l (j::seen) t,hc,aZ]
    by_cases e:t=j
    ·subst e; simp [hs,hw]
    ·simp [e]
   ·rename_i hw
    rw [nZ pr l (j::seen) t,hc,aZ]
    by_cases e:t=j
    ·subst e; simp [hw]
    ·simp [e]
theorem ln (mb:List Nat) : ∀ (l:List (Nat×Option aW)) (seen:List Nat) (t:Nat),aA (o0 mb l seen) t=true↔aA seen t=false∧aA mb t=false∧∃ b,lkB l t=some b∧yz b=true
 | [],seen,t=>by simp [o0,aA,lkB]
 | (j,b)::l,seen,t=>by
  have hc:=ar j b l t
  simp only [o0]
  split
  ·rename_i hs
   rw [ln mb l seen t,hc]
   by_cases e:t=j
   ·subst e; simp [hs]
   ·simp [e]
  ·rename_i hs
   split
   ·rw [ln mb l (j::seen) t,hc,aZ]
    by_cases e:t=j
    ·subst e; simp
    ·simp [e]
   ·rename_i b'
    split
    ·rename_i h1 h2
     rw [aZ,Bool.or_eq_true,ln mb l (j::seen) t,hc,aZ]
     by_cases e:t=j
     ·subst e; simp [hs,h1,h2]
     ·simp [e]
    ·rename_i h12
     rw [ln mb l (j::seen) t,hc,aZ]
     by_cases e:t=j
     ·subst e
      simp only [decide_true,Bool.true_or,Bool.true_eq_false,false_and,if_true,Option.some.injEq,exists_eq_left',false_iff,not_and]
      intro _ h3 h4
      exact h12 h3 h4
     ·simp [e]
theorem vN (bx:List (Nat×Option aW)) : ∀ (l:List Nat) (r:List (Nat×Option aW)) (t:Nat),(aA l t=true→∀ ty cs,lkB bx t=some (.st ty cs)→lkB (LO bx l r) t=some (.st ty (wS cs)))∧((aA l t=false∨∀ ty cs,lkB bx t≠some (.st ty cs))→lkB (LO bx l r) t=lkB r t)
 | [],r,t=>⟨fun h=>(by cases h),fun _=>rfl⟩
 | b::l,r,t=>by
  obtain ⟨h1,h2⟩:=vN bx l r t
  simp only [LO]
  split
  ·rename_i ty cs hb
   refine ⟨fun hm ty2 cs2 h=>?_,fun h=>?_⟩
   ·rw [ar]
    by_cases e:t=b
    ·subst e
     rw [hb] at h
     injection h with h
     injection h with e1 e2
     subst e1 e2
     rw [if_pos rfl]
    ·rw [if_neg e]
     rw [aZ] at hm
     exact h1 (by simpa [e] using hm) ty2 cs2 h
   ·rw [ar]
    by_cases e:t=b
    ·subst e
     rcases h with h | h
     ·rw [aZ] at h; simp at h
     ·exact absurd hb (h ty cs)
    ·rw [if_neg e]
     rw [aZ] at h
     exact h2 (h.imp (by simp [e]) id)
  ·rename_i hb
   refine ⟨fun hm ty2 cs2 h=>?_,fun h=>?_⟩
   ·by_cases e:t=b
    ·subst e; exact absurd h (hb ty2 cs2)
    ·rw [aZ] at hm
     exact h1 (by simpa [e] using hm) ty2 cs2 h
   ·rw [aZ] at h
    by_cases e:t=b
    ·subst e; exact h2 (.inr fun ty cs=>hb ty cs)
    ·exact h2 (h.imp (by simp [e]) id)
theorem qM (bx:List (Nat×Option aW)) : ∀ (l:List Nat) (t:Nat),aA (tf bx l) t=true↔aA l t=true∧∃ ty cs,lkB bx t=some (.st ty cs)
 | [],t=>by simp [tf,aA]
 | b::l,t=>by
  have ih:=qM bx l t
  simp only [tf]
  split
  ·rename_i ty cs hb
   rw [aZ,aZ,Bool.or_eq_true,Bool.or_eq_true,ih]
   by_cases e:t=b
   ·subst e; simp [hb]
   ·simp [e]
  ·rename_i hb
   rw [ih,aZ,Bool.or_eq_true]
   by_cases e:t=b
   ·subst e
    refine ⟨fun h=>⟨.inl (by simp),h.2⟩,fun h=>?_⟩
    obtain ⟨ty,cs,h⟩:=h.2
    exact absurd h (hb ty cs)
   ·simp [e]
theorem A1:∀ cs:List SV,(wS cs).length=cs.length
 | []=>rfl
 | c::cs=>by simp [wS,A1 cs]
theorem Ii:∀ (cs:List SV) (j:Nat) (c:SV),(wS cs)[j]? = some c→c = .junk
 | [],j,c,h=>by simp [wS] at h
 | _ :: cs,0,c,h=>by simp [wS] at h; exact h.symm
 | _ :: cs,j + 1,c,h=>by simp [wS] at h; exact Ii cs j c h
theorem o7 (mb sc:List Nat) : ∀ (l:List (Nat×Option aW)) (seen:List Nat),vT mb sc l seen=true→∀ t ty cs,aA seen t=false→lkB l t=some (.st ty cs)→aA mb t=true∨aA sc t=true∨cz cs=true
 | [],seen,_,t,ty,cs,_,h=>by cases h
 | (j,b)::l,seen,hk,t,ty,cs,hs,h=>by
  simp only [vT] at hk
  rw [ar] at h
  split at hk
  ·rename_i hj
   have e : ¬ t=j:=fun e=>by rw [e,hj] at hs; cases hs
   rw [if_neg e] at h
   exact o7 mb sc l seen hk t ty cs hs h
  ·split at hk
   ·split at hk
    ·rename_i hm
     by_cases e:t=j
     ·rw [if_pos e] at h
      injection h with h
      injection h with e1 e2
      subst e1 e2 e
      simpa [Bool.or_eq_true] using hm
     ·rw [if_neg e] at h
      exact o7 mb sc l (j::seen) hk t ty cs (by rw [aZ]; simp [e,hs]) h
    ·cases hk
   ·rename_i hb
    by_cases e:t=j
    ·rw [if_pos e] at h
     exact absurd h (hb ty cs)
    ·rw [if_neg e] at h
     exact o7 mb sc l (j::seen) hk t ty cs (by rw [aZ]; simp [e,hs]) h
theorem tF:∀ {a b:List Nat},IM a b=true→∀ t,aA a t=true→aA b t=false
 | [],b,_,t,h=>by cases h
 | x::a,b,hd,t,h=>by
  simp only [IM] at hd
  split at hd
  ·cases hd
  ·rename_i hx
   rw [aZ,Bool.or_eq_true] at h
   rcases h with h | h
   ·have:=zd h; subst this; exact hx
   ·exact tF hd t h
theorem rY {pr kb:List Nat} : ∀ {cs:List SV} (_:lh pr kb cs=true) {j:Nat} {c:SV},cs[j]? = some c→GW pr kb c=true
 | [],_,j,c,h=>by simp at h
 | d::cs,h,j,c,hj=>by
  simp only [lh] at h
  split at h
  ·rename_i h1
   cases j with
   | zero=>simp at hj; subst hj; exact h1
   | succ j=>simp at hj; exact rY h hj
  ·cases h
theorem SQ {B B':List (Nat×Option aW)} {pr kb:List Nat} (hrw:∀ t,aA pr t=true→∀ e k ty xs pins,lkB B t=some (.rw e k ty xs pins)→∃ e' k' ty' xs' pins',lkB B' t=some (.rw e' k' ty' xs' pins')∧xs'.length=xs.length)
  (hst:∀ t,aA kb t=true→∀ ty cs,lkB B t=some (.st ty cs)→∃ ty' cs',lkB B' t=some (.st ty' cs')) {v:SV} {q:PV} (h:bf B v q) : GW pr kb v=true→bf B' v q:=by
 induction h with
 | junk q=>exact fun _=>.junk q
 | d c y h=>exact fun _=>.d c y h
 | ag cs qs hl hr ih=>exact fun hs=>.ag cs qs hl fun j c q h1 h2=>ih j c q h1 h2 (rY hs h1)
 | tup cs qs hl hr ih=>exact fun hs=>.tup cs qs hl fun j c q h1 h2=>ih j c q h1 h2 (rY hs h1)
 | ptr t o ty cs hb=>exact fun hs=>by obtain ⟨ty',cs',h1⟩:=hst t hs ty cs hb; exact .ptr t o ty' cs' h1
 | row t n e k ty xs pins hb hn =>
  intro hs
  obtain ⟨e',k',ty',xs',pins',h1,h2⟩:=hrw t hs e k ty xs pins hb
  exact .row t n e' k' ty' xs' pins' h1 (h2.trans hn)
 | re t p o n i e k ty xs pins pin hb hn hp hi=>exact fun hs=>by cases hs
 | vw t lo hi n e k ty xs pins hb hn=>exact fun hs=>by cases hs
 | fe cs ds h hn=>exact fun _=>.fe cs ds h hn
 | fn f ps qs ps' qs' hl hr hl2 hr2 ih ih2 =>
  intro hs
  have hs:(match lh pr kb ps with | true=>lh pr kb qs | false=>false)=true:=hs
  split at hs
  ·rename_i h1
   exact .fn f ps qs ps' qs' hl (fun j c q h2 h3=>ih j c q h2 h3 (rY h1 h2)) hl2 (fun j c q h2 h3=>ih2 j c q h2 h3 (rY hs h2))
  ·cases hs
mutual
theorem VT {pr pr' kb:List Nat} (h:∀ t,aA pr t=true→aA pr' t=true) : ∀ v:SV,GW pr kb v=true→lj pr' v=true
 | .junk,_=>rfl
 | .d _,_=>rfl
 | .fe _,_=>rfl
 | .ptr _ _,_=>rfl
 | .row t,hs=>h t hs
 | .re _ _ _,hs=>by cases hs
 | .vw _ _ _,hs=>by cases hs
 | .ag cs,hs=>by simp only [lj]; exact yu h cs hs
 | .tup cs,hs=>by simp only [lj]; exact yu h cs hs
 | .fn f ps qs,hs=>by
  have hs:(match lh pr kb ps with | true=>lh pr kb qs | false=>false)=true:=hs
  split at hs
  ·rename_i h1
   simp only [lj,Bool.and_eq_true]
   exact ⟨yu h ps h1,yu h qs hs⟩
  ·cases hs
theorem yu {pr pr' kb:List Nat} (h:∀ t,aA pr t=true→aA pr' t=true) : ∀ cs:List SV,lh pr kb cs=true→ed pr' cs=true
 | [],_=>rfl
 | c::cs,hs=>by
  simp only [lh] at hs
  split at hs
  ·rename_i h1
   simp only [ed,Bool.and_eq_true]
   exact ⟨VT h c h1,yu h cs hs⟩
  ·cases hs
end
theorem pF {pr:List Nat} : ∀ {cs:List SV} (_:ed pr cs=true) {j:Nat} {c:SV},cs[j]? = some c→lj pr c=true
 | [],_,j,c,h=>by simp at h
 | d::cs,h,j,c,hj=>by
  simp only [ed,Bool.and_eq_true] at h
  cases j with
  | zero=>simp at hj; subst hj; exact h.1
  | succ j=>simp at hj; exact pF h.2 hj
theorem uB {pr kb:List Nat} : ∀ {cs:List SV},(∀ (j:Nat) c,cs[j]? = some c→GW pr kb c=true)→lh pr kb cs=true
 | [],_=>rfl
 | c::cs,h=>by
  simp only [lh]
  rw [h 0 c rfl]
  exact uB fun j d hj=>h (j + 1) d (by simpa using hj)
theorem OK {B:List (Nat×Option aW)} {pr pr' kb:List Nat} (h:∀ t,aA pr t=true→aA pr' t=true) (hst:∀ t ty cs,lkB B t=some (.st ty cs)→aA kb t=true) {v:SV} {q:PV} (hv:bf B v q) : lj pr v=true→GW pr' kb v=true:=by
 induction hv with
 | junk q=>exact fun _=>rfl
 | d c y h=>exact fun _=>rfl
 | ag cs qs hl hr ih =>
  refine fun hs=>uB fun j c hj=>?_
  have hlt:j < qs.length:=by rw [← hl]; exact (zg.1 hj).1
  exact ih j c qs[j] hj (by simp [hlt]) (pF hs hj)
 | tup cs qs hl hr ih =>
  refine fun hs=>uB fun j c hj=>?_
  have hlt:j < qs.length:=by rw [← hl]; exact (zg.1 hj).1
  exact ih j c qs[j] hj (by simp [hlt]) (pF hs hj)
 | ptr t o ty cs hb=>exact fun _=>hst t ty cs hb
 | row t n e k ty xs pins hb hn=>exact fun hs=>h t hs
 | re t p o n i e k ty xs pins pin hb hn hp hi=>exact fun hs=>by cases hs
 | vw t lo hi n e k ty xs pins hb hn=>exact fun hs=>by cases hs
 | fe cs ds h hn=>exact fun _=>rfl
 | fn f ps qs ps' qs' hl hr hl2 hr2 ih ih2 =>
  intro hs
  simp only [lj,Bool.and_eq_true] at hs
  have k1:lh pr' kb ps=true:=uB fun j c hj=>by
   have hlt:j < ps'.length:=by rw [← hl]; exact (zg.1 hj).1
   exact ih j c ps'[j] hj (by simp [hlt]) (pF hs.1 hj)
  have k2:lh pr' kb qs=true:=uB fun j c hj=>by
   have hlt:j < qs'.length:=by rw [← hl2]; exact (zg.1 hj).1
   exact ih2 j c qs'[j] hj (by simp [hlt]) (pF hs.2 hj)
  show (match lh pr' kb ps with | true=>lh pr' kb qs | false=>false)=true
  rw [k1]
  exact k2
theorem abe {B:List (Nat×Option aW)} {c:SD} {q:PV} (h:bf B (.d c) q) : ∃ y,q = .d y∧Lo c y:=by
 cases h with
 | d _ y h=>exact ⟨y,rfl,h⟩
theorem ZP {B:List (Nat×Option aW)} {t:Nat} {q:PV} (h:bf B (.row t) q) : ∃ n,q = .row t n:=by
 cases h with
 | row _ n=>exact ⟨n,rfl⟩
def mp (bx:List (Nat×Option aW)) : Prop:=∀ t e k ty xs pins,lkB bx t=some (.rw e k ty xs pins)→pins = []
theorem mp.cons_rw {bx:List (Nat×Option aW)} (h:mp bx) {R e k:Nat} {t:Ty} {xs:List t.den} : mp ((R,some (.rw e k t xs []))::bx):=by
 intro t' e' k' ty' xs' pins' h1
 rw [ar] at h1
 split at h1
 ·injection h1 with h1
  injection h1 with q1 q2 q3 q4 q5
  exact q5.symm
 ·exact h t' e' k' ty' xs' pins' h1
theorem mp.cons_st {bx:List (Nat×Option aW)} (h:mp bx) {R:Nat} {ty:TypeId} {cs:List SV} : mp ((R,some (.st ty cs))::bx):=by
 intro t' e' k' ty' xs' pins' h1
 rw [ar] at h1
 split at h1
 ·cases h1
 ·exact h t' e' k' ty' xs' pins' h1
def Hx (bx:List (Nat×Option aW)) (p:PS) : Prop:=∀ t b,lkB bx t=some b→mq bx true (some b) (p.b t)
theorem I4 {bx:List (Nat×Option aW)} {p:PS} (hn:mp bx) (hb:Hx bx p) {R e k:Nat} {t:Ty} {xs:List t.den} (hR:p.b R=some (.rw e k (xs.map (bH t)))) : BLe bx ((R,some (.rw e k t xs []))::bx):=by
 refine ⟨fun t' e2 k2 ty2 xs2 pins2 h=>?_,fun t' ty2 cs2 h=>?_⟩
 ·rw [ar]
  by_cases e1:t' = R
  ·subst e1
   rw [if_pos rfl]
   have h1:=(hb t' _ h).1
   rw [hR] at h1
   injection h1 with h1
   injection h1 with q1 q2 q3
   refine ⟨e,k,t,xs,[],rfl,by simpa using congrArg List.length q3,fun p pin hp=>?_⟩
   rw [hn _ _ _ _ _ _ h] at hp
   cases hp
  ·rw [if_neg e1]; exact ⟨_,_,_,_,_,h,rfl,fun p pin hp=>⟨pin,hp,rfl⟩⟩
 ·rw [ar]
  by_cases e1:t' = R
  ·subst e1
   obtain ⟨qs,h1,_⟩:=hb t' _ h
   rw [hR] at h1
   cases h1
  ·rw [if_neg e1]; exact ⟨_,_,h⟩
theorem Xq {bx:List (Nat×Option aW)} {p:PS} (hb:Hx bx p) {b:Nat} {ty:TypeId} {cs:List SV} {qs:List PV} (hR:p.b b=some (.st ty qs)) : BLe bx ((b,some (.st ty cs))::bx):=by
 refine ⟨fun t' e2 k2 ty2 xs2 pins2 h=>?_,fun t' ty2 cs2 h=>?_⟩
 ·rw [ar]
  by_cases e1:t' = b
  ·subst e1
   have h1:=(hb t' _ h).1
   rw [hR] at h1
   cases h1
  ·rw [if_neg e1]; exact ⟨_,_,_,_,_,h,rfl,fun p pin hp=>⟨pin,hp,rfl⟩⟩
 ·rw [ar]
  by_cases e1:t' = b
  ·rw [if_pos e1]; exact ⟨_,_,rfl⟩
  ·rw [if_neg e1]; exact ⟨_,_,h⟩
theorem Hx.cons {bx:List (Nat×Option aW)} {p:PS} (h:Hx bx p) {R:Nat} {b:aW} (hB:BLe bx ((R,some b)::bx)) (hb:mq ((R,some b)::bx) true (some b) (p.b R)) : Hx ((R,some b)::bx) p:=by
 intro t b' h1
 rw [ar] at h1
 by_cases e:t=R
 ·subst e
  rw [if_pos rfl] at h1
  injection h1 with h1
  subst h1
  exact hb
 ·rw [if_neg e] at h1
  exact (h t b' h1).mono hB
theorem YO {t:Ty} {xs ys:List t.den} (h:xs.map (bH t)=ys.map (bH t)) : xs.length=ys.length:=by
 have h9:=congrArg List.length h
 rw [List.length_map,List.length_map] at h9
 exact h9
theorem ZY {t t':Ty} {xs:List t.den} {ys:List t'.den} {c:SD} (h:c.as (.sl t)=some xs) (hd:c.toD = .sl (ys.map (bH t'))) : xs.map (bH t)=ys.map (bH t'):=by
 have h1:=SD.as_ok h
 rw [hd] at h1
 have h2 : [D.sl (xs.map (bH t))] = [D.sl (ys.map (bH t'))]:=h1
 injection h2 with h2
 injection h2
theorem uH {s':SS} {p:PS} (hs':gY s' p) {rows:List (Nat×Nat×Nat×Nat×Ty)} : ∀ {cs:List SV} {qs:List PV} {ds0 ds:List SD} {j:Nat} {bx bx':List (Nat×Option aW)} {vs:List SV},ca s'.bx cs qs→cellsOf s' rows j cs=some ds0→ds0.map SD.toD=ds.map SD.toD→(∀ c∈ds,c≠.nl) →
  mp bx→Hx bx p→fU rows j ds bx=some (vs,bx')→mp bx'∧Hx bx' p∧BLe bx bx'∧ca bx' vs qs∧(∀ t,(∀ r∈rows,r.2.1≠t)→lkB bx' t=lkB bx t)
 | [],qs,ds0,ds,j,bx,bx',vs,hc,h0,hd,_,hn,hb,h=>by
  rcases hc.cases with ⟨_,rfl⟩ | ⟨_,_,_,_,h1,_⟩
  ·injection h0 with h0
   subst h0
   have:ds = []:=by simpa using hd.symm
   subst this
   injection h with h
   injection h with e1 e2
   subst e1 e2
   exact ⟨hn,hb,.refl _,.nil,fun _ _=>rfl⟩
  ·cases h1
 | c::cs,qs,ds0,ds,j,bx,bx',vs,hc,h0,hd,hnl,hn,hb,h=>by
  rcases hc.cases with ⟨h1,_⟩ | ⟨c',q,cs',qs',h1,rfl,hq,hcs⟩
  ·cases h1
  injection h1 with e1 e2
  subst e1 e2
  have findR_mem:∀ {rows:List (Nat×Nat×Nat×Nat×Ty)} {j R e k:Nat} {t:Ty},pQ rows j=some (R,e,k,t)→∃ r∈rows,r.2.1=R:=by
   intro rows
   induction rows with
   | nil=>intro j R e k t h; cases h
   | cons r rows ih =>
    intro j R e k t h
    obtain ⟨j',R',e',k',t'⟩:=r
    simp only [pQ] at h
    split at h
    ·injection h with h
     injection h with h _
     exact ⟨_,List.mem_cons_self,h⟩
    ·obtain ⟨r,h1,h2⟩:=ih h
     exact ⟨r,List.mem_cons_of_mem _ h1,h2⟩
  simp only [cellsOf] at h0
  split at h0
  ·rename_i R e k t hf
   split at h0
   ·rename_i R' e' k' t' xs pins hbR
    split at h0
    ·rename_i ht hsame
     have k1:=(ao h0).1
     replace h0:=(ao h0).2
     have k2:=(ao h0).1
     replace h0:=(ao h0).2
     have k3:=(ao h0).1
     replace h0:=(ao h0).2
     replace k1:R' = R:=by simpa [cY] using k1
     replace k2:e' = e:=by simpa using k2
     replace k3:k' = k:=by simpa using k3
     subst k1 k2 k3 ht
     split at h0
     ·rename_i r hr
      injection h0 with h0
      subst h0
      cases ds with
      | nil=>simp at hd
      | cons d ds =>
       simp only [List.map_cons,List.cons.injEq] at hd
       obtain ⟨hd1,hd2⟩:=hd
       simp only [fU,hf] at h
       split at h
       ·rename_i xs' vs' bx1 hxs hp
        injection h with h
        injection h with e1 e2
        subst e1 e2
        obtain ⟨m1,m2,m3,m4,m5⟩:=uH hs' hcs hr hd2 (fun c hc=>hnl c (List.mem_cons_of_mem _ hc)) hn hb hp
        have hpR:p.b R' = some (.rw e' k' (xs.map (bH t'))):=(hs'.bx R' _ hbR).1
        have hx:xs'.map (bH t')=xs.map (bH t'):=ZY hxs (by rw [← hd1]; rfl)
        have hpR':p.b R' = some (.rw e' k' (xs'.map (bH t'))):=by rw [hx]; exact hpR
        have hB:=I4 m1 m2 hpR'
        refine ⟨m1.cons_rw,m2.cons hB ⟨hpR',fun p pin hp=>by cases hp⟩,m3.trans hB,.cons ?_ (m4.mono hB),fun t2 ht2=>?_⟩
        ·cases hq with
         | row _ n e2 k2 ty2 xs2 pins2 hb2 hn2 =>
          rw [hbR] at hb2
          injection hb2 with hb2
          injection hb2 with q1 q2 q3 q4 q5
          subst q3
          have q4:=eq_of_heq q4
          subst q4
          refine .row R' n e' k' t' xs' [] (by rw [ar,if_pos rfl]) ?_
          rw [← hn2]
          exact YO hx
        ·rw [ar,if_neg (fun e=>by
          obtain ⟨r,h1,h2⟩:=findR_mem hf
          exact ht2 r h1 (h2.trans e.symm))]
         exact m5 t2 ht2
       ·cases h
     ·cases h0
    ·cases h0
   ·cases h0
  ·rename_i hf
   split at h0
   ·rename_i x r hr
    injection h0 with h0
    subst h0
    cases ds with
    | nil=>simp at hd
    | cons d ds =>
     simp only [List.map_cons,List.cons.injEq] at hd
     obtain ⟨hd1,hd2⟩:=hd
     simp only [fU,hf] at h
     split at h
     ·rename_i vs' bx1 hp
      injection h with h
      injection h with e1 e2
      subst e1 e2
      obtain ⟨m1,m2,m3,m4,m5⟩:=uH hs' hcs hr hd2 (fun c hc=>hnl c (List.mem_cons_of_mem _ hc)) hn hb hp
      refine ⟨m1,m2,m3,.cons ?_ m4,m5⟩
      cases hq with
      | d _ y hy =>
       refine .d d y ?_
       have h1:=hy.nrm
       rw [hd1] at h1
       have h2:=hnl d List.mem_cons_self
       cases d <;> first | exact h1 | exact absurd rfl h2
     ·cases h
   ·cases h0
theorem Y3 {t:Ty} {c:SD} {x:t.den} (h:c.as t=some x) : qL t x≠.nl:=by
 cases t with
 | st i=>simp [SD.as] at h
 | _=>intro e; cases e
theorem Me {t:Nat} : ∀ {rows:List (Nat×Nat×Nat×Nat×Ty)} {r:Nat×Nat×Nat×Nat×Ty},r∈rows→r.2.1=t→aA (rows.map (·.2.1)) t=true
 | [],r,h,_=>by cases h
 | a::rows,r,h,e=>by
  rw [List.map_cons,aZ,Bool.or_eq_true]
  rcases List.mem_cons.1 h with rfl | h
  ·exact .inl (by simp [e])
  ·exact .inr (Me h e)
theorem RO {s':SS} {p:PS} (hs':gY s' p) {m:Mod} {x:m.den} {c c':SS} (hg:A7 s' m=some x) (hc:gY c p) (hn:mp c.bx) (h:sa m x c=some c') :
  gY c' p∧mp c'.bx∧BLe c.bx c'.bx∧(∀ t,aA (bA [m]) t=false→lkB c'.bx t=lkB c.bx t):=by
 cases m with
 | leaf i t =>
  simp only [sa] at h
  injection h with h
  subst h
  refine ⟨⟨fun j=>?_,hc.bx⟩,hn,.refl _,fun _ _=>rfl⟩
  show bf c.bx (lkV ((i,.d (qL t x))::c.sl) j) (p.t j)
  rw [cW]
  split
  ·rename_i e
   subst e
   have h1:=hs'.sl j
   have hg:(match lkV s'.sl j with | .d c=>c.as t | _=>none)=some (show t.den from x):=hg
   split at hg
   ·rename_i c0 hc0
    rw [hc0] at h1
    obtain ⟨y,hp,hy⟩:=abe h1
    rw [hp]
    refine .d _ y ?_
    have h2:=hy.nrm
    rw [← Dx hg] at h2
    have h3:=Y3 hg
    revert h2 h3
    generalize qL t x=z
    intro h2 h3
    cases z <;> first | exact h2 | exact absurd rfl h3
   ·exact dN hg
  ·exact hc.sl j
 | agg i n =>
  simp only [sa] at h
  injection h with h
  subst h
  refine ⟨⟨fun j=>?_,hc.bx⟩,hn,.refl _,fun _ _=>rfl⟩
  show bf c.bx (lkV ((i,.ag (AY (stC n x)))::c.sl) j) (p.t j)
  rw [cW]
  split
  ·rename_i e
   subst e
   have h1:=hs'.sl j
   simp only [A7] at hg
   split at hg
   ·rename_i cs hcs
    split at hg
    ·rename_i ds hds
     rw [hcs] at h1
     obtain ⟨qs,h2,h3⟩:=HA h1
     rw [h2]
     have h4:=vO h3 hds
     have h5:=AH hg
     have hlen:qs.length=(stC n x).length:=by
      have a:=AM hds
      have b:=h3.len
      have c:=congrArg List.length h5
      have d:=congrArg List.length (uy n x)
      simp only [List.length_map] at c d
      omega
     refine .ag _ qs (by rw [JV,List.length_map]; exact hlen.symm) (fun k v q k1 k2=>?_)
     rw [JV,List.getElem?_map,zm] at k1
     obtain ⟨z,k3,rfl⟩:=k1
     obtain ⟨y,k4,k5⟩:=yI qs _ h4 |>.2 k (z.toD) (by
      have h7:(stC n x).map SD.toD=stD n x:=uy n x
      rw [h5,← h7,List.getElem?_map,k3]
      rfl)
     rw [k2] at k4
     injection k4 with k4
     subst k4
     have h6:=xh n x z (List.mem_of_getElem? k3)
     refine .d z y ?_
     cases z <;> first | exact k5.symm | exact absurd rfl h6
    ·exact dN hg
   ·exact dN hg
  ·exact hc.sl j
 | row i R e k t =>
  simp only [sa] at h
  injection h with h
  subst h
  simp only [A7] at hg
  split at hg
  ·rename_i R' e' k' t' xs pins hv hb
   split at hg
   ·rename_i ht hsame
    have k1:=(ao hg).1
    replace hg:=(ao hg).2
    have k2:=(ao hg).1
    replace hg:=(ao hg).2
    have k3:=(ao hg).1
    replace hg:=(ao hg).2
    replace k1:R' = R:=by simpa [cY] using k1
    replace k2:e' = e:=by simpa using k2
    replace k3:k' = k:=by simpa using k3
    subst k1 k2 k3 ht
    injection hg with hg
    subst hg
    have hpR:p.b R' = some (.rw e' k' (xs.map (bH t'))):=(hs'.bx R' _ hb).1
    have hB:=I4 hn hc.bx hpR
    refine ⟨⟨fun j=>?_,Hx.cons hc.bx hB ⟨hpR,fun p pin hp=>by cases hp⟩⟩,hn.cons_rw,hB,fun t2 ht2=>?_⟩
    ·show bf _ (lkV ((i,.row R')::c.sl) j) (p.t j)
     rw [cW]
     split
     ·rename_i e
      subst e
      have h1:=hs'.sl j
      rw [hv] at h1
      obtain ⟨n,h2⟩:=ZP h1
      rw [h2] at h1 ⊢
      cases h1 with
      | row _ _ e2 k2 ty2 xs2 pins2 hb2 hn2 =>
       rw [hb] at hb2
       injection hb2 with hb2
       injection hb2 with q1 q2 q3 q4 q5
       subst q3
       have q4:=eq_of_heq q4
       subst q4
       exact .row R' n e' k' t' xs [] (by rw [ar,if_pos rfl]; rfl) hn2
     ·exact (hc.sl j).mono hB
    ·show lkB ((R',_)::c.bx) t2 = _
     rw [ar,if_neg (fun e=>by subst e; simp [bA,aZ] at ht2)]
   ·exact dN hg
  ·exact dN hg
 | box b ty n rows =>
  simp only [sa] at h
  split at h
  ·rename_i vs bx hp
   injection h with h
   subst h
   simp only [A7] at hg
   split at hg
   ·rename_i ty' cs hb
    have k1:=(ao hg).1
    replace hg:=(ao hg).2
    replace k1:ty' = ty:=by simpa using k1
    subst k1
    replace hg:=(ao hg).2
    split at hg
    ·rename_i ds hds
     obtain ⟨qs,h1,h2⟩:=hs'.bx b _ hb
     have h3:=AH hg
     obtain ⟨m1,m2,m3,m4,m5⟩:=uH hs' h2 hds (h3.trans (uy n x).symm) (xh n x) hn hc.bx hp
     have hB:=Xq (cs:=vs) m2 h1
     refine ⟨⟨fun j=>((hc.sl j).mono m3).mono hB,Hx.cons m2 hB ⟨qs,h1,m4.mono hB⟩⟩,m1.cons_st,m3.trans hB,fun t2 ht2=>?_⟩
     simp only [bA,aZ,dj,Bool.or_eq_false_iff] at ht2
     show lkB ((b,_)::bx) t2 = _
     rw [ar,if_neg (fun e=>by have:=ht2.1; simp [e] at this)]
     refine m5 t2 fun r hr e=>?_
     have:=Me hr e
     rw [this] at ht2
     cases ht2.2.1
    ·exact dN hg
   ·exact dN hg
  ·cases h
section
variable {sc wr:List Nat}
theorem jV (m:Mod) (l:List Mod) (t:Nat) : aA (bA (m::l)) t=(aA (bA [m]) t||aA (bA l) t):=by
 cases m with
 | leaf i t'=>simp [bA,aA]
 | agg i n=>simp [bA,aA]
 | row i R e k t'=>simp [bA,aZ,aA]
 | box b ty n rows=>simp [bA,aZ,dj,aA,Bool.or_assoc]
def xx:Mod→Option Nat
 | .leaf i _=>some i
 | .agg i _=>some i
 | .row i _ _ _ _=>some i
 | .box ..=>none
theorem RN {m:Mod} {x:m.den} {l:List (Nat×SV)} {bx:List (Nat×Option aW)} {pr oc:List Nat} {ro:Bool} {s2:SS} (h:sa m x ⟨l,bx,pr,ro,oc⟩=some s2) :
  ∃ X bx2,s2=⟨X++l,bx2,pr,ro,oc⟩∧(∀ l',sa m x ⟨l',bx,pr,ro,oc⟩=some ⟨X++l',bx2,pr,ro,oc⟩)∧∀ i,aA (X.map (·.1)) i=true→xx m=some i:=by
 cases m with
 | leaf i t=>simp only [sa] at h ⊢; injection h with h; subst h; exact ⟨[(i,.d (qL t x))],bx,rfl,fun _=>rfl,fun j hj=>by simp [aZ,aA] at hj; simp [xx,hj]⟩
 | agg i n=>simp only [sa] at h ⊢; injection h with h; subst h; exact ⟨[(i,.ag (AY (stC n x)))],bx,rfl,fun _=>rfl,fun j hj=>by simp [aZ,aA] at hj; simp [xx,hj]⟩
 | row i R e k t=>simp only [sa] at h ⊢; injection h with h; subst h; exact ⟨[(i,.row R)],_,rfl,fun _=>rfl,fun j hj=>by simp [aZ,aA] at hj; simp [xx,hj]⟩
 | box b ty n rows =>
  simp only [sa] at h ⊢
  split at h
  ·rename_i vs bx' hp
   injection h with h
   subst h
   exact ⟨[],_,rfl,fun _=>rfl,fun j hj=>by cases hj⟩
  ·cases h
theorem L2:∀ {ms:List Mod} {st:jU ms} {l:List (Nat×SV)} {bx:List (Nat×Option aW)} {pr oc:List Nat} {ro:Bool} {s2:SS},jM ms st ⟨l,bx,pr,ro,oc⟩=some s2 →
  ∃ X bx2,s2=⟨X++l,bx2,pr,ro,oc⟩∧(∀ l',jM ms st ⟨l',bx,pr,ro,oc⟩=some ⟨X++l',bx2,pr,ro,oc⟩)∧∀ i,aA (X.map (·.1)) i=true→∃ m∈ms,xx m=some i
 | [],st,l,bx,pr,oc,ro,s2,h=>by injection h with h; subst h; exact ⟨[],bx,rfl,fun _=>rfl,fun j hj=>by cases hj⟩
 | [m],st,l,bx,pr,oc,ro,s2,h=>by
  obtain ⟨X,bx2,h1,h2,h3⟩:=RN (show sa m st _ = some s2 from h)
  exact ⟨X,bx2,h1,h2,fun i hi=>⟨m,List.mem_cons_self,h3 i hi⟩⟩
 | m::m' :: ms,st,l,bx,pr,oc,ro,s2,h=>by
  have h:(match jM (m' :: ms) st.2 ⟨l,bx,pr,ro,oc⟩ with | some s=>sa m st.1 s | none=>none)=some s2:=h
  split at h
  ·rename_i s1 h1
   obtain ⟨X,bx2,rfl,k2,k3⟩:=L2 h1
   obtain ⟨Y,bx3,rfl,m2,m3⟩:=RN h
   refine ⟨Y++X,bx3,by simp,fun l'=>?_,fun i hi=>?_⟩
   ·show (match jM (m' :: ms) st.2 ⟨l',bx,pr,ro,oc⟩ with | some s=>sa m st.1 s | none=>none) = _
    rw [k2 l']
    simp only
    rw [m2]
    simp
   ·rw [List.map_append,dj,Bool.or_eq_true] at hi
    rcases hi with hi | hi
    ·exact ⟨m,List.mem_cons_self,m3 i hi⟩
    ·obtain ⟨m0,h4,h5⟩:=k3 i hi
     exact ⟨m0,List.mem_cons_of_mem _ h4,h5⟩
  ·cases h
theorem JX:∀ (X l:List (Nat×SV)) (i:Nat),lkV (X++l) i=if aA (X.map (·.1)) i=true then lkV X i else lkV l i
 | [],l,i=>by simp [aA]
 | (j,v)::X,l,i=>by
  simp only [List.cons_append,cW,JX X l i,List.map_cons,aZ]
  by_cases e:i=j
  ·simp [e]
  ·simp [e]
theorem Se {s':SS} {m:Mod} {x:m.den} (hg:A7 s' m=some x) {t:Nat} (ht:aA (bA [m]) t=true) {ty:TypeId} {cs:List SV} (hb:lkB s'.bx t=some (.st ty cs)) : ∃ ty n rows,m = .box t ty n rows:=by
 cases m with
 | leaf i t'=>cases ht
 | agg i n=>cases ht
 | row i R e k t' =>
  simp only [bA,aZ,aA,Bool.or_false,decide_eq_true_eq] at ht
  subst ht
  have hg:(match lkV s'.sl i,lkB s'.bx t with | .row R',some (.rw e' k' t2 xs _)=>(match Ty.same t2 t' with | some ⟨h⟩=>chk (Nat.beq R' t) (chk (e' == e) (chk (k' == k) (some (yV h xs)))) | none=>none) | _,_=>none)=some (show List t'.den from x):=hg
  rw [hb] at hg
  split at hg
  ·rename_i h2; cases h2
  ·cases hg
 | box b ty' n rows =>
  simp only [bA,aZ,dj,aA,Bool.or_false,Bool.or_eq_true,decide_eq_true_eq] at ht
  rcases ht with ht | ht
  ·subst ht; exact ⟨_,_,_,rfl⟩
  ·exfalso
   simp only [A7] at hg
   split at hg
   ·have h1:=(ao (ao hg).2).1
    have key:∀ rows:List (Nat×Nat×Nat×Nat×Ty),aA (rows.map (·.2.1)) t=true→(rows.all fun r=>aae (lkB s'.bx r.2.1))=true→aae (lkB s'.bx t)=true:=by
     intro rows
     induction rows with
     | nil=>intro h; cases h
     | cons r rows ih =>
      intro h h2
      rw [List.all_cons,Bool.and_eq_true] at h2
      rw [List.map_cons,aZ,Bool.or_eq_true] at h
      rcases h with h | h
      ·have:=zd h
       rw [this]; exact h2.1
      ·exact ih h h2.2
    have h2:=key rows ht h1
    rw [hb] at h2
    cases h2
   ·exact dN hg
theorem L6 {s':SS} {p:PS} (hs':gY s' p) : ∀ {ms:List Mod} {st:jU ms} {c c':SS},ua s' ms=some st→gY c p→mp c.bx→jM ms st c=some c' →
  gY c' p∧mp c'.bx∧BLe c.bx c'.bx∧(∀ t,aA (bA ms) t=false→lkB c'.bx t=lkB c.bx t)∧∀ t,aA (bA ms) t=true→∀ ty cs,lkB s'.bx t=some (.st ty cs)→∃ ty' cs',lkB c'.bx t=some (.st ty' cs')
 | [],st,c,c',_,hc,hn,h=>by injection h with h; subst h; exact ⟨hc,hn,.refl _,fun _ _=>rfl,fun t ht=>by cases ht⟩
 | [m],st,c,c',hp,hc,hn,h=>by
  have hg:A7 s' m=some st:=hp
  have h:sa m st c=some c':=h
  obtain ⟨h1,h2,h3,h4⟩:=RO hs' hg hc hn h
  refine ⟨h1,h2,h3,h4,fun t ht ty cs hb=>?_⟩
  obtain ⟨ty',n,rows,rfl⟩:=Se hg ht hb
  simp only [sa] at h
  split at h
  ·injection h with h
   subst h
   exact ⟨_,_,by show lkB ((t,_) :: _) t = _; rw [ar,if_pos rfl]⟩
  ·cases h
 | m::m' :: ms,st,c,c',hp,hc,hn,h=>by
  have hp:Option.bind (A7 s' m) (fun x=>Option.bind (ua s' (m' :: ms)) fun xs=>some (x,xs))=some st:=hp
  obtain ⟨x,hg,hp2⟩:=cN hp
  obtain ⟨xs,hp3,he⟩:=cN hp2
  injection he with he
  subst he
  have h:(match jM (m' :: ms) xs c with | some s=>sa m x s | none=>none)=some c':=h
  split at h
  ·rename_i c1 h1
   obtain ⟨k1,k2,k3,k4,k5⟩:=L6 hs' hp3 hc hn h1
   obtain ⟨n1,n2,n3,n4⟩:=RO hs' hg k1 k2 h
   refine ⟨n1,n2,k3.trans n3,fun t ht=>?_,fun t ht ty cs hb=>?_⟩
   ·rw [jV,Bool.or_eq_false_iff] at ht
    rw [n4 t ht.1,k4 t ht.2]
   ·rw [jV,Bool.or_eq_true] at ht
    rcases ht with ht | ht
    ·obtain ⟨ty',n,rows,rfl⟩:=Se hg ht hb
     simp only [sa] at h
     split at h
     ·injection h with h
      subst h
      exact ⟨_,_,by show lkB ((t,_) :: _) t = _; rw [ar,if_pos rfl]⟩
     ·cases h
    ·obtain ⟨ty',cs',h5⟩:=k5 t ht ty cs hb
     exact n3.st t ty' cs' h5
  ·cases h
theorem uN {s:SS} : ∀ {ms:List Mod},pK wr s ms=true→(∀ m∈ms,∀ i,xx m=some i→aA wr i=true∨∃ R,aA (bA ms) R=true∧lkV s.sl i = .row R)∧∀ t,aA (bA ms) t=true→aA s.pr t=false
 | [],_=>⟨fun m hm=>(by cases hm),fun t ht=>(by cases ht)⟩
 | m::ms,h=>by
  have key:pK wr s ms=true∧(∀ i,xx m=some i→aA wr i=true∨∃ R,aA (bA [m]) R=true∧lkV s.sl i = .row R)∧∀ t,aA (bA [m]) t=true→aA s.pr t=false:=by
   cases m with
   | leaf i t =>
    simp only [pK] at h
    split at h
    ·rename_i hw; exact ⟨h,fun j hj=>by injection hj with hj; subst hj; exact .inl hw,fun t ht=>by cases ht⟩
    ·cases h
   | agg i n =>
    simp only [pK] at h
    split at h
    ·rename_i hw; exact ⟨h,fun j hj=>by injection hj with hj; subst hj; exact .inl hw,fun t ht=>by cases ht⟩
    ·cases h
   | row i R e k t =>
    simp only [pK] at h
    split at h
    ·rename_i hp hw
     refine ⟨h,fun j hj=>?_,fun t ht=>?_⟩
     ·injection hj with hj
      subst hj
      rw [Bool.or_eq_true] at hw
      rcases hw with hw | hw
      ·exact .inl hw
      ·unfold ZC at hw
       split at hw
       ·rename_i R' hv
        rw [cY] at hw
        have:=zd hw
        subst this
        exact .inr ⟨R',by simp [bA,aZ],hv⟩
       ·cases hw
     ·simp only [bA,aZ,aA,Bool.or_false,decide_eq_true_eq] at ht
      subst ht; exact hp
    ·cases h
   | box b ty n rows =>
    simp only [pK] at h
    split at h
    ·rename_i hp hr
     refine ⟨h,fun j hj=>(by cases hj),fun t ht=>?_⟩
     simp only [bA,aZ,dj,aA,Bool.or_false,Bool.or_eq_true,decide_eq_true_eq] at ht
     rcases ht with ht | ht
     ·subst ht; exact hp
     ·clear h
      induction rows with
      | nil=>cases ht
      | cons r rows ih =>
       rw [List.all_cons,Bool.and_eq_true] at hr
       rw [List.map_cons,aZ,Bool.or_eq_true] at ht
       rcases ht with ht | ht
       ·have:=zd ht
        rw [this]; simpa using hr.1
       ·exact ih hr.2 ht
    ·cases h
  obtain ⟨h1,h2,h3⟩:=key
  obtain ⟨h4,h5⟩:=uN h1
  refine ⟨fun m0 hm i hi=>?_,fun t ht=>?_⟩
  ·rcases List.mem_cons.1 hm with rfl | hm
   ·rcases h2 i hi with h | ⟨R,h6,h7⟩
    ·exact .inl h
    ·exact .inr ⟨R,by rw [jV,h6]; rfl,h7⟩
   ·rcases h4 m0 hm i hi with h | ⟨R,h6,h7⟩
    ·exact .inl h
    ·exact .inr ⟨R,by rw [jV,h6]; simp,h7⟩
  ·rw [jV,Bool.or_eq_true] at ht
   exact ht.elim (h3 t) (h5 t)
theorem mN:∀ {cs:List SV} (_:cz cs=true) {j:Nat} {c:SV},cs[j]? = some c→pJ c=true
 | [],_,j,c,h=>by simp at h
 | d::cs,h,j,c,hj=>by
  simp only [cz] at h
  split at h
  ·rename_i h1
   cases j with
   | zero=>simp at hj; subst hj; exact h1
   | succ j=>simp at hj; exact mN h hj
  ·cases h
theorem Oq {B B':List (Nat×Option aW)} {v:SV} {q:PV} (h:bf B v q) : pJ v=true→bf B' v q:=by
 induction h with
 | junk q=>exact fun _=>.junk q
 | d c y h=>exact fun _=>.d c y h
 | ag cs qs hl hr ih=>exact fun hs=>.ag cs qs hl fun j c q h1 h2=>ih j c q h1 h2 (mN hs h1)
 | tup cs qs hl hr ih=>exact fun hs=>.tup cs qs hl fun j c q h1 h2=>ih j c q h1 h2 (mN hs h1)
 | ptr t o ty cs hb=>exact fun hs=>by cases hs
 | row t n e k ty xs pins hb hn=>exact fun hs=>by cases hs
 | re t p o n i e k ty xs pins pin hb hn hp hi=>exact fun hs=>by cases hs
 | vw t lo hi n e k ty xs pins hb hn=>exact fun hs=>by cases hs
 | fe cs ds h hn=>exact fun _=>.fe cs ds h hn
 | fn f ps qs ps' qs' hl hr hl2 hr2 ih ih2 =>
  intro hs
  have hs:(match cz ps with | true=>cz qs | false=>false)=true:=hs
  split at hs
  ·rename_i h1
   exact .fn f ps qs ps' qs' hl (fun j c q h2 h3=>ih j c q h2 h3 (mN h1 h2)) hl2 (fun j c q h2 h3=>ih2 j c q h2 h3 (mN hs h2))
  ·cases hs
def ub (sc wr:List Nat) (ms:List Mod) (s1:SS) : SS:=⟨s1.sl,s1.bx,(cf sc wr ms s1).pr,s1.ro,s1.oc⟩
theorem qN (ms:List Mod) (s1:SS) (t:Nat) : aA (cf sc wr ms s1).pr t=true↔aA (bA ms) t=false∧aA sc t=false∧∃ b,lkB s1.bx t=some b∧yz b=true:=by
 show aA (o0 (bA ms++sc) s1.bx []) t=true↔_
 rw [ln,dj,Bool.or_eq_false_iff]
 simp [aA,and_assoc]
theorem A6 (ms:List Mod) (s1:SS) : ml (ub sc wr ms s1):=fun t ht=>((qN (wr:=wr) ms s1 t).1 ht).2.2
theorem yY {ms:List Mod} {s1:SS} {t:Nat} (h:aA (cf sc wr ms s1).pr t=true) : lkB (cf sc wr ms s1).bx t=Jw (lkB s1.bx t):=by
 obtain ⟨_,h2,_⟩:=(qN ms s1 t).1 h
 show lkB (LO s1.bx sc (tq (cf sc wr ms s1).pr s1.bx [])) t = _
 rw [(vN s1.bx sc _ t).2 (.inl h2),nZ,h]
 simp [aA]
theorem DB {ms:List Mod} {s1:SS} {t:Nat} (h:aA sc t=true) {ty:TypeId} {cs:List SV} (hb:lkB s1.bx t=some (.st ty cs)) : lkB (cf sc wr ms s1).bx t=some (.st ty (wS cs)) :=
 (vN s1.bx sc _ t).1 h ty cs hb
theorem FQ {ms:List Mod} {s1:SS} {t:Nat} {b:aW} (h:lkB (cf sc wr ms s1).bx t=some b) : aA (cf sc wr ms s1).pr t=true∨aA sc t=true∧∃ ty cs,lkB s1.bx t=some (.st ty cs):=by
 by_cases h1:aA sc t=true∧∃ ty cs,lkB s1.bx t=some (.st ty cs)
 ·exact .inr h1
 ·left
  have h2:aA sc t=false∨∀ ty cs,lkB s1.bx t≠some (.st ty cs):=by
   by_cases h3:aA sc t=true
   ·exact .inr fun ty cs h4=>h1 ⟨h3,ty,cs,h4⟩
   ·exact .inl (by simpa using h3)
  have h:lkB (LO s1.bx sc (tq (cf sc wr ms s1).pr s1.bx [])) t=some b:=h
  rw [(vN s1.bx sc _ t).2 h2,nZ] at h
  cases h4:aA (cf sc wr ms s1).pr t with
  | true=>rfl
  | false=>rw [h4] at h; simp [aA] at h
theorem JU {ms:List Mod} {s1 s':SS} {p1 p':PS} {st:jU ms} {s2:SS} (hs1:gY s1 p1) (hchk:tn sc wr ms s1.pr s1=true) (hk:dK sc wr (ub sc wr ms s1) s') (hs':gY s' p') (hpk:ua s' ms=some st) (hput:jM ms st (cf sc wr ms s1)=some s2) :
  gY s2 p'∧dK sc wr (ub sc wr ms s1) s2∧s2.pr=(cf sc wr ms s1).pr:=by
 unfold tn at hchk
 simp only [Bool.and_eq_true] at hchk
 obtain ⟨c1,c2,c3,c4⟩:=hchk
 obtain ⟨o1,o2⟩:=uN c1
 have hscm:=tF c3
 obtain ⟨X,bx2,rfl,hX,hkeys⟩:=L2 (show jM ms st ⟨(cf sc wr ms s1).sl,(cf sc wr ms s1).bx,(cf sc wr ms s1).pr,(cf sc wr ms s1).ro,(cf sc wr ms s1).oc⟩=some s2 from hput)
 have hX0:=hX []
 rw [List.append_nil] at hX0
 have hsame:∀ t,aA (cf sc wr ms s1).pr t=true→kQ (lkB s1.bx t) (lkB s'.bx t):=hk.bx
 have hbx:Hx (cf sc wr ms s1).bx p':=by
  intro t b hb
  rcases FQ hb with h | ⟨h,ty,cs,h1⟩
  ·obtain ⟨_,_,b1,h2,h3⟩:=(qN ms s1 t).1 h
   have h4:=hsame t h
   rw [yY h,h2] at hb
   rw [h2] at h4
   cases b1 with
   | st ty cs =>
    injection hb with hb
    subst hb
    obtain ⟨qs,h5,h6⟩:=hs'.bx t _ h4
    exact ⟨qs,h5,h6.len,fun j c q m1 m2=>Oq (h6.rep j c q m1 m2) (mN h3 m1)⟩
   | rw e k ty xs pins =>
    injection hb with hb
    subst hb
    obtain ⟨pins',h4⟩:=h4
    exact ⟨(hs'.bx t _ h4).1,fun p pin hp=>by cases hp⟩
  ·rw [DB h h1] at hb
   injection hb with hb
   subst hb
   obtain ⟨cs',h2,h3⟩:=hk.st t h ty cs h1
   obtain ⟨qs,h4,h5⟩:=hs'.bx t _ h2
   refine ⟨qs,h4,by rw [A1,← h3]; exact h5.len,fun j c q m1 m2=>?_⟩
   rw [Ii cs j c m1]
   exact .junk q
 have hnp:mp (cf sc wr ms s1).bx:=by
  intro t e k ty xs pins hb
  rcases FQ hb with h | ⟨h,ty2,cs,h1⟩
  ·rw [yY h] at hb
   cases hl:lkB s1.bx t with
   | none=>rw [hl] at hb; cases hb
   | some b =>
    rw [hl] at hb
    cases b with
    | st=>cases hb
    | rw e2 k2 ty2 xs2 pins2 =>
     injection hb with hb
     injection hb with q1 q2 q3 q4 q5
     exact q5.symm
  ·rw [DB h h1] at hb; cases hb
 have hc0:gY ⟨[],(cf sc wr ms s1).bx,(cf sc wr ms s1).pr,(cf sc wr ms s1).ro,(cf sc wr ms s1).oc⟩ p':=⟨fun i=>.junk _,hbx⟩
 obtain ⟨k1,k2,k3,k4,k5⟩:=L6 hs' hpk hc0 hnp hX0
 have k4:∀ t,aA (bA ms) t=false→lkB bx2 t=lkB (cf sc wr ms s1).bx t:=k4
 have hprm:∀ t,aA (cf sc wr ms s1).pr t=true→aA (bA ms) t=false:=fun t ht=>((qN ms s1 t).1 ht).1
 have hkb:∀ t,aA (bA ms++(tf s1.bx sc++(cf sc wr ms s1).pr)) t=true→∀ ty cs,lkB s'.bx t=some (.st ty cs)→∃ ty' cs',lkB bx2 t=some (.st ty' cs'):=by
  intro t ht ty cs hb
  rw [dj,dj,Bool.or_eq_true,Bool.or_eq_true] at ht
  rcases ht with ht | ht | ht
  ·exact k5 t ht ty cs hb
  ·obtain ⟨h1,ty2,cs2,h2⟩:=(qM s1.bx sc t).1 ht
   rw [k4 t (hscm t h1),DB h1 h2]
   exact ⟨_,_,rfl⟩
  ·rw [k4 t (hprm t ht),yY ht]
   have h1:=hsame t ht
   obtain ⟨_,_,b1,h2,h3⟩:=(qN ms s1 t).1 ht
   rw [h2] at h1 ⊢
   cases b1 with
   | st ty2 cs2=>exact ⟨_,_,rfl⟩
   | rw e k ty2 xs pins =>
    obtain ⟨pins',h1⟩:=h1
    rw [h1] at hb
    cases hb
 have hbase:∀ i,lkV (cf sc wr ms s1).sl i=if aA wr i=true then .junk else if GW (cf sc wr ms s1).pr (bA ms++(tf s1.bx sc++(cf sc wr ms s1).pr)) (lkV s1.sl i)=true then lkV s1.sl i else .junk:=fun i=>by
  show lkV (tp wr (cf sc wr ms s1).pr (bA ms++(tf s1.bx sc++(cf sc wr ms s1).pr)) s1.sl []) i = _
  rw [nY]
  simp [aA]
 refine ⟨⟨fun i=>?_,k1.bx⟩,⟨rfl,rfl,fun t ht=>?_,fun i hi hsf=>?_,fun t ht ty cs hb=>?_⟩,rfl⟩
 ·show bf bx2 (lkV (X++(cf sc wr ms s1).sl) i) (p'.t i)
  rw [JX]
  split
  ·exact k1.sl i
  ·rw [hbase]
   split
   ·exact .junk _
   ·rename_i hw
    split
    ·rename_i hsf
     have e:=hk.sl i (by simpa using hw) (VT (fun t h=>h) _ hsf)
     have h1:=hs'.sl i
     rw [e] at h1
     refine SQ (fun t ht e k ty xs pins hb=>?_) hkb h1 hsf
     rw [k4 t (hprm t ht),yY ht]
     have h2:=hsame t ht
     obtain ⟨_,_,b1,h3,h4⟩:=(qN ms s1 t).1 ht
     rw [h3] at h2 ⊢
     cases b1 with
     | st ty2 cs2=>have h2:lkB s'.bx t=some (.st ty2 cs2):=h2; rw [h2] at hb; cases hb
     | rw e2 k2 ty2 xs2 pins2 =>
      obtain ⟨pins',h2⟩:=h2
      rw [h2] at hb
      injection hb with hb
      injection hb with q1 q2 q3 q4 q5
      subst q3
      have q4:=eq_of_heq q4
      subst q4
      exact ⟨_,_,_,_,_,rfl,rfl⟩
    ·exact .junk _
 ·show kQ (lkB s1.bx t) (lkB bx2 t)
  have ht:aA (cf sc wr ms s1).pr t=true:=ht
  rw [k4 t (hprm t ht),yY ht]
  match lkB s1.bx t with
  | none=>rfl
  | some (.st _ _)=>rfl
  | some (.rw _ _ _ _ _)=>exact ⟨[],rfl⟩
 ·show lkV (X++(cf sc wr ms s1).sl) i=lkV s1.sl i
  have hsf:lj (cf sc wr ms s1).pr (lkV s1.sl i)=true:=hsf
  rw [JX,if_neg,hbase,if_neg (by simp [hi]),if_pos]
  ·refine OK (fun t h=>h) (fun t ty cs hb=>?_) (hs1.sl i) hsf
   rw [dj,dj,Bool.or_eq_true,Bool.or_eq_true]
   rcases o7 _ _ _ _ c4 t ty cs rfl hb with h | h | h
   ·exact .inl h
   ·exact .inr (.inl ((qM s1.bx sc t).2 ⟨h,ty,cs,hb⟩))
   ·by_cases hm:aA (bA ms) t=true
    ·exact .inl hm
    ·by_cases hsc:aA sc t=true
     ·exact .inr (.inl ((qM s1.bx sc t).2 ⟨hsc,ty,cs,hb⟩))
     ·exact .inr (.inr ((qN ms s1 t).2 ⟨by simpa using hm,by simpa using hsc,_,hb,h⟩))
  ·intro hX1
   obtain ⟨m,hm,hkey⟩:=hkeys i hX1
   rcases o1 m hm i hkey with h | ⟨R,h1,h2⟩
   ·rw [h] at hi; cases hi
   ·rw [h2] at hsf
    have hsf:aA (cf sc wr ms s1).pr R=true:=hsf
    rw [hprm R hsf] at h1
    cases h1
 ·show ∃ cs',lkB bx2 t = _∧_
  rw [k4 t (hscm t ht),DB ht (show lkB s1.bx t = _ from hb)]
  exact ⟨_,rfl,A1 cs⟩
end
section
theorem Dq {P:Program} {s:SS} {p:PS} (hs:Sim s p) : ∀ {l:List ResultVar} {vs:List SV},LS P s l=some vs→∃ qs,l.mapM (CK P p)=some qs∧ca s.bx vs qs
 | [],vs,h=>by injection h with h; subst h; exact ⟨[],rfl,.nil⟩
 | .tmp t::l,vs,h=>by
  simp only [LS] at h
  split at h
  ·rename_i vs' h1
   injection h with h
   subst h
   obtain ⟨qs,h2,h3⟩:=Dq hs h1
   exact ⟨p.t t::qs,by simp [List.mapM_cons,CK,h2],.cons (hs.sl t) h3⟩
  ·cases h
 | .cell t ty::l,vs,h=>by
  simp only [LS] at h
  split at h
  ·rename_i v vs' h0 h1
   injection h with h
   subst h
   obtain ⟨qs,h2,h3⟩:=Dq hs h1
   obtain ⟨r,h4,h5⟩:=Mg hs (hs.sl t) h0
   exact ⟨r::qs,by simp [List.mapM_cons,CK,h4,h2],.cons h5 h3⟩
  ·cases h
theorem MY {s:SS} {p:PS} (hs:Sim s p) : ∀ {rs:List PT} {vs:List SV} {qs:List PV} {x:bc rs},ca s.bx vs qs→IT s rs vs=some x→bQ p.b qs=yq rs x
 | [],[],qs,x,hv,h=>by
  rcases hv.cases with ⟨_,rfl⟩ | ⟨_,_,_,_,h1,_⟩
  ·rfl
  ·cases h1
 | [],_ :: _,_,x,_,h=>dN (x:=x) h
 | [t],[],_,x,_,h=>dN (x:=x) h
 | [t],[v],qs,x,hv,h=>by
  rcases hv.cases with ⟨h1,_⟩ | ⟨v',q,vs',qs',h1,rfl,h2,h3⟩
  ·cases h1
  ·injection h1 with e1 e2
   subst e1 e2
   rcases h3.cases with ⟨_,rfl⟩ | ⟨_,_,_,_,h4,_⟩
   ·have:=(Dy hs h2 (show M5 s t v=some x from h)).1
    simp only [bQ,yq,this]
   ·cases h4
 | [t],_ :: _ :: _,_,x,_,h=>dN (x:=x) h
 | t::t' :: rs,[],_,x,_,h=>dN (x:=x) h
 | t::t' :: rs,v::vs,qs,x,hv,h=>by
  rcases hv.cases with ⟨h1,_⟩ | ⟨v',q,vs',qs',h1,rfl,h2,h3⟩
  ·cases h1
  ·injection h1 with e1 e2
   subst e1 e2
   have h:Option.bind (M5 s t v) (fun x=>Option.bind (IT s (t' :: rs) vs) fun xs=>some (x,xs))=some x:=h
   obtain ⟨y,h4,h5⟩:=cN h
   obtain ⟨ys,h6,h7⟩:=cN h5
   injection h7 with h7
   subst h7
   simp only [bQ,yq,(Dy hs h2 h4).1,MY hs h3 h6]
theorem IR {s:SS} : ∀ {rs:List PT} {vs:List SV} {x:bc rs},IT s rs vs=some x→vs.length=rs.length
 | [],[],x,_=>rfl
 | [],_ :: _,x,h=>dN (x:=x) h
 | [t],[],x,h=>dN (x:=x) h
 | [t],[v],x,_=>rfl
 | [t],_ :: _ :: _,x,h=>dN (x:=x) h
 | t::t' :: rs,[],x,h=>dN (x:=x) h
 | t::t' :: rs,v::vs,x,h=>by
  have h:Option.bind (M5 s t v) (fun x=>Option.bind (IT s (t' :: rs) vs) fun xs=>some (x,xs))=some x:=h
  obtain ⟨y,h4,h5⟩:=cN h
  obtain ⟨ys,h6,h7⟩:=cN h5
  simp only [List.length_cons,IR h6]
theorem Mo {C:Cx} {fn:Func} (hv:fn.results.toList=C.vars) {s:SS} {p:PS} (hs:Sim (clr s) p) {r:bc C.rs} (hM:pa C.rs=false) (h:B9 C s=some r) : ∃ q,rg C.P fn p=some q∧asData p.b q=toR C.rs r:=by
 unfold B9 at h
 rw [hM] at h
 simp only at h
 split at h
 ·rename_i vs hvs
  obtain ⟨qs,h1,h2⟩:=Dq hs hvs
  have h3:=MY hs h2 h
  have h4:=IR h
  have h5:=h2.len
  unfold rg
  rw [hv,h1]
  match qs,h3,h5 with
  | [],h3,h5 =>
   refine ⟨.tup [],rfl,?_⟩
   rcases rQ C.rs r with ⟨q,k1,_⟩ | k1
   ·rw [k1] at h3; simp [bQ] at h3
   ·rw [k1,← h3]; rfl
  | [q],h3,h5 =>
   refine ⟨q,rfl,?_⟩
   have:C.rs.length=1:=by rw [← h4,h5]; rfl
   rcases rQ C.rs r with ⟨q',k1,k2⟩ | k1
   ·rw [k1] at h3
    rw [k2]
    simpa [bQ] using h3
   ·exfalso
    match C.rs,r,this,k1 with
    | [t],r,_,k1=>cases t <;> simp [toR,pD] at k1
  | q::q' :: qs,h3,h5 =>
   refine ⟨.tup (q::q' :: qs),rfl,?_⟩
   rcases rQ C.rs r with ⟨q2,k1,_⟩ | k1
   ·rw [k1] at h3; simp [bQ] at h3
   ·rw [k1,← h3]; rfl
 ·cases h
theorem OY:∀ (rs:List PT) (o:yB (cx rs)) (r:bc (eZ rs)),jN rs (Wx rs o r)=o∧hZ rs (Wx rs o r)=r
 | [],_,_=>⟨rfl,rfl⟩
 | [.io _],_,_=>⟨rfl,rfl⟩
 | .io _ :: _ :: _,_,_=>⟨rfl,rfl⟩
 | .own .. :: _,_,_=>⟨rfl,rfl⟩
 | .mv .. :: _,_,_=>⟨rfl,rfl⟩
 | .bx .. :: _,_,_=>⟨rfl,rfl⟩
 | .agr .. :: _,_,_=>⟨rfl,rfl⟩
 | .lf _ :: _,_,_=>⟨rfl,rfl⟩
 | .ag _ :: _,_,_=>⟨rfl,rfl⟩
 | .pl _ :: _,_,_=>⟨rfl,rfl⟩
 | .ps _ :: _,_,_=>⟨rfl,rfl⟩
 | .fn .. :: _,_,_=>⟨rfl,rfl⟩
def boI (i:Nat) : (b:IB)→List Nat→b.den→BU
 | .no,_,_=>[]
 | .own e k t,_,xs=>[(un i,rwU e k t xs)]
 | .bx ty n rows,js,x=>(un i,.st ty (ef (mr rows js) 0 (stD n x)))::ch (mr rows js) 0 (stD n x)
def sA:Nat→(ls:List IB)→List (List Nat)→yB ls→BU
 | i,b::ls,js::kss,o=>boI i b js o.1++sA (i + 1) ls kss o.2
 | _,_,_,_=>[]
def SM (C:Cx) (fn:Func) (p:PS) (r:bc C.rs) : Prop :=
 (pa C.rs=false→∃ q,rg C.P fn p=some q∧asData p.b q=toR C.rs r) ∧
 (pa C.rs=true→∃ kss jss,jZ (cx C.rs) kss∧iQ (eZ C.rs) jss∧(dw 0 (cx C.rs)++(br kss++br jss)).Nodup∧(∃ q,rg C.P fn p=some q∧qK q=yC (cT (eZ C.rs) jss (hZ C.rs r)).1) ∧
  ∀ t Bx,(t,Bx)∈sA 0 (cx C.rs) kss (jN C.rs r)++(cT (eZ C.rs) jss (hZ C.rs r)).2→∃ B',p.b t=some B'∧sd B' = Bx)
theorem JP {rows:List (Nat×Nat×Nat×Nat×Ty)} {t:Nat} {Bx:Box} : ∀ {ds:List D} {j:Nat},(t,Bx)∈ch rows j ds→sd Bx=Bx
 | [],j,h=>by cases h
 | d::ds,j,h=>by
  simp only [ch] at h
  split at h
  ·split at h
   ·rcases List.mem_cons.1 h with e | h
    ·injection e with _ e; subst e; rfl
    ·exact JP h
   ·exact JP h
  ·exact JP h
theorem Ze {s:SS} {p:PS} (hs:Sim s p) {i:Nat} {b:IB} {o:b.den} {js:List Nat} (h:Zf s i b=some (o,js)) : js.length=b.nJ∧∀ t Bx,(t,Bx)∈boI i b js o→∃ B',p.b t=some B'∧sd B' = Bx:=by
 cases b with
 | no =>
  injection h with h
  injection h with _ h
  subst h
  exact ⟨rfl,fun _ _ h=>by cases h⟩
 | own e k t =>
  simp only [Zf] at h
  split at h
  ·rename_i xs is hd
   injection h with h
   injection h with e1 e2
   subst e1 e2
   refine ⟨rfl,fun t' Bx hm=>?_⟩
   have hbx:=hs.bx (un i)
   unfold tG at hd
   simp only at hd
   split at hd
   ·rename_i e' k' t2 xs' pins hb
    split at hd
    ·rename_i hty _
     obtain ⟨m2,hd⟩:=ao hd
     obtain ⟨m3,hd⟩:=ao hd
     injection hd with hd
     injection hd with e1 e2
     subst e1 hty
     have m2:=zd m2
     have m3:=zd m3
     subst m2 m3
     rw [hb] at hbx
     simp only [boI,List.mem_cons,List.not_mem_nil,or_false,Prod.mk.injEq] at hm
     obtain ⟨rfl,rfl⟩:=hm
     exact ⟨_,hbx.1,rfl⟩
    ·cases hd
   ·cases hd
  ·cases h
 | bx ty n rows =>
  simp only [Zf] at h
  split at h
  ·rename_i ty' cs hb
   obtain ⟨m1,h⟩:=ao h
   have m1:=zd m1
   subst m1
   have hbx:=hs.bx (un i)
   rw [hb] at hbx
   obtain ⟨qs,k1,k2⟩:=hbx
   obtain ⟨k3,k4,k5⟩:=Fw hs k2 h
   refine ⟨k3,fun t Bx hm=>?_⟩
   rcases List.mem_cons.1 hm with e | hm
   ·injection e with e1 e2
    subst e1 e2
    exact ⟨_,k1,by rw [sd,k4]⟩
   ·exact ⟨_,k5 t Bx hm,JP hm⟩
  ·cases h
theorem M1 {s:SS} {p:PS} (hs:Sim s p) : ∀ {ls:List IB} {i:Nat} {o:yB ls} {kss:List (List Nat)},Sy s i ls=some (o,kss)→jZ ls kss∧∀ t Bx,(t,Bx)∈sA i ls kss o→∃ B',p.b t=some B'∧sd B' = Bx
 | [],i,o,kss,h=>by
  injection h with h
  injection h with _ h
  subst h
  exact ⟨trivial,fun _ _ h=>by cases h⟩
 | b::ls,i,o,kss,h=>by
  simp only [Sy] at h
  split at h
  ·rename_i o1 js os kss' h1 h2
   injection h with h
   injection h with e1 e2
   subst e1 e2
   obtain ⟨k1,k2⟩:=Ze hs h1
   obtain ⟨k3,k4⟩:=M1 hs h2
   refine ⟨⟨k1,k3⟩,fun t Bx hm=>?_⟩
   rcases List.mem_append.1 hm with hm | hm
   ·exact k2 t Bx hm
   ·exact k4 t Bx hm
  ·cases h
theorem IU {s:SS} {p:PS} (hs:Sim s p) : ∀ {rs:List PT} {vs:List SV} {qs:List PV} {x:bc rs} {jss:List (List Nat)},ca s.bx vs qs→Ki s rs vs=some (x,jss) →
  iQ rs jss∧dM qs=(cT rs jss x).1∧∀ t Bx,(t,Bx)∈(cT rs jss x).2→∃ B',p.b t=some B'∧sd B' = Bx
 | [],[],qs,x,jss,hv,h=>by
  rcases hv.cases with ⟨_,rfl⟩ | ⟨_,_,_,_,h1,_⟩
  ·injection h with h
   injection h with _ h
   subst h
   exact ⟨trivial,rfl,fun _ _ h=>by cases h⟩
  ·cases h1
 | [],_ :: _,_,x,jss,_,h=>dN (x:=(x,jss)) h
 | [pt],[],_,x,jss,_,h=>dN (x:=(x,jss)) h
 | [pt],[v],qs,x,jss,hv,h=>by
  rcases hv.cases with ⟨h1,_⟩ | ⟨v',q,vs',qs',h1,rfl,h2,h3⟩
  ·cases h1
  ·injection h1 with e1 e2
   subst e1 e2
   rcases h3.cases with ⟨_,rfl⟩ | ⟨_,_,_,_,h4,_⟩
   ·have h:(match Px s pt v with | some (x,is)=>some (x,[is]) | none=>none)=some (x,jss):=h
    split at h
    ·rename_i y is hd
     injection h with h
     injection h with e1 e2
     subst e1 e2
     obtain ⟨k1,k2,k3⟩:=Kj hs h2 hd
     exact ⟨⟨k1,trivial⟩,by simp only [dM,cT,k2],k3⟩
    ·cases h
   ·cases h4
 | [pt],_ :: _ :: _,_,x,jss,_,h=>dN (x:=(x,jss)) h
 | pt::q::l,[],_,x,jss,_,h=>dN (x:=(x,jss)) h
 | pt::q::l,v::vs,qs,x,jss,hv,h=>by
  rcases hv.cases with ⟨h1,_⟩ | ⟨v',qv,vs',qs',h1,rfl,h2,h3⟩
  ·cases h1
  ·injection h1 with e1 e2
   subst e1 e2
   have h:(match Px s pt v,Ki s (q::l) vs with | some (x,is),some (xs,iss)=>some ((x,xs),is::iss) | _,_=>none)=some (x,jss):=h
   split at h
   ·rename_i y is ys iss hd hr
    injection h with h
    injection h with e1 e2
    subst e1 e2
    obtain ⟨k1,k2,k3⟩:=Kj hs h2 hd
    obtain ⟨k4,k5,k6⟩:=IU hs h3 hr
    refine ⟨⟨k1,k4⟩,by simp only [dM,cT,k2,k5],fun t Bx hm=>?_⟩
    rcases List.mem_append.1 hm with hm | hm
    ·exact k3 t Bx hm
    ·exact k6 t Bx hm
   ·cases h
theorem OO {P:Program} {fn:Func} {p:PS} {qs:List PV} (h:fn.results.toList.mapM (CK P p)=some qs) : rg P fn p=some (yC qs):=by
 unfold rg
 rw [h]
 match qs with
 | []=>rfl
 | [q]=>rfl
 | q::q' :: qs=>rfl
theorem YH (qs:List PV) : qK (yC qs)=yC (dM qs):=by
 match qs with
 | []=>rfl
 | [q]=>rfl
 | q::q' :: qs=>rfl
theorem R8 {C:Cx} {fn:Func} (hv:fn.results.toList=C.vars) {s:SS} {p:PS} (hpr:ml (clr s)) (hs:Sim (clr s) p) {r:bc C.rs} (h:B9 C s=some r) : ∃ p',Le p p'∧SM C fn p' r:=by
 cases hM:pa C.rs with
 | false=>exact ⟨p,.refl p,fun _=>Mo hv hs hM h,fun e=>by rw [hM] at e; cases e⟩
 | true =>
  unfold B9 at h
  rw [hM] at h
  simp only [ZB] at h
  split at h
  ·split at h
   ·rename_i s1 hf
    obtain ⟨p1,k1,k2,_,_⟩:=xF (sc:=C.sc) hpr hs hf
    split at h
    ·rename_i ws hws
     obtain ⟨qs,k3,k4⟩:=Dq k2 hws
     split at h
     ·rename_i o kss r' jss ho hr
      obtain ⟨hn,h⟩:=ao h
      injection h with h
      obtain ⟨e1,e2⟩:=OY C.rs o r'
      rw [h] at e1 e2
      obtain ⟨m1,m2⟩:=M1 k2 ho
      obtain ⟨m3,m4,m5⟩:=IU k2 k4 hr
      refine ⟨p1,k1,fun e=>(by rw [hM] at e; cases e),fun _=>⟨kss,jss,m1,m3,i8 hn,⟨_,OO (by rw [hv]; exact k3),by rw [YH,m4,e2]⟩,fun t Bx hm=>?_⟩⟩
      rw [e1,e2] at hm
      rcases List.mem_append.1 hm with hm | hm
      ·exact m2 t Bx hm
      ·exact m5 t Bx hm
     ·cases h
    ·cases h
   ·cases h
  ·cases h
def w8 (C:Cx) (fn:Func) (W:List Nat) (s:SS) {ρ : Type} (k:Exit→SS→Option ρ) (kr:bc C.rs→Option ρ) (res : ρ) : Exit→PS→Prop
 | .ret,p'=>∃ r,SM C fn p' r∧kr r=some res
 | e,p'=>∃ s',gY s' p'∧dK C.sc W s s'∧k e s' = some res
theorem YJ {a b:List Nat} {i:Nat} (h:aA a i=true) : aA (a++b) i=true:=by rw [dj,h]; rfl
theorem Wh {a b:List Nat} {i:Nat} (h:aA b i=true) : aA (a++b) i=true:=by rw [dj,h]; simp
variable {C:Cx} {fn:Func}
theorem qO {W:List Nat} {s:SS} {ρ : Type} {k:Exit→SS→Option ρ} {kr:bc C.rs→Option ρ} {res : ρ} {e:Exit} {p:PS} (he:e≠.ret) (h:w8 C fn W s k kr res e p) : ∃ s',gY s' p∧dK C.sc W s s'∧k e s' = some res:=by
 cases e <;> first | exact h | exact absurd rfl he
theorem L4 {W:List Nat} {s s':SS} {ρ : Type} {k:Exit→SS→Option ρ} {kr:bc C.rs→Option ρ} {res : ρ} {e:Exit} {p:PS} (he:e≠.ret) (h1:gY s' p) (h2:dK C.sc W s s') (h3:k e s' = some res) : w8 C fn W s k kr res e p:=by
 cases e <;> first | exact ⟨s',h1,h2,h3⟩ | exact absurd rfl he
def Vq (C:Cx) (fn:Func) (c:Code) (W:List Nat) (body:(ρ : Type)→SS→(Exit→SS→Option ρ)→(bc C.rs→Option ρ)→Option ρ) : Prop :=
 ∀ (ρ : Type) (s:SS) (p:PS) (k:Exit→SS→Option ρ) (kr:bc C.rs→Option ρ) (res : ρ),ml s→gY s p→body ρ s k kr=some res→PWP C.P C.n c (w8 C fn W s k kr res) p
theorem OU {wr:List Nat} {ms:List Mod} {s s1:SS} (hpr:ml s) (hk:dK C.sc wr s s1) (hchk:tn C.sc wr ms s.pr s1=true) : ∀ t,aA s.pr t=true→aA (cf C.sc wr ms s1).pr t=true:=by
 intro t ht
 unfold tn at hchk
 simp only [Bool.and_eq_true] at hchk
 obtain ⟨c1,c2,c3,c4⟩:=hchk
 rw [qN]
 refine ⟨?_,?_,hk.prOk hpr t (by rw [hk.pr]; exact ht)⟩
 ·cases hm:aA (bA ms) t with
  | false=>rfl
  | true =>
   have:=(uN c1).2 t hm
   rw [hk.pr,ht] at this
   cases this
 ·cases hm:aA C.sc t with
  | false=>rfl
  | true =>
   have:=tF c2 t hm
   rw [ht] at this
   cases this
mutual
theorem D8 {pr pr':List Nat} (h:∀ t,aA pr t=true→aA pr' t=true) : ∀ v:SV,lj pr v=true→lj pr' v=true
 | .junk,_=>rfl
 | .d _,_=>rfl
 | .fe _,_=>rfl
 | .ptr _ _,_=>rfl
 | .row t,hs=>h t hs
 | .re _ _ _,hs=>by cases hs
 | .vw _ _ _,hs=>by cases hs
 | .ag cs,hs=>by simp only [lj] at hs ⊢; exact nU h cs hs
 | .tup cs,hs=>by simp only [lj] at hs ⊢; exact nU h cs hs
 | .fn f ps qs,hs=>by simp only [lj,Bool.and_eq_true] at hs ⊢; exact ⟨nU h ps hs.1,nU h qs hs.2⟩
theorem nU {pr pr':List Nat} (h:∀ t,aA pr t=true→aA pr' t=true) : ∀ cs:List SV,ed pr cs=true→ed pr' cs=true
 | [],_=>rfl
 | c::cs,hs=>by
  simp only [ed,Bool.and_eq_true] at hs ⊢
  exact ⟨D8 h c hs.1,nU h cs hs.2⟩
end
theorem xB {wr:List Nat} {ms:List Mod} {s s1 s2:SS} {oc:List Nat} (hk:dK C.sc wr s s1) (hsub:∀ t,aA s.pr t=true→aA (cf C.sc wr ms s1).pr t=true) (hk2:dK C.sc wr (ub C.sc wr ms s1) s2) : dK C.sc wr s ⟨s2.sl,s2.bx,s.pr,s.ro,oc⟩:=by
 refine ⟨rfl,rfl,fun t ht=>(hk.bx t ht).trans (hk2.bx t (hsub t ht)),fun i hi hsf=>?_,fun t ht ty cs hb=>?_⟩
 ·have e:=hk.sl i hi hsf
  have:=hk2.sl i hi (D8 hsub _ (by show lj s.pr (lkV s1.sl i)=true; rw [e]; exact hsf))
  exact this.trans e
 ·obtain ⟨cs1,h1,h2⟩:=hk.st t ht ty cs hb
  obtain ⟨cs2,h3,h4⟩:=hk2.st t ht ty cs1 h1
  exact ⟨cs2,h3,h4.trans h2⟩
theorem yy {s:SS} (h:ml s) : ml (clr s):=h
theorem Mq {W:List Nat} {s s':SS} (h:dK C.sc W (clr s) s') : dK C.sc W s s':=⟨h.pr,h.ro,h.bx,h.sl,h.st⟩
theorem yj {c:Code} {wr:List Nat} {h:ur} {body:(ρ : Type)→SS→(Exit→SS→Option ρ)→(bc C.rs→Option ρ)→Option ρ} (hb:Vq C fn c wr body) : Vq C fn c wr (Hz C wr h body):=by
 intro ρ s p k kr res hpr hs hx
 unfold Hz at hx
 split at hx
 ·rename_i ms h'
  split at hx
  ·cases hx
  ·rename_i s1 hnil
   obtain ⟨hchk,hx⟩:=ao hx
   obtain ⟨st,h1,h2⟩:=cN hx
   split at h2
   ·rename_i s2 hput
    refine uF (A0 hs) ?_
    obtain ⟨p2,k1,k2,k3,k4⟩:=qR (sc:=C.sc) (s:=clr s) rfl (yy hpr) (rX hs) hnil
    refine uF k1 ?_
    have hk1:dK C.sc wr s s1:=Mq k3
    have hw:gY (ub C.sc wr ms s1) p2:=⟨k2.w.sl,k2.w.bx⟩
    refine fx (hb _ (ub C.sc wr ms s1) p2 _ _ st (A6 ms s1) hw h1) fun e p' hq=>?_
    by_cases he:e = .ret
    ·subst he
     obtain ⟨r,_,h⟩:=hq
     cases h
    ·obtain ⟨s',m1,m2,m3⟩:=qO he hq
     cases e with
     | normal =>
      have m3:qP ms s' = some st:=m3
      unfold qP at m3
      split at m3
      ·rename_i s'' hf
       obtain ⟨p'',n1,n2,n3⟩:=sn (sc:=C.sc) (m2.prOk (A6 ms s1)) m1 hf
       have hchk':tn C.sc wr ms s1.pr s1=true:=by rw [hk1.pr]; exact hchk
       obtain ⟨o1,o2,o3⟩:=JU k2.w hchk' (m2.trans (n3 wr)) n2 m3 hput
       exact ⟨p'',n1,⟨s2.sl,s2.bx,s.pr,s.ro,s.oc⟩,⟨o1.sl,o1.bx⟩,xB hk1 (OU hpr hk1 hchk) o2,h2⟩
      ·cases m3
     | ret=>exact absurd rfl he
     | _=>cases m3
   ·cases h2
 ·exact hb ρ s p k kr res hpr hs hx
end
section
variable {C:Cx} {fn:Func}
theorem rV:∀ {l:List Oper},VP l=true→∀ o∈l,∀ t x y,o.op = .store t x y→o.dst=none
 | [],_,o,ho,_,_,_,_=>by cases ho
 | x::l,h,o,ho,t,a,b,hop=>by
  simp only [VP] at h
  rcases List.mem_cons.1 ho with rfl | ho
  ·cases hd:o.dst with
   | none=>rfl
   | some d=>rw [hop,hd] at h; cases h
  ·split at h
   ·cases h
   ·exact rV h o ho t a b hop
theorem RL (hT:qZ C.P C.T) (hm:C.P.follows .mixedOrders=true) (id:Nat) (ops:Array Oper) (draw:Bool) : Vq C fn (.region id ops draw) (ci ops.toList) (fun _ s k _=>VZ C id ops draw s fun s=>k .normal s):=by
 intro ρ s p k kr res hpr hs h
 have ha:ops.toList.toArray=ops:=by simp
 have hW:∀ o∈ops.toList,∀ d,o.dst=some d→aA (ci ops.toList) d=true:=fun o ho d hd=>tE ho hd
 have hO:∀ (j:Nat) (o:Oper),ops[j]? = some o→∀ d,o.dst=some d→aA (ci ops.toList) d=true:=fun j o ho d hd=>tE (by
  rw [Array.mem_toList_iff]
  exact Array.mem_of_getElem? ho) hd
 replace h:VZ C id ops draw s (fun s=>k .normal s)=some res:=h
 unfold VZ at h
 cases hf:lz (lkF C.fz id) s with
 | none=>rw [hf] at h; cases h
 | some s0 =>
  rw [hf] at h
  obtain ⟨p1,k1,k2,k3⟩:=sn (sc:=C.sc) hpr hs hf
  refine uF k1 (uF (A0 k2) ?_)
  have hs2:=rX k2
  have hpr2:ml ⟨s0.sl,s0.bx,s0.pr,s0.ro,[]⟩:=(k3 []).prOk hpr
  have fin:∀ p',Gz C.sc (ci ops.toList) ops.toList ⟨s0.sl,s0.bx,s0.pr,s0.ro,[]⟩ (xM s0 p1) (fun s=>k .normal s) res p'→w8 C fn (ci ops.toList) s k kr res .normal p':=by
   rintro p' ⟨s',m1,m2,m3,m4,_⟩
   exact ⟨s',m1.w,(k3 _).trans ⟨m2.pr,m2.ro,m2.bx,m2.sl,m2.st⟩,m4⟩
  simp only at h
  cases draw <;> simp only at h
  ·obtain ⟨h1,h2⟩:=ao h
   rw [Bool.and_eq_true] at h1
   have hrun:=Dm (q:=true) (sc:=C.sc) hT (ops:=ops) 1000 0 [] ops.toList hW hO (rV h1.1) hpr2 hs2 h2
   have:=L0 (P:=C.P) (n:=C.n) (id:=id) (Qs:=w8 C fn (ci ops.toList) s k kr res) (s:=xM s0 p1) h1.2 (by rw [ha]; exact fS hrun fin)
   rw [ha] at this
   exact this
  ·obtain ⟨h1,h2⟩:=ao h
   obtain ⟨h3,h4⟩:=ao h2
   split at h4
   ·have hrun:=Dm (q:=false) (sc:=C.sc) hT (ops:=ops) 1000 0 [] ops.toList hW hO (rV h1) hpr2 hs2 h4
    have:=V3 (P:=C.P) (n:=C.n) (id:=id) (l:=ops.toList) (Qs:=w8 C fn (ci ops.toList) s k kr res) (s:=xM s0 p1) _ hm (by rw [ha]; exact h3) (by
     rw [ha]
     exact AK (P:=C.P) (ops:=ops) ops.toList 0 (xM s0 p1) (fun j hj=>by simp) (fS hrun fin))
    rw [ha] at this
    exact this
   ·obtain ⟨h5,h6⟩:=ao h4
    rw [Bool.and_eq_true] at h5
    have hle:=zd h5.2
    have hsub1:∀ o∈ops.toList.take (i6 ops),o∈ops.toList:=fun o ho=>List.mem_of_mem_take ho
    have hsub2:∀ o∈ops.toList.drop (i6 ops),o∈ops.toList:=fun o ho=>List.mem_of_mem_drop ho
    have hrun1:=Dm (q:=false) (sc:=C.sc) hT (ops:=ops) 1000 0 [] (ops.toList.take (i6 ops)) (fun o ho=>hW o (hsub1 o ho)) hO (fun o ho=>rV h1 o (hsub1 o ho)) hpr2 hs2 h6
    have hrun:wy false C.P ops (yE (kU C.T ⟨s0.sl,s0.bx,s0.pr,s0.ro,[]⟩ ops.toList [] [])) 0 (ops.toList.take (i6 ops)) (xM s0 p1) fun p'=>wy true C.P ops (yE []) 0 (ops.toList.drop (i6 ops)) p' (w8 C fn (ci ops.toList) s k kr res .normal):=by
     refine fS hrun1 fun p' hp=>?_
     obtain ⟨s',m1,m2,m3,m4,_⟩:=hp
     have hrun2:=Dm (q:=true) (sc:=C.sc) hT (ops:=ops) 1000 0 [] (ops.toList.drop (i6 ops)) (fun o ho=>hW o (hsub2 o ho)) hO (fun o ho=>rV h1 o (hsub2 o ho)) m3 m1 m4
     refine fS hrun2 fun p2 hp2=>?_
     obtain ⟨s3,n1,n2,n3,n4,_⟩:=hp2
     exact ⟨s3,n1.w,(k3 _).trans ((show dK C.sc (ci ops.toList) s0 s' from ⟨m2.pr,m2.ro,m2.bx,m2.sl,m2.st⟩).trans n2),n4⟩
    have:=Ti (P:=C.P) (n:=C.n) (id:=id) (l:=ops.toList) (Qs:=w8 C fn (ci ops.toList) s k kr res) (s:=xM s0 p1) _ (i6 ops) hle hm (by rw [ha]; exact h3) (by rw [ha]; exact h5.1) (by
     rw [ha]
     have e1:(ops.toList.take (i6 ops)).length=i6 ops:=by rw [List.length_take]; exact Nat.min_eq_left (by simpa using hle)
     have e2:(ops.toList.drop (i6 ops)).length=ops.toList.length - i6 ops:=by simp
     rw [← e2]
     have r1:=AK (P:=C.P) (ops:=ops) (ops.toList.take (i6 ops)) 0 (xM s0 p1) (fun j hj=>by
      rw [e1] at hj
      rw [List.getElem?_take,if_pos hj]
      simp) hrun
     rw [e1] at r1
     refine HW r1 fun p' hp=>RG _ _ _ _ (fun j hj=>by rw [List.getElem?_drop]; simp) hp)
    rw [ha] at this
    exact this
theorem Yt (hT:qZ C.P C.T) (hm:C.P.follows .mixedOrders=true) (id:Nat) (ops:Array Oper) (draw:Bool) : Vq C fn (.region id ops draw) (ci ops.toList) (fun _ s k _=>Yu C id ops draw s fun s=>k .normal s):=by
 intro ρ s p k kr res hpr hs h
 replace h:Yu C id ops draw s (fun s=>k .normal s)=some res:=h
 unfold Yu at h
 split at h
 ·exact RL hT hm id ops draw ρ s p k kr res hpr hs h
 ·rename_i t l _
  obtain ⟨h1,h2⟩:=ao h
  have h3:=RL (fn:=fn) hT hm id ops draw ρ s p (fun e s=>match e with | .normal=>(match Iz C.sc (t::l) s with | some s=>k .normal s | none=>none) | e=>k e s) kr res hpr hs h2
  refine fx h3 fun e p' hq=>?_
  by_cases he:e = .ret
  ·subst he; exact ⟨p',.refl _,hq⟩
  ·obtain ⟨s',m1,m2,m3⟩:=qO he hq
   cases e with
   | ret=>exact absurd rfl he
   | normal =>
    have m3:(match Iz C.sc (t::l) s' with | some s=>k .normal s | none=>none)=some res:=m3
    split at m3
    ·rename_i s2 hfb
     obtain ⟨p2,k1,k2,k3⟩:=ME hs (m2.prOk hpr) h1 m2 m1 hfb
     exact ⟨p2,k1,s2,k2,k3,m3⟩
    ·cases m3
   | _=>exact ⟨p',.refl _,L4 he m1 m2 m3⟩
theorem D4 {s:SS} {p:PS} (hs:gY s p) {x:Operand} {b:Bool} (h:evX s x = .d (.bool b)) : gY (wR s x b) p:=by
 unfold wR
 split
 ·rename_i i
  refine ⟨fun j=>?_,hs.bx⟩
  show bf s.bx (lkV ((i,.d (.bool b))::s.sl) j) (p.t j)
  rw [cW]
  split
  ·rename_i e
   subst e
   have:=hs.sl j
   rw [show lkV s.sl j = .d (.bool b) from h] at this
   exact this
  ·exact hs.sl j
 ·exact hs
theorem EI {W:List Nat} {s:SS} {x:Operand} {b:Bool} (h:∀ i,x = .tmp i→aA W i=true) : dK C.sc W s (wR s x b):=by
 unfold wR
 split
 ·rename_i i
  refine ⟨rfl,rfl,fun _ _=>.refl _,fun j hj _=>?_,fun _ _ _ cs h=>⟨cs,h,rfl⟩⟩
  show lkV ((i,.d (.bool b))::s.sl) j = _
  rw [cW,if_neg (fun e=>by rw [e,h i rfl] at hj; cases hj)]
 ·exact .refl _ _
theorem EE {s:SS} {x:Operand} {b:Bool} (h:ml s) : ml (wR s x b):=by unfold wR; split <;> exact h
theorem WZ {s:SS} {p:PS} (hs:gY s p) (x:Operand) : bf s.bx (evX s x) (ev p x):=by
 cases x with
 | tmp i=>exact hs.sl i
 | const v=>exact FB v
 | global g=>exact .junk _
 | func f=>exact .fn f [] [] [] [] rfl (fun j c q h=>by simp at h) rfl (fun j c q h=>by simp at h)
theorem xq {W W':List Nat} {s s0:SS} {ρ : Type} {k:Exit→SS→Option ρ} {kr:bc C.rs→Option ρ} {res : ρ} (hW:∀ i,aA W i=true→aA W' i=true) (hk:dK C.sc W' s0 s) {e:Exit} {p:PS} (h:w8 C fn W s k kr res e p) : w8 C fn W' s0 k kr res e p:=by
 by_cases he:e = .ret
 ·subst he; exact h
 ·obtain ⟨s',h1,h2,h3⟩:=qO he h
  exact L4 he h1 (hk.trans (h2.wide hW)) h3
theorem EB {σ τ : Type} {f : σ→Option (σ⊕τ)} {m:Nat} {st : σ} {out : τ} (h:ah f m st=some out) : ∃ m',m=m' + 1∧((∃ st',f st=some (.inl st')∧ah f m' st' = some out)∨f st=some (.inr out)):=by
 cases m with
 | zero=>cases h
 | succ m =>
  refine ⟨m,rfl,?_⟩
  unfold ah at h
  split at h
  ·cases h
  ·rename_i st' hf; exact .inl ⟨st',hf,h⟩
  ·rename_i r hf; injection h with h; subst h; exact .inr hf
theorem R2 {c:Code} {ms:List Mod} {id:Nat} {τ : Type} {inr:jU ms→τ} {ret:bc C.rs→Option τ} {step:jU ms→Option (jU ms⊕τ)} {body:(ρ : Type)→SS→(Exit→SS→Option ρ)→(bc C.rs→Option ρ)→Option ρ} (hb:Vq C fn c (wrC c) body)
  {s0:SS} (hstep:step=fun st=>match jM ms st (cf C.sc (wrC c) ms s0) with
   | none=>none
   | some sh=>body (jU ms⊕τ) sh (fun e s'=>match e with
    | .normal=>Option.bind (qP ms s') fun st'=>some (.inl st')
    | .exit id'=>(match Nat.beq id' id with | true=>Option.bind (qP ms s') fun st'=>some (.inr (inr st')) | false=>none)
    | _=>none) (fun r=>(ret r).map .inr))
  {st0:jU ms} {p:PS} (hs0:gY s0 p) (hchk:tn C.sc (wrC c) ms s0.pr s0=true) (hpack:ua s0 ms=some st0) {out : τ} (hl:ah step ab st0=some out)
  (hput:∀ st,inr st=out→∃ s2,jM ms st (cf C.sc (wrC c) ms s0)=some s2) {Q:Exit→PS→Prop} (hexit:∀ st s2 p',inr st=out→jM ms st (cf C.sc (wrC c) ms s0)=some s2→gY s2 p'→dK C.sc (wrC c) (ub C.sc (wrC c) ms s0) s2→Q (.exit id) p')
  (hret:∀ r p',ret r=some out→SM C fn p' r→Q .ret p') : PWP C.P C.n (.loop c) Q p:=by
 have put_of:∀ {m st out},ah step m st=some out→∃ sh,jM ms st (cf C.sc (wrC c) ms s0)=some sh:=by
  intro m st out h
  obtain ⟨m',_,h⟩:=EB h
  have:∃ r,step st=some r:=by rcases h with ⟨st',h,_⟩ | h <;> exact ⟨_,h⟩
  obtain ⟨r,hr⟩:=this
  rw [hstep] at hr
  simp only at hr
  split at hr
  ·cases hr
  ·rename_i sh hsh; exact ⟨sh,hsh⟩
 refine Tg (ks:=[]) (bs:=[]) (fun q m=>∃ st sh,jM ms st (cf C.sc (wrC c) ms s0)=some sh∧gY sh q∧dK C.sc (wrC c) (ub C.sc (wrC c) ms s0) sh∧ah step m st=some out) ab ?_ ?_
 ·obtain ⟨sh,hsh⟩:=put_of hl
  obtain ⟨o1,o2,o3⟩:=JU hs0 hchk (.refl _ _) (s':=ub C.sc (wrC c) ms s0) ⟨hs0.sl,hs0.bx⟩ (show ua (ub C.sc (wrC c) ms s0) ms=some st0 from (by
   have:∀ (l:List Mod) (s s':SS),s.sl=s'.sl→s.bx=s'.bx→ua s l=ua s' l:=by
    intro l s s' h1 h2
    have cells:∀ (rows:List (Nat×Nat×Nat×Nat×Ty)) (cs:List SV) (j:Nat),cellsOf s rows j cs=cellsOf s' rows j cs:=by
     intro rows cs
     induction cs with
     | nil=>intro j; rfl
     | cons c cs ih=>intro j; simp only [cellsOf,h2,ih]
    have one:∀ m:Mod,A7 s m=A7 s' m:=by
     intro m
     cases m <;> simp only [A7,h1,h2,cells]
    induction l with
    | nil=>rfl
    | cons m l ih =>
     cases l with
     | nil=>exact one m
     | cons m' l=>simp only [ua,one,ih]
   exact (this ms (ub C.sc (wrC c) ms s0) s0 rfl rfl).trans hpack)) hsh
  exact ⟨st0,sh,hsh,o1,o2,hl⟩
 ·rintro q m ⟨st,sh,hsh,hq,hk,hlo⟩
  obtain ⟨m',rfl,hcase⟩:=EB hlo
  have hrun:∃ fr,step st=some fr∧((∃ st',fr = .inl st'∧ah step m' st' = some out)∨fr = .inr out):=by
   rcases hcase with ⟨st',h1,h2⟩ | h1
   ·exact ⟨_,h1,.inl ⟨st',rfl,h2⟩⟩
   ·exact ⟨_,h1,.inr rfl⟩
  obtain ⟨fr,hfr,hcase⟩:=hrun
  have hbody:body (jU ms⊕τ) sh (fun e s'=>match e with
    | .normal=>Option.bind (qP ms s') fun st'=>some (.inl st')
    | .exit id'=>(match Nat.beq id' id with | true=>Option.bind (qP ms s') fun st'=>some (.inr (inr st')) | false=>none)
    | _=>none) (fun r=>(ret r).map .inr)=some fr:=by
   rw [hstep] at hfr
   simp only [hsh] at hfr
   exact hfr
  have hprh:ml sh:=hk.prOk (A6 ms s0)
  have meet:∀ {s':SS} {p':PS} {st':jU ms} {s2:SS},gY s' p'→dK C.sc (wrC c) sh s'→qP ms s' = some st'→jM ms st' (cf C.sc (wrC c) ms s0)=some s2→∃ p'',Le p' p''∧gY s2 p''∧dK C.sc (wrC c) (ub C.sc (wrC c) ms s0) s2:=by
   intro s' p' st' s2 m1 m2 m3 m4
   unfold qP at m3
   split at m3
   ·rename_i s'' hf
    obtain ⟨p'',n1,n2,n3⟩:=sn (sc:=C.sc) (m2.prOk hprh) m1 hf
    obtain ⟨o1,o2,o3⟩:=JU hs0 hchk ((hk.trans m2).trans (n3 (wrC c))) n2 m3 m4
    exact ⟨p'',n1,o1,o2⟩
   ·cases m3
  refine fx (hb _ sh q _ _ fr hprh hq hbody) fun e p' hpost=>?_
  by_cases he:e = .ret
  ·subst he
   obtain ⟨r,h1,h3⟩:=hpost
   rw [zm] at h3
   obtain ⟨v,h4,h5⟩:=h3
   rcases hcase with ⟨st',rfl,_⟩ | rfl
   ·cases h5
   ·injection h5 with h5
    subst h5
    exact ⟨p',.refl _,hret r p' h4 h1⟩
  ·obtain ⟨s',m1,m2,m3⟩:=qO he hpost
   cases e with
   | normal =>
    obtain ⟨st',m4,m5⟩:=cN m3
    injection m5 with m5
    rcases hcase with ⟨st2,h1,h2⟩ | h1
    ·rw [← m5] at h1
     injection h1 with h1
     subst h1
     obtain ⟨sh',hsh'⟩:=put_of h2
     obtain ⟨p'',n1,n2,n3⟩:=meet m1 m2 m4 hsh'
     exact ⟨p'',n1,p'',fun _ _ _ _ _ h=>h,m',⟨st',sh',hsh',n2,n3,h2⟩,Nat.lt_succ_self _⟩
    ·rw [← m5] at h1; cases h1
   | exit id' =>
    replace m3:(match Nat.beq id' id with | true=>Option.bind (qP ms s') fun st'=>some (.inr (inr st')) | false=>none)=some fr:=m3
    split at m3
    ·rename_i hid
     rw [cY] at hid
     have hid:=zd hid
     subst hid
     obtain ⟨st',m4,m5⟩:=cN m3
     injection m5 with m5
     rcases hcase with ⟨st2,h1,h2⟩ | h1
     ·rw [← m5] at h1; cases h1
     ·rw [← m5] at h1
      injection h1 with h1
      obtain ⟨s2,hs2⟩:=hput st' h1
      obtain ⟨p'',n1,n2,n3⟩:=meet m1 m2 m4 hs2
      exact ⟨p'',n1,hexit st' s2 p'' h1 hs2 n2 n3⟩
    ·cases m3
   | ret=>exact absurd rfl he
   | _=>cases m3
end
section
variable {C:Cx} {fn:Func}
theorem o9 (hT:qZ C.P C.T) (hm:C.P.follows .mixedOrders=true) (hv:fn.results.toList=C.vars) : ∀ (c:Code) (h:ur),Vq C fn c (wrC c) (xI C c h)
 | .skip,h=>fun ρ s p k kr res hpr hs hx=>V1 ⟨s,hs,.refl _ _,hx⟩
 | .label l,h=>fun ρ s p k kr res hpr hs hx=>Th ⟨s,hs,.refl _ _,hx⟩
 | .exit id,h=>fun ρ s p k kr res hpr hs hx=>V2 ⟨s,hs,.refl _ _,hx⟩
 | .ret,h=>fun ρ s p k kr res hpr hs hx=>by
  obtain ⟨r,h1,h2⟩:=cN (show Option.bind (B9 C s) kr=some res from hx)
  obtain ⟨p',h3,h4⟩:=R8 hv (yy hpr) (rX hs) h1
  exact uF ((A0 hs).trans h3) (Yx ⟨r,h4,h2⟩)
 | .region id ops draw,h=>yj (Yt hT hm id ops draw)
 | .seq a b,h=>by
  refine yj (c:=.seq a b) (wr:=wrC a++wrC b) fun ρ s p k kr res hpr hs hx=>?_
  refine Yw (fx (o9 hT hm hv a h.l ρ s p _ _ res hpr hs hx) fun e p' hq=>⟨p',.refl _,?_⟩)
  by_cases he:e = .ret
  ·subst he; exact hq
  ·obtain ⟨s',m1,m2,m3⟩:=qO he hq
   have hk:dK C.sc (wrC a++wrC b) s s':=m2.wide fun i hi=>YJ hi
   cases e with
   | normal =>
    refine fx (o9 hT hm hv b h.r ρ s' p' k kr res (hk.prOk hpr) m1 m3) fun e p2 hq2=>⟨p2,.refl _,?_⟩
    exact xq (fun i hi=>Wh hi) hk hq2
   | ret=>exact absurd rfl he
   | _=>exact ⟨s',m1,hk,m3⟩
 | .cond x a b,h=>by
  have hwA:∀ i,aA (wrC a) i=true→aA (wrC (.cond x a b)) i=true:=fun i hi=>by
   cases x <;> simp only [wrC,aZ,dj,hi,Bool.true_or,Bool.or_true]
  have hwB:∀ i,aA (wrC b) i=true→aA (wrC (.cond x a b)) i=true:=fun i hi=>by
   cases x <;> simp only [wrC,aZ,dj,hi,Bool.or_true]
  have hwx:∀ i,x = .tmp i→aA (wrC (.cond x a b)) i=true:=fun i hi=>by
   subst hi; simp only [wrC,aZ,decide_true,Bool.true_or]
  refine yj (c:=.cond x a b) (wr:=wrC (.cond x a b)) fun ρ s p k kr res hpr hs hx=>?_
  have hx:(match evX s x with | .d (.bool t)=>if t=true then xI C a h.l ρ (wR s x true) k kr else xI C b h.r ρ (wR s x false) k kr | _=>none)=some res:=hx
  split at hx
  ·rename_i t ht
   have hq:=WZ hs x
   rw [ht] at hq
   have hb:=kY hq
   cases t
   ·rw [if_neg (by simp)] at hx
    refine L1 false (by rw [hb]; rfl) ?_
    rw [if_neg (by simp)]
    exact fx (o9 hT hm hv b h.r ρ _ p k kr res (EE hpr) (D4 hs ht) hx) fun e p' hq=>⟨p',.refl _,xq hwB (EI hwx) hq⟩
   ·rw [if_pos rfl] at hx
    refine L1 true (by rw [hb]; rfl) ?_
    rw [if_pos rfl]
    exact fx (o9 hT hm hv a h.l ρ _ p k kr res (EE hpr) (D4 hs ht) hx) fun e p' hq=>⟨p',.refl _,xq hwA (EI hwx) hq⟩
  ·cases hx
 | .block id c,h=>by
  refine yj (c:=.block id c) (wr:=wrC c) fun ρ s p k kr res hpr hs hx=>?_
  refine Tj (fx (o9 hT hm hv c h.l ρ s p _ _ res hpr hs hx) fun e p' hq=>⟨p',.refl _,?_⟩)
  by_cases he:e = .ret
  ·subst he; exact hq
  ·obtain ⟨s',m1,m2,m3⟩:=qO he hq
   cases e with
   | exit id' =>
    have m3:(match Nat.beq id' id with | true=>k .normal s' | false=>k (.exit id') s')=some res:=m3
    simp only [EN]
    rw [cY] at m3
    by_cases hid:id' = id
    ·rw [if_pos hid]
     simp only [hid,decide_true] at m3
     exact ⟨s',m1,m2,m3⟩
    ·rw [if_neg hid]
     simp only [hid,decide_false] at m3
     exact ⟨s',m1,m2,m3⟩
   | ret=>exact absurd rfl he
   | _=>exact ⟨s',m1,m2,m3⟩
 | .loop c,h=>fun ρ s p k kr res hpr hs hx=>by
  cases h with
  | lp ms id ret hb =>
   unfold xI at hx
   cases he:Pq (wrC c) ms (clr s) with
   | none=>rw [he] at hx; cases hx
   | some s0 =>
    rw [he] at hx
    obtain ⟨hchk,hx⟩:=ao hx
    refine uF (A0 hs) ?_
    unfold Pq at he
    split at he
    ·rename_i s1 hnil
     obtain ⟨p2,k1,k2,k3,k4⟩:=qR (sc:=C.sc) (s:=clr s) rfl (yy hpr) (rX hs) hnil
     refine uF k1 ?_
     have hk1:dK C.sc (wrC c) s s1:=Mq k3
     obtain ⟨p3,n1,n2,n3⟩:=sn (sc:=C.sc) (hk1.prOk hpr) k2.w he
     refine uF n1 ?_
     have hk0:dK C.sc (wrC c) s s0:=hk1.trans (n3 _)
     have hchk':tn C.sc (wrC c) ms s0.pr s0=true:=by rw [hk0.pr]; exact hchk
     cases hpk:ua s0 ms with
     | none=>rw [hpk] at hx; cases hx
     | some st0 =>
      rw [hpk] at hx
      cases ret with
      | false =>
       obtain ⟨out,h1,h2⟩:=cN hx
       refine R2 (C:=C) (fn:=fn) (c:=c) (ms:=ms) (id:=id) (τ:=jU ms) (inr:=fun st=>st) (ret:=fun _=>none) (body:=xI C c hb) (o9 hT hm hv c hb) rfl n2 hchk' hpk h1 ?_ ?_ ?_
       ·intro st hst
        subst hst
        split at h2
        ·rename_i s2 hs2; exact ⟨s2,hs2⟩
        ·cases h2
       ·intro st s2 p' hst hs2 m1 m2
        subst hst
        rw [hs2] at h2
        exact ⟨⟨s2.sl,s2.bx,s.pr,s.ro,s.oc⟩,⟨m1.sl,m1.bx⟩,xB hk0 (OU hpr hk0 hchk) m2,h2⟩
       ·intro r p' hr; cases hr
      | true =>
       obtain ⟨out,h1,h2⟩:=cN hx
       refine R2 (C:=C) (fn:=fn) (c:=c) (ms:=ms) (id:=id) (τ:=jU ms⊕bc C.rs) (inr:=.inl) (ret:=fun r=>some (.inr r)) (body:=xI C c hb) (o9 hT hm hv c hb) rfl n2 hchk' hpk h1 ?_ ?_ ?_
       ·intro st hst
        subst hst
        have h2:(match jM ms st (cf C.sc (wrC c) ms s0) with | some s2=>k (.exit id) ⟨s2.sl,s2.bx,s.pr,s.ro,s.oc⟩ | none=>none)=some res:=h2
        split at h2
        ·rename_i s2 hs2; exact ⟨s2,hs2⟩
        ·cases h2
       ·intro st s2 p' hst hs2 m1 m2
        subst hst
        have h2:(match jM ms st (cf C.sc (wrC c) ms s0) with | some s2=>k (.exit id) ⟨s2.sl,s2.bx,s.pr,s.ro,s.oc⟩ | none=>none)=some res:=h2
        rw [hs2] at h2
        exact ⟨⟨s2.sl,s2.bx,s.pr,s.ro,s.oc⟩,⟨m1.sl,m1.bx⟩,xB hk0 (OU hpr hk0 hchk) m2,h2⟩
       ·intro r p' hr h3
        injection hr with hr
        subst hr
        exact ⟨r,h3,h2⟩
    ·cases he
  | _=>cases hx
 | .rangeFunc ..,h=>fun ρ s p k kr res hpr hs hx=>by cases hx
 | .scope ..,h=>fun ρ s p k kr res hpr hs hx=>by cases hx
 | .goto ..,h=>fun ρ s p k kr res hpr hs hx=>by cases hx
 | .refuse ..,h=>fun ρ s p k kr res hpr hs hx=>by cases hx
theorem KE:∀ (vs:List SV) (i j:Nat),lkV (Bp i vs) (i + j)=(vs[j]?).getD .junk
 | [],i,j=>by simp [Bp,lkV]
 | v::vs,i,0=>by simp [Bp,cW]
 | v::vs,i,j + 1=>by
  simp only [Bp,cW]
  rw [if_neg (by omega),show i + (j + 1)=i + 1 + j by omega,KE vs (i + 1) j]
  simp
theorem HF:∀ (ps:List PT) (x:ct ps),(rR ps x).length=ps.length
 | [],_=>rfl
 | p::ps,x=>by simp [rR,HF ps]
theorem cD {P:Program} {T:List (Nat×Ent)} {n:Nat} {ps rs:List PT} {vars:List ResultVar} {fz:List (Nat×List Nat)} {sc:List Nat} {fb:List (Nat×List Nat)} {h:ur} {f:FuncId} {fn:Func} {c:Code} (hT:qZ P T) (hm:P.follows .mixedOrders=true) (hf:P.funcs[f]? = some fn) (hb:fn.body=some c) (hcb:dB P f=true) (hn:fn.ntmps=n) (hv:fn.results.toList=vars) (hl:((decide (ps.length≤n)&&uI ps) && !(pa ps||pa rs))=true)
  {F:ct ps→Option (bc rs)} (hF:∀ x,iZ ⟨P,T,n,rs,vars,fz,sc,fb⟩ c h ps x=F x) : bO P f ps rs F:=by
 intro x r hx
 rw [Bool.and_eq_true] at hl
 obtain ⟨hl,hl3⟩:=hl
 refine ⟨fun hnM=>?_,fun h=>by rw [h] at hl3; cases hl3⟩
 have hrs:pa rs=false:=by rw [Bool.or_eq_false_iff] at hnM; exact hnM.2
 rw [← hF] at hx
 rw [Bool.and_eq_true] at hl
 have hlen:=zd hl.1
 subst hn
 refine V6 hf hb hcb (by rw [HF]; exact hlen) ?_
 have hargs:=IK (B:=[]) ps x hl.2
 have hs:gY ⟨Bp 0 (Cj ps x),[],[],false,[]⟩ ⟨mA (rR ps x),dY⟩:=by
  refine ⟨fun i=>?_,fun t b hb=>by cases hb⟩
  show bf [] (lkV (Bp 0 (Cj ps x)) i) (mA (rR ps x) i)
  have:=KE (Cj ps x) 0 i
  rw [Nat.zero_add] at this
  rw [this]
  unfold mA
  cases h1:(Cj ps x)[i]? with
  | none=>exact .junk _
  | some v =>
   have hlt:i < (rR ps x).length:=by rw [← hargs.len]; exact (zg.1 h1).1
   rw [zq hlt]
   exact hargs.rep i v _ h1 (zq hlt)
 have hpr:ml ⟨Bp 0 (Cj ps x),[],[],false,[]⟩:=fun t ht=>by cases ht
 refine fx (o9 (C:=⟨P,T,fn.ntmps,rs,vars,fz,sc,fb⟩) (fn:=fn) hT hm hv c h _ _ _ _ _ r hpr hs hx) fun e p' hq=>?_
 by_cases he:e = .ret
 ·subst he
  obtain ⟨r',h1,h3⟩:=hq
  injection h3 with h3
  subst h3
  obtain ⟨q,h1,h2⟩:=h1.1 hrs
  exact ⟨p',.refl _,trivial,q,h1,h2⟩
 ·obtain ⟨s',m1,m2,m3⟩:=qO he hq
  cases e with
  | normal =>
   obtain ⟨q,h1,h2⟩:=Mo (C:=⟨P,T,fn.ntmps,rs,vars,fz,sc,fb⟩) hv (rX m1) hrs m3
   exact ⟨xM s' p',A0 m1,trivial,q,h1,h2⟩
  | ret=>exact absurd rfl he
  | _=>cases m3
end
def Wj:List Nat→List Nat→Nat→Nat
 | a::xs,b::bs,t=>if t=a then b else Wj xs bs t
 | _,_,t=>t
theorem Ez:∀ {xs bs:List Nat},xs.Nodup→xs.length=bs.length→xs.map (Wj xs bs)=bs
 | [],[],_,_=>rfl
 | [],_ :: _,_,h=>by cases h
 | _ :: _,[],_,h=>by cases h
 | a::xs,b::bs,hn,hl=>by
  rw [List.nodup_cons] at hn
  have ih:=Ez (xs:=xs) (bs:=bs) hn.2 (by simpa using hl)
  simp only [List.map_cons,Wj,if_true]
  congr 1
  conv=>rhs; rw [← ih]
  apply List.map_congr_left
  intro t ht
  rw [if_neg (fun (e:t=a)=>hn.1 (by rw [← e]; exact ht))]
theorem AV {f:Nat→Nat} : ∀ {l:List Nat},(l.map f).Nodup→∀ x∈l,∀ y∈l,f x=f y→x=y
 | [],_,x,hx,_,_=>by cases hx
 | a::l,h,x,hx,y,hy=>by
  rw [List.map_cons,List.nodup_cons] at h
  intro e
  have hm:∀ z∈l,f z≠f a:=fun z hz e=>h.1 (by rw [← e]; exact List.mem_map_of_mem hz)
  rcases List.mem_cons.1 hx with h1 | h1
  ·rcases List.mem_cons.1 hy with h2 | h2
   ·rw [h1,h2]
   ·exact absurd (by rw [← e,h1]) (hm y h2)
  ·rcases List.mem_cons.1 hy with h2 | h2
   ·exact absurd (by rw [e,h2]) (hm x h1)
   ·exact AV h.2 x h1 y h2 e
theorem vY {τ : Nat→Nat} : ∀ {xs bs:List (List Nat)},xs.map List.length=bs.map List.length→(br xs).map τ = br bs→xs.map (·.map τ)=bs
 | [],[],_,_=>rfl
 | [],_ :: _,h,_=>by cases h
 | _ :: _,[],h,_=>by cases h
 | a::xs,b::bs,hl,h=>by
  simp only [List.map_cons,List.cons.injEq] at hl
  simp only [br,List.map_append] at h
  obtain ⟨h1,h2⟩:=List.append_inj h (by simpa using hl.1)
  rw [List.map_cons,h1,vY hl.2 h2]
theorem xk:∀ {ps:List PT} {xs bs:List (List Nat)},iQ ps xs→iQ ps bs→xs.map List.length=bs.map List.length
 | [],[],[],_,_=>rfl
 | [],_ :: _,_,h,_=>h.elim
 | [],[],_ :: _,_,h=>h.elim
 | _ :: _,[],_,h,_=>h.elim
 | _ :: _,_ :: _,[],_,h=>h.elim
 | p::ps,a::xs,b::bs,h1,h2=>by simp only [List.map_cons,h1.1,h2.1,xk h1.2 h2.2]
theorem yr:∀ {ls:List IB} {xs bs:List (List Nat)},jZ ls xs→jZ ls bs→xs.map List.length=bs.map List.length
 | [],[],[],_,_=>rfl
 | [],_ :: _,_,h,_=>h.elim
 | [],[],_ :: _,_,h=>h.elim
 | _ :: _,[],_,h,_=>h.elim
 | _ :: _,_ :: _,[],_,h=>h.elim
 | p::ps,a::xs,b::bs,h1,h2=>by simp only [List.map_cons,h1.1,h2.1,yr h1.2 h2.2]
theorem sf:∀ {xs bs:List (List Nat)},xs.map List.length=bs.map List.length→(br xs).length=(br bs).length
 | [],[],_=>rfl
 | [],_ :: _,h=>by cases h
 | _ :: _,[],h=>by cases h
 | a::xs,b::bs,h=>by
  simp only [List.map_cons,List.cons.injEq] at h
  simp only [br,List.length_append,h.1,sf h.2]
theorem BZ:∀ (ps:List PT) (i:Nat),iQ ps (bk i ps)
 | [],_=>trivial
 | p::ps,i=>⟨by cases p <;> first | rfl | simp [mF,PT.nI],BZ ps (i + 1)⟩
mutual
theorem kP (τ : Nat→Nat) : ∀ q:PV,clean q=true→mu τ q=q∧bg q = []
 | .junk,_=>⟨rfl,rfl⟩
 | .d _,_=>⟨rfl,rfl⟩
 | .fe _,_=>⟨rfl,rfl⟩
 | .ptr _ _,h=>by cases h
 | .row _ _,h=>by cases h
 | .re _ _ _ _,h=>by cases h
 | .vw _ _ _ _,h=>by cases h
 | .ag cs,h=>by simp only [mu,bg]; rw [(fG τ cs h).1,(fG τ cs h).2]; exact ⟨rfl,rfl⟩
 | .tup cs,h=>by simp only [mu,bg]; rw [(fG τ cs h).1,(fG τ cs h).2]; exact ⟨rfl,rfl⟩
 | .fn f ps qs,h=>by
  have h:(cL ps&&cL qs)=true:=h
  rw [Bool.and_eq_true] at h
  simp only [mu,bg]; rw [(fG τ ps h.1).1,(fG τ qs h.2).1,(fG τ ps h.1).2,(fG τ qs h.2).2]; exact ⟨rfl,rfl⟩
theorem fG (τ : Nat→Nat) : ∀ cs:List PV,cL cs=true→fg τ cs=cs∧bL cs = []
 | [],_=>⟨rfl,rfl⟩
 | c::cs,h=>by
  simp only [cL,Bool.and_eq_true] at h
  simp only [fg,bL]; rw [(kP τ c h.1).1,(fG τ cs h.2).1,(kP τ c h.1).2,(fG τ cs h.2).2]; exact ⟨rfl,rfl⟩
end
theorem E2 (τ : Nat→Nat) : ∀ (rows:List (Nat×Nat×Nat×Ty)) (is:List Nat) (j:Nat),pQ (mr rows (is.map τ)) j=(pQ (mr rows is) j).map fun r=>(τ r.1,r.2)
 | [],is,j=>by cases is <;> rfl
 | (j0,e,k,t)::rows,[],j=>rfl
 | (j0,e,k,t)::rows,R::is,j=>by
  simp only [List.map_cons,mr,pQ]
  split
  ·rfl
  ·exact E2 τ rows is j
theorem JK (τ : Nat→Nat) (rows:List (Nat×Nat×Nat×Ty)) (is:List Nat) : ∀ (ds:List D) (j:Nat),ef (mr rows (is.map τ)) j ds=fg τ (ef (mr rows is) j ds)
 | [],_=>rfl
 | d::ds,j=>by
  simp only [ef,fg,JK τ rows is ds (j + 1),E2]
  congr 1
  cases pQ (mr rows is) j with
  | none=>rfl
  | some r =>
   obtain ⟨R,e,k,t⟩:=r
   cases d <;> rfl
theorem AO (τ : Nat→Nat) (rows:List (Nat×Nat×Nat×Ty)) (is:List Nat) : ∀ (ds:List D) (j:Nat),ch (mr rows (is.map τ)) j ds=mt τ (ch (mr rows is) j ds)
 | [],_=>rfl
 | d::ds,j=>by
  simp only [ch,E2]
  cases pQ (mr rows is) j with
  | none=>exact AO τ rows is ds (j + 1)
  | some r =>
   obtain ⟨R,e,k,t⟩:=r
   cases d with
   | v=>exact AO τ rows is ds (j + 1)
   | sl es=>simp only [Option.map_some,mt,AO τ rows is ds (j + 1)]; rfl
theorem uD (τ : Nat→Nat) : ∀ (a b:BU),mt τ (a++b)=mt τ a++mt τ b
 | [],b=>rfl
 | (t,B)::a,b=>by simp only [List.cons_append,mt,uD τ a b]
theorem ik:∀ (a b:BU),bU (a++b)=bU a++bU b
 | [],b=>rfl
 | (t,B)::a,b=>by simp only [List.cons_append,bU,ik a b]
theorem MW (τ : Nat→Nat) : ∀ (a:BU),bU (mt τ a)=(bU a).map τ
 | []=>rfl
 | (t,B)::a=>by simp only [mt,bU,MW τ a,List.map_cons]
theorem Jy (τ : Nat→Nat) (p:PT) (is:List Nat) (x:p.den) : toI p (is.map τ) x=(mu τ (toI p is x).1,mt τ (toI p is x).2):=by
 cases p with
 | io=>rfl
 | lf t=>simp only [toI]; rw [(kP τ _ (dR (.lf t) x)).1]; rfl
 | ag t=>simp only [toI]; rw [(kP τ _ (dR (.ag t) x)).1]; rfl
 | pl t=>simp only [toI]; rw [(kP τ _ (dR (.pl t) x)).1]; rfl
 | ps t=>simp only [toI]; rw [(kP τ _ (dR (.ps t) x)).1]; rfl
 | fn f a b=>simp only [toI]; rw [(kP τ _ (dR (.fn f a b) x)).1]; rfl
 | own e k t=>match is with
  | []=>rfl
  | [i]=>rfl
  | _ :: _ :: _=>rfl
 | mv e k t=>match is with
  | []=>rfl
  | [i]=>rfl
  | _ :: _ :: _=>rfl
 | bx ty n rows=>match is with
  | []=>rfl
  | i::is=>simp only [toI,List.map_cons,JK,AO]; rfl
 | agr n rows=>simp only [toI,JK,AO]; rfl
theorem LD (τ : Nat→Nat) : ∀ (ps:List PT) (iss:List (List Nat)) (x:ct ps),dL ps (iss.map (·.map τ)) x=(fg τ (dL ps iss x).1,mt τ (dL ps iss x).2)
 | [],iss,x=>by cases iss <;> rfl
 | p::ps,[],x=>rfl
 | p::ps,is::iss,x=>by simp only [List.map_cons,dL,Jy,LD τ ps iss x.2,fg,uD]
theorem AD (τ : Nat→Nat) : ∀ (rs:List PT) (iss:List (List Nat)) (x:bc rs),cT rs (iss.map (·.map τ)) x=(fg τ (cT rs iss x).1,mt τ (cT rs iss x).2)
 | [],iss,x=>by cases iss <;> rfl
 | [p],[],x=>rfl
 | [p],is::iss,x=>by
  have h:=Jy τ p is x
  show ([(toI p (is.map τ) x).1],(toI p (is.map τ) x).2)=([mu τ (toI p is x).1],mt τ (toI p is x).2)
  exact congrArg (fun z:PV×BU=>([z.1],z.2)) h
 | p::q::l,[],x=>rfl
 | p::q::l,is::iss,x=>by
  have h1:=Jy τ p is x.1
  have h2:=AD τ (q::l) iss x.2
  have h3:((toI p (is.map τ) x.1).1::(cT (q::l) (iss.map (·.map τ)) x.2).1,(toI p (is.map τ) x.1).2++(cT (q::l) (iss.map (·.map τ)) x.2).2)=(mu τ (toI p is x.1).1::fg τ (cT (q::l) iss x.2).1,mt τ (toI p is x.1).2++mt τ (cT (q::l) iss x.2).2) :=
   congr (f₁:=fun (y:List PV×BU)=>((toI p (is.map τ) x.1).1::y.1,(toI p (is.map τ) x.1).2++y.2)) (f₂:=fun (y:List PV×BU)=>(mu τ (toI p is x.1).1::y.1,mt τ (toI p is x.1).2++y.2)) (congrArg (fun (z:PV×BU) (y:List PV×BU)=>(z.1::y.1,z.2++y.2)) h1) h2
  refine h3.trans ?_
  rw [← uD]; rfl
theorem YE (τ : Nat→Nat) (qs:List PV) : mu τ (yC qs)=yC (fg τ qs):=by
 match qs with
 | []=>rfl
 | [q]=>rfl
 | q::q' :: qs=>rfl
theorem LC (τi τ : Nat→Nat) : ∀ (ps:List PT) (ls:List IB) (i:Nat) (iss kss:List (List Nat)) (x:ct ps) (o:yB ls),O2 ps ls=true→iQ ps iss→jZ ls kss→(∀ s∈dw i ls,τ s = τi s)→(bk i ps).map (·.map τi)=iss→Ow ps ls iss (kss.map (·.map τ)) x o=mt τ (sA i ls kss o)
 | [],[],i,iss,kss,x,o,_,_,_,_,_=>rfl
 | [],_ :: _,_,_,_,_,_,h,_,_,_,_=>by cases h
 | _ :: _,[],_,_,_,_,_,h,_,_,_,_=>by cases h
 | p::ps,b::ls,i,[],kss,x,o,_,h,_,_,_=>h.elim
 | p::ps,b::ls,i,is::iss,[],x,o,_,_,h,_,_=>h.elim
 | p::ps,b::ls,i,is::iss,js::kss,x,o,hio,hs,hk,hkk,he=>by
  simp only [O2] at hio
  split at hio
  ·rename_i h1
   simp only [bk,List.map_cons,List.cons.injEq] at he
   obtain ⟨e1,e2⟩:=he
   have hk2:∀ s∈dw (i + 1) ls,τ s = τi s:=fun s hs=>hkk s (by cases b <;> simp [dw,hs])
   have ih:=LC τi τ ps ls (i + 1) iss kss x.2 o.2 hio hs.2 hk.2 hk2 e2
   simp only [List.map_cons,Ow,sA,uD,ih]
   congr 1
   cases p with
   | own e k t=>cases b with
    | own e' k' t' =>
     subst e1
     have:=hkk (un i) (by simp [dw])
     simp only [toO,mF,List.map_cons,List.map_nil,boI,mt,this]; rfl
    | _=>cases h1
   | bx ty n rows=>cases b with
    | bx ty' n' rows' =>
     subst e1
     have:=hkk (un i) (by simp [dw])
     simp only [toO,mF,List.map_cons,boI,mt,JK,AO,this]; rfl
    | _=>cases h1
   | mv=>cases b <;> first | rfl | cases h1
   | lf=>cases b <;> first | rfl | cases h1
   | ag=>cases b <;> first | rfl | cases h1
   | pl=>cases b <;> first | rfl | cases h1
   | ps=>cases b <;> first | rfl | cases h1
   | fn=>cases b <;> first | rfl | cases h1
   | agr=>cases h1
   | io=>cases h1
  ·cases hio
def gX (l:BU) : Prop:=∀ t B,(t,B)∈l→∀ s∈LX B,s∈bU l
theorem gX.app {a b:BU} (h:gX a) (h':gX b) : gX (a++b):=fun t B hm s hs=>by
 rw [ik,List.mem_append]
 rcases List.mem_append.1 hm with hm | hm
 ·exact .inl (h t B hm s hs)
 ·exact .inr (h' t B hm s hs)
theorem gX.u {l:BU} (h:gX l) : Kp l:=fun t B hl=>h t B (o5 hl)
theorem JL {rows:List (Nat×Nat×Nat×Nat×Ty)} : ∀ (ds:List D) (j:Nat),∀ s∈bL (ef rows j ds),s∈bU (ch rows j ds)
 | [],_,s,h=>by cases h
 | d::ds,j,s,h=>by
  simp only [ef,bL,List.mem_append] at h
  simp only [ch]
  have ih:=JL (rows:=rows) ds (j + 1) s
  cases hf:pQ rows j with
  | none =>
   rw [hf] at h
   exact ih (h.resolve_left (by simp [bg]))
  | some r =>
   obtain ⟨R,e,k,t⟩:=r
   rw [hf] at h
   cases d with
   | v=>exact ih (h.resolve_left (by simp [bg]))
   | sl es =>
    simp only [bU,List.mem_cons]
    rcases h with h | h
    ·simp only [bg,List.mem_cons,List.not_mem_nil,or_false] at h; exact .inl h
    ·exact .inr (ih h)
theorem po {rows:List (Nat×Nat×Nat×Nat×Ty)} : ∀ (ds:List D) (j:Nat) t B,(t,B)∈ch rows j ds→LX B = []∧∃ e k es,B = .rw e k es
 | [],_,t,B,h=>by cases h
 | d::ds,j,t,B,h=>by
  simp only [ch] at h
  split at h
  ·split at h
   ·rcases List.mem_cons.1 h with e | h
    ·injection e with _ e; subst e; exact ⟨rfl,_,_,_,rfl⟩
    ·exact po ds (j + 1) t B h
   ·exact po ds (j + 1) t B h
  ·exact po ds (j + 1) t B h
theorem HJ {rows:List (Nat×Nat×Nat×Nat×Ty)} (i:Nat) (ty:TypeId) (ds:List D) : gX ((i,.st ty (ef rows 0 ds))::ch rows 0 ds):=fun t B hm s hs=>by
 simp only [bU,List.mem_cons]
 rcases List.mem_cons.1 hm with e | hm
 ·injection e with _ e
  subst e
  exact .inr (JL ds 0 s hs)
 ·rw [(po ds 0 t B hm).1] at hs; cases hs
theorem xu (i:Nat) (e k:Nat) (t:Ty) (xs:List t.den) : gX [(i,rwU e k t xs)]:=fun t B hm s hs=>by
 simp only [List.mem_cons,List.not_mem_nil,or_false,Prod.mk.injEq] at hm
 rw [hm.2] at hs
 cases hs
theorem dc:gX []:=fun t B hm=>by cases hm
theorem DW (p:PT) (is:List Nat) (x:p.den) : (∀ s∈bg (toI p is x).1,s∈bU (toI p is x).2)∧gX (toI p is x).2:=by
 have plain:∀ {q:PV},clean q=true→(∀ s∈bg q,s∈bU [])∧gX []:=fun hq=>⟨fun s h=>(by rw [(kP id _ hq).2] at h; cases h),dc⟩
 cases p with
 | io=>exact ⟨fun s h=>(by cases h),dc⟩
 | lf t=>exact plain (dR (.lf t) x)
 | ag t=>exact plain (dR (.ag t) x)
 | pl t=>exact plain (dR (.pl t) x)
 | ps t=>exact plain (dR (.ps t) x)
 | fn f a b=>exact plain (dR (.fn f a b) x)
 | own e k t=>match is with
  | []=>exact ⟨fun s h=>(by cases h),dc⟩
  | [i]=>exact ⟨fun s h=>h,xu i e k t x⟩
  | _ :: _ :: _=>exact ⟨fun s h=>(by cases h),dc⟩
 | mv e k t=>match is with
  | []=>exact ⟨fun s h=>(by cases h),dc⟩
  | [i]=>exact ⟨fun s h=>h,xu i e k t x⟩
  | _ :: _ :: _=>exact ⟨fun s h=>(by cases h),dc⟩
 | bx ty n rows=>match is with
  | []=>exact ⟨fun s h=>(by cases h),dc⟩
  | i::is=>exact ⟨fun s h=>by simp only [toI,bg,List.mem_cons,List.not_mem_nil,or_false] at h; simp only [toI,bU,List.mem_cons]; exact .inl h,HJ i ty _⟩
 | agr n rows=>exact ⟨fun s h=>JL _ 0 s h,fun t B hm s hs=>by rw [(po _ 0 t B hm).1] at hs; cases hs⟩
theorem HH:∀ (ps:List PT) (iss:List (List Nat)) (x:ct ps),(∀ s∈bL (dL ps iss x).1,s∈bU (dL ps iss x).2)∧gX (dL ps iss x).2
 | [],iss,x=>⟨fun s h=>(by cases h),dc⟩
 | p::ps,[],x=>⟨fun s h=>(by cases h),dc⟩
 | p::ps,is::iss,x=>by
  obtain ⟨h1,h2⟩:=DW p is x.1
  obtain ⟨h3,h4⟩:=HH ps iss x.2
  refine ⟨fun s h=>?_,h2.app h4⟩
  simp only [dL,bL,List.mem_append] at h
  simp only [dL,ik,List.mem_append]
  exact h.imp (h1 s) (h3 s)
theorem DU:∀ (rs:List PT) (iss:List (List Nat)) (x:bc rs),(∀ s∈bL (cT rs iss x).1,s∈bU (cT rs iss x).2)∧gX (cT rs iss x).2
 | [],iss,x=>⟨fun s h=>(by cases h),dc⟩
 | [p],[],x=>⟨fun s h=>(by cases h),dc⟩
 | [p],is::iss,x=>by
  obtain ⟨h1,h2⟩:=DW p is (show p.den from x)
  refine ⟨fun s h=>?_,h2⟩
  have h:s∈bg (toI p is (show p.den from x)).1 ++ []:=h
  rw [List.append_nil] at h
  exact h1 s h
 | p::q::l,[],x=>⟨fun s h=>(by cases h),dc⟩
 | p::q::l,is::iss,x=>by
  obtain ⟨h1,h2⟩:=DW p is x.1
  obtain ⟨h3,h4⟩:=DU (q::l) iss x.2
  refine ⟨fun s h=>?_,h2.app h4⟩
  have h:s∈bg (toI p is x.1).1++bL (cT (q::l) iss x.2).1:=h
  show s∈bU ((toI p is x.1).2++(cT (q::l) iss x.2).2)
  rw [ik,List.mem_append]
  exact (List.mem_append.1 h).imp (h1 s) (h3 s)
theorem Wb (qs:List PV) : ∀ s∈bg (yC qs),s∈bL qs:=by
 match qs with
 | []=>exact fun s h=>by cases h
 | [q]=>exact fun s h=>by simpa [bL,yC] using h
 | q::q' :: qs=>exact fun s h=>h
theorem HB:∀ {rs:List PT} {iss:List (List Nat)} {x:bc rs} {t:Nat},t∈bU (cT rs iss x).2→t∈br iss
 | [],iss,x,t,h=>by cases h
 | [p],[],x,t,h=>by cases h
 | [p],is::iss,x,t,h=>by
  have h:t∈bU (toI p is (show p.den from x)).2:=h
  rw [sp,List.mem_append]
  obtain ⟨B,hB⟩:=cR.1 h
  exact .inl (Jz (o5 hB))
 | p::q::l,[],x,t,h=>by cases h
 | p::q::l,is::iss,x,t,h=>by
  have h:t∈bU ((toI p is x.1).2++(cT (q::l) iss x.2).2):=h
  rw [ik,List.mem_append] at h
  rw [sp,List.mem_append]
  rcases h with h | h
  ·obtain ⟨B,hB⟩:=cR.1 h
   exact .inl (Jz (o5 hB))
  ·exact .inr (HB h)
theorem Zn (i:Nat) (b:IB) (js:List Nat) (o:b.den) : gX (boI i b js o)∧∀ t∈bU (boI i b js o),t=un i∧b≠.no∨t∈js:=by
 cases b with
 | no=>exact ⟨dc,fun t h=>by cases h⟩
 | own e k t=>exact ⟨xu _ _ _ _ _,fun t' h=>by simp only [boI,bU,List.mem_cons,List.not_mem_nil,or_false] at h; exact .inl ⟨h,fun e=>by cases e⟩⟩
 | bx ty n rows =>
  refine ⟨HJ _ _ _,fun t h=>?_⟩
  simp only [boI,bU,List.mem_cons] at h
  rcases h with h | h
  ·exact .inl ⟨h,fun e=>by cases e⟩
  ·obtain ⟨B,hB⟩:=cR.1 h
   exact .inr (xp (o5 hB))
theorem uT {i:Nat} {b:IB} {ls:List IB} {s:Nat} : s∈dw i (b::ls)↔(s=un i∧b≠.no)∨s∈dw (i + 1) ls:=by
 cases b <;> simp [dw]
theorem FP:∀ (ls:List IB) (i:Nat) (kss:List (List Nat)) (o:yB ls),jZ ls kss→gX (sA i ls kss o)∧(∀ t∈bU (sA i ls kss o),t∈dw i ls∨t∈br kss)∧∀ t∈dw i ls,t∈bU (sA i ls kss o)
 | [],i,kss,o,_=>⟨dc,fun t h=>(by cases h),fun t h=>by cases h⟩
 | b::ls,i,[],o,h=>h.elim
 | b::ls,i,js::kss,o,h=>by
  obtain ⟨h1,h2⟩:=Zn i b js o.1
  obtain ⟨h3,h4,h5⟩:=FP ls (i + 1) kss o.2 h.2
  refine ⟨h1.app h3,fun t ht=>?_,fun t ht=>?_⟩
  ·simp only [sA,ik,List.mem_append] at ht
   rw [uT,sp,List.mem_append]
   rcases ht with ht | ht
   ·rcases h2 t ht with h6 | h6
    ·exact .inl (.inl h6)
    ·exact .inr (.inl h6)
   ·rcases h4 t ht with h6 | h6
    ·exact .inl (.inr h6)
    ·exact .inr (.inr h6)
  ·rw [uT] at ht
   simp only [sA,ik,List.mem_append]
   rcases ht with ⟨rfl,hb⟩ | ht
   ·left
    cases b with
    | no=>exact absurd rfl hb
    | own=>simp [boI,bU]
    | bx=>simp [boI,bU]
   ·exact .inr (h5 t ht)
theorem Mp:∀ (ls:List IB) (i:Nat),∀ s∈dw i ls,1000000≤s
 | [],i,s,h=>by cases h
 | b::ls,i,s,h=>by
  rw [uT] at h
  rcases h with ⟨rfl,_⟩ | h
  ·unfold un; omega
  ·exact Mp ls (i + 1) s h
theorem BV:∀ (ps:List PT) (ls:List IB) (i:Nat) (x:ct ps),O2 ps ls=true →
  (∀ s∈dw i ls,s∈bU (dL ps (bk i ps) x).2)∧∀ t B,(t,B)∈(dL ps (bk i ps) x).2→t ∉ dw i ls→(∃ e k es,B = .rw e k es)∧t∈oO ps (bk i ps)
 | [],[],i,x,_=>⟨fun s h=>(by cases h),fun t B h=>by cases h⟩
 | [],_ :: _,_,_,h=>by cases h
 | _ :: _,[],_,_,h=>by cases h
 | p::ps,b::ls,i,x,hio=>by
  simp only [O2] at hio
  split at hio
  ·rename_i h1
   obtain ⟨k1,k2⟩:=BV ps ls (i + 1) x.2 hio
   have head:(b≠.no→un i∈bU (toI p (mF i p) x.1).2)∧∀ t B,(t,B)∈(toI p (mF i p) x.1).2→¬ (t=un i∧b≠.no)→(∃ e k es,B = .rw e k es)∧t∈ES p (mF i p):=by
    cases p with
    | own e k t=>cases b with
     | own e' k' t' =>
      refine ⟨fun _=>by simp [toI,mF,bU],fun t B hm hn=>?_⟩
      simp only [toI,mF,List.mem_cons,List.not_mem_nil,or_false,Prod.mk.injEq] at hm
      exact absurd ⟨hm.1,fun e=>by cases e⟩ hn
     | _=>cases h1
    | mv e k t=>cases b with
     | no =>
      refine ⟨fun h=>absurd rfl h,fun t B hm _=>?_⟩
      simp only [toI,mF,List.mem_cons,List.not_mem_nil,or_false,Prod.mk.injEq] at hm
      obtain ⟨rfl,rfl⟩:=hm
      exact ⟨⟨_,_,_,rfl⟩,by simp [ES,mF]⟩
     | _=>cases h1
    | bx ty n rows=>cases b with
     | bx ty' n' rows' =>
      refine ⟨fun _=>by simp [toI,mF,bU],fun t B hm hn=>?_⟩
      simp only [toI,mF] at hm
      rcases List.mem_cons.1 hm with e | hm
      ·injection e with e _
       exact absurd ⟨e,fun e=>by cases e⟩ hn
      ·exact ⟨(po _ 0 t B hm).2,xp hm⟩
     | _=>cases h1
    | lf=>cases b <;> first | exact ⟨fun h=>absurd rfl h,fun t B hm=>by cases hm⟩ | cases h1
    | ag=>cases b <;> first | exact ⟨fun h=>absurd rfl h,fun t B hm=>by cases hm⟩ | cases h1
    | pl=>cases b <;> first | exact ⟨fun h=>absurd rfl h,fun t B hm=>by cases hm⟩ | cases h1
    | ps=>cases b <;> first | exact ⟨fun h=>absurd rfl h,fun t B hm=>by cases hm⟩ | cases h1
    | fn=>cases b <;> first | exact ⟨fun h=>absurd rfl h,fun t B hm=>by cases hm⟩ | cases h1
    | agr=>cases h1
    | io=>cases h1
   refine ⟨fun s hs=>?_,fun t B hm hn=>?_⟩
   ·simp only [bk,dL,ik,List.mem_append]
    rcases uT.1 hs with ⟨rfl,h⟩ | h
    ·exact .inl (head.1 h)
    ·exact .inr (k1 s h)
   ·simp only [bk,dL] at hm
    simp only [bk,oO,List.mem_append]
    rw [uT,not_or] at hn
    rcases List.mem_append.1 hm with hm | hm
    ·obtain ⟨q1,q2⟩:=head.2 t B hm hn.1
     exact ⟨q1,.inl q2⟩
    ·obtain ⟨q1,q2⟩:=k2 t B hm hn.2
     exact ⟨q1,.inr q2⟩
  ·cases hio
theorem Ip (τ : Nat→Nat) : ∀ (ps:List PT) (iss:List (List Nat)),oO ps (iss.map (·.map τ))=(oO ps iss).map τ
 | [],iss=>by cases iss <;> rfl
 | p::ps,[]=>rfl
 | p::ps,is::iss=>by
  simp only [List.map_cons,oO,Ip τ ps iss,List.map_append]
  congr 1
  cases p with
  | bx=>cases is <;> rfl
  | _=>rfl
theorem EP:∀ (ps:List PT) (iss:List (List Nat)),∀ s∈oO ps iss,s∈br iss
 | [],iss,s,h=>by cases iss <;> cases h
 | p::ps,[],s,h=>by cases h
 | p::ps,is::iss,s,h=>by
  simp only [oO,List.mem_append] at h
  rw [sp,List.mem_append]
  rcases h with h | h
  ·left
   cases p with
   | mv=>exact h
   | bx=>cases is with
    | nil=>cases h
    | cons a is=>exact List.mem_cons_of_mem _ h
   | _=>cases h
  ·exact .inr (EP ps iss s h)
theorem ER (l:BU) : ∀ (is:List Nat) (t:Nat),lkU (Cd l is) t=if t∈is then some (match lkU l t with | some B=>WF B | none=>.st 0 []) else none
 | [],t=>rfl
 | a::is,t=>by
  simp only [Cd,lkU]
  by_cases h:t=a
  ·subst h; simp only [if_true,List.mem_cons,true_or]; rfl
  ·simp only [h,if_false,List.mem_cons,false_or]; exact ER l is t
theorem JY (a b:BU) (t:Nat) : lkU (a++b) t=match lkU a t with | some B=>some B | none=>lkU b t:=by
 induction a with
 | nil=>rfl
 | cons x a ih =>
  obtain ⟨j,B⟩:=x
  simp only [List.cons_append,lkU]
  split
  ·rfl
  ·exact ih
theorem Zk {P:Program} {f:FuncId} {ps rs:List PT} {x:ct ps} {r:bc rs} (hio:O2 ps (cx rs)=true) (hlen:Ml ps (cx rs) x (jN rs r)) (hn0:(br (bk 0 ps)).Nodup) (hgk:∀ s∈oO ps (bk 0 ps),s ∉ dw 0 (cx rs))
  (h:PCm P f (dL ps (bk 0 ps) x).1 (dL ps (bk 0 ps) x).2 (dw 0 (cx rs)) fun q bo=>∃ kss jss,jZ (cx rs) kss∧iQ (eZ rs) jss∧(dw 0 (cx rs)++(br kss++br jss)).Nodup∧q=yC (cT (eZ rs) jss (hZ rs r)).1∧bo=sA 0 (cx rs) kss (jN rs r)++(cT (eZ rs) jss (hZ rs r)).2) : abb P f ps rs x r:=by
 refine ⟨hlen,fun iss kss jss hsi hsk hsj hnd hlt hall=>⟨h.1,fun w0 F0 ρ b w F vs args hargs hb hbn hi hv=>?_⟩⟩
 have hK:=BV ps (cx rs) 0 x hio
 have hl0:=xk (BZ ps 0) hsi
 let τi:=Wj (br (bk 0 ps)) (br iss)
 have e1:(br (bk 0 ps)).map τi=br iss:=Ez hn0 (sf hl0)
 have e2:(bk 0 ps).map (·.map τi)=iss:=vY hl0 e1
 obtain ⟨n1,n2,n3⟩:=List.nodup_append.1 hnd
 have hinj:∀ s∈br (bk 0 ps),∀ s'∈br (bk 0 ps),τi s = τi s'→s=s':=AV (by rw [e1]; exact n1)
 have hdom:∀ s∈bU (dL ps (bk 0 ps) x).2,s∈br (bk 0 ps):=fun s hs=>by
  obtain ⟨B,hB⟩:=cR.1 hs
  exact DV (o5 hB)
 have hren:=LD τi ps (bk 0 ps) x
 rw [e2] at hren
 have hfl:∀ s∈br (bk 0 ps),s∈bU (dL ps (bk 0 ps) x).2:=fun s hs=>by
  have h1 : τi s∈br iss:=by rw [← e1]; exact List.mem_map_of_mem hs
  have h2:=hall _ h1
  rw [hren] at h2
  simp only [MW] at h2
  obtain ⟨s',h3,h4⟩:=List.mem_map.1 h2
  rw [← hinj s' (hdom s' h3) s hs h4]
  exact h3
 have hii:∀ s∈bU (dL ps (bk 0 ps) x).2,∀ s'∈bU (dL ps (bk 0 ps) x).2,τi s = τi s'→s=s':=fun s h1 s' h2=>hinj s (hdom s h1) s' (hdom s' h2)
 have hcl:=HH ps (bk 0 ps) x
 refine Xo (τi:=τi) (N:=br kss++br jss) (u:=pN ps rs iss kss jss x r) h hii ?_ hlt hcl.1 (by rw [hargs,hren]) hcl.2.u w0 F0 ρ b w F vs (fun s B hs=>?_) hbn hi hv
 rotate_left
 ·have:=Ds (σ:=τi) hii hs
  rw [show mt τi (dL ps (bk 0 ps) x).2=(dL ps iss x).2 from by rw [hren]] at this
  exact hb _ _ this
 rintro q bo ⟨kss0,jss0,m1,m2,m3,rfl,rfl⟩
 have hl1:=yr m1 hsk
 have hl2:=xk m2 hsj
 have hKf:∀ s∈dw 0 (cx rs),s∈br (bk 0 ps):=fun s hs=>hdom s (hK.1 s hs)
 have ⟨p1,p2,p3⟩:=List.nodup_append.1 m3
 have hKn:((dw 0 (cx rs)).map τi).Nodup:=by
  have:∀ l:List Nat,l.Nodup→(∀ s∈l,s∈br (bk 0 ps))→(l.map τi).Nodup:=fun l=>by
   induction l with
   | nil=>intro _ _; exact List.nodup_nil
   | cons a l ih =>
    intro hn hs
    rw [List.nodup_cons] at hn
    rw [List.map_cons,List.nodup_cons]
    refine ⟨fun hm=>?_,ih hn.2 fun s h=>hs s (List.mem_cons_of_mem _ h)⟩
    obtain ⟨s,h1,h2⟩:=List.mem_map.1 hm
    have:=hinj s (hs s (List.mem_cons_of_mem _ h1)) a (hs a List.mem_cons_self) h2
    rw [this] at h1
    exact hn.1 h1
  exact this _ p1 hKf
 have htg:((dw 0 (cx rs)).map τi++(br kss++br jss)).Nodup:=by
  refine List.nodup_append.2 ⟨hKn,n2,fun a ha b' hb'=>?_⟩
  obtain ⟨s,h1,rfl⟩:=List.mem_map.1 ha
  exact n3 _ (by rw [← e1]; exact List.mem_map_of_mem (hKf s h1)) _ hb'
 let τ:=Wj (dw 0 (cx rs)++(br kss0++br jss0)) ((dw 0 (cx rs)).map τi++(br kss++br jss))
 have et:(dw 0 (cx rs)++(br kss0++br jss0)).map τ = (dw 0 (cx rs)).map τi++(br kss++br jss):=Ez m3 (by simp [sf hl1,sf hl2])
 have hinjo:=AV (f:=τ) (l:=dw 0 (cx rs)++(br kss0++br jss0)) (by rw [et]; exact htg)
 have et2:=et
 rw [List.map_append,List.map_append] at et2
 obtain ⟨q1,q2⟩:=List.append_inj et2 (by simp)
 obtain ⟨q2,q3⟩:=List.append_inj q2 (by simp [sf hl1])
 have hτK:∀ s∈dw 0 (cx rs),τ s = τi s:=List.map_inj_left.1 q1
 have b1:=vY hl1 q2
 have b2:=vY hl2 q3
 obtain ⟨c1,c2,c3⟩:=FP (cx rs) 0 kss0 (jN rs r) m1
 have hbo:∀ s∈bU (sA 0 (cx rs) kss0 (jN rs r)++(cT (eZ rs) jss0 (hZ rs r)).2),s∈dw 0 (cx rs)∨s∈br kss0++br jss0:=fun s hs=>by
  rw [ik,List.mem_append] at hs
  rw [List.mem_append]
  rcases hs with hs | hs
  ·rcases c2 s hs with h | h
   ·exact .inl h
   ·exact .inr (.inl h)
  ·exact .inr (.inr (HB hs))
 have hbo':∀ s∈bU (sA 0 (cx rs) kss0 (jN rs r)++(cT (eZ rs) jss0 (hZ rs r)).2),s∈dw 0 (cx rs)++(br kss0++br jss0):=fun s hs=>List.mem_append.2 (hbo s hs)
 have hnewm:∀ s∈br kss0++br jss0,τ s∈br kss++br jss:=fun s hs=>by
  rw [← q2,← q3,← List.map_append]
  exact List.mem_map_of_mem hs
 have hoo:∀ s∈bU (sA 0 (cx rs) kss0 (jN rs r)++(cT (eZ rs) jss0 (hZ rs r)).2),∀ s'∈bU (sA 0 (cx rs) kss0 (jN rs r)++(cT (eZ rs) jss0 (hZ rs r)).2),τ s = τ s'→s=s':=fun s h1 s' h2=>hinjo s (hbo' s h1) s' (hbo' s' h2)
 have hfit:aba τi τ (dL ps (bk 0 ps) x).2 (sA 0 (cx rs) kss0 (jN rs r)++(cT (eZ rs) jss0 (hZ rs r)).2) (dw 0 (cx rs)):=by
  refine ⟨hii,hoo,fun s hs s' hs' e=>?_,fun s hs=>⟨hK.1 s hs,by rw [ik,List.mem_append]; exact .inl (c3 s hs),(hτK s hs).symm⟩⟩
  rcases hbo s' hs' with h1 | h1
  ·rw [hτK s' h1] at e
   have:=hii s hs s' (hK.1 s' h1) e
   subst this
   exact ⟨rfl,h1⟩
  ·exact absurd e (n3 _ (by rw [← e1]; exact List.mem_map_of_mem (hdom s hs)) _ (hnewm s' h1))
 have hgo:oO ps iss=(oO ps (bk 0 ps)).map τi:=by rw [← Ip,e2]
 have hu:pN ps rs iss kss jss x r=mt τ (sA 0 (cx rs) kss0 (jN rs r)++(cT (eZ rs) jss0 (hZ rs r)).2)++Cd (mt τi (dL ps (bk 0 ps) x).2) (oO ps iss):=by
  unfold pN
  rw [hren]
  have h1:=LC τi τ ps (cx rs) 0 iss kss0 x (jN rs r) hio hsi m1 hτK e2
  rw [b1] at h1
  have h2:=AD τ (eZ rs) jss0 (hZ rs r)
  rw [b2] at h2
  rw [h1,h2,uD,List.append_assoc]
 refine ⟨τ,hfit,⟨fun s B hs=>?_,fun s B hs hk=>?_,fun i B hB=>?_⟩,?_,fun s hs hk=>?_⟩
 ·rw [hu,JY,Ds hoo hs]
 ·have hm:=o5 hs
  obtain ⟨⟨e,k,es,rfl⟩,hg⟩:=hK.2 s B hm hk
  have hnone:lkU (mt τ (sA 0 (cx rs) kss0 (jN rs r)++(cT (eZ rs) jss0 (hZ rs r)).2)) (τi s)=none:=by
   cases hl:lkU (mt τ (sA 0 (cx rs) kss0 (jN rs r)++(cT (eZ rs) jss0 (hZ rs r)).2)) (τi s) with
   | none=>rfl
   | some C =>
    obtain ⟨s',h1,h2⟩:=uQ hl
    exact absurd (hfit.io s (cR.2 ⟨_,hs⟩) s' h1 h2).2 hk
  refine ⟨e,k,es,es ++ [[]],rfl,?_,by simp⟩
  rw [hu,JY,hnone]
  simp only
  rw [ER,if_pos (by rw [hgo]; exact List.mem_map_of_mem hg),Ds hii hs]
  rfl
 ·rw [hu,JY] at hB
  split at hB
  ·rename_i C hC
   obtain ⟨s',h1,h2⟩:=uQ hC
   exact .inl ⟨s',h1,h2⟩
  ·rw [ER] at hB
   split at hB
   ·rename_i hm
    rw [hgo] at hm
    obtain ⟨s,h1,h2⟩:=List.mem_map.1 hm
    exact .inr ⟨s,hfl s (EP _ _ s h1),hgk s h1,h2.symm⟩
   ·cases hB
 ·have h2:=AD τ (eZ rs) jss0 (hZ rs r)
  rw [b2] at h2
  rw [YE,h2]
 ·exact hnewm s ((hbo s hs).resolve_left hk)
theorem DA {P:Program} {T:List (Nat×Ent)} {n:Nat} {ps rs:List PT} {vars:List ResultVar} {fz:List (Nat×List Nat)} {sc:List Nat} {fb:List (Nat×List Nat)} {h:ur} {f:FuncId} {fn:Func} {c:Code} (hT:qZ P T) (hm:P.follows .mixedOrders=true) (hf:P.funcs[f]? = some fn) (hb:fn.body=some c) (hcb:dB P f=true) (hn:fn.ntmps=n) (hv:fn.results.toList=vars)
  (hl:(decide (ps.length≤n)&&(th ps&&(pa rs&&(O2 ps (cx rs)&&(tm (br (bk 0 ps))&&IM (oO ps (bk 0 ps)) (dw 0 (cx rs)))))))=true)
  {F:ct ps→Option (bc rs)} (hlen:∀ x r,F x=some r→Ml ps (cx rs) x (jN rs r)) (hF:∀ x,H0 ⟨P,T,n,rs,vars,fz,sc,fb⟩ c h ps x=F x) : bO P f ps rs F:=by
 intro x r hx
 simp only [Bool.and_eq_true] at hl
 obtain ⟨hl1,hl2,hl3,hl4,hl5,hl6⟩:=hl
 refine ⟨fun hnM=>(by rw [Bool.or_eq_false_iff,hl3] at hnM; cases hnM.2),fun _=>?_⟩
 have hln:=hlen x r hx
 rw [← hF] at hx
 have hlen:=zd hl1
 subst hn
 unfold H0 at hx
 split at hx
 rotate_left
 ·cases hx
 rename_i vs bx hen
 obtain ⟨hnd,hx⟩:=ao hx
 have hseen:ww bx bx:=by have:=Dl (l':=[]) (i8 hnd); rw [List.append_nil] at this; exact this
 obtain ⟨hal,hargs⟩:=Fb (G:=[]) hl2 hen hseen
 have halen:(dL ps (bk 0 ps) x).1.length=ps.length:=by
  have:∀ (ps:List PT) (i:Nat) (x:ct ps),(dL ps (bk i ps) x).1.length=ps.length:=fun ps=>by
   induction ps with
   | nil=>intro i x; rfl
   | cons p ps ih=>intro i x; simp only [bk,dL,List.length_cons,ih]
  exact this ps 0 x
 refine Zk hl4 hln (i8 hl5) (fun s hs hk=>?_) ?_
 ·have:=tF hl6 s (dW.2 hs)
  rw [yG] at this
  exact this hk
 refine Tp hf hb hcb (by rw [halen]; exact hlen) (Mp _ 0) ?_
 have hs:gY ⟨Bp 0 vs,bx,[],false,[]⟩ ⟨mA (dL ps (bk 0 ps) x).1,lkU (dL ps (bk 0 ps) x).2⟩:=by
  refine ⟨fun i=>?_,fun t b hbl=>?_⟩
  ·show bf bx (lkV (Bp 0 vs) i) (mA (dL ps (bk 0 ps) x).1 i)
   have:=KE vs 0 i
   rw [Nat.zero_add] at this
   rw [this]
   unfold mA
   cases h1:vs[i]? with
   | none=>exact .junk _
   | some v =>
    have hlt:i < (dL ps (bk 0 ps) x).1.length:=by rw [← hargs.len]; exact (zg.1 h1).1
    rw [zq hlt]
    exact hargs.rep i v _ h1 (zq hlt)
  ·show mq bx true (some b) (lkU (dL ps (bk 0 ps) x).2 t)
   have hbl:lkB bx t=some b:=hbl
   rcases VM hal [] t with ⟨_,sb,b',m2,m3,m4,_⟩ | ⟨_,m2,_⟩
   ·rw [List.append_nil,hbl] at m2
    rw [m3]
    exact m4 b m2.symm
   ·rw [List.append_nil,hbl] at m2
    cases m2
 have hpr:ml ⟨Bp 0 vs,bx,[],false,[]⟩:=fun t ht=>by cases ht
 have fin:∀ {e:Exit} {p':PS},(match e with | .normal=>True | .ret=>True | _=>False)→SM ⟨P,T,fn.ntmps,rs,vars,fz,sc,fb⟩ fn p' r→aa6 P fn (dw 0 (cx rs)) (fun q bo=>∃ kss jss,jZ (cx rs) kss∧iQ (eZ rs) jss∧(dw 0 (cx rs)++(br kss++br jss)).Nodup∧q=yC (cT (eZ rs) jss (hZ rs r)).1∧bo=sA 0 (cx rs) kss (jN rs r)++(cT (eZ rs) jss (hZ rs r)).2) e p':=fun {e p'} he hr=>by
  obtain ⟨kss,jss,m1,m2,m3,⟨q,m4,m5⟩,m6⟩:=hr.2 hl3
  have m1:jZ (cx rs) kss:=m1
  have m2:iQ (eZ rs) jss:=m2
  have m5:qK q=yC (cT (eZ rs) jss (hZ rs r)).1:=m5
  obtain ⟨c1,c2,c3⟩:=FP (cx rs) 0 kss (jN rs r) m1
  obtain ⟨d1,d2⟩:=DU (eZ rs) jss (hZ rs r)
  refine ⟨he,_,_,⟨kss,jss,m1,m2,m3,rfl,rfl⟩,fun t ht=>by rw [ik,List.mem_append]; exact .inl (c3 t ht),fun s hs=>?_,(c1.app d2).u,⟨q,m4,m5⟩,fun t B ht=>m6 t B (o5 ht)⟩
  rw [ik,List.mem_append]
  exact .inr (d1 s (Wb _ s hs))
 refine fx (o9 (C:=⟨P,T,fn.ntmps,rs,vars,fz,sc,fb⟩) (fn:=fn) hT hm hv c h _ _ _ _ _ r hpr hs hx) fun e p' hq=>?_
 by_cases he:e = .ret
 ·subst he
  obtain ⟨r',h1,h3⟩:=hq
  injection h3 with h3
  subst h3
  exact ⟨p',.refl _,fin trivial h1⟩
 ·obtain ⟨s',m1,m2,m3⟩:=qO he hq
  cases e with
  | normal =>
   obtain ⟨p2,h1,h2⟩:=R8 (C:=⟨P,T,fn.ntmps,rs,vars,fz,sc,fb⟩) hv (yy (m2.prOk hpr)) (rX m1) m3
   exact ⟨p2,(A0 m1).trans h1,fin trivial h2⟩
  | ret=>exact absurd rfl he
  | _=>cases m3
theorem YB {w:World} {B e k n:Nat} {v:Value} {xs:List Value} (h:w.ownsRow B e k v n xs) : w.ownsRow 0 e k v n xs∧∀ g,blk v=some g→B≤g:=by
 refine ⟨⟨h.1,?_⟩,fun g hg=>?_⟩
 ·rcases h.2 with hn | ⟨g,cap,cur,rfl,hb,hr⟩
  ·exact .inl hn
  ·exact .inr ⟨g,cap,cur,rfl,Nat.zero_le _,hr⟩
 ·rcases h.2 with ⟨rfl,_⟩ | ⟨g',cap,cur,rfl,hb,hr⟩
  ·cases hg
  ·injection hg with hg; subst hg; exact hb
theorem Zi {P:Program} {f:FuncId} {ty:Ty} {e k:Nat} {F:List ty.den→Option (List ty.den)} (hk:tyN ty=k) (hk0 : 0 < k) (hcall:dB P f=true)
  (H:∀ (xs zs:List ty.den) (w:World) (G:Nat→Prop) (v:Value),F xs=some zs→(∀ g,G g→g < w.heap.size)→ej w G v (.sl (xs.map (bH ty)))→Calls P f #[v] w fun en w'=>∃ v' us,en = .returned v'∧w'.ownsRow w.heap.size e k v' zs.length us∧Ext w w'∧us.length=zs.length * k∧∀ (j:Nat) u d,us[j]? = some u→(zs.map (bH ty)).flatten[j]? = some d→ej w G u d) :
  bO P f [.lf (.sl ty)] [.io [.no],.own e k ty] (fun x=>(F x.1).bind fun z=>some (((),()),z)):=by
 rintro ⟨xs,⟨⟩⟩ zz hF
 change List ty.den at xs
 obtain ⟨zs,hz,hF⟩:=cN hF
 injection hF with hF
 subst hF
 refine ⟨fun h=>(by cases h),fun _=>⟨⟨trivial,trivial⟩,fun iss kss jss h1 h2 h3 h4 h5 h6=>⟨hcall,?_⟩⟩⟩
 match iss,h1 with
 | [is],h1 =>
 match is,h1.1 with
 | [],_ =>
 match kss,h2 with
 | [ks],h2 =>
 match ks,h2.1 with
 | [],_ =>
 match jss,h3 with
 | [js],h3 =>
 match js,h3.1 with
 | [j],_ =>
 intro w0 F0 ρ b w G vs args ha hb0 hb hi hr
 have hj:j < 1000000:=h5 j (by simp [br])
 have hbj:b j=none:=hb j (by simp [br])
 have hal:args.length=1:=by rw [← fV args,ha]; rfl
 match args,hal with
 | [a],_ =>
 have ha:qK a = .d (.sl (xs.map (bH ty))):=by
  simp only [dM,dL,toI,List.cons.injEq] at ha
  exact ha.1
 have hvl:vs.toList.length=1:=hr.len
 obtain ⟨v,hv⟩ : ∃ v,vs = #[v]:=by
  match hv:vs.toList,hvl with
  | [v],_=>exact ⟨v,by apply Array.ext'; simpa using hv⟩
 subst hv
 have hrep:=(hr.rep 0 v a rfl rfl).nrmd
 rw [ha] at hrep
 have hd:ej w G v (.sl (xs.map (bH ty))):=by
  cases hrep with
  | d _ _ h=>exact h
 refine (H xs zs w G v hz hi.flt hd).mono ?_
 rintro en w' ⟨v',us,rfl,ho,hx,hl,hu⟩
 obtain ⟨ho0,hbase⟩:=YB ho
 have hzl:∀ x∈zs.map (bH ty),x.length=k:=fun x hx=>by
  obtain ⟨y,_,rfl⟩:=List.mem_map.1 hx
  rw [lA,hk]
 have:=Ev (P:=P) (t:=j) (e:=e) (k:=k) (es:=zs.map (bH ty)) (xs:=us) (v:=v') (w':=w') hi hj hbj hk0 hx hbase (by rw [List.length_map]; exact ho0) hzl (by rw [hl,cC k _ hzl,List.length_map]) hu
 obtain ⟨v2,w2,ρ',e1,k1,k2,k3⟩:=this
 injection e1 with e1 e2
 subst e1 e2
 have hU:dx b (pN [.lf (.sl ty)] [.io [.no],.own e k ty] [[]] [[]] [[j]] (xs,()) (((),()),zs))=cP b (some (j,.rw e k (zs.map (bH ty)))):=by
  rw [← Bo]; rfl
 rw [hU]
 refine ⟨v',ρ',G,rfl,k1,k2,?_⟩
 rw [List.length_map] at k3
 exact k3
theorem Zh {P:Program} {f:FuncId} {F:ct [.lf .str]→Option (bc [.lf .str])} (hcall:dB P f=true)
  (H:∀ (x z:ByteArray) (w:World),F (x,())=some z→Calls P f #[.string x] w fun en w'=>en = .returned (.string z)∧Ext w w') : bO P f [.lf .str] [.lf .str] F:=by
 rintro ⟨x,⟨⟩⟩ z hF
 refine ⟨fun _=>⟨hcall,fun w G vs hG hr=>?_⟩,fun h=>(by cases h)⟩
 have hvl:vs.toList.length=1:=hr.len
 obtain ⟨v,hv⟩ : ∃ v,vs = #[v]:=by
  match hv:vs.toList,hvl with
  | [v],_=>exact ⟨v,by apply Array.ext'; simpa using hv⟩
 subst hv
 obtain ⟨rfl,_⟩:=aJ.vv (hr.rep 0 v _ rfl rfl)
 refine (H x z w hF).mono ?_
 rintro en w' ⟨rfl,hx⟩
 exact ⟨_,G,rfl,hx,fun _ h=>h,fun g hg=>Nat.lt_of_lt_of_le (hG g hg) hx.size,fun _ h=>.inl h,.d _ _ (.v _ rfl)⟩
end Go.Proofs.YtmjkjaahbgikjaaGreat
