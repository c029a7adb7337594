/- My texts, in one. -/
import Derived.Test.YtaknepbdbappdaaGreatZB
set_option linter.all false
set_option maxRecDepth 100000
set_option maxHeartbeats 4000000
namespace Go.Proofs.YtaknepbdbappdaaGreat
open Go.RowKit
open IntKind (i64)
open Go.Proofs.Tryz (prog)
section
def Le (p p':PS) : Prop:=∀ (n:Nat) (w0:WM) (F0:Nat→Prop) (a:Act) (w:World),n6 n w0 F0 p a w→n6 n w0 F0 p' a w
theorem Le.refl (p:PS) : Le p p:=fun _ _ _ _ _ h=>h
theorem Le.trans {p p' p'':PS} (h:Le p p') (h':Le p' p'') : Le p p'':=fun n w0 F0 a w hc=>h' n w0 F0 a w (h n w0 F0 a w hc)
theorem tG {P:Program} {n:Nat} {c:Code} {Q:Exit→PS→Prop} {p p':PS} (hl:Le p p') (h:PWP P n c Q p') : PWP P n c Q p:=fun w0 F0 a w hc=>h w0 F0 a w (hl n w0 F0 a w hc)
theorem fw {P:Program} {n:Nat} {c:Code} {Q Q':Exit→PS→Prop} {p:PS} (h:PWP P n c Q p) (hq:∀ e p',Q e p'→∃ p'',Le p' p''∧Q' e p'') : PWP P n c Q' p :=
 fun w0 F0 a w hc=>wp_mono (h w0 F0 a w hc) fun e a' w' ⟨s',h1,h2⟩=>by
  obtain ⟨p'',h3,h4⟩:=hq e s' h1
  exact ⟨p'',h4,h3 n w0 F0 a' w' h2⟩
structure gU (s:SS) (p:PS) : Prop where
 sl:∀ i,bb s.bx (lkV s.sl i) (p.t i)
 bx:∀ t b,lkB s.bx t=some b→mf s.bx true (some b) (p.b t)
theorem mf.some {B:List (Nat×Option aX)} {o o':Bool} {b:aX} {q:Option Box} (h:mf B o (some b) q) : mf B o' (some b) q:=by cases b <;> exact h
theorem Sim.w {s:SS} {p:PS} (h:Sim s p) : gU s p:=⟨h.sl,fun t b hb=>by have:=h.bx t; rw [hb] at this; exact this.some⟩
mutual
def UZ:SV→PV→PV
 | .junk,_=>.junk
 | .ag cs,.ag qs=>.ag (ot cs qs)
 | .tup cs,.tup qs=>.tup (ot cs qs)
 | .fn _ ps qs,.fn f ps' qs'=>.fn f (ot ps ps') (ot qs qs')
 | _,q=>q
def ot:List SV→List PV→List PV
 | [],_=>[]
 | _,[]=>[]
 | c::cs,q::qs=>UZ c q::ot cs qs
end
def Je:aX→Box→Box
 | .st _ cs,.st ty qs=>.st ty (ot cs qs)
 | _,b=>b
def xa (s:SS) (p:PS) : PS:=⟨fun i=>UZ (lkV s.sl i) (p.t i),fun t=>match lkB s.bx t with | none=>none | some b=>(p.b t).map (Je b)⟩
theorem fX:∀ (cs:List SV) (qs:List PV),cs.length=qs.length→(ot cs qs).length=qs.length
 | [],[],_=>rfl
 | [],_ :: _,h=>by simp at h
 | _ :: _,[],h=>by simp at h
 | c::cs,q::qs,h=>by simp only [ot,List.length_cons,fX cs qs (by simpa using h)]
theorem fY:∀ (cs:List SV) (qs:List PV) (j:Nat) (r:PV),(ot cs qs)[j]? = some r→∃ c q,cs[j]? = some c∧qs[j]? = some q∧r=UZ c q
 | [],qs,j,r,h=>by simp [ot] at h
 | _ :: _,[],j,r,h=>by simp [ot] at h
 | c::cs,q::qs,0,r,h=>by simp [ot] at h; exact ⟨c,q,rfl,rfl,h.symm⟩
 | c::cs,q::qs,j + 1,r,h=>by
  simp [ot] at h
  simpa using fY cs qs j r h
theorem Kl {B:List (Nat×Option aX)} {v:SV} {q:PV} (h:bb B v q) : bb B v (UZ v q):=by
 induction h with
 | junk q=>exact .junk _
 | d c y h=>exact .d c y h
 | ag cs qs hl hr ih =>
  refine .ag cs _ (by rw [fX cs qs hl]; exact hl) (fun j c r h1 h2=>?_)
  obtain ⟨c',q',h3,h4,rfl⟩:=fY cs qs j r h2
  rw [h1] at h3
  injection h3 with h3
  subst h3
  exact ih j c q' h1 h4
 | tup cs qs hl hr ih =>
  refine .tup cs _ (by rw [fX cs qs hl]; exact hl) (fun j c r h1 h2=>?_)
  obtain ⟨c',q',h3,h4,rfl⟩:=fY cs qs j r h2
  rw [h1] at h3
  injection h3 with h3
  subst h3
  exact ih j c q' h1 h4
 | ptr t o ty cs hb=>exact .ptr t o ty cs hb
 | row t n e k ty xs pins hb hn=>exact .row t n e k ty xs pins hb hn
 | re t p o n i e k ty xs pins pin hb hn hp hi=>exact .re t p o n i e k ty xs pins pin hb hn hp hi
 | vw t lo hi n e k ty xs pins hb hn=>exact .vw t lo hi n e k ty xs pins hb hn
 | fe cs ds h hn=>exact .fe cs ds h hn
 | fn f ps qs ps' qs' hl hr hl2 hr2 ih ih2 =>
  refine .fn f ps qs _ _ (by rw [fX ps ps' hl]; exact hl) (fun j c r h1 h2=>?_) (by rw [fX qs qs' hl2]; exact hl2) (fun j c r h1 h2=>?_)
  ·obtain ⟨c',q',h3,h4,rfl⟩:=fY ps ps' j r h2
   rw [h1] at h3
   injection h3 with h3
   subst h3
   exact ih j c q' h1 h4
  ·obtain ⟨c',q',h3,h4,rfl⟩:=fY qs qs' j r h2
   rw [h1] at h3
   injection h3 with h3
   subst h3
   exact ih2 j c q' h1 h4
theorem U0 {B:List (Nat×Option aX)} {cs:List SV} {qs:List PV} (h:bS B cs qs) : bS B cs (ot cs qs) :=
 ⟨by rw [fX cs qs h.len]; exact h.len,fun j c r h1 h2=>by
  obtain ⟨c',q',h3,h4,rfl⟩:=fY cs qs j r h2
  rw [h1] at h3
  injection h3 with h3
  subst h3
  exact Kl (h.rep j c q' h1 h4)⟩
section
variable {ρ : Nat→Value} {b b':Nat→Option Box} {w:World} {F:Nat→Prop} {B:List (Nat×Option aX)}
theorem KM (hst:∀ t ty cs ty' qs,lkB B t=some (.st ty cs)→b t=some (.st ty' qs)→∃ ty2 qs2,b' t=some (.st ty2 qs2)) (hrw:∀ t e k ty xs pins,lkB B t=some (.rw e k ty xs pins)→b' t=b t) {v:SV} {q:PV} (hv:bb B v q) :
  ∀ {x:Value},aL ρ b w F x q→aL ρ b' w F x (UZ v q):=by
 induction hv with
 | junk q=>exact fun _=>.junk _
 | d c y h =>
  intro x hp
  cases hp with
  | d _ _ h=>exact .d _ _ h
 | ag cs qs hl hr ih =>
  intro x hp
  cases hp with
  | ag xs _ hl2 h1 hr2 =>
   refine .ag xs _ (by rw [fX cs qs hl]; exact hl2) h1 (fun j x r h2 h3=>?_)
   obtain ⟨c,q,h4,h5,rfl⟩:=fY cs qs j r h3
   exact ih j c q h4 h5 (hr2 j x q h2 h5)
 | tup cs qs hl hr ih =>
  intro x hp
  cases hp with
  | tup xs _ hl2 hr2 =>
   refine .tup xs _ (by rw [fX cs qs hl]; exact hl2) (fun j x r h2 h3=>?_)
   obtain ⟨c,q,h4,h5,rfl⟩:=fY cs qs j r h3
   exact ih j c q h4 h5 (hr2 j x q h2 h5)
 | ptr t o ty cs hb =>
  intro x hp
  cases hp with
  | ptr _ _ g ty' qs h1 h2 =>
   obtain ⟨ty2,qs2,h3⟩:=hst t ty cs ty' qs hb h1
   exact .ptr t o g ty2 qs2 h3 h2
 | row t n e k ty xs pins hb hn =>
  intro x hp
  cases hp with
  | row _ _ A c e2 k2 es h1 h2 h3 h4 h5=>exact .row t n A c e2 k2 es (by rw [hrw t e k ty xs pins hb]; exact h1) h2 h3 h4 h5
 | re t p o n i e k ty xs pins pin hb hn hp hi =>
  intro x hx
  cases hx with
  | re _ _ _ _ a e2 k2 es h1 h2 h3 h4=>exact .re t n i o a e2 k2 es (by rw [hrw t e k ty xs pins hb]; exact h1) h2 h3 h4
 | vw t lo hi n e k ty xs pins hb hn=>
  intro x hp
  cases hp with
  | vw _ _ _ _ A m c e2 k2 es h1 h2 h3 h4 h5 h6=>exact .vw t n lo hi A m c e2 k2 es (by rw [hrw t e k ty xs pins hb]; exact h1) h2 h3 h4 h5 h6
 | fe cs ds h hn =>
  intro x hx
  cases hx with
  | fe a _ us h1 h2 h3=>exact .fe a ds us h1 h2 h3
 | fn f ps qs ps' qs' hl hr hl2 hr2 ih ih2 =>
  intro x hx
  cases hx with
  | fn _ xs ys _ _ m1 m2 m3 m4 =>
   refine .fn f xs ys _ _ (by rw [fX ps ps' hl]; exact m1) (fun j x r h2 h3=>?_) (by rw [fX qs qs' hl2]; exact m3) (fun j x r h2 h3=>?_)
   ·obtain ⟨c,q,h4,h5,rfl⟩:=fY ps ps' j r h3
    exact ih j c q h4 h5 (m2 j x q h2 h5)
   ·obtain ⟨c,q,h4,h5,rfl⟩:=fY qs qs' j r h3
    exact ih2 j c q h4 h5 (m4 j x q h2 h5)
end
theorem qX {s:SS} {p:PS} (h:gU s p) : Sim ⟨s.sl,s.bx,s.pr,s.ro,[]⟩ (xa s p):=by
 refine ⟨fun i=>Kl (h.sl i),fun t=>?_⟩
 show mf s.bx (aA [] t) (lkB s.bx t) (match lkB s.bx t with | none=>none | some b=>(p.b t).map (Je b))
 cases hb:lkB s.bx t with
 | none=>exact fun _=>rfl
 | some bx =>
  have h1:=h.bx t bx hb
  cases bx with
  | st ty cs =>
   obtain ⟨qs,h2,h3⟩:=h1
   rw [h2]
   exact ⟨ot cs qs,rfl,U0 h3⟩
  | rw e k ty xs pins =>
   obtain ⟨h2,h3⟩:=h1
   rw [h2]
   exact ⟨rfl,h3⟩
theorem Ai {s:SS} {p:PS} (h:gU s p) : Le p (xa s p):=by
 intro n w0 F0 a w ⟨h1,h2,ρ,F,hi,hev⟩
 have hst:∀ t ty cs ty' qs,lkB s.bx t=some (.st ty cs)→p.b t=some (.st ty' qs)→∃ ty2 qs2,(xa s p).b t=some (.st ty2 qs2):=fun t ty cs ty' qs k1 k2=>by
  refine ⟨ty',ot cs qs,?_⟩
  show (match lkB s.bx t with | none=>none | some b=>(p.b t).map (Je b)) = _
  rw [k1,k2]; rfl
 have hrw:∀ t e k ty xs pins,lkB s.bx t=some (.rw e k ty xs pins)→(xa s p).b t=p.b t:=fun t e k ty xs pins k1=>by
  show (match lkB s.bx t with | none=>none | some b=>(p.b t).map (Je b)) = _
  rw [k1,(h.bx t _ k1).1]; rfl
 have hreg:∀ t q,pA ρ p.b t q→pA ρ (xa s p).b t q:=fun t q k=>by
  cases hl:lkB s.bx t with
  | none=>exact k.less (.inl (by show (match lkB s.bx t with | none=>none | some b=>(p.b t).map (Je b)) = _; rw [hl]))
  | some b =>
   have hc:(xa s p).b t=(p.b t).map (Je b):=by show (match lkB s.bx t with | none=>none | some b=>(p.b t).map (Je b)) = _; rw [hl]
   cases b with
   | st ty cs =>
    refine k.mono (fun e=>by rw [hc,e]; rfl) (fun ty' qs e=>⟨⟨ty',_,by rw [hc,e]; rfl⟩,rfl⟩) (fun e k' es he=>⟨e,es,by rw [hc,he]; rfl,Nat.le_refl _,fun _=>rfl⟩)
   | rw e k' ty xs pins=>exact k.same (hrw t e k' ty xs pins hl) rfl
 have hb:∀ t Bx,(xa s p).b t=some Bx→∃ b B0,lkB s.bx t=some b∧p.b t=some B0∧Bx=Je b B0:=fun t Bx k=>by
  have k:(match lkB s.bx t with | none=>none | some b=>(p.b t).map (Je b))=some Bx:=k
  cases hl:lkB s.bx t with
  | none=>rw [hl] at k; cases k
  | some b =>
   rw [hl] at k
   rw [zm] at k
   obtain ⟨B0,k1,k2⟩:=k
   exact ⟨b,B0,rfl,k1,k2.symm⟩
 refine ⟨h1,h2,ρ,F,⟨hi.ext,hi.f0,hi.flt,hi.fnew,fun t Bx k=>?_,fun t t' Bx Bx' g k1 k2=>?_,fun t q hq=>⟨(hi.reg t q hq).1,hreg t q (hi.reg t q hq).2⟩⟩,fun i=>KM hst hrw (h.sl i) (hev i)⟩
 ·obtain ⟨b,B0,k1,k2,rfl⟩:=hb t Bx k
  have hbx:=hi.box t B0 k2
  have hs:=h.bx t b k1
  cases b with
  | st ty cs =>
   obtain ⟨qs,k3,k4⟩:=hs
   rw [k2] at k3
   injection k3 with k3
   subst k3
   cases hbx with
   | st _ _ g xs hρ hg hF hh hl h1x hr =>
    refine .st ty _ g xs hρ hg hF hh (by rw [fX cs qs k4.len]; exact hl) h1x (fun j x r m1 m2=>?_)
    obtain ⟨c,q,m3,m4,rfl⟩:=fY cs qs j r m2
    exact KM hst hrw (k4.rep j c q m3 m4) (hr j x q m1 m4)
  | rw e k ty xs pins =>
   obtain ⟨k3,_⟩:=hs
   rw [k2] at k3
   injection k3 with k3
   subst k3
   cases hbx with
   | rw _ _ _ xs' hk0 ho hF hk hl hr hown=>exact .rw _ _ _ xs' hk0 ho hF hk hl hr hown
   | gn _ _ _ hρ=>exact .gn _ _ _ hρ
 ·obtain ⟨_,B1,_,m1,_⟩:=hb t Bx k1
  obtain ⟨_,B2,_,m2,_⟩:=hb t' Bx' k2
  exact hi.dist t t' B1 B2 g m1 m2
def YY (t:Nat) (es:List (List D)) (p:PS) : PS:=⟨fun i=>frz t es (p.t i),fun i=>if i=t then none else (p.b i).map (Ap t es)⟩
theorem Uq {p:PS} (t:Nat) {e k:Nat} {es:List (List D)} (hb0:p.b t=some (.rw e k es)) : Le p (YY t es p):=by
 intro n w0 F0 a w ⟨h1,h2,ρ,F,hi,hev⟩
 have hb':∀ i,(YY t es p).b i=if i=t then none else (p.b i).map (Ap t es):=fun i=>rfl
 have hbt:=(hi.box t _ hb0)
 refine ⟨h1,h2,ρ,fun g=>F g∨blk (ρ t)=some g,⟨hi.ext,fun g hg=>.inl (hi.f0 g hg),?_,?_,fun t' B h=>?_,fun t1 t2 B1 B2 g k1 k2 hne=>?_,hi.reg_frz hb'⟩,fun i=>(hev i).frz hi hb0 hb'⟩
 ·rintro g (hg | hg)
  ·exact hi.flt g hg
  ·exact (hbt.lt hg).1
 ·rintro g (hg | hg)
  ·exact hi.fnew g hg
  ·exact .inr (hbt.lt hg).2.1
 ·rw [hb'] at h
  split at h
  ·cases h
  ·rename_i ht
   rw [zm] at h
   obtain ⟨B0,hB0,rfl⟩:=h
   have hnF:∀ g,blk (ρ t')=some g→¬ (F g∨blk (ρ t)=some g):=by
    rintro g hg (h | h)
    ·exact ((hi.box t' B0 hB0).lt hg).2.2 h
    ·exact hi.dist t' t B0 _ g hB0 hb0 ht hg h
   cases hi.box t' B0 hB0 with
   | st ty cs g xs hρ hg hF hh hl h1 hr =>
    refine .st ty _ g xs hρ hg (hnF g (by rw [hρ]; rfl)) hh (by rw [g9]; exact hl) h1 (fun j x c k1 k2=>?_)
    obtain ⟨d,h4,rfl⟩:=hH t es cs j c k2
    exact (hr j x d k1 h4).frz hi hb0 hb'
   | rw e' k' es' xs hk0 ho hF hk hl hr hown=>exact .rw e' k' es' xs hk0 ho hnF hk hl (fun j x d k1 k2=>(hr j x d k1 k2).mono (fun g h=>.inl h) (fun _ _=>rfl)) hown
   | gn e' k' es' hρ=>exact .gn e' k' es' hρ
 ·rw [hb'] at k1 k2
  split at k1
  ·cases k1
  ·split at k2
   ·cases k2
   ·rw [zm] at k1 k2
    obtain ⟨B1',k1,_⟩:=k1
    obtain ⟨B2',k2,_⟩:=k2
    exact hi.dist t1 t2 B1' B2' g k1 k2 hne
def UD (t:Nat) (c:SD) : aX→aX
 | .st ty cs=>.st ty (nM t c cs)
 | b=>b
theorem lj (t:Nat) (c:SD) : ∀ (l:List (Nat×Option aX)) (i:Nat),lkB (rm t c l) i=(lkB l i).map (UD t c)
 | [],_=>rfl
 | (j,none)::l,i=>by simp only [rm,aq,lj t c l i]; split <;> rfl
 | (j,some (.st ty cs))::l,i=>by simp only [rm,aq,lj t c l i]; split <;> rfl
 | (j,some (.rw e k ty xs pins))::l,i=>by simp only [rm,aq,lj t c l i]; split <;> rfl
theorem CF (t:Nat) (c:SD) : ∀ (l:List (Nat×SV)) (i:Nat),lkV (D9 t c l) i=tU t c (lkV l i)
 | [],_=>rfl
 | (j,v)::l,i=>by simp only [D9,cO,CF t c l i]; split <;> rfl
theorem mM (t:Nat) (c:SD) : ∀ (cs:List SV) (j:Nat),(nM t c cs)[j]? = (cs[j]?).map (tU t c)
 | [],j=>by simp [nM]
 | v::cs,0=>by simp [nM]
 | v::cs,j + 1=>by simpa [nM] using mM t c cs j
theorem kO (t:Nat) (c:SD) : ∀ cs:List SV,(nM t c cs).length=cs.length
 | []=>rfl
 | v::cs=>by simp [nM,kO t c cs]
theorem bb.frz {B B':List (Nat×Option aX)} {t e k:Nat} {ty:Ty} {xs:List ty.den} {pins:List (Nat×Pin)} (ht:lkB B t=some (.rw e k ty xs pins)) (hB:Ts t B B') {v:SV} {q:PV} (h:bb B v q) : bb B' (tU t (.sl ty xs) v) (Go.Proofs.YtaknepbdbappdaaGreat.frz t (xs.map (bJ ty)) q):=by
 induction h with
 | junk q=>exact .junk _
 | d c y h=>exact .d c y h
 | ag cs qs hl hr ih =>
  refine .ag _ _ (by rw [kO,g9]; exact hl) (fun j c r h1 h2=>?_)
  rw [mM,zm] at h1
  obtain ⟨c',h3,rfl⟩:=h1
  obtain ⟨q',h4,rfl⟩:=hH _ _ qs j r h2
  exact ih j c' q' h3 h4
 | tup cs qs hl hr ih =>
  refine .tup _ _ (by rw [kO,g9]; exact hl) (fun j c r h1 h2=>?_)
  rw [mM,zm] at h1
  obtain ⟨c',h3,rfl⟩:=h1
  obtain ⟨q',h4,rfl⟩:=hH _ _ qs j r h2
  exact ih j c' q' h3 h4
 | ptr t' o ty2 cs hb=>obtain ⟨ty',cs',h1⟩:=hB.st t' ty2 cs hb; exact .ptr t' o ty' cs' h1
 | row t' n e2 k2 ty2 xs2 pins2 hb hn =>
  simp only [tU,Go.Proofs.YtaknepbdbappdaaGreat.frz,cQ]
  by_cases h:t' = t
  ·subst h
   rw [ht] at hb
   injection hb with hb
   injection hb with e1 e2 e3 e4 e5
   subst e3
   have e4:=eq_of_heq e4
   subst e4
   simp only [decide_true,if_true,List.length_map,hn]
   exact M4 ty xs
  ·simp only [h,decide_false,if_false]
   exact .row t' n e2 k2 ty2 xs2 pins2 (hB.rw t' h _ _ _ _ _ hb) hn
 | re t' p o n i e2 k2 ty2 xs2 pins2 pin hb hn hp hi =>
  simp only [tU,Go.Proofs.YtaknepbdbappdaaGreat.frz,cQ]
  by_cases h:t' = t
  ·simp only [h,decide_true]; exact .junk _
  ·simp only [h,decide_false,if_false]
   exact .re t' p o n i e2 k2 ty2 xs2 pins2 pin (hB.rw t' h _ _ _ _ _ hb) hn hp hi
 | vw t' lo hi n e2 k2 ty2 xs2 pins2 hb hn=>
  simp only [tU,Go.Proofs.YtaknepbdbappdaaGreat.frz,cQ]
  by_cases h:t' = t
  ·simp only [h,decide_true]; exact .junk _
  ·simp only [h,decide_false,if_false]
   exact .vw t' lo hi n e2 k2 ty2 xs2 pins2 (hB.rw t' h _ _ _ _ _ hb) hn
 | fe cs ds h hn=>exact .fe cs ds h hn
 | fn f ps qs ps' qs' hl hr hl2 hr2 ih ih2 =>
  refine .fn f _ _ _ _ (by rw [kO,g9]; exact hl) (fun j c r h1 h2=>?_) (by rw [kO,g9]; exact hl2) (fun j c r h1 h2=>?_)
  ·rw [mM,zm] at h1
   obtain ⟨c',h3,rfl⟩:=h1
   obtain ⟨q',h4,rfl⟩:=hH _ _ ps' j r h2
   exact ih j c' q' h3 h4
  ·rw [mM,zm] at h1
   obtain ⟨c',h3,rfl⟩:=h1
   obtain ⟨q',h4,rfl⟩:=hH _ _ qs' j r h2
   exact ih2 j c' q' h3 h4
mutual
theorem Lc {pr:List Nat} {t:Nat} {c:SD} (ht:aA pr t=false) : ∀ v:SV,la pr v=true→tU t c v=v
 | .junk,_=>rfl
 | .d _,_=>rfl
 | .fe _,_=>rfl
 | .ptr _ _,_=>rfl
 | .row t',h=>by
  have:=DE ht (show aA pr t' = true from h)
  simp only [tU,cQ,this,decide_false]
 | .re _ _ _,h=>by cases h
 | .vw _ _ _,h=>by cases h
 | .ag cs,h=>by simp only [tU]; rw [rl ht cs h]
 | .tup cs,h=>by simp only [tU]; rw [rl ht cs h]
 | .fn f ps qs,h=>by
  have h:(ec pr ps&&ec pr qs)=true:=h
  rw [Bool.and_eq_true] at h
  simp only [tU]; rw [rl ht ps h.1,rl ht qs h.2]
theorem rl {pr:List Nat} {t:Nat} {c:SD} (ht:aA pr t=false) : ∀ cs:List SV,ec pr cs=true→nM t c cs=cs
 | [],_=>rfl
 | v::cs,h=>by
  simp only [ec,Bool.and_eq_true] at h
  simp only [nM]
  rw [Lc ht v h.1,rl ht cs h.2]
end
mutual
theorem RR {t:Nat} {c:SD} : ∀ v:SV,ph v=true→tU t c v=v
 | .junk,_=>rfl
 | .d _,_=>rfl
 | .fe _,_=>rfl
 | .ptr _ _,_=>rfl
 | .row _,h=>by cases h
 | .re _ _ _,h=>by cases h
 | .vw _ _ _,h=>by cases h
 | .ag cs,h=>by simp only [tU]; rw [mL cs h]
 | .tup cs,h=>by simp only [tU]; rw [mL cs h]
 | .fn f ps qs,h=>by
  have h:(match ct ps with | true=>ct qs | false=>false)=true:=h
  split at h
  ·rename_i h1; simp only [tU]; rw [mL ps h1,mL qs h]
  ·cases h
theorem mL {t:Nat} {c:SD} : ∀ cs:List SV,ct cs=true→nM t c cs=cs
 | [],_=>rfl
 | v::cs,h=>by
  simp only [ct] at h
  split at h
  ·rename_i h1
   simp only [nM]
   rw [RR v h1,mL cs h]
  ·cases h
end
theorem Qy {sc:List Nat} {s s':SS} {p:PS} {t:Nat} (hpr:mc s) (hs:gU s p) (h:NJ t s=some s') : ∃ p',Le p p'∧gU s' p'∧∀ W,dH sc W s s':=by
 unfold NJ at h
 split at h
 ·rename_i e k ty xs pins hb
  split at h
  ·rename_i ht
   injection h with h
   subst h
   have hpb:p.b t=some (.rw e k (xs.map (bJ ty))):=(hs.bx t _ hb).1
   have hX:Ts t s.bx ((t,none)::rm t (.sl ty xs) s.bx):=by
    refine ⟨fun t' ht' e2 k2 ty2 xs2 pins2 h=>?_,fun t' ty2 cs2 h=>?_⟩
    ·rw [aq,if_neg ht',lj,h]; rfl
    ·have : ¬ t' = t:=fun e=>by rw [e,hb] at h; cases h
     rw [aq,if_neg this,lj,h]
     exact ⟨_,_,rfl⟩
   refine ⟨_,Uq t hpb,⟨fun i=>?_,fun t' b h=>?_⟩,fun W=>⟨rfl,rfl,fun t' ht'=>?_,fun i _ hsf=>?_,fun t' _ ty2 cs2 h=>?_⟩⟩
   ·show bb _ (lkV (D9 t (.sl ty xs) s.sl) i) (frz t (xs.map (bJ ty)) (p.t i))
    rw [CF]
    exact (hs.sl i).frz hb hX
   ·have h:lkB ((t,none)::rm t (.sl ty xs) s.bx) t' = some b:=h
    rw [aq] at h
    split at h
    ·cases h
    ·rename_i hne
     rw [lj,zm] at h
     obtain ⟨b0,h1,rfl⟩:=h
     have h2:=hs.bx t' b0 h1
     show mf _ true (some (UD t (.sl ty xs) b0)) (if t' = t then none else (p.b t').map (Ap t (xs.map (bJ ty))))
     rw [if_neg hne]
     cases b0 with
     | st ty2 cs =>
      obtain ⟨qs,h3,h4⟩:=h2
      rw [h3]
      refine ⟨_,rfl,by rw [kO,g9]; exact h4.len,fun j c r k1 k2=>?_⟩
      rw [mM,zm] at k1
      obtain ⟨c',k3,rfl⟩:=k1
      obtain ⟨q',k4,rfl⟩:=hH _ _ qs j r k2
      exact (h4.rep j c' q' k3 k4).frz hb hX
     | rw e2 k2 ty2 xs2 pins2 =>
      obtain ⟨h3,h4⟩:=h2
      rw [h3]
      exact ⟨rfl,h4⟩
   ·show kR _ (lkB ((t,none)::rm t (.sl ty xs) s.bx) t')
    rw [aq,if_neg (fun e=>by rw [e,ht] at ht'; cases ht'),lj]
    obtain ⟨b',h1,h2⟩:=hpr t' ht'
    rw [h1]
    cases b' with
    | st ty2 cs=>simp only [Option.map_some,UD]; rw [mL cs h2]; rfl
    | rw e2 k2 ty2 xs2 pins2=>exact ⟨pins2,rfl⟩
   ·show lkV (D9 t (.sl ty xs) s.sl) i = _
    rw [CF]
    exact Lc ht _ hsf
   ·show ∃ cs',lkB ((t,none)::rm t (.sl ty xs) s.bx) t' = _∧_
    rw [aq,if_neg (fun e=>by rw [e,hb] at h; cases h),lj,h]
    exact ⟨_,rfl,kO _ _ cs2⟩
  ·injection h with h
   subst h
   exact ⟨p,.refl p,hs,fun W=>.refl W s⟩
 ·injection h with h
  subst h
  exact ⟨p,.refl p,hs,fun W=>.refl W s⟩
theorem UC {sc:List Nat} {s s':SS} {p:PS} {t:Nat} (hpr:mc s) (hs:Sim s p) (h:NJ t s=some s') : ∃ p',Le p p'∧Sim s' p'∧(∀ W,dH sc W s s')∧s'.oc=s.oc:=by
 unfold NJ at h
 split at h
 ·rename_i e k ty xs pins hb
  split at h
  ·rename_i ht
   have h0:NJ t s=some s':=by unfold NJ; rw [hb]; simp only; rw [ht]; exact h
   injection h with h
   have hpb:p.b t=some (.rw e k (xs.map (bJ ty))):=by have:=hs.bx t; rw [hb] at this; exact this.1
   obtain ⟨p2,k1,k2,k3⟩:=Qy (sc:=sc) hpr hs.w h0
   have hX:Ts t s.bx ((t,none)::rm t (.sl ty xs) s.bx):=by
    refine ⟨fun t' ht' e2 k2 ty2 xs2 pins2 h=>?_,fun t' ty2 cs2 h=>?_⟩
    ·rw [aq,if_neg ht',lj,h]; rfl
    ·have : ¬ t' = t:=fun e=>by rw [e,hb] at h; cases h
     rw [aq,if_neg this,lj,h]
     exact ⟨_,_,rfl⟩
   subst h
   refine ⟨_,Uq t hpb,⟨fun i=>?_,fun t'=>?_⟩,k3,rfl⟩
   ·show bb _ (lkV (D9 t (.sl ty xs) s.sl) i) (frz t (xs.map (bJ ty)) (p.t i))
    rw [CF]
    exact (hs.sl i).frz hb hX
   ·show mf _ (aA s.oc t') (lkB ((t,none)::rm t (.sl ty xs) s.bx) t') (if t' = t then none else (p.b t').map (Ap t (xs.map (bJ ty))))
    rw [aq]
    by_cases hne:t' = t
    ·rw [if_pos hne,if_pos hne]; exact fun _=>rfl
    ·rw [if_neg hne,if_neg hne,lj]
     have h2:=hs.bx t'
     cases hl:lkB s.bx t' with
     | none=>rw [hl] at h2; exact fun ho=>by rw [h2 ho]; rfl
     | some b0 =>
      rw [hl] at h2
      cases b0 with
      | st ty2 cs =>
       obtain ⟨qs,h3,h4⟩:=h2
       rw [h3]
       refine ⟨_,rfl,by rw [kO,g9]; exact h4.len,fun j c r k1 k2=>?_⟩
       rw [mM,zm] at k1
       obtain ⟨c',k3,rfl⟩:=k1
       obtain ⟨q',k4,rfl⟩:=hH _ _ qs j r k2
       exact (h4.rep j c' q' k3 k4).frz hb hX
      | rw e2 k2 ty2 xs2 pins2 =>
       obtain ⟨h3,h4⟩:=h2
       rw [h3]
       exact ⟨rfl,h4⟩
  ·injection h with h
   subst h
   exact ⟨p,.refl p,hs,fun W=>.refl W s,rfl⟩
 ·injection h with h
  subst h
  exact ⟨p,.refl p,hs,fun W=>.refl W s,rfl⟩
theorem wX {sc:List Nat} : ∀ {l:List Nat} {s s':SS} {p:PS},mc s→Sim s p→lq l s=some s'→∃ p',Le p p'∧Sim s' p'∧(∀ W,dH sc W s s')∧s'.oc=s.oc
 | [],s,s',p,_,hs,h=>by injection h with h; subst h; exact ⟨p,.refl p,hs,fun W=>.refl W s,rfl⟩
 | t::l,s,s',p,hpr,hs,h=>by
  simp only [lq] at h
  split at h
  ·rename_i s1 h1
   obtain ⟨p1,k1,k2,k3,k4⟩:=UC (sc:=sc) hpr hs h1
   obtain ⟨p2,m1,m2,m3,m4⟩:=wX (sc:=sc) ((k3 []).prOk hpr) k2 h
   exact ⟨p2,k1.trans m1,m2,fun W=>(k3 W).trans (m3 W),m4.trans k4⟩
  ·cases h
theorem rn {sc:List Nat} : ∀ {l:List Nat} {s s':SS} {p:PS},mc s→gU s p→lq l s=some s'→∃ p',Le p p'∧gU s' p'∧∀ W,dH sc W s s'
 | [],s,s',p,_,hs,h=>by injection h with h; subst h; exact ⟨p,.refl p,hs,fun W=>.refl W s⟩
 | t::l,s,s',p,hpr,hs,h=>by
  simp only [lq] at h
  split at h
  ·rename_i s1 h1
   obtain ⟨p1,k1,k2,k3⟩:=Qy hpr hs h1
   obtain ⟨p2,k4,k5,k6⟩:=rn ((k3 []).prOk hpr) k2 h
   exact ⟨p2,k1.trans k4,k5,fun W=>(k3 W).trans (k6 W)⟩
  ·cases h
mutual
def fzp (t:Nat) (ds:List D) : PV→PV
 | .ptr t' o=>if t' = t then .fe (ds.drop o) else .ptr t' o
 | .ag cs=>.ag (D6 t ds cs)
 | .tup cs=>.tup (D6 t ds cs)
 | .fn f ps qs=>.fn f (D6 t ds ps) (D6 t ds qs)
 | p=>p
def D6 (t:Nat) (ds:List D) : List PV→List PV
 | []=>[]
 | c::cs=>fzp t ds c::D6 t ds cs
end
def D7 (t:Nat) (ds:List D) : Box→Box
 | .st ty cs=>.st ty (D6 t ds cs)
 | B=>B
def YX (t:Nat) (ds:List D) (p:PS) : PS:=⟨fun i=>fzp t ds (p.t i),fun i=>if i=t then none else (p.b i).map (D7 t ds)⟩
theorem i6 (t:Nat) (ds:List D) : ∀ cs:List PV,(D6 t ds cs).length=cs.length
 | []=>rfl
 | c::cs=>by simp [D6,i6 t ds cs]
theorem i7 (t:Nat) (ds:List D) : ∀ (cs:List PV) (j:Nat) (c:PV),(D6 t ds cs)[j]? = some c→∃ d,cs[j]? = some d∧c=fzp t ds d
 | [],j,c,h=>by simp [D6] at h
 | d::cs,j,c,h=>by
  simp only [D6] at h
  cases j with
  | zero=>simp at h; exact ⟨d,rfl,h.symm⟩
  | succ j=>simp at h; simpa using i7 t ds cs j c h
section
variable {ρ : Nat→Value} {b b':Nat→Option Box} {w:World} {F F0:Nat→Prop} {w0:WM}
theorem aL.fzp {x:Value} {p:PV} {t:Nat} {ty:TypeId} {cs:List PV} {ds:List D} (hi:Inv w0 F0 ρ b w F) (hb:b t=some (.st ty cs)) (hl:ds.length=cs.length) (hc:∀ (j:Nat) d,ds[j]? = some d→∃ y,cs[j]? = some (.d y)∧nrm y=d) (hb':∀ i,b' i=if i=t then none else (b i).map (D7 t ds)) (h:aL ρ b w F x p) :
  aL ρ b' w (fun g=>F g∨blk (ρ t)=some g) x (Go.Proofs.YtaknepbdbappdaaGreat.fzp t ds p):=by
 have hF:∀ g,F g→(F g∨blk (ρ t)=some g):=fun g h=>.inl h
 induction h with
 | junk x=>exact .junk x
 | d x d h=>exact .d x d (h.mono hF (fun _ _=>rfl))
 | ag xs cs hl h1 hr ih =>
  refine .ag xs _ (by rw [i6]; exact hl) h1 (fun j x c h2 h3=>?_)
  obtain ⟨d,h4,rfl⟩:=i7 t ds cs j c h3
  exact ih j x d h2 h4
 | tup xs cs hl hr ih =>
  refine .tup xs _ (by rw [i6]; exact hl) (fun j x c h2 h3=>?_)
  obtain ⟨d,h4,rfl⟩:=i7 t ds cs j c h3
  exact ih j x d h2 h4
 | fn f xs ys ps qs hl hr hl2 hr2 ih ih2 =>
  refine .fn f xs ys _ _ (by rw [i6]; exact hl) (fun j x c h2 h3=>?_) (by rw [i6]; exact hl2) (fun j x c h2 h3=>?_)
  ·obtain ⟨d,h4,rfl⟩:=i7 t ds ps j c h3
   exact ih j x d h2 h4
  ·obtain ⟨d,h4,rfl⟩:=i7 t ds qs j c h3
   exact ih2 j x d h2 h4
 | row t' m A cc e' k' es' hb2 hn hcc hA hρ =>
  have:t'≠t:=fun e=>by rw [e,hb] at hb2; cases hb2
  exact .row t' m A cc e' k' es' (by rw [hb',if_neg this,hb2]; rfl) hn hcc hA hρ
 | re t' m i o a e' k' es' hb2 hn hi' hρ =>
  have:t'≠t:=fun e=>by rw [e,hb] at hb2; cases hb2
  exact .re t' m i o a e' k' es' (by rw [hb',if_neg this,hb2]; rfl) hn hi' hρ
 | vw t' m lo hi' A mm cc e' k' es' hb2 hn hl hh hm hρ=>
  have:t'≠t:=fun e=>by rw [e,hb] at hb2; cases hb2
  exact .vw t' m lo hi' A mm cc e' k' es' (by rw [hb',if_neg this,hb2]; rfl) hn hl hh hm hρ
 | fe a cs us hF' hcell hrep=>exact .fe a cs us (.inl hF') hcell (fun j d h=>(hrep j d h).mono hF (fun _ _=>rfl))
 | ptr t' off g ty' cs' hb2 hρ =>
  simp only [Go.Proofs.YtaknepbdbappdaaGreat.fzp]
  by_cases ht:t' = t
  ·subst ht
   rw [if_pos rfl]
   cases hi.box t' _ hb with
   | st _ _ g' xs hρ' hg hFg hh hlx h1 hr =>
    rw [hρ] at hρ'
    injection hρ' with e
    injection e with e
    injection e with e
    subst e
    have key:∀ (j:Nat) d,(ds.drop off)[j]? = some d→∃ u,w.cell? ⟨g,off + j,none⟩=some u∧ew w F u d:=fun j d hj=>by
     rw [List.getElem?_drop] at hj
     obtain ⟨y,k1,k2⟩:=hc _ d hj
     have hlt:off + j < xs.size:=by rw [hlx,← hl]; exact (zg.1 hj).1
     have k3:=hr (off + j) xs[off + j] _ (by simp [hlt]) k1
     refine ⟨xs[off + j],by rw [cell_of_row w g (off + j) xs ty (0,0) hh]; simp [hlt],?_⟩
     rw [← k2]
     exact k3.dd.nrm
    refine .fe _ _ (fun j=>(w.cell? ⟨g,off + j,none⟩).getD undef) (.inr (by rw [hρ]; rfl)) (fun j d hj=>?_) (fun j d hj=>?_)
    ·obtain ⟨u,k1,_⟩:=key j d hj
     rw [qG,k1]; rfl
    ·obtain ⟨u,k1,k2⟩:=key j d hj
     rw [k1]
     exact k2.mono hF (fun _ _=>rfl)
  ·rw [if_neg ht]
   exact .ptr t' off g ty' _ (by rw [hb',if_neg ht,hb2]; rfl) hρ
end
theorem Inv.reg_fzp {ρ : Nat→Value} {b b':Nat→Option Box} {w:World} {w0:WM} {F F0:Nat→Prop} {t:Nat} {ds:List D} (hi:Inv w0 F0 ρ b w F) (hb':∀ i,b' i=if i=t then none else (b i).map (D7 t ds)) : ∀ i q,w0.R i=some q→1000000≤i∧pA ρ b' i q:=by
 intro i q h
 obtain ⟨h1,h2⟩:=hi.reg i q h
 refine ⟨h1,?_⟩
 by_cases hit:i=t
 ·exact h2.less (.inl (by rw [hb',if_pos hit]))
 ·refine h2.mono (fun e=>by rw [hb',if_neg hit,e]; rfl) (fun ty cs e=>⟨⟨ty,_,by rw [hb',if_neg hit,e]; rfl⟩,rfl⟩) (fun e k es' he=>⟨e,es',by rw [hb',if_neg hit,he]; rfl,Nat.le_refl _,fun _=>rfl⟩)
theorem X8 {p:PS} (t:Nat) {ty:TypeId} {cs:List PV} {ds:List D} (hb0:p.b t=some (.st ty cs)) (hl:ds.length=cs.length) (hc:∀ (j:Nat) d,ds[j]? = some d→∃ y,cs[j]? = some (.d y)∧nrm y=d) : Le p (YX t ds p):=by
 intro n w0 F0 a w ⟨h1,h2,ρ,F,hi,hev⟩
 have hb':∀ i,(YX t ds p).b i=if i=t then none else (p.b i).map (D7 t ds):=fun i=>rfl
 have hbt:=(hi.box t _ hb0)
 refine ⟨h1,h2,ρ,fun g=>F g∨blk (ρ t)=some g,⟨hi.ext,fun g hg=>.inl (hi.f0 g hg),?_,?_,fun t' B h=>?_,fun t1 t2 B1 B2 g k1 k2 hne=>?_,hi.reg_fzp hb'⟩,fun i=>(hev i).fzp hi hb0 hl hc hb'⟩
 ·rintro g (hg | hg)
  ·exact hi.flt g hg
  ·exact (hbt.lt hg).1
 ·rintro g (hg | hg)
  ·exact hi.fnew g hg
  ·exact .inr (hbt.lt hg).2.1
 ·rw [hb'] at h
  split at h
  ·cases h
  ·rename_i ht
   rw [zm] at h
   obtain ⟨B0,hB0,rfl⟩:=h
   have hnF:∀ g,blk (ρ t')=some g→¬ (F g∨blk (ρ t)=some g):=by
    rintro g hg (h | h)
    ·exact ((hi.box t' B0 hB0).lt hg).2.2 h
    ·exact hi.dist t' t B0 _ g hB0 hb0 ht hg h
   cases hi.box t' B0 hB0 with
   | st ty cs g xs hρ hg hF hh hl2 h1 hr =>
    refine .st ty _ g xs hρ hg (hnF g (by rw [hρ]; rfl)) hh (by rw [i6]; exact hl2) h1 (fun j x c k1 k2=>?_)
    obtain ⟨d,h4,rfl⟩:=i7 t ds cs j c k2
    exact (hr j x d k1 h4).fzp hi hb0 hl hc hb'
   | rw e' k' es' xs hk0 ho hF hk hl hr hown=>exact .rw e' k' es' xs hk0 ho hnF hk hl (fun j x d k1 k2=>(hr j x d k1 k2).mono (fun g h=>.inl h) (fun _ _=>rfl)) hown
   | gn e' k' es' hρ=>exact .gn e' k' es' hρ
 ·rw [hb'] at k1 k2
  split at k1
  ·cases k1
  ·split at k2
   ·cases k2
   ·rw [zm] at k1 k2
    obtain ⟨B1',k1,_⟩:=k1
    obtain ⟨B2',k2,_⟩:=k2
    exact hi.dist t1 t2 B1' B2' g k1 k2 hne
def Qz (t:Nat) (c:List SD) : aX→aX
 | .st ty cs=>.st ty (po t c cs)
 | b=>b
theorem oD (t:Nat) (c:List SD) : ∀ (l:List (Nat×Option aX)) (i:Nat),lkB (rp t c l) i=(lkB l i).map (Qz t c)
 | [],_=>rfl
 | (j,none)::l,i=>by simp only [rp,aq,oD t c l i]; split <;> rfl
 | (j,some (.st ty cs))::l,i=>by simp only [rp,aq,oD t c l i]; split <;> rfl
 | (j,some (.rw e k ty xs pins))::l,i=>by simp only [rp,aq,oD t c l i]; split <;> rfl
theorem IU (t:Nat) (c:List SD) : ∀ (l:List (Nat×SV)) (i:Nat),lkV (Ea t c l) i=wY t c (lkV l i)
 | [],_=>rfl
 | (j,v)::l,i=>by simp only [Ea,cO,IU t c l i]; split <;> rfl
theorem iB (t:Nat) (c:List SD) : ∀ (cs:List SV) (j:Nat),(po t c cs)[j]? = (cs[j]?).map (wY t c)
 | [],j=>by simp [po]
 | v::cs,0=>by simp [po]
 | v::cs,j + 1=>by simpa [po] using iB t c cs j
theorem fU (t:Nat) (c:List SD) : ∀ cs:List SV,(po t c cs).length=cs.length
 | []=>rfl
 | v::cs=>by simp [po,fU t c cs]
structure Zo (t:Nat) (B B':List (Nat×Option aX)) : Prop where
 rw:∀ t' e k ty xs pins,lkB B t' = some (.rw e k ty xs pins)→lkB B' t' = some (.rw e k ty xs pins)
 st:∀ t',t'≠t→∀ ty cs,lkB B t' = some (.st ty cs)→∃ ty' cs',lkB B' t' = some (.st ty' cs')
theorem bb.frp {B B':List (Nat×Option aX)} {t:Nat} {ds:List SD} (hn:∀ c∈ds,c≠.nl) (hB:Zo t B B') {v:SV} {q:PV} (h:bb B v q) : bb B' (wY t ds v) (fzp t (ds.map SD.toD) q):=by
 induction h with
 | junk q=>exact .junk _
 | d c y h=>exact .d c y h
 | ag cs qs hl hr ih =>
  refine .ag _ _ (by rw [fU,i6]; exact hl) (fun j c r h1 h2=>?_)
  rw [iB,zm] at h1
  obtain ⟨c',h3,rfl⟩:=h1
  obtain ⟨q',h4,rfl⟩:=i7 _ _ qs j r h2
  exact ih j c' q' h3 h4
 | tup cs qs hl hr ih =>
  refine .tup _ _ (by rw [fU,i6]; exact hl) (fun j c r h1 h2=>?_)
  rw [iB,zm] at h1
  obtain ⟨c',h3,rfl⟩:=h1
  obtain ⟨q',h4,rfl⟩:=i7 _ _ qs j r h2
  exact ih j c' q' h3 h4
 | fn f ps qs ps' qs' hl hr hl2 hr2 ih ih2 =>
  refine .fn f _ _ _ _ (by rw [fU,i6]; exact hl) (fun j c r h1 h2=>?_) (by rw [fU,i6]; exact hl2) (fun j c r h1 h2=>?_)
  ·rw [iB,zm] at h1
   obtain ⟨c',h3,rfl⟩:=h1
   obtain ⟨q',h4,rfl⟩:=i7 _ _ ps' j r h2
   exact ih j c' q' h3 h4
  ·rw [iB,zm] at h1
   obtain ⟨c',h3,rfl⟩:=h1
   obtain ⟨q',h4,rfl⟩:=i7 _ _ qs' j r h2
   exact ih2 j c' q' h3 h4
 | ptr t' o ty2 cs hb =>
  simp only [wY,fzp,cQ]
  by_cases h:t' = t
  ·simp only [h,decide_true,if_true]
   exact .fe _ _ (by rw [List.map_drop]) (fun c hc=>hn c (List.mem_of_mem_drop hc))
  ·simp only [h,decide_false,if_false]
   obtain ⟨ty',cs',h1⟩:=hB.st t' h ty2 cs hb
   exact .ptr t' o ty' cs' h1
 | row t' n e2 k2 ty2 xs2 pins2 hb hn=>exact .row t' n e2 k2 ty2 xs2 pins2 (hB.rw t' _ _ _ _ _ hb) hn
 | re t' p o n i e2 k2 ty2 xs2 pins2 pin hb hn hp hi=>exact .re t' p o n i e2 k2 ty2 xs2 pins2 pin (hB.rw t' _ _ _ _ _ hb) hn hp hi
 | vw t' lo hi n e2 k2 ty2 xs2 pins2 hb hn=>exact .vw t' lo hi n e2 k2 ty2 xs2 pins2 (hB.rw t' _ _ _ _ _ hb) hn
 | fe cs ds h hn=>exact .fe cs ds h hn
theorem u6 {cs cs':List SV} (hl:cs'.length=cs.length) (h:∀ (j:Nat) c,cs[j]? = some c→cs'[j]? = some c) : cs' = cs:=by
 apply List.ext_getElem?
 intro j
 cases hj:cs[j]? with
 | none=>rw [List.getElem?_eq_none_iff] at hj ⊢; omega
 | some c=>exact h j c hj
theorem WD {B:List (Nat×Option aX)} {t:Nat} {ds:List SD} (ht:lkB B t=none) {v:SV} {q:PV} (h:bb B v q) : wY t ds v=v:=by
 induction h with
 | ag cs qs hl hr ih =>
  simp only [wY]
  rw [u6 (fU _ _ _) fun j c hj=>?_]
  rw [iB,hj,Option.map_some,ih j c (qs[j]'(by rw [← hl]; exact (zg.1 hj).1)) hj (by simp)]
 | tup cs qs hl hr ih =>
  simp only [wY]
  rw [u6 (fU _ _ _) fun j c hj=>?_]
  rw [iB,hj,Option.map_some,ih j c (qs[j]'(by rw [← hl]; exact (zg.1 hj).1)) hj (by simp)]
 | fn f ps qs ps' qs' hl hr hl2 hr2 ih ih2 =>
  simp only [wY]
  rw [u6 (cs:=ps) (fU _ _ _) fun j c hj=>?_,u6 (cs:=qs) (fU _ _ _) fun j c hj=>?_]
  ·rw [iB,hj,Option.map_some,ih2 j c (qs'[j]'(by rw [← hl2]; exact (zg.1 hj).1)) hj (by simp)]
  ·rw [iB,hj,Option.map_some,ih j c (ps'[j]'(by rw [← hl]; exact (zg.1 hj).1)) hj (by simp)]
 | ptr t' o ty cs hb =>
  have : ¬ t' = t:=fun e=>by rw [e,ht] at hb; cases hb
  simp only [wY,cQ,this,decide_false]
 | _=>rfl
mutual
theorem RS {t:Nat} {c:List SD} : ∀ v:SV,ph v=true→wY t c v=v
 | .junk,_=>rfl
 | .d _,_=>rfl
 | .fe _,_=>rfl
 | .ptr _ _,h=>by cases h
 | .row _,h=>by cases h
 | .re _ _ _,h=>by cases h
 | .vw _ _ _,h=>by cases h
 | .ag cs,h=>by simp only [wY]; rw [kC cs h]
 | .tup cs,h=>by simp only [wY]; rw [kC cs h]
 | .fn f ps qs,h=>by
  have h:(match ct ps with | true=>ct qs | false=>false)=true:=h
  split at h
  ·rename_i h1; simp only [wY]; rw [kC ps h1,kC qs h]
  ·cases h
theorem kC {t:Nat} {c:List SD} : ∀ cs:List SV,ct cs=true→po t c cs=cs
 | [],_=>rfl
 | v::cs,h=>by
  simp only [ct] at h
  split at h
  ·rename_i h1
   simp only [po]
   rw [RS v h1,kC cs h]
  ·cases h
end
theorem GS:∀ {ds:List SD},X4 ds=true→∀ c∈ds,c≠.nl
 | [],_,c,h=>by cases h
 | d::ds,h,c,hc=>by
  rcases List.mem_cons.1 hc with rfl | hc'
  ·intro e; subst e; cases h
  ·cases d with
   | nl=>cases h
   | _=>exact GS (ds:=ds) h c hc'
theorem Dj:∀ {cs:List SV} {ds:List SD},sW cs=some ds→cs.length=ds.length∧∀ (j:Nat) d,ds[j]? = some d→cs[j]? = some (.d d)
 | [],ds,h=>by injection h with h; subst h; exact ⟨rfl,fun j d hj=>by simp at hj⟩
 | v::cs,ds,h=>by
  simp only [sW] at h
  split at h
  ·rename_i c l hc hl
   injection h with h
   subst h
   obtain ⟨h1,h2⟩:=Dj hl
   refine ⟨by simp [h1],fun j d hj=>?_⟩
   cases j with
   | zero =>
    simp at hj
    subst hj
    cases v <;> simp [XT] at hc
    subst hc
    rfl
   | succ j=>simp at hj; simpa using h2 j d hj
  ·cases h
theorem Yi {sc W:List Nat} {s0 s s':SS} {p0 p:PS} {t:Nat} (hpr:mc s) (h0:gU s0 p0) (hnew:lkB s0.bx t=none) (hk:dH sc W s0 s) (hs:gU s p) (h:fbX sc t s=some s') : ∃ p',Le p p'∧gU s' p'∧dH sc W s0 s'∧mc s':=by
 unfold fbX at h
 split at h
 ·rename_i ty cs hb
  split at h
  ·rename_i ds hds
   obtain ⟨h1,h2⟩:=am h
   injection h2 with h2
   subst h2
   rw [Bool.and_eq_true,Bool.and_eq_true] at h1
   obtain ⟨h1,h3,h4⟩:=h1
   have h3:aA s.pr t=false:=by simpa using h3
   have h4:aA sc t=false:=by simpa using h4
   have hnl:=GS h1
   obtain ⟨hlen,hget⟩:=Dj hds
   obtain ⟨qs,hq,hqs⟩:=hs.bx t _ hb
   have hc:∀ (j:Nat) d,(ds.map SD.toD)[j]? = some d→∃ y,qs[j]? = some (.d y)∧nrm y=d:=fun j d hj=>by
    rw [List.getElem?_map,zm] at hj
    obtain ⟨c,hc,rfl⟩:=hj
    have hc2:=hget j c hc
    have hlt:j < qs.length:=by rw [← hqs.len]; exact (zg.1 hc2).1
    have:=hqs.rep j _ qs[j] hc2 (by simp)
    rw [zq hlt]
    revert this
    generalize qs[j] = q
    intro this
    cases this with
    | d _ y hd=>exact ⟨y,rfl,hd.nrm⟩
   have hl:(ds.map SD.toD).length=qs.length:=by rw [List.length_map,← hlen,hqs.len]
   have hX:Zo t s.bx ((t,none)::rp t ds s.bx):=by
    refine ⟨fun t' e k ty2 xs pins h=>?_,fun t' ht' ty2 cs2 h=>?_⟩
    ·have : ¬ t' = t:=fun e=>by rw [e,hb] at h; cases h
     rw [aq,if_neg this,oD,h]; rfl
    ·rw [aq,if_neg ht',oD,h]; exact ⟨_,_,rfl⟩
   have hkp:dH sc W s0 ⟨Ea t ds s.sl,(t,none)::rp t ds s.bx,s.pr,s.ro,s.oc⟩:=by
    refine ⟨hk.pr,hk.ro,fun t' ht'=>?_,fun i hi hsf=>?_,fun t' ht' ty2 cs2 h=>?_⟩
    ·have hpt:aA s.pr t' = true:=by rw [hk.pr]; exact ht'
     refine (hk.bx t' ht').trans ?_
     show kR _ (lkB ((t,none)::rp t ds s.bx) t')
     rw [aq,if_neg (fun e=>by rw [e,h3] at hpt; cases hpt),oD]
     obtain ⟨b',k1,k2⟩:=hpr t' hpt
     rw [k1]
     cases b' with
     | st ty2 cs=>simp only [Option.map_some,Qz]; rw [kC cs k2]; rfl
     | rw e2 k2 ty2 xs2 pins2=>exact ⟨pins2,rfl⟩
    ·show lkV (Ea t ds s.sl) i = _
     rw [IU,hk.sl i hi hsf]
     exact WD hnew (h0.sl i)
    ·obtain ⟨cs',k1,k2⟩:=hk.st t' ht' ty2 cs2 h
     show ∃ cs',lkB ((t,none)::rp t ds s.bx) t' = _∧_
     rw [aq,if_neg (fun e=>by rw [e,h4] at ht'; cases ht'),oD,k1]
     exact ⟨_,rfl,by rw [fU]; exact k2⟩
   refine ⟨_,X8 t hq hl hc,⟨fun i=>?_,fun t' b h=>?_⟩,hkp,fun t' ht'=>?_⟩
   ·show bb _ (lkV (Ea t ds s.sl) i) (fzp t (ds.map SD.toD) (p.t i))
    rw [IU]
    exact (hs.sl i).frp hnl hX
   ·have h:lkB ((t,none)::rp t ds s.bx) t' = some b:=h
    rw [aq] at h
    split at h
    ·cases h
    ·rename_i hne
     rw [oD,zm] at h
     obtain ⟨b0,h1,rfl⟩:=h
     have h2:=hs.bx t' b0 h1
     show mf _ true (some (Qz t ds b0)) (if t' = t then none else (p.b t').map (D7 t (ds.map SD.toD)))
     rw [if_neg hne]
     cases b0 with
     | st ty2 cs =>
      obtain ⟨qs,h3,h4⟩:=h2
      rw [h3]
      refine ⟨_,rfl,by rw [fU,i6]; exact h4.len,fun j c r k1 k2=>?_⟩
      rw [iB,zm] at k1
      obtain ⟨c',k3,rfl⟩:=k1
      obtain ⟨q',k4,rfl⟩:=i7 _ _ qs j r k2
      exact (h4.rep j c' q' k3 k4).frp hnl hX
     | rw e2 k2 ty2 xs2 pins2 =>
      obtain ⟨h3,h4⟩:=h2
      rw [h3]
      exact ⟨rfl,h4⟩
   ·obtain ⟨b',k1,k2⟩:=hpr t' ht'
    show ∃ b,lkB ((t,none)::rp t ds s.bx) t' = some b∧_
    rw [aq,if_neg (fun e=>by rw [e,h3] at ht'; cases ht'),oD,k1]
    refine ⟨_,rfl,?_⟩
    cases b' with
    | st ty2 cs=>simp only [Qz]; rw [kC cs k2]; exact k2
    | rw e2 k2 ty2 xs2 pins2=>rfl
  ·cases h
 ·cases h
theorem Ll {sc W:List Nat} {s0:SS} {p0:PS} (h0:gU s0 p0) : ∀ {l:List Nat} {s s':SS} {p:PS},mc s→QH s0 l=true→dH sc W s0 s→gU s p→Hf sc l s=some s'→∃ p',Le p p'∧gU s' p'∧dH sc W s0 s'
 | [],s,s',p,_,_,hk,hs,h=>by injection h with h; subst h; exact ⟨p,.refl p,hs,hk⟩
 | t::l,s,s',p,hpr,hn,hk,hs,h=>by
  simp only [Hf] at h
  simp only [QH] at hn
  split at hn
  ·rename_i hnew
   split at h
   ·rename_i s1 h1
    obtain ⟨p1,k1,k2,k3,k4⟩:=Yi hpr h0 hnew hk hs h1
    obtain ⟨p2,m1,m2,m3⟩:=Ll h0 k4 hn k3 k2 h
    exact ⟨p2,k1.trans m1,m2,m3⟩
   ·cases h
  ·cases hn
end
section
theorem C8 {m:Nat} {ops:Array Oper} (h:Ku m ops=true) {i k:Nat} (hi:i < ops.size) (hm : ¬ i < m) (hk:k < i) : yh ops 4 i k=true:=by
 unfold Ku at h
 rw [List.all_eq_true] at h
 have h:=h i (List.mem_range.2 hi)
 simp only [Bool.or_eq_true,decide_eq_true_eq,List.all_eq_true] at h
 exact (h.resolve_left hm) k (List.mem_range.2 hk)
section
variable {P:Program} {w0:WM} {F0:Nat→Prop} {n:Nat} {ops:Array Oper} {Q:Exit→Act→World→Prop}
def Sf (P:Program) (ops:Array Oper) : List Nat→PS→(PS→Prop)→Prop
 | [],s,K=>K s
 | i::l,s,K=>∃ s1,Le s s1∧∃ o r u,ops[i]? = some o∧Eff P ops o s1 r u∧Sf P ops l (s1.updL o.dst r u) K
theorem QX {bd:Nat→Bd} {mT:Nat} {Qs:Exit→PS→Prop} (hQ:∀ e s a w,Qs e s→n6 n w0 F0 s a w→Q e a w) (hB:Ez bd n ops=true) (hT:Ku mT ops=true) : ∀ (m:Nat) (l lt:List Nat) (listed:Array Bool) (s:PS) (a:Act) (w:World),(l++lt).length=m→(l++lt).Pairwise (· < ·)→(∀ j∈l,j < mT)→(∀ j∈lt,¬ j < mT)→(∀ j,j∈l++lt↔(j < ops.size∧listed.getD j true=false))→listed.size=ops.size→PJ ops listed →
  EU P ops bd l s (fun s'=>Sf P ops lt s' (Qs .normal))→n6 n w0 F0 s a w→wpAny P .any ops Q m listed a w
 | 0,l,lt,listed,s,a,w,hl,_,_,_,hm,hls,_,h,hc=>by
  have h0:l++lt = []:=List.eq_nil_of_length_eq_zero hl
  obtain ⟨rfl,rfl⟩:=List.append_eq_nil_iff.1 h0
  refine ⟨?_,hQ _ s a w h hc⟩
  rw [List.eq_nil_iff_forall_not_mem]
  intro j hj
  obtain ⟨h1,o,h2,_⟩:=mem_ready.1 hj
  have:=(hm j).2 ⟨(Array.getElem?_eq_some_iff.1 h2).1,h1⟩
  simp at this
 | m + 1,l,lt,listed,s,a,w,hl,hs,hlm,hltm,hm,hls,hcl,h,hc=>by
  have notdone:∀ {k:Nat},k∈l++lt→listed.getD k false=false:=fun {k} hk=>by
   have h1:=(hm k).1 hk
   have hsz:k < listed.size:=by rw [hls]; exact h1.1
   have h2:=h1.2
   simp [hsz] at h2 ⊢
   exact h2
  refine ⟨fun h0=>?_,fun i hi=>?_⟩
  ·exfalso
   cases hll:l++lt with
   | nil=>rw [hll] at hl; simp at hl
   | cons k ls =>
    have hk:=(hm k).1 (by rw [hll]; simp)
    have hok:ops[k]? = some ops[k]:=Array.getElem?_eq_getElem hk.1
    have:k∈Region.ready .any ops listed:=by
     refine mem_ready.2 ⟨hk.2,_,hok,fun e he hb=>?_⟩
     have hlt:=(mP hB hok).2.1 e he hb
     cases hx:listed.getD e.on false with
     | true=>rfl
     | false =>
      exfalso
      have hsz:e.on < listed.size:=by rw [hls]; omega
      have h2:listed.getD e.on true=false:=by
       simp [hsz] at hx ⊢; exact hx
      have h3:=(hm e.on).2 ⟨by omega,h2⟩
      rw [hll] at h3 hs
      rcases List.mem_cons.1 h3 with h | h
      ·omega
      ·have:=(List.pairwise_cons.1 hs).1 _ h
       omega
    rw [h0] at this
    cases this
  ·obtain ⟨hun,oi,hoi,hall⟩:=mem_ready.1 hi
   have hisz:=(Array.getElem?_eq_some_iff.1 hoi).1
   have hin:i∈l++lt:=(hm i).2 ⟨hisz,hun⟩
   have hready:∀ k,k∈l++lt→yh ops 4 i k=true→False:=fun k hk hh=>by
    have h1:=wW hcl 4 i k hh (fun o' ho' e he hb=>by rw [hoi] at ho'; cases ho'; exact hall e he hb)
    rw [notdone hk] at h1
    cases h1
   have key:∃ l' lt' s1 r u,Le s s1∧Eff P ops oi s1 r u∧EU P ops bd l' (s1.updL oi.dst r u) (fun s'=>Sf P ops lt' s' (Qs .normal))∧(l' ++ lt').length=m∧(l' ++ lt').Pairwise (· < ·)∧(∀ j∈l',j < mT)∧(∀ j∈lt',¬ j < mT)∧(∀ j,j∈l' ++ lt'↔(j∈l++lt∧j≠i)):=by
    by_cases him:i < mT
    ·have hil:i∈l:=by
      rcases List.mem_append.1 hin with h | h
      ·exact h
      ·exact absurd him (hltm i h)
     obtain ⟨l1,l2,rfl⟩:=List.append_of_mem hil
     have hpw0:=List.pairwise_append.1 hs
     have hpw:=List.pairwise_append.1 hpw0.1
     have hfront:=wQ (P:=P) (bd:=bd) (K:=fun s'=>Sf P ops lt s' (Qs .normal)) hoi l1 l2 s (fun k hk ok hok=>by
      have hlt:k < i:=hpw.2.2 k hk i (by simp)
      rcases (mP hB hoi).2.2 k ok hlt hok with hh | h
      ·exact (hready k (by simp [hk]) hh).elim
      ·exact h) h
     obtain ⟨o',r,u,ho',h1,_,h2⟩:=hfront
     rw [hoi] at ho'
     injection ho' with ho'
     subst ho'
     have hc3:=List.pairwise_cons.1 hpw.2.1
     have hne:∀ x,x∈l1++l2→x≠i:=fun x hx e=>by
      subst e
      rcases List.mem_append.1 hx with h | h
      ·have:=hpw.2.2 x h x (by simp); omega
      ·have:=hc3.1 x h; omega
     refine ⟨l1++l2,lt,s,r,u,.refl s,h1,h2,by simp at hl ⊢; omega,?_,fun j hj=>hlm j (by rcases List.mem_append.1 hj with h | h <;> simp [h]),hltm,fun j=>?_⟩
     ·refine List.pairwise_append.2 ⟨List.pairwise_append.2 ⟨hpw.1,hc3.2,fun x hx y hy=>hpw.2.2 x hx y (by simp [hy])⟩,hpw0.2.1,fun x hx y hy=>hpw0.2.2 x (by rcases List.mem_append.1 hx with h | h <;> simp [h]) y hy⟩
     ·refine ⟨fun hj=>?_,fun ⟨hj,hji⟩=>?_⟩
      ·rcases List.mem_append.1 hj with hj2 | hj2
       ·exact ⟨by rcases List.mem_append.1 hj2 with h | h <;> simp [h],hne j hj2⟩
       ·exact ⟨by simp [hj2],fun e=>by subst e; exact hltm j hj2 him⟩
      ·rcases List.mem_append.1 hj with h | h
       ·rcases List.mem_append.1 h with h | h
        ·simp [h]
        ·rcases List.mem_cons.1 h with h | h
         ·exact absurd h hji
         ·simp [h]
       ·simp [h]
    ·have hnil:l = []:=by
      cases l with
      | nil=>rfl
      | cons k l =>
       exfalso
       have hk:=hlm k (by simp)
       exact hready k (by simp) (C8 hT hisz him (by omega))
     subst hnil
     cases lt with
     | nil=>simp at hin
     | cons k lt =>
      have hki:k=i:=by
       rcases List.mem_cons.1 hin with h | h
       ·exact h.symm
       ·exfalso
        have hlt:=(List.pairwise_cons.1 hs).1 i h
        exact hready k (by simp) (C8 hT hisz him hlt)
      subst hki
      obtain ⟨s1,hle,o',r,u,ho',h1,h2⟩:=h
      rw [hoi] at ho'
      injection ho' with ho'
      subst ho'
      have hc3:=List.pairwise_cons.1 hs
      refine ⟨[],lt,s1,r,u,hle,h1,h2,by simp at hl ⊢; omega,hc3.2,fun j hj=>(by cases hj),fun j hj=>hltm j (by simp [hj]),fun j=>?_⟩
      refine ⟨fun hj=>⟨by simp at hj; simp [hj],fun e=>by
       subst e
       have:=hc3.1 j (by simpa using hj)
       omega⟩,fun ⟨hj,hji⟩=>?_⟩
      rcases List.mem_cons.1 hj with h | h
      ·exact absurd h hji
      ·simpa using h
   obtain ⟨l',lt',s1,r,u,hle,h1,h2,k1,k2,k3,k4,k5⟩:=key
   have hc1:=hle n w0 F0 a w hc
   have hstep:=T6 (f:=0) (Q:=Q) (K:=wpAny P .any ops Q m (listed.setIfInBounds i true)) hc1 h1 (mP hB hoi).1 (fun a' w' hc'=>by
    have hmono:∀ j,listed.getD j false=true→(listed.setIfInBounds i true).getD j false=true:=fun j hj=>by
     by_cases hji:j=i
     ·subst hji
      have hsz:j < listed.size:=by rw [hls]; exact hisz
      simp [hsz]
     ·rw [getD_set_ne false (Ne.symm hji)]; exact hj
    refine QX hQ hB hT m l' lt' _ _ a' w' k1 k2 k3 k4 (fun j=>?_) (by simpa using hls) (fun j hj o ho e he hb=>?_) h2 hc'
    ·by_cases hji:j=i
     ·subst hji
      have hsz:j < listed.size:=by rw [hls]; exact hisz
      refine ⟨fun hmem=>absurd rfl ((k5 j).1 hmem).2,fun ⟨_,hx⟩=>?_⟩
      simp [hsz] at hx
     ·rw [getD_set_ne true (Ne.symm hji),k5 j,hm j]
      simp [hji]
    ·by_cases hji:j=i
     ·subst hji
      rw [hoi] at ho
      cases ho
      exact hmono _ (hall e he hb)
     ·rw [getD_set_ne false (Ne.symm hji)] at hj
      exact hmono _ (hcl j hj o ho e he hb))
   unfold wpOp
   rw [hoi]
   simp only
   split
   ·rename_i hw
    rw [if_pos hw] at hstep
    exact .inl hstep
   ·rename_i hw
    rw [if_neg hw] at hstep
    exact hstep
theorem Rs (bd:Nat→Bd) {Qs:Exit→PS→Prop} {s:PS} {id:Nat} {l:List Oper} (mT:Nat) (hmT:mT≤l.length) (hm:P.follows .mixedOrders=true) (hB:Ez bd n l.toArray=true) (hT:Ku mT l.toArray=true) (h:EU P l.toArray bd (List.range' 0 mT) s (fun s'=>Sf P l.toArray (List.range' mT (l.length - mT)) s' (Qs .normal))) : PWP P n (.region id l.toArray true) Qs s:=by
 intro w0 F0 a w hc
 refine wp_region_any hm ?_
 have hr:List.range' 0 mT++List.range' mT (l.length - mT)=List.range' 0 l.length:=by
  have:=List.range'_append (s:=0) (m:=mT) (n:=l.length - mT) (step:=1)
  simp only [Nat.one_mul,Nat.zero_add] at this
  rw [this]
  congr 1
  omega
 refine QX (Qs:=Qs) (mT:=mT) (fun _ s' _ _ h1 h2=>⟨s',h1,h2⟩) hB hT l.toArray.size (List.range' 0 mT) (List.range' mT (l.length - mT)) _ s a _ (by rw [hr]; simp) (by rw [hr]; exact List.pairwise_lt_range') (fun j hj=>by simp [List.mem_range'_1] at hj; exact hj) (fun j hj=>by simp [List.mem_range'_1] at hj; omega) (fun j=>?_) (by simp) (fun j hj=>by exfalso; simp only [Array.getD_eq_getD_getElem?,Array.getElem?_replicate] at hj; split at hj <;> cases hj) h (hc.drew _)
 rw [hr]
 simp only [List.mem_range'_1,Nat.zero_le,true_and,Nat.zero_add,List.size_toArray]
 refine ⟨fun h=>⟨h,by simp [h]⟩,fun h=>h.1⟩
end
end
section
variable {B B':List (Nat×Option aX)} {s:SS} {p:PS} {P:Program} {ρ : Type}
theorem qV (ks:List Nat) : ∀ (cs:List SV) (j:Nat),(tm ks cs)[j]? = (cs[j]?).map (stV ks)
 | [],j=>by simp [tm]
 | c::cs,0=>by simp [tm]
 | c::cs,j + 1=>by simpa [tm] using qV ks cs j
theorem pd (ks:List Nat) : ∀ cs:List SV,(tm ks cs).length=cs.length
 | []=>rfl
 | c::cs=>by simp [tm,pd ks cs]
theorem Nz (ks:List Nat) : ∀ (l:List (Nat×SV)) (i:Nat),lkV (Rb ks l) i=stV ks (lkV l i)
 | [],_=>rfl
 | (j,v)::l,i=>by simp only [Rb,cO,Nz ks l i]; split <;> rfl
def YF (ks:List Nat) : aX→aX
 | .st ty cs=>.st ty (tm ks cs)
 | b=>b
theorem tR (ks:List Nat) : ∀ (l:List (Nat×Option aX)) (i:Nat),lkB (wC ks l) i=(lkB l i).map (YF ks)
 | [],_=>rfl
 | (j,none)::l,i=>by simp only [wC,aq,tR ks l i]; split <;> rfl
 | (j,some (.st ty cs))::l,i=>by simp only [wC,aq,tR ks l i]; split <;> rfl
 | (j,some (.rw e k ty xs pins))::l,i=>by simp only [wC,aq,tR ks l i]; split <;> rfl
structure YA (ks:List Nat) (B B':List (Nat×Option aX)) : Prop where
 rw:∀ t,aA ks t=false→∀ e k ty xs pins,lkB B t=some (.rw e k ty xs pins)→∃ e' k' ty' xs' pins',lkB B' t=some (.rw e' k' ty' xs' pins')∧xs'.length=xs.length∧∀ p pin,lkP pins p=some pin→∃ pin',lkP pins' p=some pin'∧pin'.i=pin.i
 st:∀ t ty cs,lkB B t=some (.st ty cs)→∃ ty' cs',lkB B' t=some (.st ty' cs')
theorem bb.st {ks:List Nat} {v:SV} {q:PV} (h:bb B v q) (hB:YA ks B B') : bb B' (stV ks v) q:=by
 induction h with
 | junk q=>exact .junk q
 | d c y h=>exact .d c y h
 | ag cs qs hl hr ih =>
  refine .ag _ qs (by rw [pd]; exact hl) (fun j c q h1 h2=>?_)
  rw [qV,zm] at h1
  obtain ⟨c',h3,rfl⟩:=h1
  exact ih j c' q h3 h2
 | tup cs qs hl hr ih =>
  refine .tup _ qs (by rw [pd]; exact hl) (fun j c q h1 h2=>?_)
  rw [qV,zm] at h1
  obtain ⟨c',h3,rfl⟩:=h1
  exact ih j c' q h3 h2
 | ptr t' o ty cs hb=>obtain ⟨ty',cs',h1⟩:=hB.st t' ty cs hb; exact .ptr t' o ty' cs' h1
 | row t' n e k ty xs pins hb hn =>
  simp only [stV]
  split
  ·exact .junk _
  ·rename_i h
   obtain ⟨e',k',ty',xs',pins',h1,h2,h3⟩:=hB.rw t' h e k ty xs pins hb
   exact .row t' n e' k' ty' xs' pins' h1 (h2.trans hn)
 | re t' p o n i e k ty xs pins pin hb hn hp hi =>
  simp only [stV]
  split
  ·exact .junk _
  ·rename_i h
   obtain ⟨e',k',ty',xs',pins',h1,h2,h3⟩:=hB.rw t' h e k ty xs pins hb
   obtain ⟨pin',h4,h5⟩:=h3 p pin hp
   exact .re t' p o n i e' k' ty' xs' pins' pin' h1 (h2.trans hn) h4 (by rw [h5]; exact hi)
 | vw t' lo hi n e k ty xs pins hb hn=>
  simp only [stV]
  split
  ·exact .junk _
  ·rename_i h
   obtain ⟨e',k',ty',xs',pins',h1,h2,h3⟩:=hB.rw t' h e k ty xs pins hb
   exact .vw t' lo hi n e' k' ty' xs' pins' h1 (h2.trans hn)
 | fe cs ds h hn=>exact .fe cs ds h hn
 | fn f ps qs ps' qs' hl hr hl2 hr2 ih ih2 =>
  refine .fn f _ _ ps' qs' (by rw [pd]; exact hl) (fun j c q h1 h2=>?_) (by rw [pd]; exact hl2) (fun j c q h1 h2=>?_)
  ·rw [qV,zm] at h1
   obtain ⟨c',h3,rfl⟩:=h1
   exact ih j c' q h3 h2
  ·rw [qV,zm] at h1
   obtain ⟨c',h3,rfl⟩:=h1
   exact ih2 j c' q h3 h2
theorem bS.st {ks:List Nat} {cs:List SV} {qs:List PV} (h:bS B cs qs) (hB:YA ks B B') : bS B' (tm ks cs) qs :=
 ⟨by rw [pd]; exact h.len,fun j c q h1 h2=>by
  rw [qV,zm] at h1
  obtain ⟨c',h3,rfl⟩:=h1
  exact (h.rep j c' q h3 h2).st hB⟩
mutual
theorem PW {pr ks:List Nat} (hk:∀ t,aA ks t=true→aA pr t=false) : ∀ v:SV,la pr v=true→stV ks v=v
 | .junk,_=>rfl
 | .d _,_=>rfl
 | .fe _,_=>rfl
 | .ptr _ _,_=>rfl
 | .row t,h=>by
  have h:aA pr t=true:=h
  simp only [stV]
  split
  ·rename_i h1; rw [hk t h1] at h; cases h
  ·rfl
 | .re _ _ _,h=>by cases h
 | .vw _ _ _,h=>by cases h
 | .ag cs,h=>by simp only [stV]; rw [tz hk cs h]
 | .tup cs,h=>by simp only [stV]; rw [tz hk cs h]
 | .fn f ps qs,h=>by
  have h:(ec pr ps&&ec pr qs)=true:=h
  rw [Bool.and_eq_true] at h
  simp only [stV]; rw [tz hk ps h.1,tz hk qs h.2]
theorem tz {pr ks:List Nat} (hk:∀ t,aA ks t=true→aA pr t=false) : ∀ cs:List SV,ec pr cs=true→tm ks cs=cs
 | [],_=>rfl
 | c::cs,h=>by
  simp only [ec,Bool.and_eq_true] at h
  simp only [tm]
  rw [PW hk c h.1,tz hk cs h.2]
end
mutual
theorem TF {ks:List Nat} : ∀ v:SV,ph v=true→stV ks v=v
 | .junk,_=>rfl
 | .d _,_=>rfl
 | .fe _,_=>rfl
 | .ptr _ _,_=>rfl
 | .row _,h=>by cases h
 | .re _ _ _,h=>by cases h
 | .vw _ _ _,h=>by cases h
 | .ag cs,h=>by simp only [stV]; rw [oP cs h]
 | .tup cs,h=>by simp only [stV]; rw [oP cs h]
 | .fn f ps qs,h=>by
  have h:(match ct ps with | true=>ct qs | false=>false)=true:=h
  split at h
  ·rename_i h1; simp only [stV]; rw [oP ps h1,oP qs h]
  ·cases h
theorem oP {ks:List Nat} : ∀ cs:List SV,ct cs=true→tm ks cs=cs
 | [],_=>rfl
 | c::cs,h=>by
  simp only [ct] at h
  split at h
  ·rename_i h1
   simp only [tm]
   rw [TF c h1,oP cs h]
  ·cases h
end
inductive UAl (G:List Nat) (B':List (Nat×Option aX)) : List (Nat×Option aX)→BU→Prop
 | nil:UAl G B' [] []
 | cons (t:Nat) (sb:Option aX) (b:Box) (us:List (Nat×Option aX)) (u:BU) (h1:∀ x,sb=some x→mf B' true (some x) (some b)) (h2:sb=none→aA G t=true) (h:UAl G B' us u) : UAl G B' ((t,sb)::us) ((t,b)::u)
variable {G:List Nat}
theorem UAl.app {us us':List (Nat×Option aX)} {u u':BU} (h:UAl G B' us u) (h':UAl G B' us' u') : UAl G B' (us++us') (u++u'):=by
 induction h with
 | nil=>exact h'
 | cons t sb b us u h1 h2 h ih=>exact .cons t sb b _ _ h1 h2 ih
theorem fc:∀ {us:List (Nat×Option aX)} {t:Nat},t∈idU us↔∃ sb,(t,sb)∈us
 | [],t=>by simp [idU]
 | (i,b)::us,t=>by
  simp only [idU,List.mem_cons,Prod.mk.injEq]
  constructor
  ·rintro (rfl | h)
   ·exact ⟨b,.inl ⟨rfl,rfl⟩⟩
   ·obtain ⟨sb,h⟩:=fc.1 h; exact ⟨sb,.inr h⟩
  ·rintro ⟨sb,⟨rfl,_⟩ | h⟩
   ·exact .inl rfl
   ·exact .inr (fc.2 ⟨sb,h⟩)
theorem TD {us:List (Nat×Option aX)} {u:BU} (h:UAl G B' us u) (l:List (Nat×Option aX)) (t:Nat) :
  (t∈idU us∧∃ sb b,lkB (us++l) t=sb∧lkU u t=some b∧(∀ x,sb=some x→mf B' true (some x) (some b))∧(sb=none→aA G t=true))∨(t ∉ idU us∧lkB (us++l) t=lkB l t∧lkU u t=none):=by
 induction h with
 | nil=>exact .inr ⟨by simp [idU],rfl,rfl⟩
 | cons i sb b us u h1 h2 h ih =>
  by_cases hi:t=i
  ·subst hi
   refine .inl ⟨by simp [idU],sb,b,?_,?_,h1,h2⟩
   ·rw [List.cons_append,aq,if_pos rfl]
   ·simp [lkU]
  ·rcases ih with ⟨m1,sb',b',m2,m3,m4⟩ | ⟨m1,m2,m3⟩
   ·refine .inl ⟨by simp [idU,m1],sb',b',?_,?_,m4⟩
    ·rw [List.cons_append,aq,if_neg hi]; exact m2
    ·simp only [lkU,if_neg hi]; exact m3
   ·refine .inr ⟨by simp [idU,m1,hi],?_,?_⟩
    ·rw [List.cons_append,aq,if_neg hi]; exact m2
    ·simp only [lkU,if_neg hi]; exact m3
theorem dX:∀ {l:List Nat} {i:Nat},aA l i=true↔i∈l
 | [],i=>by simp [aA]
 | j::l,i=>by
  simp only [aA,cQ,List.mem_cons]
  by_cases h:i=j
  ·simp [h]
  ·simp only [h,decide_false,false_or]; exact dX
theorem ya {l:List Nat} {i:Nat} : aA l i=false↔i ∉ l:=by rw [← dX]; simp
theorem iY:∀ {l:List Nat},sf l=true→l.Nodup
 | [],_=>List.nodup_nil
 | a::l,h=>by
  simp only [sf] at h
  split at h
  ·cases h
  ·rename_i h1
   exact List.nodup_cons.2 ⟨ya.1 h1,iY h⟩
theorem qT:∀ {l m:List Nat},M8 l m=true→∀ x∈l,x∈m
 | [],_,_,x,hx=>by cases hx
 | a::l,m,h,x,hx=>by
  simp only [M8] at h
  split at h
  ·rename_i h1
   rcases List.mem_cons.1 hx with rfl | hx
   ·exact dX.1 h1
   ·exact qT h x hx
  ·cases h
theorem Dy:∀ {l:List Nat},Qe s l=true→∀ i∈l,aA s.pr i=false
 | [],_,i,hi=>by cases hi
 | a::l,h,i,hi=>by
  simp only [Qe] at h
  split at h
  ·cases h
  ·rename_i h1
   rcases List.mem_cons.1 hi with rfl | hi
   ·exact h1
   ·exact Dy h i hi
theorem DA:∀ {l:List Nat},Qf s l=true→∀ i∈l,IQ s i=true∧lkB s.bx i=none∧i < 1000000
 | [],_,i,hi=>by cases hi
 | a::l,h,i,hi=>by
  simp only [Qf] at h
  split at h
  ·rename_i h1 h2 h3
   rcases List.mem_cons.1 hi with rfl | hi
   ·exact ⟨h1,h2,Nat.le_of_ble_eq_true h3⟩
   ·exact DA h i hi
  ·cases h
theorem DB:∀ {us:List (Nat×Option aX)},Qg s us=true→∀ t sb,(t,sb)∈us→∀ ty cs,lkB s.bx t=some (.st ty cs)→∃ cs',sb=some (.st ty cs')∧cs'.length=cs.length
 | [],_,t,sb,h,_,_,_=>by cases h
 | (i,b)::us,h,t,sb,hm,ty,cs,hl=>by
  simp only [Qg,Bool.and_eq_true] at h
  rcases List.mem_cons.1 hm with e | hm
  ·injection e with e1 e2
   subst e1 e2
   have h1:=h.1
   rw [hl] at h1
   simp only at h1
   split at h1
   ·rename_i ty' cs'
    rw [Bool.and_eq_true,Nat.beq_eq] at h1
    have:=zd h1.1
    subst this
    exact ⟨cs',rfl,h1.2.symm⟩
   ·cases h1
  ·exact DB h.2 t sb hm ty cs hl
mutual
theorem Hw (b:Nat→Option Box) : ∀ q:PV,clean q=true→asData b q=qd q
 | .junk,_=>rfl
 | .d _,_=>rfl
 | .fe _,_=>rfl
 | .ptr _ _,h=>by cases h
 | .row _ _,h=>by cases h
 | .re _ _ _ _,h=>by cases h
 | .vw _ _ _ _,h=>by cases h
 | .ag cs,h=>by simp only [asData,qd]; rw [pz b cs h]
 | .tup cs,h=>by simp only [asData,qd]; rw [pz b cs h]
 | .fn f ps qs,h=>by
  have h:(cD ps&&cD qs)=true:=h
  rw [Bool.and_eq_true] at h
  simp only [asData,qd]; rw [pz b ps h.1,pz b qs h.2]
theorem pz (b:Nat→Option Box) : ∀ cs:List PV,cD cs=true→bG b cs=dW cs
 | [],_=>rfl
 | c::cs,h=>by
  simp only [cD,Bool.and_eq_true] at h
  simp only [bG,dW]; rw [Hw b c h.1,pz b cs h.2]
end
theorem xe (hs:Sim s p) {rows:List (Nat×Nat×Nat×Nat×Ty)} : ∀ {cs:List SV} {qs:List PV} {ds:List SD} {j:Nat},bS s.bx cs qs→cellsOf s rows j cs=some ds →
  dW qs=ed rows j (ds.map SD.toD)∧∀ t Bx,(t,Bx)∈bZ rows j (ds.map SD.toD)→p.b t=some Bx
 | [],qs,ds,j,hv,h=>by
  rcases hv.cases with ⟨_,rfl⟩ | ⟨_,_,_,_,h1,_⟩
  ·injection h with h; subst h; exact ⟨rfl,fun _ _ h=>by cases h⟩
  ·cases h1
 | c::cs,qs,ds,j,hv,h=>by
  rcases hv.cases with ⟨h1,_⟩ | ⟨c',q,cs',qs',h1,rfl,h2,h3⟩
  ·cases h1
  ·injection h1 with e1 e2
   subst e1 e2
   simp only [cellsOf] at h
   split at h
   ·rename_i R e k t hf
    split at h
    ·rename_i R' e' k' t' xs pins hb
     split at h
     ·rename_i hty _
      obtain ⟨m1,h⟩:=am h
      obtain ⟨m2,h⟩:=am h
      obtain ⟨m3,h⟩:=am h
      split at h
      ·rename_i r hr
       injection h with h
       subst h hty
       rw [Nat.beq_eq] at m1
       have m2:=zd m2
       have m3:=zd m3
       subst m1 m2 m3
       obtain ⟨k1,k2⟩:=xe hs h3 hr
       have hbx:=hs.bx R'
       rw [hb] at hbx
       cases h2 with
       | row _ n e2 k2' ty2 xs2 pins2 hb2 hn =>
        rw [hb] at hb2
        injection hb2 with hb2
        injection hb2 with q1 q2 q3 q4 q5
        subst q3
        have q4:=eq_of_heq q4
        subst q4
        refine ⟨?_,?_⟩
        ·simp only [dW,qd,List.map_cons,ed,hf,SD.toD,k1]
         simp [yp,hn]
        ·intro t Bx hm
         simp only [List.map_cons,bZ,hf,SD.toD,List.mem_cons,Prod.mk.injEq] at hm
         rcases hm with ⟨rfl,rfl⟩ | hm
         ·exact hbx.1
         ·exact k2 t Bx hm
      ·cases h
     ·cases h
    ·cases h
   ·rename_i hf
    split at h
    ·rename_i x r hr
     injection h with h
     subst h
     obtain ⟨k1,k2⟩:=xe hs h3 hr
     cases h2 with
     | d _ y hy =>
      refine ⟨?_,?_⟩
      ·simp only [dW,qd,List.map_cons,ed,hf,k1,hy.nrm]
      ·intro t Bx hm
       simp only [List.map_cons,bZ,hf] at hm
       exact k2 t Bx hm
    ·cases h
theorem Bl:∀ {rows:List (Nat×Nat×Nat×Ty)} {cs:List SV} {is:List Nat},CD rows cs=some is→is.length=rows.length
 | [],_,is,h=>by injection h with h; subst h; rfl
 | (j,e)::rows,cs,is,h=>by
  simp only [CD] at h
  split at h
  ·rename_i R is' _ h1
   injection h with h
   subst h
   simp [Bl h1]
  ·cases h
theorem EB (hs:Sim s p) {rows:List (Nat×Nat×Nat×Ty)} {n:Nat} {cs:List SV} {qs:List PV} {x:ST n} {is:List Nat} (hv:bS s.bx cs qs) (h:LD s rows n cs=some (x,is)) :
  is.length=rows.length∧dW qs=ed (mg rows is) 0 (stD n x)∧∀ t Bx,(t,Bx)∈bZ (mg rows is) 0 (stD n x)→p.b t=some Bx:=by
 unfold LD at h
 split at h
 ·rename_i is' hi
  split at h
  ·rename_i ds hd
   split at h
   ·rename_i x' hx
    injection h with h
    injection h with e1 e2
    subst e1 e2
    rw [← zR hx]
    exact ⟨Bl hi,xe hs hv hd⟩
   ·cases h
  ·cases h
 ·cases h
structure Zi (p:PS) (pt:PT) (q:PV) (x:pt.den) (is:List Nat) : Prop where
 len:is.length=pt.nI
 v:qd q=(toI pt is x).1
 b:∀ t Bx,(t,Bx)∈(toI pt is x).2→∃ B',p.b t=some B'∧rc B' = Bx
theorem AC (hs:Sim s p) {e k:Nat} {t:Ty} {v:SV} {q:PV} {xs:List t.den} {is:List Nat} (hv:bb s.bx v q) (h:sA s e k t v=some (xs,is)) : ∃ i,is = [i]∧q = .row i xs.length∧p.b i=some (rwU e k t xs)∧∃ e' k' t' xs' pins,lkB s.bx i=some (.rw e' k' t' xs' pins)∧xs'.length=xs.length:=by
 unfold sA at h
 split at h
 ·rename_i i
  split at h
  ·rename_i e' k' t' xs' pins hb
   split at h
   ·rename_i hty _
    obtain ⟨m2,h⟩:=am h
    obtain ⟨m3,h⟩:=am h
    injection h with h
    injection h with e1 e2
    subst e1 e2 hty
    have m2:=zd m2
    have m3:=zd m3
    subst m2 m3
    have hbx:=hs.bx i
    rw [hb] at hbx
    cases hv with
    | row _ n e2 k2' ty2 xs2 pins2 hb2 hn =>
     rw [hb] at hb2
     injection hb2 with hb2
     injection hb2 with q1 q2 q3 q4 q5
     subst q3
     have q4:=eq_of_heq q4
     subst q4
     exact ⟨i,rfl,by rw [← hn]; rfl,hbx.1,_,_,_,_,_,hb,rfl⟩
   ·cases h
  ·cases h
 ·cases h
theorem WX (hs:Sim s p) {pt:PT} {v:SV} {q:PV} {x:pt.den} {is:List Nat} (hv:bb s.bx v q) (h:LH s pt v=some (x,is)) : is = []∧qd q=pb pt x:=by
 unfold LH at h
 obtain ⟨h1,h⟩:=am h
 split at h
 ·rename_i x' hx
  injection h with h
  injection h with e1 e2
  subst e1 e2
  obtain ⟨k1,k2⟩:=(CN hs hv hx).2 h1
  exact ⟨rfl,by rw [← Hw dZ q k1]; exact k2⟩
 ·cases h
theorem Ja (hs:Sim s p) : ∀ {pt:PT} {v:SV} {q:PV} {x:pt.den} {is:List Nat},bb s.bx v q→NW s pt v=some (x,is)→Zi p pt q x is:=by
 intro pt v q x is hv h
 have plain:∀ {pt:PT} {x:pt.den},pt.nI=0→(toI pt [] x)=(pb pt x,[])→LH s pt v=some (x,is)→Zi p pt q x is:=fun {pt x} h0 h1 h=>by
  obtain ⟨rfl,h2⟩:=WX hs hv h
  exact ⟨h0.symm,by rw [h1]; exact h2,by rw [h1]; exact fun _ _ h=>by cases h⟩
 have row:∀ {e k:Nat} {t:Ty} {xs:List t.den},sA s e k t v=some (xs,is)→is.length=1∧∃ i,is = [i]∧q = .row i xs.length∧p.b i=some (rwU e k t xs):=fun {e k t xs} h=>by
  obtain ⟨i,rfl,h1,h2,_⟩:=AC hs hv h
  exact ⟨rfl,i,rfl,h1,h2⟩
 cases pt with
 | lf t=>exact plain rfl rfl h
 | ag i=>exact plain rfl rfl h
 | pl t=>exact plain rfl rfl h
 | ps i=>exact plain rfl rfl h
 | fn f a b=>exact plain rfl rfl h
 | io l=>exact dI (x:=(x,is)) h
 | own e k t =>
  obtain ⟨h1,i,rfl,h2,h3⟩:=row (xs:=x) h
  refine ⟨h1,by rw [h2]; rfl,fun t' Bx hm=>?_⟩
  simp only [toI,List.mem_cons,List.not_mem_nil,or_false,Prod.mk.injEq] at hm
  obtain ⟨rfl,rfl⟩:=hm
  exact ⟨_,h3,rfl⟩
 | mv e k t =>
  obtain ⟨h1,i,rfl,h2,h3⟩:=row (xs:=x) h
  refine ⟨h1,by rw [h2]; rfl,fun t' Bx hm=>?_⟩
  simp only [toI,List.mem_cons,List.not_mem_nil,or_false,Prod.mk.injEq] at hm
  obtain ⟨rfl,rfl⟩:=hm
  exact ⟨_,h3,rfl⟩
 | bx ty n rows =>
  replace h:LL s ty n rows v=some (x,is):=h
  unfold LL at h
  split at h
  ·rename_i i
   split at h
   ·rename_i ty' cs hb
    obtain ⟨m1,h⟩:=am h
    have m1:=zd m1
    subst m1
    split at h
    ·rename_i x' is' hd
     injection h with h
     injection h with e1 e2
     subst e1 e2
     have hbx:=hs.bx i
     rw [hb] at hbx
     obtain ⟨qs,k1,k2⟩:=hbx
     obtain ⟨k3,k4,k5⟩:=EB hs k2 hd
     cases hv with
     | ptr _ _ _ _ _ =>
      refine ⟨by simp [k3,PT.nI],rfl,fun t' Bx hm=>?_⟩
      simp only [toI,List.mem_cons,Prod.mk.injEq] at hm
      rcases hm with ⟨rfl,rfl⟩ | hm
      ·exact ⟨_,k1,by rw [rc,k4]⟩
      ·have:=k5 t' Bx hm
       refine ⟨Bx,this,?_⟩
       have:∀ {rows:List (Nat×Nat×Nat×Nat×Ty)} {ds:List D} {j:Nat},(t',Bx)∈bZ rows j ds→rc Bx=Bx:=by
        intro rows ds
        induction ds with
        | nil=>intro j h; cases h
        | cons d ds ih =>
         intro j h
         simp only [bZ] at h
         split at h
         ·split at h
          ·rcases List.mem_cons.1 h with e | h
           ·injection e with _ e; subst e; rfl
           ·exact ih h
          ·exact ih h
         ·exact ih h
       exact this hm
    ·cases h
   ·cases h
  ·cases h
 | agr n rows =>
  replace h:NX s n rows v=some (x,is):=h
  unfold NX at h
  split at h
  ·rename_i cs
   obtain ⟨qs,rfl,hq⟩:=CY hv
   obtain ⟨k3,k4,k5⟩:=EB hs hq h
   refine ⟨k3,by simp only [qd,toI,k4],fun t' Bx hm=>?_⟩
   have:=k5 t' Bx hm
   refine ⟨Bx,this,?_⟩
   have:∀ {rows:List (Nat×Nat×Nat×Nat×Ty)} {ds:List D} {j:Nat},(t',Bx)∈bZ rows j ds→rc Bx=Bx:=by
    intro rows ds
    induction ds with
    | nil=>intro j h; cases h
    | cons d ds ih =>
     intro j h
     simp only [bZ] at h
     split at h
     ·split at h
      ·rcases List.mem_cons.1 h with e | h
       ·injection e with _ e; subst e; rfl
       ·exact ih h
      ·exact ih h
     ·exact ih h
   exact this hm
  ·cases h
theorem LI (hs:Sim s p) : ∀ {ps:List PT} {vs:List SV} {qs:List PV} {x:cJ ps} {iss:List (List Nat)},bS s.bx vs qs→Hu s ps vs=some (x,iss) →
  iL ps iss∧dW qs=(eb ps iss x).1∧∀ t Bx,(t,Bx)∈(eb ps iss x).2→∃ B',p.b t=some B'∧rc B' = Bx
 | [],[],qs,x,iss,hv,h=>by
  rcases hv.cases with ⟨_,rfl⟩ | ⟨_,_,_,_,h1,_⟩
  ·injection h with h
   injection h with _ h
   subst h
   exact ⟨trivial,rfl,fun _ _ h=>by cases h⟩
  ·cases h1
 | [],_ :: _,_,_,_,_,h=>by cases h
 | _ :: _,[],_,_,_,_,h=>by cases h
 | pt::ps,v::vs,qs,x,iss,hv,h=>by
  rcases hv.cases with ⟨h1,_⟩ | ⟨v',q,vs',qs',h1,rfl,h2,h3⟩
  ·cases h1
  ·injection h1 with e1 e2
   subst e1 e2
   simp only [Hu] at h
   split at h
   ·rename_i y is ys iss' m1 m2
    injection h with h
    injection h with e1 e2
    subst e1 e2
    obtain ⟨k1,k2,k3⟩:=Ja hs h2 m1
    obtain ⟨k4,k5,k6⟩:=LI hs h3 m2
    refine ⟨⟨k1,k4⟩,by simp only [dW,eb,k2,k5],fun t Bx hm=>?_⟩
    simp only [eb,List.mem_append] at hm
    rcases hm with hm | hm
    ·exact k3 t Bx hm
    ·exact k6 t Bx hm
   ·cases h
end
section
variable {B B':List (Nat×Option aX)} {s:SS} {p:PS} {P:Program} {ρ : Type} {G:List Nat} {sc:List Nat}
def vG (B':List (Nat×Option aX)) (bx:List (Nat×Option aX)) : Prop:=∀ t x,(t,some x)∈bx→lkB B' t=some x
theorem vG.app {a b:List (Nat×Option aX)} (h:vG B' (a++b)) : vG B' a∧vG B' b:=⟨fun t x hm=>h t x (List.mem_append_left _ hm),fun t x hm=>h t x (List.mem_append_right _ hm)⟩
theorem Nn {rows:List (Nat×Nat×Nat×Nat×Ty)} : ∀ {cs:List SD} {j:Nat} {vs:List SV} {bx:List (Nat×Option aX)},fT rows j cs [] = some (vs,bx)→(∀ c∈cs,c≠.nl) →
  UAl G B' bx (bZ rows j (cs.map SD.toD))∧(vG B' bx→bS B' vs (ed rows j (cs.map SD.toD)))
 | [],j,vs,bx,h,_=>by
  simp only [fT] at h
  injection h with h
  injection h with e1 e2
  subst e1 e2
  exact ⟨.nil,fun _=>.nil⟩
 | c::cs,j,vs,bx,h,hn=>by
  simp only [fT] at h
  have hn':=fun c' hc=>hn c' (List.mem_cons_of_mem _ hc)
  split at h
  ·rename_i R e k t hf
   split at h
   ·rename_i xs vs' bx' hx hr
    injection h with h
    injection h with e1 e2
    subst e1 e2
    obtain ⟨k1,k2⟩:=Nn hr hn'
    have hD:c.toD = .sl ((show List t.den from xs).map (bJ t)):=by
     rw [← CL hx]; rfl
    simp only [List.map_cons,bZ,ed,hf,hD]
    refine ⟨.cons R _ _ _ _ (fun x hx=>?_) (fun h=>by cases h) k1,fun hs=>.cons ?_ (k2 fun t x hm=>hs t x (List.mem_cons_of_mem _ hm))⟩
    ·injection hx with hx
     subst hx
     exact ⟨rfl,fun p pin h=>by cases h⟩
    ·exact .row R _ e k t xs [] (hs R _ List.mem_cons_self) (show List.length (show List t.den from xs) = _ from (List.length_map _).symm)
   ·cases h
  ·rename_i hf
   split at h
   ·rename_i vs' bx' hr
    injection h with h
    injection h with e1 e2
    subst e1 e2
    obtain ⟨k1,k2⟩:=Nn hr hn'
    simp only [List.map_cons,bZ,ed,hf]
    exact ⟨k1,fun hs=>.cons (.d _ _ (Kg.of (hn c List.mem_cons_self))) (k2 hs)⟩
   ·cases h
theorem Ei {rows:List (Nat×Nat×Nat×Ty)} {is:List Nat} {n:Nat} {x:ST n} {vs:List SV} {bx:List (Nat×Option aX)} (h:Lo rows is n x=some (vs,bx)) :
  UAl G B' bx (bZ (mg rows is) 0 (stD n x))∧(vG B' bx→bS B' vs (ed (mg rows is) 0 (stD n x))):=by
 rw [← tA n x]
 exact Nn h (wB n x)
theorem Hj {e k:Nat} {t:Ty} (xs:List t.den) {is:List Nat} {v:SV} {bx:List (Nat×Option aX)} (h:(match is with | [i]=>some (SV.row i,[(i,some (aX.rw e k t xs []))]) | _=>none)=some (v,bx)) (hs:vG B' bx) :
  ∃ i,is = [i]∧v = .row i∧UAl G B' bx [(i,rwU e k t xs)]∧bb B' v (.row i xs.length):=by
 split at h
 ·rename_i i
  injection h with h
  injection h with e1 e2
  subst e1 e2
  exact ⟨i,rfl,rfl,.cons i _ _ _ _ (fun x hx=>by injection hx with hx; subst hx; exact ⟨rfl,fun p pin h=>by cases h⟩) (fun h=>by cases h) .nil,.row i _ e k t xs [] (hs i _ List.mem_cons_self) rfl⟩
 ·cases h
theorem I5 {pt:PT} {is:List Nat} {x:pt.den} {v:SV} {bx:List (Nat×Option aX)} (hp:(pt.isM||Rx pt)=true) (h:Ls pt is x=some (v,bx)) (hs:vG B' bx) :
  UAl G B' bx (toI pt is x).2∧bb B' v (toI pt is x).1:=by
 have plain:∀ {pt:PT} {x:pt.den},pt.isM=false→(pt.isM||Rx pt)=true→(toI pt is x)=(pb pt x,[])→v=RX pt x→bx = []→UAl G B' bx (toI pt is x).2∧bb B' v (toI pt is x).1:=fun {pt x} h1 h2 h3 h4 h5=>by
  subst h4 h5
  rw [h1,Bool.false_or] at h2
  rw [h3]
  exact ⟨.nil,ym pt x h2⟩
 cases pt with
 | lf t=>injection h with h; injection h with e1 e2; exact plain rfl hp rfl e1.symm e2.symm
 | ag t=>injection h with h; injection h with e1 e2; exact plain rfl hp rfl e1.symm e2.symm
 | pl t=>injection h with h; injection h with e1 e2; exact plain rfl hp rfl e1.symm e2.symm
 | ps t=>injection h with h; injection h with e1 e2; exact plain rfl hp rfl e1.symm e2.symm
 | fn f a b=>injection h with h; injection h with e1 e2; exact plain rfl hp rfl e1.symm e2.symm
 | io l=>cases h
 | own e k t=>obtain ⟨i,rfl,rfl,k1,k2⟩:=Hj (G:=G) (B':=B') (show List t.den from x) h hs; exact ⟨k1,k2⟩
 | mv e k t=>obtain ⟨i,rfl,rfl,k1,k2⟩:=Hj (G:=G) (B':=B') (show List t.den from x) h hs; exact ⟨k1,k2⟩
 | bx ty n rows =>
  simp only [Ls] at h
  split at h
  ·rename_i i is'
   split at h
   ·rename_i vs bx' he
    injection h with h
    injection h with e1 e2
    subst e1 e2
    obtain ⟨k1,k2⟩:=Ei (G:=G) (B':=B') he
    have hc:=k2 fun t x hm=>hs t x (List.mem_cons_of_mem _ hm)
    exact ⟨.cons i _ _ _ _ (fun x hx=>by injection hx with hx; subst hx; exact ⟨_,rfl,hc⟩) (fun h=>by cases h) k1,.ptr i 0 _ _ (hs i _ List.mem_cons_self)⟩
   ·cases h
  ·cases h
 | agr n rows =>
  simp only [Ls] at h
  split at h
  ·rename_i vs bx' he
   injection h with h
   injection h with e1 e2
   subst e1 e2
   obtain ⟨k1,k2⟩:=Ei (G:=G) (B':=B') he
   have hc:=k2 hs
   exact ⟨k1,.ag _ _ hc.len hc.rep⟩
  ·cases h
theorem Hk:∀ {rs:List PT} {jss:List (List Nat)} {r:bh rs} {vs:List SV} {bs:List (Nat×Option aX)},se rs=true→I4 rs jss r=some (vs,bs)→vG B' bs→UAl G B' bs (cN rs jss r).2∧bS B' vs (cN rs jss r).1
 | [],[],r,vs,bs,_,h,_=>by
  have h:some (([] : List SV),([] : List (Nat×Option aX)))=some (vs,bs):=h
  injection h with h
  injection h with e1 e2
  subst e1 e2
  exact ⟨.nil,.nil⟩
 | [],_ :: _,r,vs,bs,_,h,_=>by cases h
 | [pt],[],r,vs,bs,_,h,_=>by cases h
 | [pt],[is],r,vs,bs,hp,h,hs=>by
  have h:(match Ls pt is r with | some (v,b)=>some ([v],b) | none=>none)=some (vs,bs):=h
  simp only [se] at hp
  split at hp
  ·rename_i hp1
   split at h
   ·rename_i v b he
    injection h with h
    injection h with e1 e2
    subst e1 e2
    obtain ⟨k1,k2⟩:=I5 (G:=G) (B':=B') hp1 he hs
    exact ⟨k1,.cons k2 .nil⟩
   ·cases h
  ·cases hp
 | [pt],_ :: _ :: _,r,vs,bs,_,h,_=>by cases h
 | pt::q::l,[],r,vs,bs,_,h,_=>by cases h
 | pt::q::l,is::iss,r,vs,bs,hp,h,hs=>by
  have h:(match Ls pt is r.1,I4 (q::l) iss r.2 with | some (v,b),some (vs,bs)=>some (v::vs,b++bs) | _,_=>none)=some (vs,bs):=h
  rw [se] at hp
  split at hp
  ·rename_i hp1
   split at h
   ·rename_i v b vs' bs' he hr
    injection h with h
    injection h with e1 e2
    subst e1 e2
    obtain ⟨s1,s2⟩:=hs.app
    obtain ⟨k1,k2⟩:=I5 (G:=G) (B':=B') hp1 he s1
    obtain ⟨k3,k4⟩:=Hk hp hr s2
    exact ⟨k1.app k3,.cons k2 k4⟩
   ·cases h
  ·cases hp
theorem T8 {vs:List SV} {qs:List PV} (h:bS B vs qs) : bb B (T9 vs) (xV qs):=by
 match vs,qs,h with
 | [],[],h=>exact .tup _ _ rfl (fun j c q h1=>by simp at h1)
 | [v],[q],h=>exact h.head
 | v::v' :: vs,q::q' :: qs,h=>exact .tup _ _ h.len h.rep
 | [],_ :: _,h=>have:=h.len; simp at this
 | _ :: _,[],h=>have:=h.len; simp at this
 | [_],_ :: _ :: _,h=>have:=h.len; simp at this
 | _ :: _ :: _,[_],h=>have:=h.len; simp at this
def AK (s:SS) (ks js:List Nat) (t:Nat) (sb:Option aX) : Prop :=
 aA ks t=true∨t∈js∨(∃ ty cs,lkB s.bx t=some (.st ty cs))∨∃ e k ty xs pins e' k' ty' xs',lkB s.bx t=some (.rw e k ty xs pins)∧sb=some (.rw e' k' ty' xs' (vV pins))∧xs'.length=xs.length
theorem CU:∀ {rows:List (Nat×Nat×Nat×Ty)} {is:List Nat} {j R e k:Nat} {t:Ty},pu (mg rows is) j=some (R,e,k,t)→R∈is
 | [],is,j,R,e,k,t,h=>by cases is <;> cases h
 | (j0,e0,k0,t0)::rows,[],j,R,e,k,t,h=>by cases h
 | (j0,e0,k0,t0)::rows,R0::is,j,R,e,k,t,h=>by
  simp only [mg,pu] at h
  split at h
  ·injection h with h
   injection h with h _
   subst h
   exact List.mem_cons_self
  ·exact List.mem_cons_of_mem _ (CU h)
theorem IH {rows:List (Nat×Nat×Nat×Ty)} {is:List Nat} : ∀ {cs:List SD} {j:Nat} {vs:List SV} {bx:List (Nat×Option aX)},fT (mg rows is) j cs [] = some (vs,bx)→∀ t sb,(t,sb)∈bx→t∈is
 | [],j,vs,bx,h,t,sb,hm=>by
  simp only [fT] at h
  injection h with h
  injection h with e1 e2
  subst e1 e2
  cases hm
 | c::cs,j,vs,bx,h,t,sb,hm=>by
  simp only [fT] at h
  split at h
  ·rename_i R e k t' hf
   split at h
   ·rename_i xs vs' bx' hx hr
    injection h with h
    injection h with e1 e2
    subst e1 e2
    rcases List.mem_cons.1 hm with e | hm
    ·injection e with e _
     subst e
     exact CU hf
    ·exact IH hr t sb hm
   ·cases h
  ·split at h
   ·rename_i vs' bx' hr
    injection h with h
    injection h with e1 e2
    subst e1 e2
    exact IH hr t sb hm
   ·cases h
theorem WN (hs:Sim s p) {pt:PT} {b:IB} {is js:List Nat} {x:pt.den} {o:b.den} {v:SV} {q:PV} {m:MU} (hv:bb s.bx v q) (hd:NW s pt v=some (x,is)) (hl:YS pt b x o) (h:Ym s pt b is js o=some m) (hsn:vG B' m.us) :
  (UAl G B' m.us (toO pt b is js x o)∧m.gs=G8 pt is∧∀ i∈m.gs,aA m.ks i=true)∧∀ t sb,(t,sb)∈m.us→AK s m.ks js t sb:=by
 have nil:some (⟨[],[],[]⟩ : MU)=some m→toO pt b is js x o = []→G8 pt is = []→(UAl G B' m.us (toO pt b is js x o)∧m.gs=G8 pt is∧∀ i∈m.gs,aA m.ks i=true)∧∀ t sb,(t,sb)∈m.us→AK s m.ks js t sb:=fun h1 h2 h3=>by
  injection h1 with h1
  subst h1
  rw [h2,h3]
  exact ⟨⟨.nil,rfl,fun _ h=>by cases h⟩,fun t sb h=>by cases h⟩
 cases pt with
 | lf t=>cases b with
  | no=>exact nil h rfl rfl
  | _=>cases h
 | ag t=>cases b with
  | no=>exact nil h rfl rfl
  | _=>cases h
 | pl t=>cases b with
  | no=>exact nil h rfl rfl
  | _=>cases h
 | ps t=>cases b with
  | no=>exact nil h rfl rfl
  | _=>cases h
 | fn f a c=>cases b with
  | no=>exact nil h rfl rfl
  | _=>cases h
 | io l=>cases b <;> cases h
 | agr n rows=>cases b <;> cases h
 | own e k t=>cases b with
  | no=>cases h
  | bx=>cases h
  | own e' k' t' =>
   obtain ⟨i,rfl,h1,h2,e2,k2,t2,xs2,pins,h3,h4⟩:=AC hs hv (show sA s e k t v=some (x,is) from hd)
   have h:some (⟨[],[(i,some (.rw e' k' t' o (IL s i)))],[]⟩ : MU)=some m:=h
   injection h with h
   subst h
   have hp:IL s i=vV pins:=by unfold IL; rw [h3]
   rw [hp]
   have hl:(show List t'.den from o).length=(show List t.den from x).length:=hl
   refine ⟨⟨.cons i _ _ _ _ (fun y hy=>?_) (fun h=>by cases h) .nil,rfl,fun _ h=>by cases h⟩,fun t sb hm=>?_⟩
   ·injection hy with hy
    subst hy
    refine ⟨rfl,fun pp pin hpin=>?_⟩
    rw [mI,zm] at hpin
    obtain ⟨pin0,h5,rfl⟩:=hpin
    have hbx:=hs.bx i
    rw [h3] at hbx
    obtain ⟨h6,_⟩:=hbx.2 pp pin0 h5
    exact ⟨by show pin0.i.toNat < (show List t'.den from o).length; rw [hl]; show _ < List.length _; rw [← h4]; exact h6,fun cs h=>by cases h⟩
   ·simp only [List.mem_cons,List.not_mem_nil,or_false,Prod.mk.injEq] at hm
    obtain ⟨rfl,rfl⟩:=hm
    exact .inr (.inr (.inr ⟨_,_,_,_,_,_,_,_,_,h3,rfl,by show (show List t'.den from o).length = _; rw [hl]; exact h4.symm⟩))
 | mv e k t=>cases b with
  | own=>cases h
  | bx=>cases h
  | no =>
   obtain ⟨i,rfl,_⟩:=AC hs hv (show sA s e k t v=some (x,is) from hd)
   have h:some (⟨[i],[],[i]⟩ : MU)=some m:=h
   injection h with h
   subst h
   exact ⟨⟨.nil,rfl,fun j hj=>dX.2 hj⟩,fun t sb hm=>by cases hm⟩
 | bx ty n rows=>cases b with
  | own=>cases h
  | no=>cases h
  | bx ty' n' rows' =>
   have hb:∃ i is' cs ty0,is=i::is'∧lkB s.bx i=some (.st ty0 cs):=by
    replace hd:LL s ty n rows v=some (x,is):=hd
    clear h
    unfold LL at hd
    split at hd
    ·rename_i i
     split at hd
     ·rename_i ty0 cs hb
      obtain ⟨_,hd⟩:=am hd
      split at hd
      ·injection hd with hd
       injection hd with _ hd
       exact ⟨i,_,cs,ty0,hd.symm,hb⟩
      ·cases hd
     ·cases hd
    ·cases hd
   obtain ⟨i,is',cs,ty0,rfl,hb⟩:=hb
   have h:(match Lo rows' js n' o with | some (vs,bx)=>some (⟨is',(i,some (.st ty' vs))::bx,is'⟩ : MU) | none=>none)=some m:=h
   split at h
   ·rename_i vs bx he
    injection h with h
    subst h
    obtain ⟨k1,k2⟩:=Ei (G:=G) (B':=B') he
    have hc:=k2 fun t x hm=>hsn t x (List.mem_cons_of_mem _ hm)
    refine ⟨⟨.cons i _ _ _ _ (fun x hx=>by injection hx with hx; subst hx; exact ⟨_,rfl,hc⟩) (fun h=>by cases h) k1,rfl,fun j hj=>dX.2 hj⟩,fun t sb hm=>?_⟩
    rcases List.mem_cons.1 hm with e | hm
    ·injection e with e1 e2
     subst e1 e2
     exact .inr (.inr (.inl ⟨_,_,hb⟩))
    ·exact .inr (.inl (IH he t sb hm))
   ·cases h
theorem AK.more {ks ks' js js':List Nat} {t:Nat} {sb:Option aX} (h:AK s ks js t sb) (hk:∀ t,aA ks t=true→aA ks' t=true) (hj:∀ t∈js,t∈js') : AK s ks' js' t sb:=by
 rcases h with h | h | h
 ·exact .inl (hk t h)
 ·exact .inr (.inl (hj t h))
 ·exact .inr (.inr h)
theorem Lq (hs:Sim s p) : ∀ {ps:List PT} {ls:List IB} {iss kss:List (List Nat)} {x:cJ ps} {o:xT ls} {vs:List SV} {qs:List PV} {m:MU},bS s.bx vs qs→Hu s ps vs=some (x,iss)→K1 ps ls x o→QL s ps ls iss kss o=some m→vG B' m.us →
  (UAl G B' m.us (Q7 ps ls iss kss x o)∧m.gs=pn ps iss∧∀ i∈m.gs,aA m.ks i=true)∧∀ t sb,(t,sb)∈m.us→AK s m.ks (bq kss) t sb
 | [],[],[],[],x,o,vs,qs,m,_,_,_,h,_=>by
  have h:some (⟨[],[],[]⟩ : MU)=some m:=h
  injection h with h
  subst h
  exact ⟨⟨.nil,rfl,fun _ h=>by cases h⟩,fun t sb h=>by cases h⟩
 | [],[],[],_ :: _,x,o,vs,qs,m,_,_,_,h,_=>by cases h
 | [],[],_ :: _,_,x,o,vs,qs,m,_,_,_,h,_=>by cases h
 | [],_ :: _,_,_,x,o,vs,qs,m,_,_,_,h,_=>by cases h
 | _ :: _,[],_,_,x,o,vs,qs,m,_,_,_,h,_=>by cases h
 | _ :: _,_ :: _,[],_,x,o,vs,qs,m,_,_,_,h,_=>by cases h
 | _ :: _,_ :: _,_ :: _,[],x,o,vs,qs,m,_,_,_,h,_=>by cases h
 | pt::ps,b::ls,is::iss,js::kss,x,o,vs,qs,m,hv,hd,hl,h,hsn=>by
  have h:(match Ym s pt b is js o.1,QL s ps ls iss kss o.2 with | some m,some m'=>some (m.app m') | _,_=>none)=some m:=h
  cases vs with
  | nil=>cases hd
  | cons v vs =>
  rcases hv.cases with ⟨h1,_⟩ | ⟨v',q,vs',qs',h1,rfl,h2,h3⟩
  ·cases h1
  ·injection h1 with e1 e2
   subst e1 e2
   simp only [Hu] at hd
   split at hd
   ·rename_i y is1 ys iss1 m1 m2
    injection hd with hd
    injection hd with e1 e2
    injection e2 with e2 e3
    subst e1 e2 e3
    split at h
    ·rename_i ma mb ha hb
     injection h with h
     subst h
     have hsn:vG B' (ma.us++mb.us):=hsn
     obtain ⟨s1,s2⟩:=hsn.app
     obtain ⟨⟨k1,g1,g2⟩,k2⟩:=WN hs h2 m1 hl.1 ha s1
     obtain ⟨⟨k3,g3,g4⟩,k4⟩:=Lq hs h3 m2 hl.2 hb s2
     refine ⟨⟨k1.app k3,by show ma.gs++mb.gs = _; rw [g1,g3]; rfl,fun i hi=>?_⟩,fun t sb hm=>?_⟩
     ·have hi:i∈ma.gs++mb.gs:=hi
      rcases List.mem_append.1 hi with hi | hi
      ·exact dX.2 (List.mem_append_left _ (dX.1 (g2 i hi)))
      ·exact dX.2 (List.mem_append_right _ (dX.1 (g4 i hi)))
     have hm:(t,sb)∈ma.us++mb.us:=hm
     rcases List.mem_append.1 hm with hm | hm
     ·exact (k2 t sb hm).more (fun t ht=>dX.2 (List.mem_append_left _ (dX.1 ht))) fun t ht=>List.mem_append_left _ ht
     ·exact (k4 t sb hm).more (fun t ht=>dX.2 (List.mem_append_right _ (dX.1 ht))) fun t ht=>List.mem_append_right _ ht
    ·cases h
   ·cases hd
theorem Lb (l:BU) : ∀ (is:List Nat),(∀ i∈is,aA G i=true)→UAl G B' (ln is) (D4 l is)
 | [],_=>.nil
 | a::is,hg=>.cons a _ _ _ _ (fun y hy=>by cases hy) (fun _=>hg a List.mem_cons_self) (Lb l is fun i hi=>hg i (List.mem_cons_of_mem _ hi))
theorem rj:∀ {is:List Nat} {t:Nat} {sb:Option aX},(t,sb)∈ln is→t∈is∧sb=none
 | [],t,sb,h=>by cases h
 | a::is,t,sb,h=>by
  rcases List.mem_cons.1 h with e | h
  ·injection e with e1 e2; subst e1 e2; exact ⟨List.mem_cons_self,rfl⟩
  ·obtain ⟨h1,h2⟩:=rj h; exact ⟨List.mem_cons_of_mem _ h1,h2⟩
theorem G7:∀ {is:List Nat} {t:Nat},t∈is→(t,none)∈ln is
 | a::is,t,h=>by
  rcases List.mem_cons.1 h with rfl | h
  ·exact List.mem_cons_self
  ·exact List.mem_cons_of_mem _ (G7 h)
theorem Ej:∀ {ps:List PT} {iss:List (List Nat)} {x:cJ ps} {vs:List SV} {bs:List (Nat×Option aX)},se ps=true→Lr ps iss x=some (vs,bs)→vG B' bs→UAl G B' bs (eb ps iss x).2∧bS B' vs (eb ps iss x).1
 | [],[],x,vs,bs,_,h,_=>by
  injection h with h
  injection h with e1 e2
  subst e1 e2
  exact ⟨.nil,.nil⟩
 | [],_ :: _,x,vs,bs,_,h,_=>by cases h
 | _ :: _,[],x,vs,bs,_,h,_=>by cases h
 | pt::ps,is::iss,x,vs,bs,hp,h,hs=>by
  simp only [Lr] at h
  simp only [se] at hp
  split at hp
  ·rename_i hp1
   split at h
   ·rename_i v b vs' bs' he hr
    injection h with h
    injection h with e1 e2
    subst e1 e2
    obtain ⟨s1,s2⟩:=hs.app
    obtain ⟨k1,k2⟩:=I5 (G:=G) (B':=B') hp1 he s1
    obtain ⟨k3,k4⟩:=Ej hp hr s2
    exact ⟨k1.app k3,.cons k2 k4⟩
   ·cases h
  ·cases hp
theorem UAl.dom {us:List (Nat×Option aX)} {u:BU} (h:UAl G B' us u) : bN u=idU us:=by
 induction h with
 | nil=>rfl
 | cons t sb b us u h1 h2 h ih=>simp only [bN,idU,ih]
theorem CA:∀ {l l':List (Nat×Option aX)},(idU l).Nodup→vG (l++l') l
 | [],_,_,t,x,hm=>by cases hm
 | (i,b)::l,l',hn,t,x,hm=>by
  rw [show idU ((i,b)::l)=i::idU l from rfl,List.nodup_cons] at hn
  rw [List.cons_append,aq]
  rcases List.mem_cons.1 hm with e | hm
  ·injection e with e1 e2
   subst e1 e2
   rw [if_pos rfl]
  ·rw [if_neg (fun (e:t=i)=>hn.1 (by rw [← e]; exact fc.2 ⟨_,hm⟩))]
   exact CA hn.2 t x hm
end
section
variable {B B':List (Nat×Option aX)} {s:SS} {p:PS} {P:Program} {ρ : Type} {G:List Nat} {sc:List Nat}
theorem GH:∀ (rs:List PT) (base:Nat),iL rs (n9 base rs)
 | [],_=>trivial
 | p::l,base=>⟨List.length_range',GH l _⟩
theorem Bg:∀ (ls:List IB) (base:Nat),jZ ls (tM base ls)
 | [],_=>trivial
 | p::l,base=>⟨List.length_range',Bg l _⟩
theorem oC:∀ {l:BU} {t:Nat} {B:Box},lkU l t=some B→(t,B)∈l
 | [],t,B,h=>by cases h
 | (j,C)::l,t,B,h=>by
  simp only [lkU] at h
  split at h
  ·rename_i e; subst e; injection h with h; subst h; exact List.mem_cons_self
  ·exact List.mem_cons_of_mem _ (oC h)
theorem wL {rows:List (Nat×Nat×Nat×Ty)} {is:List Nat} : ∀ {ds:List D} {j t:Nat} {Bx:Box},(t,Bx)∈bZ (mg rows is) j ds→t∈is
 | [],j,t,Bx,h=>by cases h
 | d::ds,j,t,Bx,h=>by
  simp only [bZ] at h
  split at h
  ·rename_i hf
   split at h
   ·rcases List.mem_cons.1 h with e | h
    ·injection e with e _; subst e; exact CU hf
    ·exact wL h
   ·exact wL h
  ·exact wL h
theorem Ip {pt:PT} {is:List Nat} {x:pt.den} {t:Nat} {Bx:Box} (h:(t,Bx)∈(toI pt is x).2) : t∈is:=by
 cases pt with
 | lf=>cases h
 | ag=>cases h
 | pl=>cases h
 | ps=>cases h
 | fn=>cases h
 | io=>cases h
 | own e k t' =>
  simp only [toI] at h
  split at h
  ·simp only [List.mem_cons,List.not_mem_nil,or_false,Prod.mk.injEq] at h; simp [h.1]
  ·cases h
 | mv e k t' =>
  simp only [toI] at h
  split at h
  ·simp only [List.mem_cons,List.not_mem_nil,or_false,Prod.mk.injEq] at h; simp [h.1]
  ·cases h
 | bx ty n rows =>
  simp only [toI] at h
  split at h
  ·rcases List.mem_cons.1 h with e | h
   ·injection e with e _; subst e; exact List.mem_cons_self
   ·exact List.mem_cons_of_mem _ (wL h)
  ·cases h
 | agr n rows=>exact wL h
theorem rq (l:List Nat) (ls:List (List Nat)) : bq (l::ls)=l++bq ls:=rfl
theorem C5:∀ {ps:List PT} {iss:List (List Nat)} {x:cJ ps} {t:Nat} {Bx:Box},(t,Bx)∈(eb ps iss x).2→t∈bq iss
 | [],_,_,_,_,h=>by cases h
 | _ :: _,[],_,_,_,h=>by cases h
 | p::ps,is::iss,x,t,Bx,h=>by
  simp only [eb,List.mem_append] at h
  rw [rq,List.mem_append]
  exact h.imp Ip C5
def Vd (p:PS) : List Nat→BU
 | []=>[]
 | t::l=>match p.b t with | some B=>(t,B)::Vd p l | none=>Vd p l
theorem ve (p:PS) : ∀ (l:List Nat) (t:Nat),lkU (Vd p l) t=if t∈l then p.b t else none
 | [],t=>rfl
 | a::l,t=>by
  simp only [Vd]
  cases ha:p.b a with
  | none =>
   rw [ve p l t]
   by_cases h:t=a
   ·subst h; simp [ha]
   ·simp [h]
  | some B =>
   simp only [lkU]
   by_cases h:t=a
   ·subst h; simp [ha]
   ·simp only [h,if_false,List.mem_cons,false_or]; exact ve p l t
structure XG (sc:List Nat) (P:Program) (f:Nat) (dst:Option Nat) (s:SS) (p:PS) (qs:List PV) (v:SV) (m:MU) (r:PV) (u:BU) : Prop where
 ro:s.ro=false
 call:XH P p.b f qs r u
 sim:Sim (s.updM dst v m) (p.updL dst r u)
 keep:∀ W,(∀ d,dst=some d→aA W d=true)→dH sc W s (s.updM dst v m)
 foot:∀ t Bx,lkU u t=some Bx→t∈idU m.us
theorem U9 {T:List (Nat×Ent)} (hT:qu P T) (hpr:mc s) (hs:Sim s p) {f:Nat} {dst:Option Nat} {vs:List SV} {qs:List PV} (hM:RL T f vs=true) (hv:bS s.bx vs qs) {k:SV→MU→Option ρ} {res : ρ} (h:QV T f s dst vs k=some res) :
  ∃ v m r u,k v m=some res∧XG sc P f dst s p qs v m r u:=by
 unfold QV at h
 split at h
 ·cases h
 ·rename_i hro
  split at h
  ·rename_i en d hen
   split at h
   ·rename_i x iss hd
    obtain ⟨r,hf,h⟩:=cG h
    simp only at h
    split at h
    ·rename_i m ws bs hm hbs
     obtain ⟨hc,h⟩:=am h
     simp only [Bool.and_eq_true] at hc
     obtain ⟨c1,c2,c3,c4,c5,c6,c7,c10,c8,c9,c11⟩:=hc
     have c1:=Dy c1
     have c2:=DA c2
     have c3:=iY c3
     have c4:=iY c4
     have c5:=DB c5
     have c6:=qT c6
     have c7:=qT c7
     have c8:=qT c8
     have hE:(oI en.ps||oI en.rs)=true:=by unfold RL at hM; rw [hen] at hM; exact hM
     obtain ⟨hlen,hsem⟩:=(hT f _ en hen x r hf).2 hE
     obtain ⟨hsh,hargs,hbox⟩:=LI hs hv hd
     have hall:∀ i∈bq iss,i∈bN (eb en.ps iss x).2:=fun i hi=>by
      unfold XC at c10
      split at c10
      ·rename_i vv bi hbi
       rw [Bool.and_eq_true] at c10
       have hse:=CA (l':=[]) (iY c10.1)
       obtain ⟨z1,_⟩:=Ej (G:=[]) c11 hbi hse
       rw [z1.dom]
       exact qT c10.2 i hi
      ·cases c10
     obtain ⟨hcb,hsem⟩:=hsem iss (tM (500000 + 64 * d) (cp en.rs)) (n9 (500000 + 64 * d + C9 (cp en.rs)) (e8 en.rs)) hsh (Bg _ _) (GH _ _) c3 (fun j hj=>(c2 j (List.mem_append_right _ hj)).2.2) hall
     have hseen:vG ((m.us++(bs++ln m.gs))++wC m.ks s.bx) (m.us++(bs++ln m.gs)):=CA c4
     have hG:∀ i∈m.gs,aA (m.gs++s.oc) i=true:=fun i hi=>dX.2 (List.mem_append_left _ hi)
     obtain ⟨s1,s23⟩:=hseen.app
     obtain ⟨s2,_⟩:=s23.app
     obtain ⟨⟨k1,g1,g2⟩,k2⟩:=Lq (G:=m.gs++s.oc) hs hv hd hlen hm s1
     obtain ⟨k3,k4⟩:=Hk (G:=m.gs++s.oc) c9 hbs s2
     have hal:=k1.app (k3.app (Lb (eb en.ps iss x).2 m.gs hG))
     have hids:∀ t,t∈idU m.us++m.gs→t∈idU (m.us++(bs++ln m.gs)):=fun t ht=>by
      rcases List.mem_append.1 ht with ht | ht
      ·obtain ⟨sb,h⟩:=fc.1 ht; exact fc.2 ⟨sb,List.mem_append_left _ h⟩
      ·exact fc.2 ⟨none,List.mem_append_right _ (List.mem_append_right _ (G7 ht))⟩
     have hids2:∀ t,t∈idU bs→t∈idU (m.us++(bs++ln m.gs)):=fun t ht=>by obtain ⟨sb,h⟩:=fc.1 ht; exact fc.2 ⟨sb,List.mem_append_right _ (List.mem_append_left _ h)⟩
     have hids3:∀ t,t∈idU (m.us++(bs++ln m.gs))→t∈idU m.us++m.gs∨t∈idU bs:=fun t ht=>by
      obtain ⟨sb,h⟩:=fc.1 ht
      rcases List.mem_append.1 h with h | h
      ·exact .inl (List.mem_append_left _ (fc.2 ⟨sb,h⟩))
      ·rcases List.mem_append.1 h with h | h
       ·exact .inr (fc.2 ⟨sb,h⟩)
       ·exact .inl (List.mem_append_right _ (rj h).1)
     have hlk:=fun t=>TD hal (wC m.ks s.bx) t
     have hnone2:∀ t,t∈idU bs++(bq (tM (500000 + 64 * d) (cp en.rs))++bq (n9 (500000 + 64 * d + C9 (cp en.rs)) (e8 en.rs)))→p.b t=none:=fun t ht=>by
      obtain ⟨n1,n2,_⟩:=c2 t ht
      have:=hs.bx t
      rw [n2] at this
      exact this (mG n1).1
     have hnone:∀ t,t∈idU bs→p.b t=none:=fun t ht=>hnone2 t (List.mem_append_left _ ht)
     have hBL:YA m.ks s.bx ((m.us++(bs++ln m.gs))++wC m.ks s.bx):=by
      refine ⟨fun t hk e kk ty xs pins hb=>?_,fun t ty cs hb=>?_⟩
      ·rcases hlk t with ⟨m1,sb,b,m2,m3,m4,m5⟩ | ⟨m1,m2,_⟩
       ·obtain ⟨sb',hsb'⟩:=fc.1 m1
        rcases List.mem_append.1 hsb' with hin | hin
        ·rcases k2 t sb' hin with q | q | ⟨ty',cs',q⟩ | ⟨e1,kk1,ty1,xs1,pins1,e2,kk2,ty2,xs2,q1,q2,q3⟩
         ·rw [hk] at q; cases q
         ·have:=(c2 t (List.mem_append_right _ (List.mem_append_left _ q))).2.1
          rw [hb] at this
          cases this
         ·rw [hb] at q; cases q
         ·rw [hb] at q1
          injection q1 with q1
          injection q1 with z1 z2 z3 z4 z5
          subst z3
          have z4:=eq_of_heq z4
          subst z1 z2 z4 z5 q2
          refine ⟨_,_,_,_,_,hseen t _ (List.mem_append_left _ hin),q3,fun pp pin hp=>⟨⟨pin.i,none⟩,by rw [mI,hp]; rfl,rfl⟩⟩
        ·rcases List.mem_append.1 hin with hin | hin
         ·have:=(c2 t (List.mem_append_left _ (fc.2 ⟨_,hin⟩))).2.1
          rw [hb] at this
          cases this
         ·rw [g2 t (rj hin).1] at hk; cases hk
       ·exact ⟨e,kk,ty,xs,pins,by rw [m2,tR,hb]; rfl,rfl,fun _ pin hp=>⟨pin,hp,rfl⟩⟩
      ·rcases hlk t with ⟨m1,sb,b,m2,m3,m4,m5⟩ | ⟨m1,m2,_⟩
       ·obtain ⟨sb',hsb'⟩:=fc.1 m1
        rcases List.mem_append.1 hsb' with hin | hin
        ·obtain ⟨cs',q1,_⟩:=c5 t sb' (List.mem_append_left _ hin) ty cs hb
         subst q1
         exact ⟨ty,cs',hseen t _ (List.mem_append_left _ hin)⟩
        ·rcases List.mem_append.1 hin with hin | hin
         ·have:=(c2 t (List.mem_append_left _ (fc.2 ⟨_,hin⟩))).2.1
          rw [hb] at this
          cases this
         ·obtain ⟨cs',q1,_⟩:=c5 t sb' (List.mem_append_right _ hin) ty cs hb
          rw [(rj hin).2] at q1
          cases q1
       ·exact ⟨ty,_,by rw [m2,tR,hb]; rfl⟩
     have hu:∀ t,lkU (sY en.ps en.rs iss (tM (500000 + 64 * d) (cp en.rs)) (n9 (500000 + 64 * d + C9 (cp en.rs)) (e8 en.rs)) x r) t=lkU (Q7 en.ps (cp en.rs) iss (tM (500000 + 64 * d) (cp en.rs)) x (jR en.rs r)++((cN (e8 en.rs) (n9 (500000 + 64 * d + C9 (cp en.rs)) (e8 en.rs)) (iM en.rs r)).2++D4 (eb en.ps iss x).2 m.gs)) t:=fun t=>by unfold sY; rw [g1]
     refine ⟨T9 ws,⟨m.ks,m.us++(bs++ln m.gs),m.gs⟩,xV (cN (e8 en.rs) (n9 (500000 + 64 * d + C9 (cp en.rs)) (e8 en.rs)) (iM en.rs r)).1,sY en.ps en.rs iss (tM (500000 + 64 * d) (cp en.rs)) (n9 (500000 + 64 * d + C9 (cp en.rs)) (e8 en.rs)) x r,h,hro,⟨hcb,Vd p (bq iss),fun t Bx ht=>?_,fun t Bx ht hn=>?_,fun w0 F0 ρ' b w F ws' hb hbn hi hr=>?_⟩,⟨fun i=>?_,fun t=>?_⟩,fun W hW=>?_,fun t Bx ht=>?_⟩
     ·rw [ve] at ht
      split at ht
      ·rename_i hin
       rcases hlk t with ⟨_,_,b,_,m3,_⟩ | ⟨m1,_⟩
       ·exact ⟨⟨b,(hu t).trans m3⟩,ht⟩
       ·exact absurd (hids t (c6 t hin)) m1
      ·cases ht
     ·rw [ve] at hn
      rcases hlk t with ⟨m1,_⟩ | ⟨_,_,m3⟩
      ·rcases hids3 t m1 with m1 | m1
       ·rcases List.mem_append.1 (c7 t m1) with m1 | m1
        ·rw [if_pos m1] at hn; exact hn
        ·exact hnone2 t (List.mem_append_right _ (List.mem_append_left _ m1))
       ·exact hnone t m1
      ·rw [hu,m3] at ht; cases ht
     ·refine hsem w0 F0 ρ' b w F ws' qs hargs (fun t Bx ht=>?_) (fun t ht=>?_) hi hr
      ·have hm:=oC ht
       obtain ⟨B1,q1,q2⟩:=hbox t Bx hm
       exact ⟨B1,hb t B1 (by rw [ve,if_pos (C5 hm)]; exact q1),q2⟩
      ·have hin:=c8 t ht
       rcases hlk t with ⟨_,_,b1,_,m3,_⟩ | ⟨m1,_⟩
       ·refine hbn t b1 ((hu t).trans m3) ?_
        rw [ve,if_neg (fun h1=>?_)]
        exact (List.nodup_append.1 c3).2.2 t h1 t ht rfl
       ·exact absurd ((List.mem_append.1 hin).elim (fun h=>hids t (List.mem_append_left _ h)) (hids2 t)) m1
     ·show bb ((m.us++(bs++ln m.gs))++wC m.ks s.bx) (lkV (rT (Rb m.ks s.sl) (some d) (T9 ws)) i) (wA p.t (some d) _ i)
      rw [u5]
      unfold wA
      split
      ·exact T8 k4
      ·rw [Nz]; exact (hs.sl i).st hBL
     ·show mf ((m.us++(bs++ln m.gs))++wC m.ks s.bx) (aA (m.gs++s.oc) t) (lkB ((m.us++(bs++ln m.gs))++wC m.ks s.bx) t) (dJ p.b _ t)
      rcases hlk t with ⟨_,sb,b,m2,m3,m4,m5⟩ | ⟨_,m2,m3⟩
      ·rw [m2]
       have hb:dJ p.b (sY en.ps en.rs iss (tM (500000 + 64 * d) (cp en.rs)) (n9 (500000 + 64 * d + C9 (cp en.rs)) (e8 en.rs)) x r) t=some b:=by simp only [dJ,hu,m3]
       rw [hb]
       cases sb with
       | none=>intro ho; rw [m5 rfl] at ho; cases ho
       | some y=>have:=m4 y rfl; cases y <;> exact this
      ·rw [m2,tR]
       have hb:dJ p.b (sY en.ps en.rs iss (tM (500000 + 64 * d) (cp en.rs)) (n9 (500000 + 64 * d + C9 (cp en.rs)) (e8 en.rs)) x r) t=p.b t:=by simp only [dJ,hu,m3]
       rw [hb]
       have hbx:=hs.bx t
       cases hl:lkB s.bx t with
       | none =>
        rw [hl] at hbx
        intro ho
        refine hbx (ya.2 fun hi=>?_)
        rw [ya] at ho
        exact ho (List.mem_append_right _ hi)
       | some y =>
        rw [hl] at hbx
        cases y with
        | st ty cs=>obtain ⟨qs',z1,z2⟩:=hbx; exact ⟨qs',z1,z2.st hBL⟩
        | rw e kk ty xs pins=>exact hbx
     ·have hkp:∀ t,aA m.ks t=true→aA s.pr t=false:=fun t ht=>c1 t (List.mem_append_right _ (List.mem_append_left _ (dX.1 ht)))
      refine ⟨rfl,rfl,fun t ht=>?_,fun i hi hsf=>?_,fun t _ ty cs hb=>?_⟩
      ·show kR _ (lkB ((m.us++(bs++ln m.gs))++wC m.ks s.bx) t)
       rcases hlk t with ⟨m1,_⟩ | ⟨_,m2,_⟩
       ·rcases hids3 t m1 with m1 | m1
        ·have:t∈idU m.us++(m.ks++m.gs):=by
          rcases List.mem_append.1 m1 with m1 | m1
          ·exact List.mem_append_left _ m1
          ·exact List.mem_append_right _ (List.mem_append_right _ m1)
         rw [c1 t this] at ht; cases ht
        ·rw [(mG (c2 t (List.mem_append_left _ m1)).1).2] at ht; cases ht
       ·rw [m2,tR]
        obtain ⟨b',z1,z2⟩:=hpr t ht
        rw [z1]
        cases b' with
        | st ty cs=>simp only [Option.map_some,YF]; rw [oP cs z2]; rfl
        | rw e kk ty xs pins=>exact ⟨pins,rfl⟩
      ·show lkV (rT (Rb m.ks s.sl) (some d) (T9 ws)) i=lkV s.sl i
       rw [u5,if_neg (fun e=>by rw [hW i e] at hi; cases hi),Nz]
       exact PW hkp _ hsf
      ·show ∃ cs',lkB ((m.us++(bs++ln m.gs))++wC m.ks s.bx) t = _∧_
       rcases hlk t with ⟨m1,sb,b,m2,m3,m4,m5⟩ | ⟨m1,m2,_⟩
       ·obtain ⟨sb',hsb'⟩:=fc.1 m1
        rcases List.mem_append.1 hsb' with hin | hin
        ·obtain ⟨cs',q1,q2⟩:=c5 t sb' (List.mem_append_left _ hin) ty cs hb
         subst q1
         exact ⟨cs',hseen t _ (List.mem_append_left _ hin),q2⟩
        ·rcases List.mem_append.1 hin with hin | hin
         ·have:=(c2 t (List.mem_append_left _ (fc.2 ⟨_,hin⟩))).2.1
          rw [hb] at this
          cases this
         ·obtain ⟨cs',q1,q2⟩:=c5 t sb' (List.mem_append_right _ hin) ty cs hb
          rw [(rj hin).2] at q1
          cases q1
       ·exact ⟨_,by rw [m2,tR,hb]; rfl,pd _ _⟩
     ·rcases hlk t with ⟨m1,_⟩ | ⟨_,_,m3⟩
      ·exact m1
      ·rw [hu,m3] at ht; cases ht
    ·cases h
   ·cases h
  ·cases h
end
section
variable {sc:List Nat} {P:Program} {T:List (Nat×Ent)} {ops:Array Oper}
def LeQ (q:Bool) (p p':PS) : Prop:=match q with | true=>Le p p' | false=>p' = p
theorem LeQ.refl (q:Bool) (p:PS) : LeQ q p p:=by cases q; exact rfl; exact Le.refl p
def vH (q:Bool) (P:Program) (ops:Array Oper) (bd:Nat→Bd) : Nat→List Oper→PS→(PS→Prop)→Prop
 | _,[],s,K=>K s
 | i,o::l,s,K=>∃ s1,LeQ q s s1∧∃ r u,Eff P ops o s1 r u∧(q=false→fv ops o s1 u (bd i))∧vH q P ops bd (i + 1) l (s1.updL o.dst r u) K
theorem KZ {bd:Nat→Bd} {w0:WM} {F0:Nat→Prop} {n:Nat} {Q:Exit→Act→World→Prop} {Qs:Exit→PS→Prop} (hQ:∀ e s a w,Qs e s→n6 n w0 F0 s a w→Q e a w) : ∀ (i:Nat) (l:List Oper) (s:PS) (a:Act) (w:World),Hn n l=true→vH true P ops bd i l s (Qs .normal)→n6 n w0 F0 s a w→wpList P ops Q l a w
 | _,[],s,a,w,_,h,hc=>hQ _ s a w h hc
 | i,o::l,s,a,w,hd,h,hc=>by
  obtain ⟨s1,h1,r,u,h2,_,h3⟩:=h
  have hc1:=(show Le s s1 from h1) n w0 F0 a w hc
  obtain ⟨hd1,hd2⟩:=NU hd
  exact wpList_step fun K hK=>T6 (f:=0) hc1 h2 hd1 (fun a' w' hc'=>hK _ _ (KZ hQ (i + 1) l _ a' w' hd2 h3 hc'))
theorem KJ {bd:Nat→Bd} {n:Nat} {Qs:Exit→PS→Prop} {s:PS} {id:Nat} {l:List Oper} (hd:Hn n l=true) (h:vH true P l.toArray bd 0 l s (Qs .normal)) : PWP P n (.region id l.toArray false) Qs s :=
 fun _ _ a w hc=>wp_region_lit (KZ (Qs:=Qs) (fun _ s' _ _ h1 h2=>⟨s',h1,h2⟩) 0 l s a w hd h hc)
theorem zU {bd:Nat→Bd} {K:PS→Prop} : ∀ (l:List Oper) (k:Nat) (s:PS),(∀ j,j < l.length→l[j]? = ops[k + j]?)→vH false P ops bd k l s K→EU P ops bd (List.range' k l.length) s K
 | [],k,s,_,h=>h
 | o::l,k,s,hl,h=>by
  obtain ⟨s1,he,r,u,h1,hf,h2⟩:=h
  have he:s1=s:=he
  subst he
  have h0:ops[k]? = some o:=by simpa using (hl 0 (by simp)).symm
  rw [List.length_cons,List.range'_succ]
  exact ⟨o,r,u,h0,h1,hf rfl,zU l (k + 1) _ (fun j hj=>by have:=hl (j + 1) (by simp; omega); simpa [Nat.add_assoc,Nat.add_comm 1 j] using this) h2⟩
theorem P0 {bd:Nat→Bd} {K:PS→Prop} : ∀ (l:List Oper) (i k:Nat) (s:PS),(∀ j,j < l.length→l[j]? = ops[k + j]?)→vH true P ops bd i l s K→Sf P ops (List.range' k l.length) s K
 | [],i,k,s,_,h=>h
 | o::l,i,k,s,hl,h=>by
  obtain ⟨s1,hle,r,u,h1,_,h2⟩:=h
  have h0:ops[k]? = some o:=by simpa using (hl 0 (by simp)).symm
  rw [List.length_cons,List.range'_succ]
  exact ⟨s1,hle,o,r,u,h0,h1,P0 l (i + 1) (k + 1) _ (fun j hj=>by have:=hl (j + 1) (by simp; omega); simpa [Nat.add_assoc,Nat.add_comm 1 j] using this) h2⟩
theorem fQ {q:Bool} {bd:Nat→Bd} : ∀ {l:List Oper} {i:Nat} {p:PS} {K K':PS→Prop},vH q P ops bd i l p K→(∀ p',K p'→K' p')→vH q P ops bd i l p K'
 | [],i,p,K,K',h,hk=>hk p h
 | o::l,i,p,K,K',h,hk=>by
  obtain ⟨s1,h1,r,u,h2,hf,h3⟩:=h
  exact ⟨s1,h1,r,u,h2,hf,fQ h3 hk⟩
theorem Bj {q:Bool} {bd:Nat→Bd} : ∀ {a b:List Oper} {i:Nat} {p:PS} {K:PS→Prop},vH q P ops bd i a p (fun p'=>vH q P ops bd (i + a.length) b p' K)→vH q P ops bd i (a++b) p K
 | [],b,i,p,K,h=>h
 | o::a,b,i,p,K,h=>by
  obtain ⟨s1,h1,r,u,h2,hf,h3⟩:=h
  refine ⟨s1,h1,r,u,h2,hf,Bj ?_⟩
  rw [List.length_cons] at h3
  rw [show i + 1 + a.length=i + (a.length + 1) by omega]
  exact h3
mutual
theorem pg {B:List (Nat×Option aX)} : ∀ {v:SV} {q:PV} {l:List Nat},bb B v q→vX v=some l→∀ x∈bc q,x∈l
 | .junk,q,l,_,h,x,hx=>by cases h
 | .d c,q,l,hv,h,x,hx=>by cases hv with | d _ y _=>simp [bc] at hx
 | .fe cs,q,l,hv,h,x,hx=>by cases hv with | fe _ ds _ _=>simp [bc] at hx
 | .ptr t o,q,l,hv,h,x,hx=>by
  cases hv with
  | ptr _ _ ty cs hb=>injection h with h; subst h; simpa [bc] using hx
 | .row t,q,l,hv,h,x,hx=>by
  cases hv with
  | row _ n e k ty xs pins hb hn=>injection h with h; subst h; simpa [bc] using hx
 | .re t p o,q,l,hv,h,x,hx=>by
  cases hv with
  | re _ _ _ n i e k ty xs pins pin hb hn hp hi=>injection h with h; subst h; simpa [bc] using hx
 | .vw t p o,q,l,hv,h,x,hx=>by
  cases hv with
  | vw _ _ _ n e k ty xs pins hb hn=>injection h with h; subst h; simpa [bc] using hx
 | .ag cs,q,l,hv,h,x,hx=>by
  cases hv with
  | ag _ qs hl hr=>exact mD (qs:=qs) ⟨hl,hr⟩ h x (by simpa [bc] using hx)
 | .tup cs,q,l,hv,h,x,hx=>by
  cases hv with
  | tup _ qs hl hr=>exact mD (qs:=qs) ⟨hl,hr⟩ h x (by simpa [bc] using hx)
 | .fn f ps qs,q,l,hv,h,x,hx=>by
  cases hv with
  | fn _ _ _ ps' qs' hl hr hl2 hr2 =>
   simp only [vX] at h
   split at h
   ·rename_i a b ha hb
    injection h with h
    subst h
    simp only [bc,List.mem_append] at hx ⊢
    rcases hx with hx | hx
    ·exact .inl (mD (qs:=ps') ⟨hl,hr⟩ ha x hx)
    ·exact .inr (mD (qs:=qs') ⟨hl2,hr2⟩ hb x hx)
   ·cases h
theorem mD {B:List (Nat×Option aX)} : ∀ {cs:List SV} {qs:List PV} {l:List Nat},bS B cs qs→qE cs=some l→∀ x∈bF qs,x∈l
 | [],qs,l,hv,h,x,hx=>by
  rcases hv.cases with ⟨_,rfl⟩ | ⟨_,_,_,_,h1,_⟩
  ·simp [bF] at hx
  ·cases h1
 | c::cs,qs,l,hv,h,x,hx=>by
  rcases hv.cases with ⟨h1,_⟩ | ⟨c',q,cs',qs',h1,rfl,h2,h3⟩
  ·cases h1
  ·injection h1 with e1 e2
   subst e1 e2
   simp only [qE] at h
   split at h
   ·rename_i a b ha hb
    injection h with h
    subst h
    simp only [bF,List.mem_append] at hx ⊢
    rcases hx with hx | hx
    ·exact .inl (pg h2 ha x hx)
    ·exact .inr (mD h3 hb x hx)
   ·cases h
end
theorem Ld {o:Oper} {s:SS} {p:PS} {l:List Nat} (hs:Sim s p) (h:QA o s=some l) : ∀ x∈pq o p,x∈l:=by
 unfold QA at h
 unfold pq
 split at h <;> rename_i ho <;> simp only [ho]
 ·exact pg (bM hs _) h
 ·exact pg (bM hs _) h
 ·exact pg (bM hs _) h
 ·exact pg (bM hs _) h
 ·exact pg (bM hs _) h
 ·rename_i c
  split at h
  ·rename_i f hf
   simp only [hf]
   split at h
   ·rename_i a b ha hb
    injection h with h
    subst h
    intro x hx
    rcases List.mem_append.1 hx with hx | hx
    ·exact List.mem_append_left _ (pg (bM hs f) ha x hx)
    ·exact List.mem_append_right _ (mD (nN hs c.args.toList) hb x hx)
   ·cases h
  ·rename_i hf
   split
   ·rename_i f hf2
    exact absurd hf2 (hf f)
   ·exact mD (nN hs c.args.toList) h
 ·intro x hx
  simp at hx
theorem qU:∀ {l m:List Nat},M9 l m=true→∀ x∈l,fv.memL m x=true
 | [],m,_,x,hx=>by cases hx
 | a::l,m,h,x,hx=>by
  simp only [M9] at h
  split at h
  ·rename_i ha
   rcases List.mem_cons.1 hx with rfl | hx
   ·exact ha
   ·exact qU h x hx
  ·cases h
theorem GV:∀ {l:List Nat} {x:Nat},fv.memL l x=true→x∈l
 | [],x,h=>by cases h
 | a::l,x,h=>by
  rw [Ae,Bool.or_eq_true] at h
  rcases h with h | h
  ·have:=zd h; subst this; simp
  ·exact List.mem_cons_of_mem _ (GV h)
theorem Lg {B:List Bd} {i:Nat} {o:Oper} {s:SS} {p:PS} {u:Upd} {w:Option (Nat×Box)} (hs:Sim s p) (hw:OkW s o.dst u w) {q:Bool} (h:G9 q B i o s u=true) : q=false→fv ops o p w.toList (xX B i):=by
 intro hq
 subst hq
 unfold G9 at h
 simp only at h
 split at h
 ·rename_i fs hf
  rw [Bool.and_eq_true] at h
  refine ⟨fun _ x hx=>qU h.1 x (Ld hs hf x hx),fun x Bx hx=>?_⟩
  cases w with
  | none=>cases hx
  | some y =>
   obtain ⟨t,b⟩:=y
   simp only [Option.toList,lkU] at hx
   split at hx
   ·rename_i e
    subst e
    exact qU h.2 x (GV (hw x b rfl).2)
   ·cases hx
 ·cases h
theorem UH {B:List Bd} {i:Nat} {o:Oper} {s:SS} {p:PS} {m:MU} {u:BU} (hs:Sim s p) (hw:∀ t Bx,lkU u t=some Bx→t∈idU m.us) {q:Bool} (h:QB q B i o s m=true) : q=false→fv ops o p u (xX B i):=by
 intro hq
 subst hq
 unfold QB at h
 simp only at h
 split at h
 ·rename_i fs hf
  rw [Bool.and_eq_true] at h
  exact ⟨fun _ x hx=>qU h.1 x (Ld hs hf x hx),fun x Bx hx=>qU h.2 x (hw x Bx hx)⟩
 ·cases h
theorem de:∀ (a b:List Nat) (i:Nat),aA (a++b) i=(aA a i||aA b i)
 | [],b,i=>rfl
 | j::a,b,i=>by
  simp only [List.cons_append,aA,de a b i]
  split <;> simp
theorem aZ (j:Nat) (l:List Nat) (i:Nat) : aA (j::l) i=(decide (i=j)||aA l i):=by
 simp only [aA,cQ]
 by_cases h:i=j
 ·simp [h]
 ·simp [h]
theorem C2:∀ {g:Nat} {l a b:List Oper} {d:Nat},PR g l=some (a,d,b)→l=a++b∧∃ o∈a,o.dst=some d
 | g,[],a,b,d,h=>by cases h
 | g,o::l,a,b,d,h=>by
  simp only [PR] at h
  split at h
  ·rename_i d' hd
   injection h with h
   injection h with h1 h2
   injection h2 with h2 h3
   subst h1 h2 h3
   refine ⟨rfl,o,List.mem_cons_self,?_⟩
   split at hd
   ·rename_i g' d2 e1 e2 hdst
    split at hd
    ·injection hd with hd; subst hd; exact hdst
    ·cases hd
   ·cases hd
  ·split at h
   ·rename_i a' d' b' h'
    injection h with h
    injection h with h1 h2
    injection h2 with h2 h3
    subst h1 h2 h3
    obtain ⟨h4,o',h5,h6⟩:=C2 h'
    exact ⟨by rw [h4]; rfl,o',List.mem_cons_of_mem _ h5,h6⟩
   ·cases h
theorem sw:∀ {l:List Oper} {o:Oper} {d:Nat},o∈l→o.dst=some d→aA (cd l) d=true
 | [],o,d,h,_=>by cases h
 | x::l,o,d,h,hd=>by
  rcases List.mem_cons.1 h with rfl | h
  ·simp only [cd,hd,aZ,decide_true,Bool.true_or]
  ·have:=sw h hd
   simp only [cd]
   split
   ·simp [aZ,this]
   ·exact this
theorem AB:∀ {l:List Oper} {d:Nat},aA (cd l) d=true→∃ o∈l,o.dst=some d
 | [],d,h=>by cases h
 | x::l,d,h=>by
  simp only [cd] at h
  split at h
  ·rename_i d' hd'
   rw [aZ,Bool.or_eq_true] at h
   rcases h with h | h
   ·have:=zd h
    subst this
    exact ⟨x,List.mem_cons_self,hd'⟩
   ·obtain ⟨o,h1,h2⟩:=AB h
    exact ⟨o,List.mem_cons_of_mem _ h1,h2⟩
  ·obtain ⟨o,h1,h2⟩:=AB h
   exact ⟨o,List.mem_cons_of_mem _ h1,h2⟩
theorem w9:∀ (a b:List Oper),cd (a++b)=cd a++cd b
 | [],b=>rfl
 | o::a,b=>by
  simp only [List.cons_append,cd,w9 a b]
  split <;> rfl
theorem tP:∀ (ds:List Nat) (l:List (Nat×SV)) (i:Nat),lkV (oG ds l) i=if aA ds i=true then .junk else lkV l i
 | [],l,i=>by simp [oG,aA]
 | d::ds,l,i=>by
  simp only [oG,cO,tP ds l i,aZ]
  by_cases h:i=d
  ·simp [h]
  ·simp [h]
structure Fr (l:List Oper) (s:SS) (p p':PS) : Prop where
 t:s.ro=true→∀ i,aA (cd l) i=false→p'.t i=p.t i
 b:s.ro=true→∀ t,(lkB s.bx t≠none∨aA (cd l) t=false)→p'.b t=p.b t
theorem XM {s:SS} {dst:Option Nat} {v:SV} {u:Upd} {t:Nat} (h:lkB s.bx t≠none) : lkB (s.upd dst v u).bx t≠none:=by
 cases u with
 | no=>exact h
 | grow t' b =>
  show lkB ((t',some b)::n8 t' s.bx) t≠none
  rw [aq]
  split
  ·simp
  ·rw [jv]; simpa using h
 | _ =>
  rename_i t' b
  show lkB ((t',some b)::s.bx) t≠none
  rw [aq]
  split
  ·simp
  ·exact h
theorem Tz {s:SS} {dst:Option Nat} {v:SV} {u:Upd} : (s.upd dst v u).ro=s.ro:=by cases u <;> rfl
theorem WH {o:Oper} {l:List Oper} {s:SS} {p p':PS} {v:SV} {u:Upd} {q:PV} {w:Option (Nat×Box)} (hw:OkW s o.dst u w) (h:Fr l (s.upd o.dst v u) (p.upd o.dst q w) p') : Fr (o::l) s p p':=by
 have sub:∀ i,aA (cd (o::l)) i=false→aA (cd l) i=false∧o.dst≠some i:=fun i hi=>by
  simp only [cd] at hi
  split at hi
  ·rename_i d hd
   rw [aZ,Bool.or_eq_false_iff] at hi
   refine ⟨hi.2,fun e=>?_⟩
   rw [hd] at e
   injection e with e
   have:=of_decide_eq_false hi.1
   exact this e.symm
  ·rename_i hd
   exact ⟨hi,fun e=>by rw [hd] at e; cases e⟩
 refine ⟨fun hro i hi=>?_,fun hro t ht=>?_⟩
 ·obtain ⟨h1,h2⟩:=sub i hi
  rw [h.t (by rw [Tz]; exact hro) i h1]
  simp only [PS.upd,wA,if_neg h2]
 ·have hb:(p.upd o.dst q w).b t=p.b t:=by
   show dn p.b w t=p.b t
   unfold dn
   split
   ·rename_i j Bx
    rcases (hw j Bx rfl).1 with ⟨h1,h2⟩ | h1
    ·split
     ·rename_i e
      subst e
      rcases ht with ht | ht
      ·exact absurd h1 ht
      ·exact absurd h2 (sub t ht).2
     ·rfl
    ·rw [hro] at h1; cases h1
   ·rfl
  rw [h.b (by rw [Tz]; exact hro) t (ht.imp XM fun ht=>(sub t ht).1),hb]
def FA (sc W:List Nat) (l:List Oper) (s:SS) (p:PS) {ρ : Type} (k:SS→Option ρ) (res : ρ) (p':PS) : Prop:=∃ s',Sim s' p'∧dH sc W s s'∧mc s'∧k s' = some res∧Fr l s p p'
theorem zZ {W:List Nat} {o:Oper} {l:List Oper} {s:SS} {p p':PS} {ρ : Type} {k:SS→Option ρ} {res : ρ} {v:SV} {u:Upd} {q:PV} {w:Option (Nat×Box)} (hW:∀ d,o.dst=some d→aA W d=true) (hpr:mc s) (hu:OkU s u) (hw:OkW s o.dst u w)
  (h:FA sc W l (s.upd o.dst v u) (p.upd o.dst q w) k res p') : FA sc W (o::l) s p k res p':=by
 obtain ⟨s',h1,h2,h3,h4,h5⟩:=h
 exact ⟨s',h1,(yg hu hW hpr).trans h2,h3,h4,WH hw h5⟩
theorem Nr {W:List Nat} {f:Nat} {qs:List PV} {o:Oper} {l:List Oper} {s:SS} {p p':PS} {ρ : Type} {k:SS→Option ρ} {res : ρ} {v:SV} {m:MU} {r:PV} {u:BU} (hW:∀ d,o.dst=some d→aA W d=true) (hR:XG sc P f o.dst s p qs v m r u)
  (h:FA sc W l (s.updM o.dst v m) (p.updL o.dst r u) k res p') : FA sc W (o::l) s p k res p':=by
 obtain ⟨s',h1,h2,h3,h4,h5⟩:=h
 exact ⟨s',h1,(hR.keep W hW).trans h2,h3,h4,fun hro=>(by rw [hR.ro] at hro; cases hro),fun hro=>(by rw [hR.ro] at hro; cases hro)⟩
theorem Wk {q:Bool} {o:Oper} {s s':SS} {p:PS} (hpr:mc s) (hs:Sim s p) (h:Wl q T o s=some s') : ∃ p',LeQ q p p'∧Sim s' p'∧(∀ W,dH sc W s s')∧(s.ro=true→s' = s∧p' = p)∧(o.guard=none∨p' = p):=by
 have triv:s' = s→∃ p',LeQ q p p'∧Sim s' p'∧(∀ W,dH sc W s s')∧(s.ro=true→s' = s∧p' = p)∧(o.guard=none∨p' = p):=fun e=>by
  subst e; exact ⟨p,.refl _ _,hs,fun W=>.refl W s',fun _=>⟨rfl,rfl⟩,.inr rfl⟩
 unfold Wl at h
 split at h
 ·rename_i hro hg
  have froz:∀ {l:List Nat},lq l s=some s'→∃ p',LeQ true p p'∧Sim s' p'∧(∀ W,dH sc W s s')∧(s.ro=true→s' = s∧p' = p)∧(o.guard=none∨p' = p):=fun h=>by
   obtain ⟨p',k1,k2,k3,k4⟩:=wX (sc:=sc) hpr hs h
   exact ⟨p',k1,k2,k3,fun h=>(by rw [hro] at h; cases h),.inl hg⟩
  split at h
  ·exact froz h
  ·split at h
   ·split at h
    ·split at h
     ·exact froz h
     ·split at h
      ·injection h with h; exact triv h.symm
      ·exact froz h
    ·injection h with h; exact triv h.symm
   ·injection h with h; exact triv h.symm
  ·injection h with h; exact triv h.symm
 ·injection h with h; exact triv h.symm
theorem Dq {W:List Nat} {l:List Oper} {s s1:SS} {p p1 p':PS} {ρ : Type} {k:SS→Option ρ} {res : ρ} (hk:dH sc W s s1) (hro:s.ro=true→s1=s∧p1=p) (h:FA sc W l s1 p1 k res p') : FA sc W l s p k res p':=by
 obtain ⟨s',h1,h2,h3,h4,h5⟩:=h
 refine ⟨s',h1,hk.trans h2,h3,h4,fun hr=>?_,fun hr=>?_⟩
 ·obtain ⟨e1,e2⟩:=hro hr
  subst e1 e2
  exact h5.t hr
 ·obtain ⟨e1,e2⟩:=hro hr
  subst e1 e2
  exact h5.b hr
theorem CB {q:Bool} {B:List Bd} (hT:qu P T) {W:List Nat} : ∀ (n i:Nat) (kn:List Nat) (l:List Oper) {ρ : Type} {s:SS} {p:PS} {k:SS→Option ρ} {res : ρ},(∀ o∈l,∀ d,o.dst=some d→aA W d=true)→(∀ (j:Nat) (o:Oper),ops[j]? = some o→∀ d,o.dst=some d→aA W d=true) →
  (∀ o∈l,∀ t x y,o.op = .store t x y→o.dst=none)→mc s→Sim s p→tD q P T ops B n i kn l s k=some res→vH q P ops (xX B) i l p (FA sc W l s p k res):=by
 intro n
 induction n with
 | zero =>
  intro i kn l ρ s p k res hW hO hst hpr hs h
  cases l with
  | nil=>exact ⟨s,hs,.refl _ _,hpr,h,fun _ _ _=>rfl,fun _ _ _=>rfl⟩
  | cons o l=>cases h
 | succ n ih =>
  intro i kn l ρ s p k res hW hO hst hpr hs h
  cases l with
  | nil=>exact ⟨s,hs,.refl _ _,hpr,h,fun _ _ _=>rfl,fun _ _ _=>rfl⟩
  | cons o l =>
   have hWo:=hW o List.mem_cons_self
   have hWl:∀ o∈l,∀ d,o.dst=some d→aA W d=true:=fun o ho=>hW o (List.mem_cons_of_mem _ ho)
   have hstl:∀ o∈l,∀ t x y,o.op = .store t x y→o.dst=none:=fun o ho=>hst o (List.mem_cons_of_mem _ ho)
   have goOk:kA ops o p=some true→(match Wl q T o s with
     | none=>none
     | some s=>(match uf o with
      | some (x,xs)=>(match evX s x with
       | .fn f ps qs=>(match RL T f (ps++vF s xs++qs) with
        | false=>chk (G9 q B i o s .no) (QU T f s (ps++vF s xs++qs) fun r=>tD q P T ops B n (i + 1) kn l (s.upd o.dst r .no) k)
        | true=>QV T f s o.dst (ps++vF s xs++qs) fun v m=>chk (QB q B i o s m) (tD q P T ops B n (i + 1) kn l (s.updM o.dst v m) k))
       | _=>none)
      | none=>WR P o s fun v u=>chk (G9 q B i o s u) (tD q P T ops B n (i + 1) kn l (s.upd o.dst v u) k)))=some res→vH q P ops (xX B) i (o::l) p (FA sc W (o::l) s p k res):=by
    intro hg h
    split at h
    ·cases h
    ·rename_i s1 hfz
     obtain ⟨p1,hle,hs1,hk1,hro,hgn⟩:=Wk (sc:=sc) hpr hs hfz
     have hg1:kA ops o p1=some true:=by
      rcases hgn with hgn | hgn
      ·simp [kA,hgn]
      ·rw [hgn]; exact hg
     have hpr1:mc s1:=(hk1 []).prOk hpr
     have mk:∀ {r:PV} {u:BU},Kf P o p1 r u→Eff P ops o p1 r u:=fun h=>by unfold Eff; rw [hg1]; exact h
     split at h
     ·rename_i x xs hc
      have hx:=bM hs1 x
      split at h
      rotate_left
      ·cases h
      rename_i f ps qs hev
      rw [hev] at hx
      obtain ⟨ps',qs',e1,e2,e3⟩:=Xl hx
      split at h
      rotate_left
      ·rename_i hM
       obtain ⟨v,m,r,u,h,hR⟩:=U9 (sc:=sc) hT hpr1 hs1 hM ((e2.append (nN hs1 xs)).append e3) h
       obtain ⟨hfb,h⟩:=am h
       refine ⟨p1,hle,r,u,mk ?_,UH hs1 hR.foot hfb,?_⟩
       ·unfold Kf
        simp only [hc,e1,B5]
        exact .inr hR.call
       exact fQ (ih (i + 1) kn l hWl hO hstl ((hR.keep W hWo).prOk hpr1) hR.sim h) fun p' hp=>Dq (hk1 W) hro (Nr hWo hR hp)
      rename_i hM
      obtain ⟨hfb,h⟩:=am h
      obtain ⟨v,r,h1,h2,h3⟩:=U7 hT hs1 hM ((e2.append (nN hs1 xs)).append e3) h
      refine ⟨p1,hle,r,[],mk ?_,Lg (w:=none) hs1 dy hfb,?_⟩
      ·unfold Kf
       simp only [hc,e1,B5]
       exact .inl ⟨trivial,h1⟩
      have hs':Sim (s1.upd o.dst v .no) (p1.upd o.dst r none):=ky hs1 h3
      rw [show ([] : BU)=(none:Option (Nat×Box)).toList from rfl,C3]
      exact fQ (ih (i + 1) kn l hWl hO hstl ((yg (sc:=sc) (u:=.no) trivial hWo hpr1).prOk hpr1) hs' h2) fun p' hp=>Dq (hk1 W) hro (zZ (u:=.no) hWo hpr1 trivial dy hp)
     ·rename_i hc
      obtain ⟨v,u,qv,w,h1,h2,h3,h4,h5⟩:=WP hs1 (hst o List.mem_cons_self) h
      obtain ⟨hfb,h2⟩:=am h2
      refine ⟨p1,hle,qv,w.toList,mk ?_,Lg hs1 h5 hfb,?_⟩
      ·unfold Kf
       simp only [hc]
       exact ⟨w,h1,rfl⟩
      rw [C3]
      exact fQ (ih (i + 1) kn l hWl hO hstl ((yg (sc:=sc) h4 hWo hpr1).prOk hpr1) h3 h2) fun p' hp=>Dq (hk1 W) hro (zZ hWo hpr1 h4 h5 hp)
   have skipOk:kA ops o p=some false→tD q P T ops B n (i + 1) kn l (s.upd o.dst (.tup []) .no) k=some res→vH q P ops (xX B) i (o::l) p (FA sc W (o::l) s p k res):=by
    intro hg h
    refine ⟨p,.refl _ _,.tup [],[],by unfold Eff; rw [hg]; exact ⟨rfl,rfl⟩,fun _=>⟨fun h=>(by rw [hg] at h; cases h),fun x Bx h=>(by cases h)⟩,?_⟩
    rw [show ([] : BU)=(none:Option (Nat×Box)).toList from rfl,C3]
    have hs':Sim (s.upd o.dst (.tup []) .no) (p.upd o.dst (.tup []) none):=ky hs (.tup [] [] rfl (fun j c q h=>by simp at h))
    exact fQ (ih (i + 1) kn l hWl hO hstl ((yg (sc:=sc) (u:=.no) trivial hWo hpr).prOk hpr) hs' h) fun p' hp=>zZ (u:=.no) hWo hpr trivial dy hp
   unfold tD at h
   simp only at h
   split at h
   ·rename_i hg
    exact goOk (by simp [kA,hg]) h
   ·rename_i j want hg
    split at h
    ·cases h
    ·rename_i g hgd
     have hsg:=hs.sl g
     split at h
     ·rename_i hv
      rw [hv] at hsg
      obtain ⟨qs,h1,h2⟩:=Tu hsg
      have:qs = []:=by have:=h2.len; simpa using this.symm
      subst this
      exact skipOk (by simp [kA,hg,hgd,h1]) h
     ·rename_i b hv
      rw [hv] at hsg
      have hpg:=kV hsg
      have hgb:kA ops o p=some (b==want):=by simp [kA,hg,hgd,hpg,asB]
      split at h
      ·split at h
       ·split at h
        ·exact goOk (by rw [hgb]; rfl) h
        ·exact skipOk (by rw [hgb]; rfl) h
       ·split at h
        ·exact skipOk (by rw [hgb]; rfl) h
        ·exact goOk (by rw [hgb]; rfl) h
      ·split at h
       ·cases h
       ·rename_i l1 d l2 hup
        obtain ⟨h1,o1,h2,h3⟩:=C2 hup
        obtain ⟨qb,h4,h5⟩:=cG h
        have hg0:∃ o',ops[j]? = some o'∧o'.dst=some g:=by
         cases ho:ops[j]? with
         | none=>simp [ho] at hgd
         | some o'=>exact ⟨o',rfl,by simpa [ho] using hgd⟩
        obtain ⟨o',ho',hdo'⟩:=hg0
        have hWg:aA W g=true:=hO j o' ho' g hdo'
        rw [h1]
        have hW1:∀ o∈l1,∀ d,o.dst=some d→aA W d=true:=fun o ho=>hW o (by rw [h1]; exact List.mem_append_left _ ho)
        have hW2:∀ o∈l2,∀ d,o.dst=some d→aA W d=true:=fun o ho=>hW o (by rw [h1]; exact List.mem_append_right _ ho)
        have hst1:∀ o∈l1,∀ t x y,o.op = .store t x y→o.dst=none:=fun o ho=>hst o (by rw [h1]; exact List.mem_append_left _ ho)
        have hst2:∀ o∈l2,∀ t x y,o.op = .store t x y→o.dst=none:=fun o ho=>hst o (by rw [h1]; exact List.mem_append_right _ ho)
        have hsb:Sim ⟨(g,.d (.bool b))::s.sl,s.bx,s.pr,true,s.oc⟩ p:=by
         refine ⟨fun i=>?_,hs.bx⟩
         show bb s.bx (lkV ((g,.d (.bool b))::s.sl) i) (p.t i)
         rw [cO]
         split
         ·rename_i e; subst e; exact hsg
         ·exact hs.sl i
        have hA:vH q P ops (xX B) i l1 p (FA sc W l1 ⟨(g,.d (.bool b))::s.sl,s.bx,s.pr,true,s.oc⟩ p (Cz d) qb):=by
         cases b
         ·exact ih i (g::kn) l1 hW1 hO hst1 hpr hsb (by simpa using h4)
         ·exact ih i (g::kn) l1 hW1 hO hst1 hpr hsb (by simpa using h4)
        refine Bj (fQ hA fun p1 hp1=>?_)
        obtain ⟨s1,k1,k2,k3,k4,k5⟩:=hp1
        have hd:aA (cd l1) d=true:=sw h2 h3
        have hpd:p1.t d = .d (.v (.bool qb)):=by
         have:=k1.sl d
         unfold Cz at k4
         split at k4
         ·rename_i b' hb'
          injection k4 with k4
          subst k4
          rw [hb'] at this
          exact kV this
         ·cases k4
        have hs2:Sim ⟨(d,.d (.bool qb))::oG (cd l1) s.sl,s.bx,s.pr,s.ro,cd l1++s.oc⟩ p1:=by
         refine ⟨fun i=>?_,fun t=>?_⟩
         ·show bb s.bx (lkV ((d,.d (.bool qb))::oG (cd l1) s.sl) i) (p1.t i)
          rw [cO]
          split
          ·rename_i e; subst e; rw [hpd]; exact eV qb
          ·rw [tP]
           split
           ·exact .junk _
           ·rename_i hi
            rw [k5.t rfl i (by simpa using hi)]
            exact hs.sl i
         ·show mf s.bx (aA (cd l1++s.oc) t) (lkB s.bx t) (p1.b t)
          have hbt:=hs.bx t
          cases hl:lkB s.bx t with
          | none =>
           rw [hl] at hbt
           intro hoc
           rw [de,Bool.or_eq_false_iff] at hoc
           rw [k5.b rfl t (.inr hoc.1)]
           exact hbt hoc.2
          | some bx =>
           rw [hl] at hbt
           rw [k5.b rfl t (.inl (by show lkB s.bx t≠none; rw [hl]; simp))]
           cases bx <;> exact hbt
        have hk2:dH sc W s ⟨(d,.d (.bool qb))::oG (cd l1) s.sl,s.bx,s.pr,s.ro,cd l1++s.oc⟩:=by
         refine ⟨rfl,rfl,fun _ _=>.refl _,fun i hi _=>?_,fun _ _ _ cs h=>⟨cs,h,rfl⟩⟩
         show lkV ((d,.d (.bool qb))::oG (cd l1) s.sl) i = _
         rw [cO,if_neg (fun e=>by rw [e,hW1 o1 h2 d h3] at hi; cases hi),tP]
         rw [if_neg (fun e=>by
          obtain ⟨o2,m1,m2⟩:=AB e
          rw [hW1 o2 m1 i m2] at hi
          cases hi)]
        refine fQ (ih (i + l1.length) kn l2 hW2 hO hst2 (hk2.prOk hpr) hs2 h5) fun p2 hp2=>?_
        obtain ⟨s3,m1,m2,m3,m4,m5⟩:=hp2
        refine ⟨s3,m1,hk2.trans m2,m3,m4,fun hro i hi=>?_,fun hro t ht=>?_⟩
        ·rw [w9,de,Bool.or_eq_false_iff] at hi
         rw [m5.t hro i hi.2,k5.t rfl i hi.1]
        ·rw [w9,de,Bool.or_eq_false_iff] at ht
         rw [m5.b hro t (ht.imp id fun h=>h.2),k5.b rfl t (ht.imp id fun h=>h.1)]
     ·cases h
end
theorem RI {p:PS} (i e k:Nat) (ht:p.t i = .d (.v (.slice none 0 0))) (hb:p.b i=none) (hi0:i < 1000000) (hk : 0 < k) : Le p (p.upd (some i) (.row i 0) (some (i,.rw e k []))):=by
 intro n w0 F0 a w ⟨h1,h2,ρ,F,hi,hev⟩
 have hx:=(hev i)
 rw [ht] at hx
 obtain ⟨hx,_⟩:=hx.vv
 have hnew:=DG (P:=default) (t:=i) (e:=e) (k:=k) (es:=[]) (xs:=[]) (v:=.slice none 0 0) (w':=w) hi hi0 hb hk (Ext.refl w) (fun g hg=>by cases hg) (World.ownsRow_nil w _ e k) (by simp) rfl (by simp)
 obtain ⟨v,w',ρ',hok,k1,k2,k3⟩:=hnew
 injection hok with e1 e2
 subst e1 e2
 refine ⟨h1,h2,ρ',F,k1,fun j=>?_⟩
 by_cases hj:i=j
 ·subst hj
  rw [hx]
  simpa [PS.upd,wA] using k3
 ·have:(p.upd (some i) (.row i 0) (some (i,.rw e k []))).t j=p.t j:=by simp [PS.upd,wA,hj]
  rw [this]
  exact (hev j).mono k2
theorem NC {p:PS} (i t j e k:Nat) {ty:TypeId} {cs:List PV} (hb:p.b t=some (.st ty cs)) (hc:cs[j]? = some (.d (.v (.slice none 0 0)))) (hi:p.b i=none) (hi0:i < 1000000) (hk : 0 < k) :
  Le p ⟨p.t,dn (dn p.b (some (i,.rw e k []))) (some (t,.st ty (cs.set j (.row i 0))))⟩:=by
 intro n w0 F0 a w ⟨h1,h2,ρ,F,hinv,hev⟩
 have hnew:=DG (P:=default) (t:=i) (e:=e) (k:=k) (es:=[]) (xs:=[]) (v:=.slice none 0 0) (w':=w) hinv hi0 hi hk (Ext.refl w) (fun g hg=>by cases hg) (World.ownsRow_nil w _ e k) (by simp) rfl (by simp)
 obtain ⟨v,w',ρ',hok,k1,k2,k3⟩:=hnew
 injection hok with e1 e2
 subst e1 e2
 have hti:t≠i:=fun e=>by rw [e,hi] at hb; cases hb
 have hb1:(dn p.b (some (i,.rw e k []))) t=some (.st ty cs):=by rw [cy _ _ hti]; exact hb
 have hs2:Stp ρ' (dn p.b (some (i,.rw e k []))) w F ρ' (dn (dn p.b (some (i,.rw e k []))) (some (t,.st ty (cs.set j (.row i 0))))) w F:=by
  refine ⟨fun _ h=>h,fun _ _=>rfl,fun t' ty' cs' h=>⟨?_,rfl⟩,fun t' e' k' es h=>?_⟩
  ·by_cases h':t' = t
   ·subst h'; rw [dm]; exact ⟨_,_,rfl⟩
   ·rw [cy _ _ h']; exact ⟨_,_,h⟩
  ·have h':t'≠t:=fun e=>by rw [e,hb1] at h; cases h
   rw [cy _ _ h']
   exact ⟨e',es,h,Nat.le_refl _,fun _=>rfl⟩
 have hinv2:Inv w0 F0 ρ' (dn (dn p.b (some (i,.rw e k []))) (some (t,.st ty (cs.set j (.row i 0))))) w F:=by
  have hs3:=hs2
  rw [← da ρ' t] at hs3
  have:=Inv.turn (v:=ρ' t) (B':=.st ty (cs.set j (.row i 0))) (w':=w) k1 hb1 (by rw [da] at hs3 ⊢; exact hs2) k1.ext (Nat.le_refl _) (fun _ _ _=>rfl) (fun g hg=>.inl hg) ?_
  ·rw [da] at this; exact this
  ·rw [da]
   cases k1.box t _ hb1 with
   | st _ _ g xs hρ hg hF hh hl h1x hr =>
    refine .st ty _ g xs hρ hg hF hh (by rw [List.length_set]; exact hl) h1x (fun p x c h4 h5=>?_)
    rw [List.getElem?_set] at h5
    split at h5
    ·rename_i hjp
     subst hjp
     split at h5
     ·injection h5 with h5
      subst h5
      have hx:=hr j x _ h4 hc
      obtain ⟨hx,_⟩:=hx.vv
      rw [hx]
      exact k3.mono hs2
     ·cases h5
    ·exact (hr p x c h4 h5).mono hs2
 exact ⟨h1,h2,ρ',F,hinv2,fun q=>((hev q).mono k2).mono hs2⟩
theorem BLe.trans {B B' B'':List (Nat×Option aX)} (h:BLe B B') (h':BLe B' B'') : BLe B B'':=by
 refine ⟨fun t e k ty xs pins h1=>?_,fun t ty cs h1=>?_⟩
 ·obtain ⟨e1,k1,ty1,xs1,pins1,h2,h3,h4⟩:=h.rw t e k ty xs pins h1
  obtain ⟨e2,k2,ty2,xs2,pins2,h5,h6,h7⟩:=h'.rw t e1 k1 ty1 xs1 pins1 h2
  refine ⟨e2,k2,ty2,xs2,pins2,h5,h6.trans h3,fun p pin hp=>?_⟩
  obtain ⟨pin1,h8,h9⟩:=h4 p pin hp
  obtain ⟨pin2,h10,h11⟩:=h7 p pin1 h8
  exact ⟨pin2,h10,h11.trans h9⟩
 ·obtain ⟨ty1,cs1,h2⟩:=h.st t ty cs h1
  exact h'.st t ty1 cs1 h2
theorem Wx {B:List (Nat×Option aX)} {b:Nat} {x:Option aX} (h:lkB B b=x) (t:Nat) : lkB ((b,x)::B) t=lkB B t:=by
 rw [aq]
 split
 ·rename_i e; subst e; exact h.symm
 ·rfl
theorem bb.lk {B B':List (Nat×Option aX)} (h:∀ t,lkB B' t=lkB B t) {v:SV} {q:PV} (hv:bb B v q) : bb B' v q :=
 hv.mono ⟨fun t e k ty xs pins h1=>⟨e,k,ty,xs,pins,by rw [h]; exact h1,rfl,fun _ pin hp=>⟨pin,hp,rfl⟩⟩,fun t ty cs h1=>⟨ty,cs,by rw [h]; exact h1⟩⟩
theorem mf.lk {B B':List (Nat×Option aX)} (h:∀ t,lkB B' t=lkB B t) {o:Bool} {b:Option aX} {q:Option Box} (hv:mf B o b q) : mf B' o b q :=
 hv.mono ⟨fun t e k ty xs pins h1=>⟨e,k,ty,xs,pins,by rw [h]; exact h1,rfl,fun _ pin hp=>⟨pin,hp,rfl⟩⟩,fun t ty cs h1=>⟨ty,cs,by rw [h]; exact h1⟩⟩
theorem Sim.lk {sl:List (Nat×SV)} {B B':List (Nat×Option aX)} {pr oc:List Nat} {ro:Bool} {p:PS} (h:∀ t,lkB B' t=lkB B t) (hs:Sim ⟨sl,B,pr,ro,oc⟩ p) : Sim ⟨sl,B',pr,ro,oc⟩ p :=
 ⟨fun i=>(hs.sl i).lk h,fun t=>by show mf B' _ (lkB B' t) _; rw [h]; exact (hs.bx t).lk h⟩
theorem tJ {s:SS} {b:Nat} {ty:TypeId} : ∀ {rows:List (Nat×Nat×Nat×Nat×Ty)} {cs cs':List SV} {bx bx':List (Nat×Option aX)} {p:PS},(∃ x,lkB bx b=some x)→Sim ⟨s.sl,(b,some (.st ty cs))::bx,s.pr,s.ro,[]⟩ p→tK s rows cs bx=some (cs',bx') →
  ∃ p',Le p p'∧Sim ⟨s.sl,(b,some (.st ty cs'))::bx',s.pr,s.ro,[]⟩ p'∧(∀ t,aA s.pr t=true→lkB bx' t=lkB bx t)∧cs'.length=cs.length∧∀ t x,lkB bx t=some x→lkB bx' t=some x
 | [],cs,cs',bx,bx',p,_,hs,h=>by
  injection h with h
  injection h with e1 e2
  subst e1 e2
  exact ⟨p,.refl p,hs,fun _ _=>rfl,rfl,fun _ _ h=>h⟩
 | (j,R,e,k,t)::l,cs,cs',bx,bx',p,hb,hs,h=>by
  simp only [tK] at h
  split at h
  ·rename_i hj
   split at h
   ·rename_i hR hk hp
    have hk:=zd hk
    obtain ⟨xb,hxb⟩:=hb
    have hRb : ¬ R=b:=fun e=>by rw [e,hxb] at hR; cases hR
    have hbx:=hs.bx b
    have hbx:mf ((b,some (.st ty cs))::bx) (aA [] b) (lkB ((b,some (.st ty cs))::bx) b) (p.b b):=hbx
    rw [aq,if_pos rfl] at hbx
    obtain ⟨qs,h1,h2⟩:=hbx
    have hRn:lkB ((b,some (.st ty cs))::bx) R=none:=by rw [aq,if_neg hRb]; exact hR
    have hpR:p.b R=none:=by
     have h3:=hs.bx R
     have h3:mf ((b,some (.st ty cs))::bx) (aA [] R) (lkB ((b,some (.st ty cs))::bx) R) (p.b R):=h3
     rw [hRn] at h3
     exact h3 rfl
    have hlt:j < qs.length:=by rw [← h2.len]; exact (zg.1 hj).1
    have hqj:qs[j]? = some (.d (.v (.slice none 0 0))):=by
     have h3:qs[j]? = some qs[j]:=by simp [hlt]
     rw [h3,PO (h2.rep j _ _ hj h3)]
    have hle:=NC R b j e k h1 hqj hpR hk.2 hk.1
    have hB1:BLe ((b,some (.st ty cs))::bx) ((R,some (.rw e k t [] []))::(b,some (.st ty cs))::bx):=qt hRn
    have hB2:BLe ((R,some (.rw e k t [] []))::(b,some (.st ty cs))::bx) ((b,some (.st ty (cs.set j (.row R))))::(R,some (.rw e k t [] []))::(b,some (.st ty cs))::bx):=N1 (ty:=ty) (cs:=cs) (by rw [aq,if_neg (fun e=>hRb e.symm),aq,if_pos rfl])
    have hB:=hB1.trans hB2
    have hsame:∀ t',lkB ((b,some (.st ty (cs.set j (.row R))))::(R,some (.rw e k t [] []))::bx) t' = lkB ((b,some (.st ty (cs.set j (.row R))))::(R,some (.rw e k t [] []))::(b,some (.st ty cs))::bx) t':=fun t'=>by
     simp only [aq]
     split
     ·rfl
     ·rename_i h'; split
      ·rfl
      ·rfl
    have hs1:Sim ⟨s.sl,(b,some (.st ty (cs.set j (.row R))))::(R,some (.rw e k t [] []))::(b,some (.st ty cs))::bx,s.pr,s.ro,[]⟩ ⟨p.t,dn (dn p.b (some (R,.rw e k []))) (some (b,.st ty (qs.set j (.row R 0))))⟩:=by
     refine ⟨fun i=>(hs.sl i).mono hB,fun t'=>?_⟩
     show mf _ (aA [] t') (lkB ((b,some (.st ty (cs.set j (.row R))))::(R,some (.rw e k t [] []))::(b,some (.st ty cs))::bx) t') (dn (dn p.b (some (R,.rw e k []))) (some (b,.st ty (qs.set j (.row R 0)))) t')
     rw [aq]
     by_cases e1:t' = b
     ·subst e1
      rw [if_pos rfl,dm]
      refine ⟨_,rfl,by simpa using h2.len,fun j' c q m1 m2=>?_⟩
      rw [List.getElem?_set] at m1 m2
      by_cases e2:j=j'
      ·subst e2
       have hlc:j < cs.length:=by rw [h2.len]; exact hlt
       rw [if_pos rfl,if_pos hlc] at m1
       rw [if_pos rfl,if_pos hlt] at m2
       injection m1 with m1
       injection m2 with m2
       subst m1 m2
       exact .row R 0 e k t [] [] (by rw [aq,if_neg hRb,aq,if_pos rfl]) rfl
      ·rw [if_neg e2] at m1 m2
       exact (h2.rep j' c q m1 m2).mono hB
     ·rw [if_neg e1,cy _ _ e1,aq]
      by_cases e2:t' = R
      ·subst e2
       rw [if_pos rfl,dm]
       exact ⟨rfl,fun p pin hp=>by cases hp⟩
      ·rw [if_neg e2,cy _ _ e2]
       exact (hs.bx t').mono hB
    have hs2:=hs1.lk hsame
    obtain ⟨p',k1,k2,k3,k4,k5⟩:=tJ (s:=s) (b:=b) (ty:=ty) ⟨xb,by rw [aq,if_neg (fun e=>hRb e.symm)]; exact hxb⟩ hs2 h
    refine ⟨p',hle.trans k1,k2,fun t' ht'=>?_,by rw [k4,List.length_set],fun t' x hx=>k5 t' x ?_⟩
    ·rw [k3 t' ht',aq,if_neg (fun e=>by rw [e,hp] at ht'; cases ht')]
    ·rw [aq,if_neg (fun e=>by rw [e,hR] at hx; cases hx)]; exact hx
   ·cases h
  ·exact tJ hb hs h
theorem qm {sc wr:List Nat} : ∀ {ms:List Mod} {s s':SS} {p:PS},s.oc = []→mc s→Sim s p→FX wr ms s=some s'→∃ p',Le p p'∧Sim s' p'∧dH sc wr s s'∧s'.oc = []
 | [],s,s',p,ho,_,hs,h=>by injection h with h; subst h; exact ⟨p,.refl p,hs,.refl _ _,ho⟩
 | .leaf _ _ :: l,s,s',p,ho,hpr,hs,h=>qm (ms:=l) ho hpr hs h
 | .agg _ _ :: l,s,s',p,ho,hpr,hs,h=>qm (ms:=l) ho hpr hs h
 | .box _ _ _ [] :: l,s,s',p,ho,hpr,hs,h=>qm (ms:=l) ho hpr hs h
 | .box b _ _ (r::rows)::l,s,s',p,ho,hpr,hs,h=>by
  simp only [FX] at h
  split at h
  ·rename_i ty cs hb
   split at h
   ·rename_i cs' bx' hp hn
    have hs0:Sim ⟨s.sl,(b,some (.st ty cs))::s.bx,s.pr,s.ro,[]⟩ p:=by
     have:Sim ⟨s.sl,s.bx,s.pr,s.ro,[]⟩ p:=by rw [← ho]; exact hs
     exact this.lk (Wx hb)
    obtain ⟨p1,k1,k2,k3,k4,k5⟩:=tJ ⟨_,hb⟩ hs0 hn
    have hk:dH sc wr s ⟨s.sl,(b,some (.st ty cs'))::bx',s.pr,s.ro,s.oc⟩:=by
     refine ⟨rfl,rfl,fun t ht=>?_,fun _ _ _=>rfl,fun t _ ty2 cs2 h2=>?_⟩
     ·show kR _ (lkB ((b,some (.st ty cs'))::bx') t)
      rw [aq,if_neg (fun e=>by rw [e,hp] at ht; cases ht),k3 t ht]
      exact .refl _
     ·show ∃ cs3,lkB ((b,some (.st ty cs'))::bx') t = _∧_
      rw [aq]
      by_cases e:t=b
      ·rw [e,hb] at h2
       injection h2 with h2
       injection h2 with e1 e2
       subst e1 e2
       rw [if_pos e]
       exact ⟨_,rfl,k4⟩
      ·rw [if_neg e]
       exact ⟨cs2,k5 t _ h2,rfl⟩
    obtain ⟨p2,m1,m2,m3,m4⟩:=qm (ms:=l) (s:=⟨s.sl,(b,some (.st ty cs'))::bx',s.pr,s.ro,s.oc⟩) ho (hk.prOk hpr) (by rw [ho]; exact k2) h
    exact ⟨p2,k1.trans m1,m2,hk.trans m3,m4⟩
   ·cases h
  ·cases h
 | .row i R e k t::l,s,s',p,ho,hpr,hs,h=>by
  simp only [FX] at h
  split at h
  ·rename_i hv
   split at h
   ·rename_i hR hb hk hw hp
    have hk:=zd hk
    have hsi:=hs.sl i
    rw [hv] at hsi
    have hpt:=PO hsi
    have hpb:p.b i=none:=by
     have:=hs.bx i
     rw [hb] at this
     exact this (by rw [ho]; rfl)
    have hle:=RI (p:=p) i e k hpt hpb hk.2 hk.1
    have hs1:Sim ⟨rT s.sl (some i) (.row i),(i,some (.rw e k t [] []))::s.bx,s.pr,s.ro,s.oc⟩ (p.upd (some i) (.row i 0) (some (i,.rw e k (([] : List t.den).map (bJ t))))) :=
     oz hs (qt hb) (fun _=>⟨rfl,fun p pin hp=>by cases hp⟩) (.row i 0 e k t [] [] (by rw [aq,if_pos rfl]) rfl)
    have hkp:dH sc wr s ⟨(i,.row i)::s.sl,(i,some (.rw e k t [] []))::s.bx,s.pr,s.ro,s.oc⟩:=by
     refine ⟨rfl,rfl,fun t' ht'=>?_,fun j hj _=>?_,fun t' _ ty2 cs2 h2=>⟨cs2,by show lkB ((i,some (.rw e k t [] []))::s.bx) t' = _; rw [aq,if_neg (fun e=>by rw [e,hb] at h2; cases h2)]; exact h2,rfl⟩⟩
     ·show kR _ (lkB ((i,some (.rw e k t [] []))::s.bx) t')
      rw [aq,if_neg (fun e=>by rw [e,hp] at ht'; cases ht')]
      exact .refl _
     ·show lkV ((i,.row i)::s.sl) j = _
      rw [cO,if_neg (fun e=>by rw [e,hw] at hj; cases hj)]
    obtain ⟨p2,m1,m2,m3,m4⟩:=qm (ms:=l) (s:=⟨(i,.row i)::s.sl,(i,some (.rw e k t [] []))::s.bx,s.pr,s.ro,s.oc⟩) ho (hkp.prOk hpr) hs1 h
    exact ⟨p2,hle.trans m1,m2,hkp.trans m3,m4⟩
   ·cases h
  ·exact qm (ms:=l) ho hpr hs h
theorem nK (wr pr kb:List Nat) : ∀ (l:List (Nat×SV)) (seen:List Nat) (i:Nat),lkV (si wr pr kb l seen) i=if aA seen i=true then .junk else if aA wr i=true then .junk else if FU pr kb (lkV l i)=true then lkV l i else .junk
 | [],seen,i=>by simp [si,lkV,FU]
 | (j,v)::l,seen,i=>by
  simp only [si]
  have hc:=cO j v l i
  split
  ·rename_i hs
   rw [nK wr pr kb l seen i,hc]
   by_cases e:i=j
   ·subst e; simp [hs]
   ·simp [e]
  ·rename_i hs
   split
   ·rename_i hw
    rw [nK wr pr kb l (j::seen) i,hc,aZ]
    by_cases e:i=j
    ·subst e; simp [hw]
    ·simp [e]
   ·rename_i hw
    split
    ·rename_i hf
     rw [cO,nK wr pr kb l (j::seen) i,hc,aZ]
     by_cases e:i=j
     ·subst e; simp [hs,hw,hf]
     ·simp [e]
    ·rename_i hf
     rw [nK wr pr kb l (j::seen) i,hc,aZ]
     by_cases e:i=j
     ·subst e; simp [hf]
     ·simp [e]
theorem nL (pr:List Nat) : ∀ (l:List (Nat×Option aX)) (seen:List Nat) (t:Nat),lkB (sj pr l seen) t=if aA seen t=true then none else if aA pr t=true then Ik (lkB l t) else none
 | [],seen,t=>by simp [sj,lkB,Ik]
 | (j,b)::l,seen,t=>by
  simp only [sj]
  have hc:=aq j b l t
  split
  ·rename_i hs
   rw [nL pr l seen t,hc]
   by_cases e:t=j
   ·subst e; simp [hs]
   ·simp [e]
  ·rename_i hs
   split
   ·rename_i hw
    rw [aq,nL pr l (j::seen) t,hc,aZ]
    by_cases e:t=j
    ·subst e; simp [hs,hw]
    ·simp [e]
   ·rename_i hw
    rw [nL pr l (j::seen) t,hc,aZ]
    by_cases e:t=j
    ·subst e; simp [hw]
    ·simp [e]
theorem lc (mb:List Nat) : ∀ (l:List (Nat×Option aX)) (seen:List Nat) (t:Nat),aA (oA mb l seen) t=true↔aA seen t=false∧aA mb t=false∧∃ b,lkB l t=some b∧xR b=true
 | [],seen,t=>by simp [oA,aA,lkB]
 | (j,b)::l,seen,t=>by
  have hc:=aq j b l t
  simp only [oA]
  split
  ·rename_i hs
   rw [lc mb l seen t,hc]
   by_cases e:t=j
   ·subst e; simp [hs]
   ·simp [e]
  ·rename_i hs
   split
   ·rw [lc mb l (j::seen) t,hc,aZ]
    by_cases e:t=j
    ·subst e; simp
    ·simp [e]
   ·rename_i b'
    split
    ·rename_i h1 h2
     rw [aZ,Bool.or_eq_true,lc mb l (j::seen) t,hc,aZ]
     by_cases e:t=j
     ·subst e; simp [hs,h1,h2]
     ·simp [e]
    ·rename_i h12
     rw [lc mb l (j::seen) t,hc,aZ]
     by_cases e:t=j
     ·subst e
      simp only [decide_true,Bool.true_or,Bool.true_eq_false,false_and,if_true,Option.some.injEq,exists_eq_left',false_iff,not_and]
      intro _ h3 h4
      exact h12 h3 h4
     ·simp [e]
theorem uY (bx:List (Nat×Option aX)) : ∀ (l:List Nat) (r:List (Nat×Option aX)) (t:Nat),(aA l t=true→∀ ty cs,lkB bx t=some (.st ty cs)→lkB (Kz bx l r) t=some (.st ty (v7 cs)))∧((aA l t=false∨∀ ty cs,lkB bx t≠some (.st ty cs))→lkB (Kz bx l r) t=lkB r t)
 | [],r,t=>⟨fun h=>(by cases h),fun _=>rfl⟩
 | b::l,r,t=>by
  obtain ⟨h1,h2⟩:=uY bx l r t
  simp only [Kz]
  split
  ·rename_i ty cs hb
   refine ⟨fun hm ty2 cs2 h=>?_,fun h=>?_⟩
   ·rw [aq]
    by_cases e:t=b
    ·subst e
     rw [hb] at h
     injection h with h
     injection h with e1 e2
     subst e1 e2
     rw [if_pos rfl]
    ·rw [if_neg e]
     rw [aZ] at hm
     exact h1 (by simpa [e] using hm) ty2 cs2 h
   ·rw [aq]
    by_cases e:t=b
    ·subst e
     rcases h with h | h
     ·rw [aZ] at h; simp at h
     ·exact absurd hb (h ty cs)
    ·rw [if_neg e]
     rw [aZ] at h
     exact h2 (h.imp (by simp [e]) id)
  ·rename_i hb
   refine ⟨fun hm ty2 cs2 h=>?_,fun h=>?_⟩
   ·by_cases e:t=b
    ·subst e; exact absurd h (hb ty2 cs2)
    ·rw [aZ] at hm
     exact h1 (by simpa [e] using hm) ty2 cs2 h
   ·rw [aZ] at h
    by_cases e:t=b
    ·subst e; exact h2 (.inr fun ty cs=>hb ty cs)
    ·exact h2 (h.imp (by simp [e]) id)
theorem qf (bx:List (Nat×Option aX)) : ∀ (l:List Nat) (t:Nat),aA (sa bx l) t=true↔aA l t=true∧∃ ty cs,lkB bx t=some (.st ty cs)
 | [],t=>by simp [sa,aA]
 | b::l,t=>by
  have ih:=qf bx l t
  simp only [sa]
  split
  ·rename_i ty cs hb
   rw [aZ,aZ,Bool.or_eq_true,Bool.or_eq_true,ih]
   by_cases e:t=b
   ·subst e; simp [hb]
   ·simp [e]
  ·rename_i hb
   rw [ih,aZ,Bool.or_eq_true]
   by_cases e:t=b
   ·subst e
    refine ⟨fun h=>⟨.inl (by simp),h.2⟩,fun h=>?_⟩
    obtain ⟨ty,cs,h⟩:=h.2
    exact absurd h (hb ty cs)
   ·simp [e]
theorem Aj:∀ cs:List SV,(v7 cs).length=cs.length
 | []=>rfl
 | c::cs=>by simp [v7,Aj cs]
theorem G0:∀ (cs:List SV) (j:Nat) (c:SV),(v7 cs)[j]? = some c→c = .junk
 | [],j,c,h=>by simp [v7] at h
 | _ :: cs,0,c,h=>by simp [v7] at h; exact h.symm
 | _ :: cs,j + 1,c,h=>by simp [v7] at h; exact G0 cs j c h
theorem oE (mb sc:List Nat) : ∀ (l:List (Nat×Option aX)) (seen:List Nat),u7 mb sc l seen=true→∀ t ty cs,aA seen t=false→lkB l t=some (.st ty cs)→aA mb t=true∨aA sc t=true∨ct cs=true
 | [],seen,_,t,ty,cs,_,h=>by cases h
 | (j,b)::l,seen,hk,t,ty,cs,hs,h=>by
  simp only [u7] at hk
  rw [aq] at h
  split at hk
  ·rename_i hj
   have e : ¬ t=j:=fun e=>by rw [e,hj] at hs; cases hs
   rw [if_neg e] at h
   exact oE mb sc l seen hk t ty cs hs h
  ·split at hk
   ·split at hk
    ·rename_i hm
     by_cases e:t=j
     ·rw [if_pos e] at h
      injection h with h
      injection h with e1 e2
      subst e1 e2 e
      simpa [Bool.or_eq_true] using hm
     ·rw [if_neg e] at h
      exact oE mb sc l (j::seen) hk t ty cs (by rw [aZ]; simp [e,hs]) h
    ·cases hk
   ·rename_i hb
    by_cases e:t=j
    ·rw [if_pos e] at h
     exact absurd h (hb ty cs)
    ·rw [if_neg e] at h
     exact oE mb sc l (j::seen) hk t ty cs (by rw [aZ]; simp [e,hs]) h
theorem sy:∀ {a b:List Nat},Ho a b=true→∀ t,aA a t=true→aA b t=false
 | [],b,_,t,h=>by cases h
 | x::a,b,hd,t,h=>by
  simp only [Ho] at hd
  split at hd
  ·cases hd
  ·rename_i hx
   rw [aZ,Bool.or_eq_true] at h
   rcases h with h | h
   ·have:=zd h; subst this; exact hx
   ·exact sy hd t h
theorem qY {pr kb:List Nat} : ∀ {cs:List SV} (_:k9 pr kb cs=true) {j:Nat} {c:SV},cs[j]? = some c→FU pr kb c=true
 | [],_,j,c,h=>by simp at h
 | d::cs,h,j,c,hj=>by
  simp only [k9] at h
  split at h
  ·rename_i h1
   cases j with
   | zero=>simp at hj; subst hj; exact h1
   | succ j=>simp at hj; exact qY h hj
  ·cases h
theorem Q3 {B B':List (Nat×Option aX)} {pr kb:List Nat} (hrw:∀ t,aA pr t=true→∀ e k ty xs pins,lkB B t=some (.rw e k ty xs pins)→∃ e' k' ty' xs' pins',lkB B' t=some (.rw e' k' ty' xs' pins')∧xs'.length=xs.length)
  (hst:∀ t,aA kb t=true→∀ ty cs,lkB B t=some (.st ty cs)→∃ ty' cs',lkB B' t=some (.st ty' cs')) {v:SV} {q:PV} (h:bb B v q) : FU pr kb v=true→bb B' v q:=by
 induction h with
 | junk q=>exact fun _=>.junk q
 | d c y h=>exact fun _=>.d c y h
 | ag cs qs hl hr ih=>exact fun hs=>.ag cs qs hl fun j c q h1 h2=>ih j c q h1 h2 (qY hs h1)
 | tup cs qs hl hr ih=>exact fun hs=>.tup cs qs hl fun j c q h1 h2=>ih j c q h1 h2 (qY hs h1)
 | ptr t o ty cs hb=>exact fun hs=>by obtain ⟨ty',cs',h1⟩:=hst t hs ty cs hb; exact .ptr t o ty' cs' h1
 | row t n e k ty xs pins hb hn =>
  intro hs
  obtain ⟨e',k',ty',xs',pins',h1,h2⟩:=hrw t hs e k ty xs pins hb
  exact .row t n e' k' ty' xs' pins' h1 (h2.trans hn)
 | re t p o n i e k ty xs pins pin hb hn hp hi=>exact fun hs=>by cases hs
 | vw t lo hi n e k ty xs pins hb hn=>exact fun hs=>by cases hs
 | fe cs ds h hn=>exact fun _=>.fe cs ds h hn
 | fn f ps qs ps' qs' hl hr hl2 hr2 ih ih2 =>
  intro hs
  have hs:(match k9 pr kb ps with | true=>k9 pr kb qs | false=>false)=true:=hs
  split at hs
  ·rename_i h1
   exact .fn f ps qs ps' qs' hl (fun j c q h2 h3=>ih j c q h2 h3 (qY h1 h2)) hl2 (fun j c q h2 h3=>ih2 j c q h2 h3 (qY hs h2))
  ·cases hs
mutual
theorem TN {pr pr' kb:List Nat} (h:∀ t,aA pr t=true→aA pr' t=true) : ∀ v:SV,FU pr kb v=true→la pr' v=true
 | .junk,_=>rfl
 | .d _,_=>rfl
 | .fe _,_=>rfl
 | .ptr _ _,_=>rfl
 | .row t,hs=>h t hs
 | .re _ _ _,hs=>by cases hs
 | .vw _ _ _,hs=>by cases hs
 | .ag cs,hs=>by simp only [la]; exact xN h cs hs
 | .tup cs,hs=>by simp only [la]; exact xN h cs hs
 | .fn f ps qs,hs=>by
  have hs:(match k9 pr kb ps with | true=>k9 pr kb qs | false=>false)=true:=hs
  split at hs
  ·rename_i h1
   simp only [la,Bool.and_eq_true]
   exact ⟨xN h ps h1,xN h qs hs⟩
  ·cases hs
theorem xN {pr pr' kb:List Nat} (h:∀ t,aA pr t=true→aA pr' t=true) : ∀ cs:List SV,k9 pr kb cs=true→ec pr' cs=true
 | [],_=>rfl
 | c::cs,hs=>by
  simp only [k9] at hs
  split at hs
  ·rename_i h1
   simp only [ec,Bool.and_eq_true]
   exact ⟨TN h c h1,xN h cs hs⟩
  ·cases hs
end
theorem pe {pr:List Nat} : ∀ {cs:List SV} (_:ec pr cs=true) {j:Nat} {c:SV},cs[j]? = some c→la pr c=true
 | [],_,j,c,h=>by simp at h
 | d::cs,h,j,c,hj=>by
  simp only [ec,Bool.and_eq_true] at h
  cases j with
  | zero=>simp at hj; subst hj; exact h.1
  | succ j=>simp at hj; exact pe h.2 hj
theorem tC {pr kb:List Nat} : ∀ {cs:List SV},(∀ (j:Nat) c,cs[j]? = some c→FU pr kb c=true)→k9 pr kb cs=true
 | [],_=>rfl
 | c::cs,h=>by
  simp only [k9]
  rw [h 0 c rfl]
  exact tC fun j d hj=>h (j + 1) d (by simpa using hj)
theorem Nh {B:List (Nat×Option aX)} {pr pr' kb:List Nat} (h:∀ t,aA pr t=true→aA pr' t=true) (hst:∀ t ty cs,lkB B t=some (.st ty cs)→aA kb t=true) {v:SV} {q:PV} (hv:bb B v q) : la pr v=true→FU pr' kb v=true:=by
 induction hv with
 | junk q=>exact fun _=>rfl
 | d c y h=>exact fun _=>rfl
 | ag cs qs hl hr ih =>
  refine fun hs=>tC fun j c hj=>?_
  have hlt:j < qs.length:=by rw [← hl]; exact (zg.1 hj).1
  exact ih j c qs[j] hj (by simp [hlt]) (pe hs hj)
 | tup cs qs hl hr ih =>
  refine fun hs=>tC fun j c hj=>?_
  have hlt:j < qs.length:=by rw [← hl]; exact (zg.1 hj).1
  exact ih j c qs[j] hj (by simp [hlt]) (pe hs hj)
 | ptr t o ty cs hb=>exact fun _=>hst t ty cs hb
 | row t n e k ty xs pins hb hn=>exact fun hs=>h t hs
 | re t p o n i e k ty xs pins pin hb hn hp hi=>exact fun hs=>by cases hs
 | vw t lo hi n e k ty xs pins hb hn=>exact fun hs=>by cases hs
 | fe cs ds h hn=>exact fun _=>rfl
 | fn f ps qs ps' qs' hl hr hl2 hr2 ih ih2 =>
  intro hs
  simp only [la,Bool.and_eq_true] at hs
  have k1:k9 pr' kb ps=true:=tC fun j c hj=>by
   have hlt:j < ps'.length:=by rw [← hl]; exact (zg.1 hj).1
   exact ih j c ps'[j] hj (by simp [hlt]) (pe hs.1 hj)
  have k2:k9 pr' kb qs=true:=tC fun j c hj=>by
   have hlt:j < qs'.length:=by rw [← hl2]; exact (zg.1 hj).1
   exact ih2 j c qs'[j] hj (by simp [hlt]) (pe hs.2 hj)
  show (match k9 pr' kb ps with | true=>k9 pr' kb qs | false=>false)=true
  rw [k1]
  exact k2
theorem Zp {B:List (Nat×Option aX)} {c:SD} {q:PV} (h:bb B (.d c) q) : ∃ y,q = .d y∧Kg c y:=by
 cases h with
 | d _ y h=>exact ⟨y,rfl,h⟩
theorem XI {B:List (Nat×Option aX)} {t:Nat} {q:PV} (h:bb B (.row t) q) : ∃ n,q = .row t n:=by
 cases h with
 | row _ n=>exact ⟨n,rfl⟩
def me (bx:List (Nat×Option aX)) : Prop:=∀ t e k ty xs pins,lkB bx t=some (.rw e k ty xs pins)→pins = []
theorem me.cons_rw {bx:List (Nat×Option aX)} (h:me bx) {R e k:Nat} {t:Ty} {xs:List t.den} : me ((R,some (.rw e k t xs []))::bx):=by
 intro t' e' k' ty' xs' pins' h1
 rw [aq] at h1
 split at h1
 ·injection h1 with h1
  injection h1 with q1 q2 q3 q4 q5
  exact q5.symm
 ·exact h t' e' k' ty' xs' pins' h1
theorem me.cons_st {bx:List (Nat×Option aX)} (h:me bx) {R:Nat} {ty:TypeId} {cs:List SV} : me ((R,some (.st ty cs))::bx):=by
 intro t' e' k' ty' xs' pins' h1
 rw [aq] at h1
 split at h1
 ·cases h1
 ·exact h t' e' k' ty' xs' pins' h1
def Gz (bx:List (Nat×Option aX)) (p:PS) : Prop:=∀ t b,lkB bx t=some b→mf bx true (some b) (p.b t)
theorem HF {bx:List (Nat×Option aX)} {p:PS} (hn:me bx) (hb:Gz bx p) {R e k:Nat} {t:Ty} {xs:List t.den} (hR:p.b R=some (.rw e k (xs.map (bJ t)))) : BLe bx ((R,some (.rw e k t xs []))::bx):=by
 refine ⟨fun t' e2 k2 ty2 xs2 pins2 h=>?_,fun t' ty2 cs2 h=>?_⟩
 ·rw [aq]
  by_cases e1:t' = R
  ·subst e1
   rw [if_pos rfl]
   have h1:=(hb t' _ h).1
   rw [hR] at h1
   injection h1 with h1
   injection h1 with q1 q2 q3
   refine ⟨e,k,t,xs,[],rfl,by simpa using congrArg List.length q3,fun p pin hp=>?_⟩
   rw [hn _ _ _ _ _ _ h] at hp
   cases hp
  ·rw [if_neg e1]; exact ⟨_,_,_,_,_,h,rfl,fun p pin hp=>⟨pin,hp,rfl⟩⟩
 ·rw [aq]
  by_cases e1:t' = R
  ·subst e1
   obtain ⟨qs,h1,_⟩:=hb t' _ h
   rw [hR] at h1
   cases h1
  ·rw [if_neg e1]; exact ⟨_,_,h⟩
theorem Vc {bx:List (Nat×Option aX)} {p:PS} (hb:Gz bx p) {b:Nat} {ty:TypeId} {cs:List SV} {qs:List PV} (hR:p.b b=some (.st ty qs)) : BLe bx ((b,some (.st ty cs))::bx):=by
 refine ⟨fun t' e2 k2 ty2 xs2 pins2 h=>?_,fun t' ty2 cs2 h=>?_⟩
 ·rw [aq]
  by_cases e1:t' = b
  ·subst e1
   have h1:=(hb t' _ h).1
   rw [hR] at h1
   cases h1
  ·rw [if_neg e1]; exact ⟨_,_,_,_,_,h,rfl,fun p pin hp=>⟨pin,hp,rfl⟩⟩
 ·rw [aq]
  by_cases e1:t' = b
  ·rw [if_pos e1]; exact ⟨_,_,rfl⟩
  ·rw [if_neg e1]; exact ⟨_,_,h⟩
theorem Gz.cons {bx:List (Nat×Option aX)} {p:PS} (h:Gz bx p) {R:Nat} {b:aX} (hB:BLe bx ((R,some b)::bx)) (hb:mf ((R,some b)::bx) true (some b) (p.b R)) : Gz ((R,some b)::bx) p:=by
 intro t b' h1
 rw [aq] at h1
 by_cases e:t=R
 ·subst e
  rw [if_pos rfl] at h1
  injection h1 with h1
  subst h1
  exact hb
 ·rw [if_neg e] at h1
  exact (h t b' h1).mono hB
theorem Wy {t:Ty} {xs ys:List t.den} (h:xs.map (bJ t)=ys.map (bJ t)) : xs.length=ys.length:=by
 have h9:=congrArg List.length h
 rw [List.length_map,List.length_map] at h9
 exact h9
theorem XS {t t':Ty} {xs:List t.den} {ys:List t'.den} {c:SD} (h:c.as (.sl t)=some xs) (hd:c.toD = .sl (ys.map (bJ t'))) : xs.map (bJ t)=ys.map (bJ t'):=by
 have h1:=SD.as_ok h
 rw [hd] at h1
 have h2 : [D.sl (xs.map (bJ t))] = [D.sl (ys.map (bJ t'))]:=h1
 injection h2 with h2
 injection h2
theorem tH {s':SS} {p:PS} (hs':gU s' p) {rows:List (Nat×Nat×Nat×Nat×Ty)} : ∀ {cs:List SV} {qs:List PV} {ds0 ds:List SD} {j:Nat} {bx bx':List (Nat×Option aX)} {vs:List SV},bS s'.bx cs qs→cellsOf s' rows j cs=some ds0→ds0.map SD.toD=ds.map SD.toD→(∀ c∈ds,c≠.nl) →
  me bx→Gz bx p→fT rows j ds bx=some (vs,bx')→me bx'∧Gz bx' p∧BLe bx bx'∧bS bx' vs qs∧(∀ t,(∀ r∈rows,r.2.1≠t)→lkB bx' t=lkB bx t)
 | [],qs,ds0,ds,j,bx,bx',vs,hc,h0,hd,_,hn,hb,h=>by
  rcases hc.cases with ⟨_,rfl⟩ | ⟨_,_,_,_,h1,_⟩
  ·injection h0 with h0
   subst h0
   have:ds = []:=by simpa using hd.symm
   subst this
   injection h with h
   injection h with e1 e2
   subst e1 e2
   exact ⟨hn,hb,.refl _,.nil,fun _ _=>rfl⟩
  ·cases h1
 | c::cs,qs,ds0,ds,j,bx,bx',vs,hc,h0,hd,hnl,hn,hb,h=>by
  rcases hc.cases with ⟨h1,_⟩ | ⟨c',q,cs',qs',h1,rfl,hq,hcs⟩
  ·cases h1
  injection h1 with e1 e2
  subst e1 e2
  have findR_mem:∀ {rows:List (Nat×Nat×Nat×Nat×Ty)} {j R e k:Nat} {t:Ty},pu rows j=some (R,e,k,t)→∃ r∈rows,r.2.1=R:=by
   intro rows
   induction rows with
   | nil=>intro j R e k t h; cases h
   | cons r rows ih =>
    intro j R e k t h
    obtain ⟨j',R',e',k',t'⟩:=r
    simp only [pu] at h
    split at h
    ·injection h with h
     injection h with h _
     exact ⟨_,List.mem_cons_self,h⟩
    ·obtain ⟨r,h1,h2⟩:=ih h
     exact ⟨r,List.mem_cons_of_mem _ h1,h2⟩
  simp only [cellsOf] at h0
  split at h0
  ·rename_i R e k t hf
   split at h0
   ·rename_i R' e' k' t' xs pins hbR
    split at h0
    ·rename_i ht hsame
     have k1:=(am h0).1
     replace h0:=(am h0).2
     have k2:=(am h0).1
     replace h0:=(am h0).2
     have k3:=(am h0).1
     replace h0:=(am h0).2
     replace k1:R' = R:=by simpa [cQ] using k1
     replace k2:e' = e:=by simpa using k2
     replace k3:k' = k:=by simpa using k3
     subst k1 k2 k3 ht
     split at h0
     ·rename_i r hr
      injection h0 with h0
      subst h0
      cases ds with
      | nil=>simp at hd
      | cons d ds =>
       simp only [List.map_cons,List.cons.injEq] at hd
       obtain ⟨hd1,hd2⟩:=hd
       simp only [fT,hf] at h
       split at h
       ·rename_i xs' vs' bx1 hxs hp
        injection h with h
        injection h with e1 e2
        subst e1 e2
        obtain ⟨m1,m2,m3,m4,m5⟩:=tH hs' hcs hr hd2 (fun c hc=>hnl c (List.mem_cons_of_mem _ hc)) hn hb hp
        have hpR:p.b R' = some (.rw e' k' (xs.map (bJ t'))):=(hs'.bx R' _ hbR).1
        have hx:xs'.map (bJ t')=xs.map (bJ t'):=XS hxs (by rw [← hd1]; rfl)
        have hpR':p.b R' = some (.rw e' k' (xs'.map (bJ t'))):=by rw [hx]; exact hpR
        have hB:=HF m1 m2 hpR'
        refine ⟨m1.cons_rw,m2.cons hB ⟨hpR',fun p pin hp=>by cases hp⟩,m3.trans hB,.cons ?_ (m4.mono hB),fun t2 ht2=>?_⟩
        ·cases hq with
         | row _ n e2 k2 ty2 xs2 pins2 hb2 hn2 =>
          rw [hbR] at hb2
          injection hb2 with hb2
          injection hb2 with q1 q2 q3 q4 q5
          subst q3
          have q4:=eq_of_heq q4
          subst q4
          refine .row R' n e' k' t' xs' [] (by rw [aq,if_pos rfl]) ?_
          rw [← hn2]
          exact Wy hx
        ·rw [aq,if_neg (fun e=>by
          obtain ⟨r,h1,h2⟩:=findR_mem hf
          exact ht2 r h1 (h2.trans e.symm))]
         exact m5 t2 ht2
       ·cases h
     ·cases h0
    ·cases h0
   ·cases h0
  ·rename_i hf
   split at h0
   ·rename_i x r hr
    injection h0 with h0
    subst h0
    cases ds with
    | nil=>simp at hd
    | cons d ds =>
     simp only [List.map_cons,List.cons.injEq] at hd
     obtain ⟨hd1,hd2⟩:=hd
     simp only [fT,hf] at h
     split at h
     ·rename_i vs' bx1 hp
      injection h with h
      injection h with e1 e2
      subst e1 e2
      obtain ⟨m1,m2,m3,m4,m5⟩:=tH hs' hcs hr hd2 (fun c hc=>hnl c (List.mem_cons_of_mem _ hc)) hn hb hp
      refine ⟨m1,m2,m3,.cons ?_ m4,m5⟩
      cases hq with
      | d _ y hy =>
       refine .d d y ?_
       have h1:=hy.nrm
       rw [hd1] at h1
       have h2:=hnl d List.mem_cons_self
       cases d <;> first | exact h1 | exact absurd rfl h2
     ·cases h
   ·cases h0
theorem WO {t:Ty} {c:SD} {x:t.den} (h:c.as t=some x) : qe t x≠.nl:=by
 cases t with
 | st i=>simp [SD.as] at h
 | _=>intro e; cases e
theorem KV {t:Nat} : ∀ {rows:List (Nat×Nat×Nat×Nat×Ty)} {r:Nat×Nat×Nat×Nat×Ty},r∈rows→r.2.1=t→aA (rows.map (·.2.1)) t=true
 | [],r,h,_=>by cases h
 | a::rows,r,h,e=>by
  rw [List.map_cons,aZ,Bool.or_eq_true]
  rcases List.mem_cons.1 h with rfl | h
  ·exact .inl (by simp [e])
  ·exact .inr (KV h e)
theorem Qa {s':SS} {p:PS} (hs':gU s' p) {m:Mod} {x:m.den} {c c':SS} (hg:Ao s' m=some x) (hc:gU c p) (hn:me c.bx) (h:rb m x c=some c') :
  gU c' p∧me c'.bx∧BLe c.bx c'.bx∧(∀ t,aA (bw [m]) t=false→lkB c'.bx t=lkB c.bx t):=by
 cases m with
 | leaf i t =>
  simp only [rb] at h
  injection h with h
  subst h
  refine ⟨⟨fun j=>?_,hc.bx⟩,hn,.refl _,fun _ _=>rfl⟩
  show bb c.bx (lkV ((i,.d (qe t x))::c.sl) j) (p.t j)
  rw [cO]
  split
  ·rename_i e
   subst e
   have h1:=hs'.sl j
   have hg:(match lkV s'.sl j with | .d c=>c.as t | _=>none)=some (show t.den from x):=hg
   split at hg
   ·rename_i c0 hc0
    rw [hc0] at h1
    obtain ⟨y,hp,hy⟩:=Zp h1
    rw [hp]
    refine .d _ y ?_
    have h2:=hy.nrm
    rw [← CL hg] at h2
    have h3:=WO hg
    revert h2 h3
    generalize qe t x=z
    intro h2 h3
    cases z <;> first | exact h2 | exact absurd rfl h3
   ·exact dI hg
  ·exact hc.sl j
 | agg i n =>
  simp only [rb] at h
  injection h with h
  subst h
  refine ⟨⟨fun j=>?_,hc.bx⟩,hn,.refl _,fun _ _=>rfl⟩
  show bb c.bx (lkV ((i,.ag (Af (stC n x)))::c.sl) j) (p.t j)
  rw [cO]
  split
  ·rename_i e
   subst e
   have h1:=hs'.sl j
   simp only [Ao] at hg
   split at hg
   ·rename_i cs hcs
    split at hg
    ·rename_i ds hds
     rw [hcs] at h1
     obtain ⟨qs,h2,h3⟩:=CY h1
     rw [h2]
     have h4:=uZ h3 hds
     have h5:=zR hg
     have hlen:qs.length=(stC n x).length:=by
      have a:=zW hds
      have b:=h3.len
      have c:=congrArg List.length h5
      have d:=congrArg List.length (tA n x)
      simp only [List.length_map] at c d
      omega
     refine .ag _ qs (by rw [IT,List.length_map]; exact hlen.symm) (fun k v q k1 k2=>?_)
     rw [IT,List.getElem?_map,zm] at k1
     obtain ⟨z,k3,rfl⟩:=k1
     obtain ⟨y,k4,k5⟩:=yc qs _ h4 |>.2 k (z.toD) (by
      have h7:(stC n x).map SD.toD=stD n x:=tA n x
      rw [h5,← h7,List.getElem?_map,k3]
      rfl)
     rw [k2] at k4
     injection k4 with k4
     subst k4
     have h6:=wB n x z (List.mem_of_getElem? k3)
     refine .d z y ?_
     cases z <;> first | exact k5.symm | exact absurd rfl h6
    ·exact dI hg
   ·exact dI hg
  ·exact hc.sl j
 | row i R e k t =>
  simp only [rb] at h
  injection h with h
  subst h
  simp only [Ao] at hg
  split at hg
  ·rename_i R' e' k' t' xs pins hv hb
   split at hg
   ·rename_i ht hsame
    have k1:=(am hg).1
    replace hg:=(am hg).2
    have k2:=(am hg).1
    replace hg:=(am hg).2
    have k3:=(am hg).1
    replace hg:=(am hg).2
    replace k1:R' = R:=by simpa [cQ] using k1
    replace k2:e' = e:=by simpa using k2
    replace k3:k' = k:=by simpa using k3
    subst k1 k2 k3 ht
    injection hg with hg
    subst hg
    have hpR:p.b R' = some (.rw e' k' (xs.map (bJ t'))):=(hs'.bx R' _ hb).1
    have hB:=HF hn hc.bx hpR
    refine ⟨⟨fun j=>?_,Gz.cons hc.bx hB ⟨hpR,fun p pin hp=>by cases hp⟩⟩,hn.cons_rw,hB,fun t2 ht2=>?_⟩
    ·show bb _ (lkV ((i,.row R')::c.sl) j) (p.t j)
     rw [cO]
     split
     ·rename_i e
      subst e
      have h1:=hs'.sl j
      rw [hv] at h1
      obtain ⟨n,h2⟩:=XI h1
      rw [h2] at h1 ⊢
      cases h1 with
      | row _ _ e2 k2 ty2 xs2 pins2 hb2 hn2 =>
       rw [hb] at hb2
       injection hb2 with hb2
       injection hb2 with q1 q2 q3 q4 q5
       subst q3
       have q4:=eq_of_heq q4
       subst q4
       exact .row R' n e' k' t' xs [] (by rw [aq,if_pos rfl]; rfl) hn2
     ·exact (hc.sl j).mono hB
    ·show lkB ((R',_)::c.bx) t2 = _
     rw [aq,if_neg (fun e=>by subst e; simp [bw,aZ] at ht2)]
   ·exact dI hg
  ·exact dI hg
 | box b ty n rows =>
  simp only [rb] at h
  split at h
  ·rename_i vs bx hp
   injection h with h
   subst h
   simp only [Ao] at hg
   split at hg
   ·rename_i ty' cs hb
    have k1:=(am hg).1
    replace hg:=(am hg).2
    replace k1:ty' = ty:=by simpa using k1
    subst k1
    replace hg:=(am hg).2
    split at hg
    ·rename_i ds hds
     obtain ⟨qs,h1,h2⟩:=hs'.bx b _ hb
     have h3:=zR hg
     obtain ⟨m1,m2,m3,m4,m5⟩:=tH hs' h2 hds (h3.trans (tA n x).symm) (wB n x) hn hc.bx hp
     have hB:=Vc (cs:=vs) m2 h1
     refine ⟨⟨fun j=>((hc.sl j).mono m3).mono hB,Gz.cons m2 hB ⟨qs,h1,m4.mono hB⟩⟩,m1.cons_st,m3.trans hB,fun t2 ht2=>?_⟩
     simp only [bw,aZ,de,Bool.or_eq_false_iff] at ht2
     show lkB ((b,_)::bx) t2 = _
     rw [aq,if_neg (fun e=>by have:=ht2.1; simp [e] at this)]
     refine m5 t2 fun r hr e=>?_
     have:=KV hr e
     rw [this] at ht2
     cases ht2.2.1
    ·exact dI hg
   ·exact dI hg
  ·cases h
section
variable {sc wr:List Nat}
theorem jT (m:Mod) (l:List Mod) (t:Nat) : aA (bw (m::l)) t=(aA (bw [m]) t||aA (bw l) t):=by
 cases m with
 | leaf i t'=>simp [bw,aA]
 | agg i n=>simp [bw,aA]
 | row i R e k t'=>simp [bw,aZ,aA]
 | box b ty n rows=>simp [bw,aZ,de,aA,Bool.or_assoc]
def wR:Mod→Option Nat
 | .leaf i _=>some i
 | .agg i _=>some i
 | .row i _ _ _ _=>some i
 | .box ..=>none
theorem P9 {m:Mod} {x:m.den} {l:List (Nat×SV)} {bx:List (Nat×Option aX)} {pr oc:List Nat} {ro:Bool} {s2:SS} (h:rb m x ⟨l,bx,pr,ro,oc⟩=some s2) :
  ∃ X bx2,s2=⟨X++l,bx2,pr,ro,oc⟩∧(∀ l',rb m x ⟨l',bx,pr,ro,oc⟩=some ⟨X++l',bx2,pr,ro,oc⟩)∧∀ i,aA (X.map (·.1)) i=true→wR m=some i:=by
 cases m with
 | leaf i t=>simp only [rb] at h ⊢; injection h with h; subst h; exact ⟨[(i,.d (qe t x))],bx,rfl,fun _=>rfl,fun j hj=>by simp [aZ,aA] at hj; simp [wR,hj]⟩
 | agg i n=>simp only [rb] at h ⊢; injection h with h; subst h; exact ⟨[(i,.ag (Af (stC n x)))],bx,rfl,fun _=>rfl,fun j hj=>by simp [aZ,aA] at hj; simp [wR,hj]⟩
 | row i R e k t=>simp only [rb] at h ⊢; injection h with h; subst h; exact ⟨[(i,.row R)],_,rfl,fun _=>rfl,fun j hj=>by simp [aZ,aA] at hj; simp [wR,hj]⟩
 | box b ty n rows =>
  simp only [rb] at h ⊢
  split at h
  ·rename_i vs bx' hp
   injection h with h
   subst h
   exact ⟨[],_,rfl,fun _=>rfl,fun j hj=>by cases hj⟩
  ·cases h
theorem KL:∀ {ms:List Mod} {st:jS ms} {l:List (Nat×SV)} {bx:List (Nat×Option aX)} {pr oc:List Nat} {ro:Bool} {s2:SS},jM ms st ⟨l,bx,pr,ro,oc⟩=some s2 →
  ∃ X bx2,s2=⟨X++l,bx2,pr,ro,oc⟩∧(∀ l',jM ms st ⟨l',bx,pr,ro,oc⟩=some ⟨X++l',bx2,pr,ro,oc⟩)∧∀ i,aA (X.map (·.1)) i=true→∃ m∈ms,wR m=some i
 | [],st,l,bx,pr,oc,ro,s2,h=>by injection h with h; subst h; exact ⟨[],bx,rfl,fun _=>rfl,fun j hj=>by cases hj⟩
 | [m],st,l,bx,pr,oc,ro,s2,h=>by
  obtain ⟨X,bx2,h1,h2,h3⟩:=P9 (show rb m st _ = some s2 from h)
  exact ⟨X,bx2,h1,h2,fun i hi=>⟨m,List.mem_cons_self,h3 i hi⟩⟩
 | m::m' :: ms,st,l,bx,pr,oc,ro,s2,h=>by
  have h:(match jM (m' :: ms) st.2 ⟨l,bx,pr,ro,oc⟩ with | some s=>rb m st.1 s | none=>none)=some s2:=h
  split at h
  ·rename_i s1 h1
   obtain ⟨X,bx2,rfl,k2,k3⟩:=KL h1
   obtain ⟨Y,bx3,rfl,m2,m3⟩:=P9 h
   refine ⟨Y++X,bx3,by simp,fun l'=>?_,fun i hi=>?_⟩
   ·show (match jM (m' :: ms) st.2 ⟨l',bx,pr,ro,oc⟩ with | some s=>rb m st.1 s | none=>none) = _
    rw [k2 l']
    simp only
    rw [m2]
    simp
   ·rw [List.map_append,de,Bool.or_eq_true] at hi
    rcases hi with hi | hi
    ·exact ⟨m,List.mem_cons_self,m3 i hi⟩
    ·obtain ⟨m0,h4,h5⟩:=k3 i hi
     exact ⟨m0,List.mem_cons_of_mem _ h4,h5⟩
  ·cases h
theorem IV:∀ (X l:List (Nat×SV)) (i:Nat),lkV (X++l) i=if aA (X.map (·.1)) i=true then lkV X i else lkV l i
 | [],l,i=>by simp [aA]
 | (j,v)::X,l,i=>by
  simp only [List.cons_append,cO,IV X l i,List.map_cons,aZ]
  by_cases e:i=j
  ·simp [e]
  ·simp [e]
theorem Qx {s':SS} {m:Mod} {x:m.den} (hg:Ao s' m=some x) {t:Nat} (ht:aA (bw [m]) t=true) {ty:TypeId} {cs:List SV} (hb:lkB s'.bx t=some (.st ty cs)) : ∃ ty n rows,m = .box t ty n rows:=by
 cases m with
 | leaf i t'=>cases ht
 | agg i n=>cases ht
 | row i R e k t' =>
  simp only [bw,aZ,aA,Bool.or_false,decide_eq_true_eq] at ht
  subst ht
  have hg:(match lkV s'.sl i,lkB s'.bx t with | .row R',some (.rw e' k' t2 xs _)=>(match Ty.same t2 t' with | some ⟨h⟩=>chk (Nat.beq R' t) (chk (e' == e) (chk (k' == k) (some (yp h xs)))) | none=>none) | _,_=>none)=some (show List t'.den from x):=hg
  rw [hb] at hg
  split at hg
  ·rename_i h2; cases h2
  ·cases hg
 | box b ty' n rows =>
  simp only [bw,aZ,de,aA,Bool.or_false,Bool.or_eq_true,decide_eq_true_eq] at ht
  rcases ht with ht | ht
  ·subst ht; exact ⟨_,_,_,rfl⟩
  ·exfalso
   simp only [Ao] at hg
   split at hg
   ·have h1:=(am (am hg).2).1
    have key:∀ rows:List (Nat×Nat×Nat×Nat×Ty),aA (rows.map (·.2.1)) t=true→(rows.all fun r=>Yd (lkB s'.bx r.2.1))=true→Yd (lkB s'.bx t)=true:=by
     intro rows
     induction rows with
     | nil=>intro h; cases h
     | cons r rows ih =>
      intro h h2
      rw [List.all_cons,Bool.and_eq_true] at h2
      rw [List.map_cons,aZ,Bool.or_eq_true] at h
      rcases h with h | h
      ·have:=zd h
       rw [this]; exact h2.1
      ·exact ih h h2.2
    have h2:=key rows ht h1
    rw [hb] at h2
    cases h2
   ·exact dI hg
theorem KP {s':SS} {p:PS} (hs':gU s' p) : ∀ {ms:List Mod} {st:jS ms} {c c':SS},sX s' ms=some st→gU c p→me c.bx→jM ms st c=some c' →
  gU c' p∧me c'.bx∧BLe c.bx c'.bx∧(∀ t,aA (bw ms) t=false→lkB c'.bx t=lkB c.bx t)∧∀ t,aA (bw ms) t=true→∀ ty cs,lkB s'.bx t=some (.st ty cs)→∃ ty' cs',lkB c'.bx t=some (.st ty' cs')
 | [],st,c,c',_,hc,hn,h=>by injection h with h; subst h; exact ⟨hc,hn,.refl _,fun _ _=>rfl,fun t ht=>by cases ht⟩
 | [m],st,c,c',hp,hc,hn,h=>by
  have hg:Ao s' m=some st:=hp
  have h:rb m st c=some c':=h
  obtain ⟨h1,h2,h3,h4⟩:=Qa hs' hg hc hn h
  refine ⟨h1,h2,h3,h4,fun t ht ty cs hb=>?_⟩
  obtain ⟨ty',n,rows,rfl⟩:=Qx hg ht hb
  simp only [rb] at h
  split at h
  ·injection h with h
   subst h
   exact ⟨_,_,by show lkB ((t,_) :: _) t = _; rw [aq,if_pos rfl]⟩
  ·cases h
 | m::m' :: ms,st,c,c',hp,hc,hn,h=>by
  have hp:Option.bind (Ao s' m) (fun x=>Option.bind (sX s' (m' :: ms)) fun xs=>some (x,xs))=some st:=hp
  obtain ⟨x,hg,hp2⟩:=cG hp
  obtain ⟨xs,hp3,he⟩:=cG hp2
  injection he with he
  subst he
  have h:(match jM (m' :: ms) xs c with | some s=>rb m x s | none=>none)=some c':=h
  split at h
  ·rename_i c1 h1
   obtain ⟨k1,k2,k3,k4,k5⟩:=KP hs' hp3 hc hn h1
   obtain ⟨n1,n2,n3,n4⟩:=Qa hs' hg k1 k2 h
   refine ⟨n1,n2,k3.trans n3,fun t ht=>?_,fun t ht ty cs hb=>?_⟩
   ·rw [jT,Bool.or_eq_false_iff] at ht
    rw [n4 t ht.1,k4 t ht.2]
   ·rw [jT,Bool.or_eq_true] at ht
    rcases ht with ht | ht
    ·obtain ⟨ty',n,rows,rfl⟩:=Qx hg ht hb
     simp only [rb] at h
     split at h
     ·injection h with h
      subst h
      exact ⟨_,_,by show lkB ((t,_) :: _) t = _; rw [aq,if_pos rfl]⟩
     ·cases h
    ·obtain ⟨ty',cs',h5⟩:=k5 t ht ty cs hb
     exact n3.st t ty' cs' h5
  ·cases h
theorem tN {s:SS} : ∀ {ms:List Mod},pj wr s ms=true→(∀ m∈ms,∀ i,wR m=some i→aA wr i=true∨∃ R,aA (bw ms) R=true∧lkV s.sl i = .row R)∧∀ t,aA (bw ms) t=true→aA s.pr t=false
 | [],_=>⟨fun m hm=>(by cases hm),fun t ht=>(by cases ht)⟩
 | m::ms,h=>by
  have key:pj wr s ms=true∧(∀ i,wR m=some i→aA wr i=true∨∃ R,aA (bw [m]) R=true∧lkV s.sl i = .row R)∧∀ t,aA (bw [m]) t=true→aA s.pr t=false:=by
   cases m with
   | leaf i t =>
    simp only [pj] at h
    split at h
    ·rename_i hw; exact ⟨h,fun j hj=>by injection hj with hj; subst hj; exact .inl hw,fun t ht=>by cases ht⟩
    ·cases h
   | agg i n =>
    simp only [pj] at h
    split at h
    ·rename_i hw; exact ⟨h,fun j hj=>by injection hj with hj; subst hj; exact .inl hw,fun t ht=>by cases ht⟩
    ·cases h
   | row i R e k t =>
    simp only [pj] at h
    split at h
    ·rename_i hp hw
     refine ⟨h,fun j hj=>?_,fun t ht=>?_⟩
     ·injection hj with hj
      subst hj
      rw [Bool.or_eq_true] at hw
      rcases hw with hw | hw
      ·exact .inl hw
      ·unfold Xt at hw
       split at hw
       ·rename_i R' hv
        rw [cQ] at hw
        have:=zd hw
        subst this
        exact .inr ⟨R',by simp [bw,aZ],hv⟩
       ·cases hw
     ·simp only [bw,aZ,aA,Bool.or_false,decide_eq_true_eq] at ht
      subst ht; exact hp
    ·cases h
   | box b ty n rows =>
    simp only [pj] at h
    split at h
    ·rename_i hp hr
     refine ⟨h,fun j hj=>(by cases hj),fun t ht=>?_⟩
     simp only [bw,aZ,de,aA,Bool.or_false,Bool.or_eq_true,decide_eq_true_eq] at ht
     rcases ht with ht | ht
     ·subst ht; exact hp
     ·clear h
      induction rows with
      | nil=>cases ht
      | cons r rows ih =>
       rw [List.all_cons,Bool.and_eq_true] at hr
       rw [List.map_cons,aZ,Bool.or_eq_true] at ht
       rcases ht with ht | ht
       ·have:=zd ht
        rw [this]; simpa using hr.1
       ·exact ih hr.2 ht
    ·cases h
  obtain ⟨h1,h2,h3⟩:=key
  obtain ⟨h4,h5⟩:=tN h1
  refine ⟨fun m0 hm i hi=>?_,fun t ht=>?_⟩
  ·rcases List.mem_cons.1 hm with rfl | hm
   ·rcases h2 i hi with h | ⟨R,h6,h7⟩
    ·exact .inl h
    ·exact .inr ⟨R,by rw [jT,h6]; rfl,h7⟩
   ·rcases h4 m0 hm i hi with h | ⟨R,h6,h7⟩
    ·exact .inl h
    ·exact .inr ⟨R,by rw [jT,h6]; simp,h7⟩
  ·rw [jT,Bool.or_eq_true] at ht
   exact ht.elim (h3 t) (h5 t)
theorem mF:∀ {cs:List SV} (_:ct cs=true) {j:Nat} {c:SV},cs[j]? = some c→ph c=true
 | [],_,j,c,h=>by simp at h
 | d::cs,h,j,c,hj=>by
  simp only [ct] at h
  split at h
  ·rename_i h1
   cases j with
   | zero=>simp at hj; subst hj; exact h1
   | succ j=>simp at hj; exact mF h hj
  ·cases h
theorem M3 {B B':List (Nat×Option aX)} {v:SV} {q:PV} (h:bb B v q) : ph v=true→bb B' v q:=by
 induction h with
 | junk q=>exact fun _=>.junk q
 | d c y h=>exact fun _=>.d c y h
 | ag cs qs hl hr ih=>exact fun hs=>.ag cs qs hl fun j c q h1 h2=>ih j c q h1 h2 (mF hs h1)
 | tup cs qs hl hr ih=>exact fun hs=>.tup cs qs hl fun j c q h1 h2=>ih j c q h1 h2 (mF hs h1)
 | ptr t o ty cs hb=>exact fun hs=>by cases hs
 | row t n e k ty xs pins hb hn=>exact fun hs=>by cases hs
 | re t p o n i e k ty xs pins pin hb hn hp hi=>exact fun hs=>by cases hs
 | vw t lo hi n e k ty xs pins hb hn=>exact fun hs=>by cases hs
 | fe cs ds h hn=>exact fun _=>.fe cs ds h hn
 | fn f ps qs ps' qs' hl hr hl2 hr2 ih ih2 =>
  intro hs
  have hs:(match ct ps with | true=>ct qs | false=>false)=true:=hs
  split at hs
  ·rename_i h1
   exact .fn f ps qs ps' qs' hl (fun j c q h2 h3=>ih j c q h2 h3 (mF h1 h2)) hl2 (fun j c q h2 h3=>ih2 j c q h2 h3 (mF hs h2))
  ·cases hs
def sZ (sc wr:List Nat) (ms:List Mod) (s1:SS) : SS:=⟨s1.sl,s1.bx,(bW sc wr ms s1).pr,s1.ro,s1.oc⟩
theorem qg (ms:List Mod) (s1:SS) (t:Nat) : aA (bW sc wr ms s1).pr t=true↔aA (bw ms) t=false∧aA sc t=false∧∃ b,lkB s1.bx t=some b∧xR b=true:=by
 show aA (oA (bw ms++sc) s1.bx []) t=true↔_
 rw [lc,de,Bool.or_eq_false_iff]
 simp [aA,and_assoc]
theorem An (ms:List Mod) (s1:SS) : mc (sZ sc wr ms s1):=fun t ht=>((qg (wr:=wr) ms s1 t).1 ht).2.2
theorem yu {ms:List Mod} {s1:SS} {t:Nat} (h:aA (bW sc wr ms s1).pr t=true) : lkB (bW sc wr ms s1).bx t=Ik (lkB s1.bx t):=by
 obtain ⟨_,h2,_⟩:=(qg ms s1 t).1 h
 show lkB (Kz s1.bx sc (sj (bW sc wr ms s1).pr s1.bx [])) t = _
 rw [(uY s1.bx sc _ t).2 (.inl h2),nL,h]
 simp [aA]
theorem CO {ms:List Mod} {s1:SS} {t:Nat} (h:aA sc t=true) {ty:TypeId} {cs:List SV} (hb:lkB s1.bx t=some (.st ty cs)) : lkB (bW sc wr ms s1).bx t=some (.st ty (v7 cs)) :=
 (uY s1.bx sc _ t).1 h ty cs hb
theorem ES {ms:List Mod} {s1:SS} {t:Nat} {b:aX} (h:lkB (bW sc wr ms s1).bx t=some b) : aA (bW sc wr ms s1).pr t=true∨aA sc t=true∧∃ ty cs,lkB s1.bx t=some (.st ty cs):=by
 by_cases h1:aA sc t=true∧∃ ty cs,lkB s1.bx t=some (.st ty cs)
 ·exact .inr h1
 ·left
  have h2:aA sc t=false∨∀ ty cs,lkB s1.bx t≠some (.st ty cs):=by
   by_cases h3:aA sc t=true
   ·exact .inr fun ty cs h4=>h1 ⟨h3,ty,cs,h4⟩
   ·exact .inl (by simpa using h3)
  have h:lkB (Kz s1.bx sc (sj (bW sc wr ms s1).pr s1.bx [])) t=some b:=h
  rw [(uY s1.bx sc _ t).2 h2,nL] at h
  cases h4:aA (bW sc wr ms s1).pr t with
  | true=>rfl
  | false=>rw [h4] at h; simp [aA] at h
theorem IR {ms:List Mod} {s1 s':SS} {p1 p':PS} {st:jS ms} {s2:SS} (hs1:gU s1 p1) (hchk:sg sc wr ms s1.pr s1=true) (hk:dH sc wr (sZ sc wr ms s1) s') (hs':gU s' p') (hpk:sX s' ms=some st) (hput:jM ms st (bW sc wr ms s1)=some s2) :
  gU s2 p'∧dH sc wr (sZ sc wr ms s1) s2∧s2.pr=(bW sc wr ms s1).pr:=by
 unfold sg at hchk
 simp only [Bool.and_eq_true] at hchk
 obtain ⟨c1,c2,c3,c4⟩:=hchk
 obtain ⟨o1,o2⟩:=tN c1
 have hscm:=sy c3
 obtain ⟨X,bx2,rfl,hX,hkeys⟩:=KL (show jM ms st ⟨(bW sc wr ms s1).sl,(bW sc wr ms s1).bx,(bW sc wr ms s1).pr,(bW sc wr ms s1).ro,(bW sc wr ms s1).oc⟩=some s2 from hput)
 have hX0:=hX []
 rw [List.append_nil] at hX0
 have hsame:∀ t,aA (bW sc wr ms s1).pr t=true→kR (lkB s1.bx t) (lkB s'.bx t):=hk.bx
 have hbx:Gz (bW sc wr ms s1).bx p':=by
  intro t b hb
  rcases ES hb with h | ⟨h,ty,cs,h1⟩
  ·obtain ⟨_,_,b1,h2,h3⟩:=(qg ms s1 t).1 h
   have h4:=hsame t h
   rw [yu h,h2] at hb
   rw [h2] at h4
   cases b1 with
   | st ty cs =>
    injection hb with hb
    subst hb
    obtain ⟨qs,h5,h6⟩:=hs'.bx t _ h4
    exact ⟨qs,h5,h6.len,fun j c q m1 m2=>M3 (h6.rep j c q m1 m2) (mF h3 m1)⟩
   | rw e k ty xs pins =>
    injection hb with hb
    subst hb
    obtain ⟨pins',h4⟩:=h4
    exact ⟨(hs'.bx t _ h4).1,fun p pin hp=>by cases hp⟩
  ·rw [CO h h1] at hb
   injection hb with hb
   subst hb
   obtain ⟨cs',h2,h3⟩:=hk.st t h ty cs h1
   obtain ⟨qs,h4,h5⟩:=hs'.bx t _ h2
   refine ⟨qs,h4,by rw [Aj,← h3]; exact h5.len,fun j c q m1 m2=>?_⟩
   rw [G0 cs j c m1]
   exact .junk q
 have hnp:me (bW sc wr ms s1).bx:=by
  intro t e k ty xs pins hb
  rcases ES hb with h | ⟨h,ty2,cs,h1⟩
  ·rw [yu h] at hb
   cases hl:lkB s1.bx t with
   | none=>rw [hl] at hb; cases hb
   | some b =>
    rw [hl] at hb
    cases b with
    | st=>cases hb
    | rw e2 k2 ty2 xs2 pins2 =>
     injection hb with hb
     injection hb with q1 q2 q3 q4 q5
     exact q5.symm
  ·rw [CO h h1] at hb; cases hb
 have hc0:gU ⟨[],(bW sc wr ms s1).bx,(bW sc wr ms s1).pr,(bW sc wr ms s1).ro,(bW sc wr ms s1).oc⟩ p':=⟨fun i=>.junk _,hbx⟩
 obtain ⟨k1,k2,k3,k4,k5⟩:=KP hs' hpk hc0 hnp hX0
 have k4:∀ t,aA (bw ms) t=false→lkB bx2 t=lkB (bW sc wr ms s1).bx t:=k4
 have hprm:∀ t,aA (bW sc wr ms s1).pr t=true→aA (bw ms) t=false:=fun t ht=>((qg ms s1 t).1 ht).1
 have hkb:∀ t,aA (bw ms++(sa s1.bx sc++(bW sc wr ms s1).pr)) t=true→∀ ty cs,lkB s'.bx t=some (.st ty cs)→∃ ty' cs',lkB bx2 t=some (.st ty' cs'):=by
  intro t ht ty cs hb
  rw [de,de,Bool.or_eq_true,Bool.or_eq_true] at ht
  rcases ht with ht | ht | ht
  ·exact k5 t ht ty cs hb
  ·obtain ⟨h1,ty2,cs2,h2⟩:=(qf s1.bx sc t).1 ht
   rw [k4 t (hscm t h1),CO h1 h2]
   exact ⟨_,_,rfl⟩
  ·rw [k4 t (hprm t ht),yu ht]
   have h1:=hsame t ht
   obtain ⟨_,_,b1,h2,h3⟩:=(qg ms s1 t).1 ht
   rw [h2] at h1 ⊢
   cases b1 with
   | st ty2 cs2=>exact ⟨_,_,rfl⟩
   | rw e k ty2 xs pins =>
    obtain ⟨pins',h1⟩:=h1
    rw [h1] at hb
    cases hb
 have hbase:∀ i,lkV (bW sc wr ms s1).sl i=if aA wr i=true then .junk else if FU (bW sc wr ms s1).pr (bw ms++(sa s1.bx sc++(bW sc wr ms s1).pr)) (lkV s1.sl i)=true then lkV s1.sl i else .junk:=fun i=>by
  show lkV (si wr (bW sc wr ms s1).pr (bw ms++(sa s1.bx sc++(bW sc wr ms s1).pr)) s1.sl []) i = _
  rw [nK]
  simp [aA]
 refine ⟨⟨fun i=>?_,k1.bx⟩,⟨rfl,rfl,fun t ht=>?_,fun i hi hsf=>?_,fun t ht ty cs hb=>?_⟩,rfl⟩
 ·show bb bx2 (lkV (X++(bW sc wr ms s1).sl) i) (p'.t i)
  rw [IV]
  split
  ·exact k1.sl i
  ·rw [hbase]
   split
   ·exact .junk _
   ·rename_i hw
    split
    ·rename_i hsf
     have e:=hk.sl i (by simpa using hw) (TN (fun t h=>h) _ hsf)
     have h1:=hs'.sl i
     rw [e] at h1
     refine Q3 (fun t ht e k ty xs pins hb=>?_) hkb h1 hsf
     rw [k4 t (hprm t ht),yu ht]
     have h2:=hsame t ht
     obtain ⟨_,_,b1,h3,h4⟩:=(qg ms s1 t).1 ht
     rw [h3] at h2 ⊢
     cases b1 with
     | st ty2 cs2=>have h2:lkB s'.bx t=some (.st ty2 cs2):=h2; rw [h2] at hb; cases hb
     | rw e2 k2 ty2 xs2 pins2 =>
      obtain ⟨pins',h2⟩:=h2
      rw [h2] at hb
      injection hb with hb
      injection hb with q1 q2 q3 q4 q5
      subst q3
      have q4:=eq_of_heq q4
      subst q4
      exact ⟨_,_,_,_,_,rfl,rfl⟩
    ·exact .junk _
 ·show kR (lkB s1.bx t) (lkB bx2 t)
  have ht:aA (bW sc wr ms s1).pr t=true:=ht
  rw [k4 t (hprm t ht),yu ht]
  match lkB s1.bx t with
  | none=>rfl
  | some (.st _ _)=>rfl
  | some (.rw _ _ _ _ _)=>exact ⟨[],rfl⟩
 ·show lkV (X++(bW sc wr ms s1).sl) i=lkV s1.sl i
  have hsf:la (bW sc wr ms s1).pr (lkV s1.sl i)=true:=hsf
  rw [IV,if_neg,hbase,if_neg (by simp [hi]),if_pos]
  ·refine Nh (fun t h=>h) (fun t ty cs hb=>?_) (hs1.sl i) hsf
   rw [de,de,Bool.or_eq_true,Bool.or_eq_true]
   rcases oE _ _ _ _ c4 t ty cs rfl hb with h | h | h
   ·exact .inl h
   ·exact .inr (.inl ((qf s1.bx sc t).2 ⟨h,ty,cs,hb⟩))
   ·by_cases hm:aA (bw ms) t=true
    ·exact .inl hm
    ·by_cases hsc:aA sc t=true
     ·exact .inr (.inl ((qf s1.bx sc t).2 ⟨hsc,ty,cs,hb⟩))
     ·exact .inr (.inr ((qg ms s1 t).2 ⟨by simpa using hm,by simpa using hsc,_,hb,h⟩))
  ·intro hX1
   obtain ⟨m,hm,hkey⟩:=hkeys i hX1
   rcases o1 m hm i hkey with h | ⟨R,h1,h2⟩
   ·rw [h] at hi; cases hi
   ·rw [h2] at hsf
    have hsf:aA (bW sc wr ms s1).pr R=true:=hsf
    rw [hprm R hsf] at h1
    cases h1
 ·show ∃ cs',lkB bx2 t = _∧_
  rw [k4 t (hscm t ht),CO ht (show lkB s1.bx t = _ from hb)]
  exact ⟨_,rfl,Aj cs⟩
end
section
theorem CE {P:Program} {s:SS} {p:PS} (hs:Sim s p) : ∀ {l:List ResultVar} {vs:List SV},KC P s l=some vs→∃ qs,l.mapM (B6 P p)=some qs∧bS s.bx vs qs
 | [],vs,h=>by injection h with h; subst h; exact ⟨[],rfl,.nil⟩
 | .tmp t::l,vs,h=>by
  simp only [KC] at h
  split at h
  ·rename_i vs' h1
   injection h with h
   subst h
   obtain ⟨qs,h2,h3⟩:=CE hs h1
   exact ⟨p.t t::qs,by simp [List.mapM_cons,B6,h2],.cons (hs.sl t) h3⟩
  ·cases h
 | .cell t ty::l,vs,h=>by
  simp only [KC] at h
  split at h
  ·rename_i v vs' h0 h1
   injection h with h
   subst h
   obtain ⟨qs,h2,h3⟩:=CE hs h1
   obtain ⟨r,h4,h5⟩:=KX hs (hs.sl t) h0
   exact ⟨r::qs,by simp [List.mapM_cons,B6,h4,h2],.cons h5 h3⟩
  ·cases h
theorem LG {s:SS} {p:PS} (hs:Sim s p) : ∀ {rs:List PT} {vs:List SV} {qs:List PV} {x:bh rs},bS s.bx vs qs→Hs s rs vs=some x→bG p.b qs=xK rs x
 | [],[],qs,x,hv,h=>by
  rcases hv.cases with ⟨_,rfl⟩ | ⟨_,_,_,_,h1,_⟩
  ·rfl
  ·cases h1
 | [],_ :: _,_,x,_,h=>dI (x:=x) h
 | [t],[],_,x,_,h=>dI (x:=x) h
 | [t],[v],qs,x,hv,h=>by
  rcases hv.cases with ⟨h1,_⟩ | ⟨v',q,vs',qs',h1,rfl,h2,h3⟩
  ·cases h1
  ·injection h1 with e1 e2
   subst e1 e2
   rcases h3.cases with ⟨_,rfl⟩ | ⟨_,_,_,_,h4,_⟩
   ·have:=(CN hs h2 (show LN s t v=some x from h)).1
    simp only [bG,xK,this]
   ·cases h4
 | [t],_ :: _ :: _,_,x,_,h=>dI (x:=x) h
 | t::t' :: rs,[],_,x,_,h=>dI (x:=x) h
 | t::t' :: rs,v::vs,qs,x,hv,h=>by
  rcases hv.cases with ⟨h1,_⟩ | ⟨v',q,vs',qs',h1,rfl,h2,h3⟩
  ·cases h1
  ·injection h1 with e1 e2
   subst e1 e2
   have h:Option.bind (LN s t v) (fun x=>Option.bind (Hs s (t' :: rs) vs) fun xs=>some (x,xs))=some x:=h
   obtain ⟨y,h4,h5⟩:=cG h
   obtain ⟨ys,h6,h7⟩:=cG h5
   injection h7 with h7
   subst h7
   simp only [bG,xK,(CN hs h2 h4).1,LG hs h3 h6]
theorem Hr {s:SS} : ∀ {rs:List PT} {vs:List SV} {x:bh rs},Hs s rs vs=some x→vs.length=rs.length
 | [],[],x,_=>rfl
 | [],_ :: _,x,h=>dI (x:=x) h
 | [t],[],x,h=>dI (x:=x) h
 | [t],[v],x,_=>rfl
 | [t],_ :: _ :: _,x,h=>dI (x:=x) h
 | t::t' :: rs,[],x,h=>dI (x:=x) h
 | t::t' :: rs,v::vs,x,h=>by
  have h:Option.bind (LN s t v) (fun x=>Option.bind (Hs s (t' :: rs) vs) fun xs=>some (x,xs))=some x:=h
  obtain ⟨y,h4,h5⟩:=cG h
  obtain ⟨ys,h6,h7⟩:=cG h5
  simp only [List.length_cons,Hr h6]
theorem K4 {C:Cx} {fn:Func} (hv:fn.results.toList=C.vars) {s:SS} {p:PS} (hs:Sim (clr s) p) {r:bh C.rs} (hM:oI C.rs=false) (h:Bt C s=some r) : ∃ q,qD C.P fn p=some q∧asData p.b q=toR C.rs r:=by
 unfold Bt at h
 rw [hM] at h
 simp only at h
 split at h
 ·rename_i vs hvs
  obtain ⟨qs,h1,h2⟩:=CE hs hvs
  have h3:=LG hs h2 h
  have h4:=Hr h
  have h5:=h2.len
  unfold qD
  rw [hv,h1]
  match qs,h3,h5 with
  | [],h3,h5 =>
   refine ⟨.tup [],rfl,?_⟩
   rcases qR C.rs r with ⟨q,k1,_⟩ | k1
   ·rw [k1] at h3; simp [bG] at h3
   ·rw [k1,← h3]; rfl
  | [q],h3,h5 =>
   refine ⟨q,rfl,?_⟩
   have:C.rs.length=1:=by rw [← h4,h5]; rfl
   rcases qR C.rs r with ⟨q',k1,k2⟩ | k1
   ·rw [k1] at h3
    rw [k2]
    simpa [bG] using h3
   ·exfalso
    match C.rs,r,this,k1 with
    | [t],r,_,k1=>cases t <;> simp [toR,pb] at k1
  | q::q' :: qs,h3,h5 =>
   refine ⟨.tup (q::q' :: qs),rfl,?_⟩
   rcases qR C.rs r with ⟨q2,k1,_⟩ | k1
   ·rw [k1] at h3; simp [bG] at h3
   ·rw [k1,← h3]; rfl
 ·cases h
theorem Nu:∀ (rs:List PT) (o:xT (cp rs)) (r:bh (e8 rs)),jR rs (Ut rs o r)=o∧iM rs (Ut rs o r)=r
 | [],_,_=>⟨rfl,rfl⟩
 | [.io _],_,_=>⟨rfl,rfl⟩
 | .io _ :: _ :: _,_,_=>⟨rfl,rfl⟩
 | .own .. :: _,_,_=>⟨rfl,rfl⟩
 | .mv .. :: _,_,_=>⟨rfl,rfl⟩
 | .bx .. :: _,_,_=>⟨rfl,rfl⟩
 | .agr .. :: _,_,_=>⟨rfl,rfl⟩
 | .lf _ :: _,_,_=>⟨rfl,rfl⟩
 | .ag _ :: _,_,_=>⟨rfl,rfl⟩
 | .pl _ :: _,_,_=>⟨rfl,rfl⟩
 | .ps _ :: _,_,_=>⟨rfl,rfl⟩
 | .fn .. :: _,_,_=>⟨rfl,rfl⟩
def boI (i:Nat) : (b:IB)→List Nat→b.den→BU
 | .no,_,_=>[]
 | .own e k t,_,xs=>[(tn i,rwU e k t xs)]
 | .bx ty n rows,js,x=>(tn i,.st ty (ed (mg rows js) 0 (stD n x)))::bZ (mg rows js) 0 (stD n x)
def rv:Nat→(ls:List IB)→List (List Nat)→xT ls→BU
 | i,b::ls,js::kss,o=>boI i b js o.1++rv (i + 1) ls kss o.2
 | _,_,_,_=>[]
def QZ (C:Cx) (fn:Func) (p:PS) (r:bh C.rs) : Prop :=
 (oI C.rs=false→∃ q,qD C.P fn p=some q∧asData p.b q=toR C.rs r) ∧
 (oI C.rs=true→∃ kss jss,jZ (cp C.rs) kss∧iL (e8 C.rs) jss∧(dr 0 (cp C.rs)++(bq kss++bq jss)).Nodup∧(∃ q,qD C.P fn p=some q∧qd q=xV (cN (e8 C.rs) jss (iM C.rs r)).1) ∧
  ∀ t Bx,(t,Bx)∈rv 0 (cp C.rs) kss (jR C.rs r)++(cN (e8 C.rs) jss (iM C.rs r)).2→∃ B',p.b t=some B'∧rc B' = Bx)
theorem IK {rows:List (Nat×Nat×Nat×Nat×Ty)} {t:Nat} {Bx:Box} : ∀ {ds:List D} {j:Nat},(t,Bx)∈bZ rows j ds→rc Bx=Bx
 | [],j,h=>by cases h
 | d::ds,j,h=>by
  simp only [bZ] at h
  split at h
  ·split at h
   ·rcases List.mem_cons.1 h with e | h
    ·injection e with _ e; subst e; rfl
    ·exact IK h
   ·exact IK h
  ·exact IK h
theorem W3 {s:SS} {p:PS} (hs:Sim s p) {i:Nat} {b:IB} {o:b.den} {js:List Nat} (h:W4 s i b=some (o,js)) : js.length=b.nJ∧∀ t Bx,(t,Bx)∈boI i b js o→∃ B',p.b t=some B'∧rc B' = Bx:=by
 cases b with
 | no =>
  injection h with h
  injection h with _ h
  subst h
  exact ⟨rfl,fun _ _ h=>by cases h⟩
 | own e k t =>
  simp only [W4] at h
  split at h
  ·rename_i xs is hd
   injection h with h
   injection h with e1 e2
   subst e1 e2
   refine ⟨rfl,fun t' Bx hm=>?_⟩
   have hbx:=hs.bx (tn i)
   unfold sA at hd
   simp only at hd
   split at hd
   ·rename_i e' k' t2 xs' pins hb
    split at hd
    ·rename_i hty _
     obtain ⟨m2,hd⟩:=am hd
     obtain ⟨m3,hd⟩:=am hd
     injection hd with hd
     injection hd with e1 e2
     subst e1 hty
     have m2:=zd m2
     have m3:=zd m3
     subst m2 m3
     rw [hb] at hbx
     simp only [boI,List.mem_cons,List.not_mem_nil,or_false,Prod.mk.injEq] at hm
     obtain ⟨rfl,rfl⟩:=hm
     exact ⟨_,hbx.1,rfl⟩
    ·cases hd
   ·cases hd
  ·cases h
 | bx ty n rows =>
  simp only [W4] at h
  split at h
  ·rename_i ty' cs hb
   obtain ⟨m1,h⟩:=am h
   have m1:=zd m1
   subst m1
   have hbx:=hs.bx (tn i)
   rw [hb] at hbx
   obtain ⟨qs,k1,k2⟩:=hbx
   obtain ⟨k3,k4,k5⟩:=EB hs k2 h
   refine ⟨k3,fun t Bx hm=>?_⟩
   rcases List.mem_cons.1 hm with e | hm
   ·injection e with e1 e2
    subst e1 e2
    exact ⟨_,k1,by rw [rc,k4]⟩
   ·exact ⟨_,k5 t Bx hm,IK hm⟩
  ·cases h
theorem LJ {s:SS} {p:PS} (hs:Sim s p) : ∀ {ls:List IB} {i:Nat} {o:xT ls} {kss:List (List Nat)},QO s i ls=some (o,kss)→jZ ls kss∧∀ t Bx,(t,Bx)∈rv i ls kss o→∃ B',p.b t=some B'∧rc B' = Bx
 | [],i,o,kss,h=>by
  injection h with h
  injection h with _ h
  subst h
  exact ⟨trivial,fun _ _ h=>by cases h⟩
 | b::ls,i,o,kss,h=>by
  simp only [QO] at h
  split at h
  ·rename_i o1 js os kss' h1 h2
   injection h with h
   injection h with e1 e2
   subst e1 e2
   obtain ⟨k1,k2⟩:=W3 hs h1
   obtain ⟨k3,k4⟩:=LJ hs h2
   refine ⟨⟨k1,k3⟩,fun t Bx hm=>?_⟩
   rcases List.mem_append.1 hm with hm | hm
   ·exact k2 t Bx hm
   ·exact k4 t Bx hm
  ·cases h
theorem Ht {s:SS} {p:PS} (hs:Sim s p) : ∀ {rs:List PT} {vs:List SV} {qs:List PV} {x:bh rs} {jss:List (List Nat)},bS s.bx vs qs→I9 s rs vs=some (x,jss) →
  iL rs jss∧dW qs=(cN rs jss x).1∧∀ t Bx,(t,Bx)∈(cN rs jss x).2→∃ B',p.b t=some B'∧rc B' = Bx
 | [],[],qs,x,jss,hv,h=>by
  rcases hv.cases with ⟨_,rfl⟩ | ⟨_,_,_,_,h1,_⟩
  ·injection h with h
   injection h with _ h
   subst h
   exact ⟨trivial,rfl,fun _ _ h=>by cases h⟩
  ·cases h1
 | [],_ :: _,_,x,jss,_,h=>dI (x:=(x,jss)) h
 | [pt],[],_,x,jss,_,h=>dI (x:=(x,jss)) h
 | [pt],[v],qs,x,jss,hv,h=>by
  rcases hv.cases with ⟨h1,_⟩ | ⟨v',q,vs',qs',h1,rfl,h2,h3⟩
  ·cases h1
  ·injection h1 with e1 e2
   subst e1 e2
   rcases h3.cases with ⟨_,rfl⟩ | ⟨_,_,_,_,h4,_⟩
   ·have h:(match NW s pt v with | some (x,is)=>some (x,[is]) | none=>none)=some (x,jss):=h
    split at h
    ·rename_i y is hd
     injection h with h
     injection h with e1 e2
     subst e1 e2
     obtain ⟨k1,k2,k3⟩:=Ja hs h2 hd
     exact ⟨⟨k1,trivial⟩,by simp only [dW,cN,k2],k3⟩
    ·cases h
   ·cases h4
 | [pt],_ :: _ :: _,_,x,jss,_,h=>dI (x:=(x,jss)) h
 | pt::q::l,[],_,x,jss,_,h=>dI (x:=(x,jss)) h
 | pt::q::l,v::vs,qs,x,jss,hv,h=>by
  rcases hv.cases with ⟨h1,_⟩ | ⟨v',qv,vs',qs',h1,rfl,h2,h3⟩
  ·cases h1
  ·injection h1 with e1 e2
   subst e1 e2
   have h:(match NW s pt v,I9 s (q::l) vs with | some (x,is),some (xs,iss)=>some ((x,xs),is::iss) | _,_=>none)=some (x,jss):=h
   split at h
   ·rename_i y is ys iss hd hr
    injection h with h
    injection h with e1 e2
    subst e1 e2
    obtain ⟨k1,k2,k3⟩:=Ja hs h2 hd
    obtain ⟨k4,k5,k6⟩:=Ht hs h3 hr
    refine ⟨⟨k1,k4⟩,by simp only [dW,cN,k2,k5],fun t Bx hm=>?_⟩
    rcases List.mem_append.1 hm with hm | hm
    ·exact k3 t Bx hm
    ·exact k6 t Bx hm
   ·cases h
theorem Nl {P:Program} {fn:Func} {p:PS} {qs:List PV} (h:fn.results.toList.mapM (B6 P p)=some qs) : qD P fn p=some (xV qs):=by
 unfold qD
 rw [h]
 match qs with
 | []=>rfl
 | [q]=>rfl
 | q::q' :: qs=>rfl
theorem Ws (qs:List PV) : qd (xV qs)=xV (dW qs):=by
 match qs with
 | []=>rfl
 | [q]=>rfl
 | q::q' :: qs=>rfl
theorem Qr {C:Cx} {fn:Func} (hv:fn.results.toList=C.vars) {s:SS} {p:PS} (hpr:mc (clr s)) (hs:Sim (clr s) p) {r:bh C.rs} (h:Bt C s=some r) : ∃ p',Le p p'∧QZ C fn p' r:=by
 cases hM:oI C.rs with
 | false=>exact ⟨p,.refl p,fun _=>K4 hv hs hM h,fun e=>by rw [hM] at e; cases e⟩
 | true =>
  unfold Bt at h
  rw [hM] at h
  simp only [Xs] at h
  split at h
  ·split at h
   ·rename_i s1 hf
    obtain ⟨p1,k1,k2,_,_⟩:=wX (sc:=C.sc) hpr hs hf
    split at h
    ·rename_i ws hws
     obtain ⟨qs,k3,k4⟩:=CE k2 hws
     split at h
     ·rename_i o kss r' jss ho hr
      obtain ⟨hn,h⟩:=am h
      injection h with h
      obtain ⟨e1,e2⟩:=Nu C.rs o r'
      rw [h] at e1 e2
      obtain ⟨m1,m2⟩:=LJ k2 ho
      obtain ⟨m3,m4,m5⟩:=Ht k2 k4 hr
      refine ⟨p1,k1,fun e=>(by rw [hM] at e; cases e),fun _=>⟨kss,jss,m1,m3,iY hn,⟨_,Nl (by rw [hv]; exact k3),by rw [Ws,m4,e2]⟩,fun t Bx hm=>?_⟩⟩
      rw [e1,e2] at hm
      rcases List.mem_append.1 hm with hm | hm
      ·exact m2 t Bx hm
      ·exact m5 t Bx hm
     ·cases h
    ·cases h
   ·cases h
  ·cases h
def wl (C:Cx) (fn:Func) (W:List Nat) (s:SS) {ρ : Type} (k:Exit→SS→Option ρ) (kr:bh C.rs→Option ρ) (res : ρ) : Exit→PS→Prop
 | .ret,p'=>∃ r,QZ C fn p' r∧kr r=some res
 | e,p'=>∃ s',gU s' p'∧dH C.sc W s s'∧k e s' = some res
theorem Wu {a b:List Nat} {i:Nat} (h:aA a i=true) : aA (a++b) i=true:=by rw [de,h]; rfl
theorem Ug {a b:List Nat} {i:Nat} (h:aA b i=true) : aA (a++b) i=true:=by rw [de,h]; simp
variable {C:Cx} {fn:Func}
theorem qh {W:List Nat} {s:SS} {ρ : Type} {k:Exit→SS→Option ρ} {kr:bh C.rs→Option ρ} {res : ρ} {e:Exit} {p:PS} (he:e≠.ret) (h:wl C fn W s k kr res e p) : ∃ s',gU s' p∧dH C.sc W s s'∧k e s' = some res:=by
 cases e <;> first | exact h | exact absurd rfl he
theorem KN {W:List Nat} {s s':SS} {ρ : Type} {k:Exit→SS→Option ρ} {kr:bh C.rs→Option ρ} {res : ρ} {e:Exit} {p:PS} (he:e≠.ret) (h1:gU s' p) (h2:dH C.sc W s s') (h3:k e s' = some res) : wl C fn W s k kr res e p:=by
 cases e <;> first | exact ⟨s',h1,h2,h3⟩ | exact absurd rfl he
def Ti (C:Cx) (fn:Func) (c:Code) (W:List Nat) (body:(ρ : Type)→SS→(Exit→SS→Option ρ)→(bh C.rs→Option ρ)→Option ρ) : Prop :=
 ∀ (ρ : Type) (s:SS) (p:PS) (k:Exit→SS→Option ρ) (kr:bh C.rs→Option ρ) (res : ρ),mc s→gU s p→body ρ s k kr=some res→PWP C.P C.n c (wl C fn W s k kr res) p
theorem Nq {wr:List Nat} {ms:List Mod} {s s1:SS} (hpr:mc s) (hk:dH C.sc wr s s1) (hchk:sg C.sc wr ms s.pr s1=true) : ∀ t,aA s.pr t=true→aA (bW C.sc wr ms s1).pr t=true:=by
 intro t ht
 unfold sg at hchk
 simp only [Bool.and_eq_true] at hchk
 obtain ⟨c1,c2,c3,c4⟩:=hchk
 rw [qg]
 refine ⟨?_,?_,hk.prOk hpr t (by rw [hk.pr]; exact ht)⟩
 ·cases hm:aA (bw ms) t with
  | false=>rfl
  | true =>
   have:=(tN c1).2 t hm
   rw [hk.pr,ht] at this
   cases this
 ·cases hm:aA C.sc t with
  | false=>rfl
  | true =>
   have:=sy c2 t hm
   rw [ht] at this
   cases this
mutual
theorem Dg {pr pr':List Nat} (h:∀ t,aA pr t=true→aA pr' t=true) : ∀ v:SV,la pr v=true→la pr' v=true
 | .junk,_=>rfl
 | .d _,_=>rfl
 | .fe _,_=>rfl
 | .ptr _ _,_=>rfl
 | .row t,hs=>h t hs
 | .re _ _ _,hs=>by cases hs
 | .vw _ _ _,hs=>by cases hs
 | .ag cs,hs=>by simp only [la] at hs ⊢; exact nD h cs hs
 | .tup cs,hs=>by simp only [la] at hs ⊢; exact nD h cs hs
 | .fn f ps qs,hs=>by simp only [la,Bool.and_eq_true] at hs ⊢; exact ⟨nD h ps hs.1,nD h qs hs.2⟩
theorem nD {pr pr':List Nat} (h:∀ t,aA pr t=true→aA pr' t=true) : ∀ cs:List SV,ec pr cs=true→ec pr' cs=true
 | [],_=>rfl
 | c::cs,hs=>by
  simp only [ec,Bool.and_eq_true] at hs ⊢
  exact ⟨Dg h c hs.1,nD h cs hs.2⟩
end
theorem wU {wr:List Nat} {ms:List Mod} {s s1 s2:SS} {oc:List Nat} (hk:dH C.sc wr s s1) (hsub:∀ t,aA s.pr t=true→aA (bW C.sc wr ms s1).pr t=true) (hk2:dH C.sc wr (sZ C.sc wr ms s1) s2) : dH C.sc wr s ⟨s2.sl,s2.bx,s.pr,s.ro,oc⟩:=by
 refine ⟨rfl,rfl,fun t ht=>(hk.bx t ht).trans (hk2.bx t (hsub t ht)),fun i hi hsf=>?_,fun t ht ty cs hb=>?_⟩
 ·have e:=hk.sl i hi hsf
  have:=hk2.sl i hi (Dg hsub _ (by show la s.pr (lkV s1.sl i)=true; rw [e]; exact hsf))
  exact this.trans e
 ·obtain ⟨cs1,h1,h2⟩:=hk.st t ht ty cs hb
  obtain ⟨cs2,h3,h4⟩:=hk2.st t ht ty cs1 h1
  exact ⟨cs2,h3,h4.trans h2⟩
theorem xQ {s:SS} (h:mc s) : mc (clr s):=h
theorem K6 {W:List Nat} {s s':SS} (h:dH C.sc W (clr s) s') : dH C.sc W s s':=⟨h.pr,h.ro,h.bx,h.sl,h.st⟩
theorem xD {c:Code} {wr:List Nat} {h:tr} {body:(ρ : Type)→SS→(Exit→SS→Option ρ)→(bh C.rs→Option ρ)→Option ρ} (hb:Ti C fn c wr body) : Ti C fn c wr (GA C wr h body):=by
 intro ρ s p k kr res hpr hs hx
 unfold GA at hx
 split at hx
 ·rename_i ms h'
  split at hx
  ·cases hx
  ·rename_i s1 hnil
   obtain ⟨hchk,hx⟩:=am hx
   obtain ⟨st,h1,h2⟩:=cG hx
   split at h2
   ·rename_i s2 hput
    refine tG (Ai hs) ?_
    obtain ⟨p2,k1,k2,k3,k4⟩:=qm (sc:=C.sc) (s:=clr s) rfl (xQ hpr) (qX hs) hnil
    refine tG k1 ?_
    have hk1:dH C.sc wr s s1:=K6 k3
    have hw:gU (sZ C.sc wr ms s1) p2:=⟨k2.w.sl,k2.w.bx⟩
    refine fw (hb _ (sZ C.sc wr ms s1) p2 _ _ st (An ms s1) hw h1) fun e p' hq=>?_
    by_cases he:e = .ret
    ·subst he
     obtain ⟨r,_,h⟩:=hq
     cases h
    ·obtain ⟨s',m1,m2,m3⟩:=qh he hq
     cases e with
     | normal =>
      have m3:qk ms s' = some st:=m3
      unfold qk at m3
      split at m3
      ·rename_i s'' hf
       obtain ⟨p'',n1,n2,n3⟩:=rn (sc:=C.sc) (m2.prOk (An ms s1)) m1 hf
       have hchk':sg C.sc wr ms s1.pr s1=true:=by rw [hk1.pr]; exact hchk
       obtain ⟨o1,o2,o3⟩:=IR k2.w hchk' (m2.trans (n3 wr)) n2 m3 hput
       exact ⟨p'',n1,⟨s2.sl,s2.bx,s.pr,s.ro,s.oc⟩,⟨o1.sl,o1.bx⟩,wU hk1 (Nq hpr hk1 hchk) o2,h2⟩
      ·cases m3
     | ret=>exact absurd rfl he
     | _=>cases m3
   ·cases h2
 ·exact hb ρ s p k kr res hpr hs hx
end
section
variable {C:Cx} {fn:Func}
theorem qW:∀ {l:List Oper},TG l=true→∀ o∈l,∀ t x y,o.op = .store t x y→o.dst=none
 | [],_,o,ho,_,_,_,_=>by cases ho
 | x::l,h,o,ho,t,a,b,hop=>by
  simp only [TG] at h
  rcases List.mem_cons.1 ho with rfl | ho
  ·cases hd:o.dst with
   | none=>rfl
   | some d=>rw [hop,hd] at h; cases h
  ·split at h
   ·cases h
   ·exact qW h o ho t a b hop
theorem P7 (hT:qu C.P C.T) (hm:C.P.follows .mixedOrders=true) (id:Nat) (ops:Array Oper) (draw:Bool) : Ti C fn (.region id ops draw) (cd ops.toList) (fun _ s k _=>TV C id ops draw s fun s=>k .normal s):=by
 intro ρ s p k kr res hpr hs h
 have ha:ops.toList.toArray=ops:=by simp
 have hW:∀ o∈ops.toList,∀ d,o.dst=some d→aA (cd ops.toList) d=true:=fun o ho d hd=>sw ho hd
 have hO:∀ (j:Nat) (o:Oper),ops[j]? = some o→∀ d,o.dst=some d→aA (cd ops.toList) d=true:=fun j o ho d hd=>sw (by
  rw [Array.mem_toList_iff]
  exact Array.mem_of_getElem? ho) hd
 replace h:TV C id ops draw s (fun s=>k .normal s)=some res:=h
 unfold TV at h
 cases hf:lq (lkF C.fz id) s with
 | none=>rw [hf] at h; cases h
 | some s0 =>
  rw [hf] at h
  obtain ⟨p1,k1,k2,k3⟩:=rn (sc:=C.sc) hpr hs hf
  refine tG k1 (tG (Ai k2) ?_)
  have hs2:=qX k2
  have hpr2:mc ⟨s0.sl,s0.bx,s0.pr,s0.ro,[]⟩:=(k3 []).prOk hpr
  have fin:∀ p',FA C.sc (cd ops.toList) ops.toList ⟨s0.sl,s0.bx,s0.pr,s0.ro,[]⟩ (xa s0 p1) (fun s=>k .normal s) res p'→wl C fn (cd ops.toList) s k kr res .normal p':=by
   rintro p' ⟨s',m1,m2,m3,m4,_⟩
   exact ⟨s',m1.w,(k3 _).trans ⟨m2.pr,m2.ro,m2.bx,m2.sl,m2.st⟩,m4⟩
  simp only at h
  cases draw <;> simp only at h
  ·obtain ⟨h1,h2⟩:=am h
   rw [Bool.and_eq_true] at h1
   have hrun:=CB (q:=true) (sc:=C.sc) hT (ops:=ops) 1000 0 [] ops.toList hW hO (qW h1.1) hpr2 hs2 h2
   have:=KJ (P:=C.P) (n:=C.n) (id:=id) (Qs:=wl C fn (cd ops.toList) s k kr res) (s:=xa s0 p1) h1.2 (by rw [ha]; exact fQ hrun fin)
   rw [ha] at this
   exact this
  ·obtain ⟨h1,h2⟩:=am h
   obtain ⟨h3,h4⟩:=am h2
   split at h4
   ·have hrun:=CB (q:=false) (sc:=C.sc) hT (ops:=ops) 1000 0 [] ops.toList hW hO (qW h1) hpr2 hs2 h4
    have:=TZ (P:=C.P) (n:=C.n) (id:=id) (l:=ops.toList) (Qs:=wl C fn (cd ops.toList) s k kr res) (s:=xa s0 p1) _ hm (by rw [ha]; exact h3) (by
     rw [ha]
     exact zU (P:=C.P) (ops:=ops) ops.toList 0 (xa s0 p1) (fun j hj=>by simp) (fQ hrun fin))
    rw [ha] at this
    exact this
   ·obtain ⟨h5,h6⟩:=am h4
    rw [Bool.and_eq_true] at h5
    have hle:=zd h5.2
    have hsub1:∀ o∈ops.toList.take (iX ops),o∈ops.toList:=fun o ho=>List.mem_of_mem_take ho
    have hsub2:∀ o∈ops.toList.drop (iX ops),o∈ops.toList:=fun o ho=>List.mem_of_mem_drop ho
    have hrun1:=CB (q:=false) (sc:=C.sc) hT (ops:=ops) 1000 0 [] (ops.toList.take (iX ops)) (fun o ho=>hW o (hsub1 o ho)) hO (fun o ho=>qW h1 o (hsub1 o ho)) hpr2 hs2 h6
    have hrun:vH false C.P ops (xX (kT C.T ⟨s0.sl,s0.bx,s0.pr,s0.ro,[]⟩ ops.toList [] [])) 0 (ops.toList.take (iX ops)) (xa s0 p1) fun p'=>vH true C.P ops (xX []) 0 (ops.toList.drop (iX ops)) p' (wl C fn (cd ops.toList) s k kr res .normal):=by
     refine fQ hrun1 fun p' hp=>?_
     obtain ⟨s',m1,m2,m3,m4,_⟩:=hp
     have hrun2:=CB (q:=true) (sc:=C.sc) hT (ops:=ops) 1000 0 [] (ops.toList.drop (iX ops)) (fun o ho=>hW o (hsub2 o ho)) hO (fun o ho=>qW h1 o (hsub2 o ho)) m3 m1 m4
     refine fQ hrun2 fun p2 hp2=>?_
     obtain ⟨s3,n1,n2,n3,n4,_⟩:=hp2
     exact ⟨s3,n1.w,(k3 _).trans ((show dH C.sc (cd ops.toList) s0 s' from ⟨m2.pr,m2.ro,m2.bx,m2.sl,m2.st⟩).trans n2),n4⟩
    have:=Rs (P:=C.P) (n:=C.n) (id:=id) (l:=ops.toList) (Qs:=wl C fn (cd ops.toList) s k kr res) (s:=xa s0 p1) _ (iX ops) hle hm (by rw [ha]; exact h3) (by rw [ha]; exact h5.1) (by
     rw [ha]
     have e1:(ops.toList.take (iX ops)).length=iX ops:=by rw [List.length_take]; exact Nat.min_eq_left (by simpa using hle)
     have e2:(ops.toList.drop (iX ops)).length=ops.toList.length - iX ops:=by simp
     rw [← e2]
     have r1:=zU (P:=C.P) (ops:=ops) (ops.toList.take (iX ops)) 0 (xa s0 p1) (fun j hj=>by
      rw [e1] at hj
      rw [List.getElem?_take,if_pos hj]
      simp) hrun
     rw [e1] at r1
     refine GO r1 fun p' hp=>P0 _ _ _ _ (fun j hj=>by rw [List.getElem?_drop]; simp) hp)
    rw [ha] at this
    exact this
theorem Wf (hT:qu C.P C.T) (hm:C.P.follows .mixedOrders=true) (id:Nat) (ops:Array Oper) (draw:Bool) : Ti C fn (.region id ops draw) (cd ops.toList) (fun _ s k _=>Wg C id ops draw s fun s=>k .normal s):=by
 intro ρ s p k kr res hpr hs h
 replace h:Wg C id ops draw s (fun s=>k .normal s)=some res:=h
 unfold Wg at h
 split at h
 ·exact P7 hT hm id ops draw ρ s p k kr res hpr hs h
 ·rename_i t l _
  obtain ⟨h1,h2⟩:=am h
  have h3:=P7 (fn:=fn) hT hm id ops draw ρ s p (fun e s=>match e with | .normal=>(match Hf C.sc (t::l) s with | some s=>k .normal s | none=>none) | e=>k e s) kr res hpr hs h2
  refine fw h3 fun e p' hq=>?_
  by_cases he:e = .ret
  ·subst he; exact ⟨p',.refl _,hq⟩
  ·obtain ⟨s',m1,m2,m3⟩:=qh he hq
   cases e with
   | ret=>exact absurd rfl he
   | normal =>
    have m3:(match Hf C.sc (t::l) s' with | some s=>k .normal s | none=>none)=some res:=m3
    split at m3
    ·rename_i s2 hfb
     obtain ⟨p2,k1,k2,k3⟩:=Ll hs (m2.prOk hpr) h1 m2 m1 hfb
     exact ⟨p2,k1,s2,k2,k3,m3⟩
    ·cases m3
   | _=>exact ⟨p',.refl _,KN he m1 m2 m3⟩
theorem Dc {s:SS} {p:PS} (hs:gU s p) {x:Operand} {b:Bool} (h:evX s x = .d (.bool b)) : gU (v6 s x b) p:=by
 unfold v6
 split
 ·rename_i i
  refine ⟨fun j=>?_,hs.bx⟩
  show bb s.bx (lkV ((i,.d (.bool b))::s.sl) j) (p.t j)
  rw [cO]
  split
  ·rename_i e
   subst e
   have:=hs.sl j
   rw [show lkV s.sl j = .d (.bool b) from h] at this
   exact this
  ·exact hs.sl j
 ·exact hs
theorem DX {W:List Nat} {s:SS} {x:Operand} {b:Bool} (h:∀ i,x = .tmp i→aA W i=true) : dH C.sc W s (v6 s x b):=by
 unfold v6
 split
 ·rename_i i
  refine ⟨rfl,rfl,fun _ _=>.refl _,fun j hj _=>?_,fun _ _ _ cs h=>⟨cs,h,rfl⟩⟩
  show lkV ((i,.d (.bool b))::s.sl) j = _
  rw [cO,if_neg (fun e=>by rw [e,h i rfl] at hj; cases hj)]
 ·exact .refl _ _
theorem DS {s:SS} {x:Operand} {b:Bool} (h:mc s) : mc (v6 s x b):=by unfold v6; split <;> exact h
theorem UP {s:SS} {p:PS} (hs:gU s p) (x:Operand) : bb s.bx (evX s x) (ev p x):=by
 cases x with
 | tmp i=>exact hs.sl i
 | const v=>exact EF v
 | global g=>exact .junk _
 | func f=>exact .fn f [] [] [] [] rfl (fun j c q h=>by simp at h) rfl (fun j c q h=>by simp at h)
theorem wM {W W':List Nat} {s s0:SS} {ρ : Type} {k:Exit→SS→Option ρ} {kr:bh C.rs→Option ρ} {res : ρ} (hW:∀ i,aA W i=true→aA W' i=true) (hk:dH C.sc W' s0 s) {e:Exit} {p:PS} (h:wl C fn W s k kr res e p) : wl C fn W' s0 k kr res e p:=by
 by_cases he:e = .ret
 ·subst he; exact h
 ·obtain ⟨s',h1,h2,h3⟩:=qh he h
  exact KN he h1 (hk.trans (h2.wide hW)) h3
theorem DP {σ τ : Type} {f : σ→Option (σ⊕τ)} {m:Nat} {st : σ} {out : τ} (h:ah f m st=some out) : ∃ m',m=m' + 1∧((∃ st',f st=some (.inl st')∧ah f m' st' = some out)∨f st=some (.inr out)):=by
 cases m with
 | zero=>cases h
 | succ m =>
  refine ⟨m,rfl,?_⟩
  unfold ah at h
  split at h
  ·cases h
  ·rename_i st' hf; exact .inl ⟨st',hf,h⟩
  ·rename_i r hf; injection h with h; subst h; exact .inr hf
theorem Ql {c:Code} {ms:List Mod} {id:Nat} {τ : Type} {inr:jS ms→τ} {ret:bh C.rs→Option τ} {step:jS ms→Option (jS ms⊕τ)} {body:(ρ : Type)→SS→(Exit→SS→Option ρ)→(bh C.rs→Option ρ)→Option ρ} (hb:Ti C fn c (wrC c) body)
  {s0:SS} (hstep:step=fun st=>match jM ms st (bW C.sc (wrC c) ms s0) with
   | none=>none
   | some sh=>body (jS ms⊕τ) sh (fun e s'=>match e with
    | .normal=>Option.bind (qk ms s') fun st'=>some (.inl st')
    | .exit id'=>(match Nat.beq id' id with | true=>Option.bind (qk ms s') fun st'=>some (.inr (inr st')) | false=>none)
    | _=>none) (fun r=>(ret r).map .inr))
  {st0:jS ms} {p:PS} (hs0:gU s0 p) (hchk:sg C.sc (wrC c) ms s0.pr s0=true) (hpack:sX s0 ms=some st0) {out : τ} (hl:ah step ac st0=some out)
  (hput:∀ st,inr st=out→∃ s2,jM ms st (bW C.sc (wrC c) ms s0)=some s2) {Q:Exit→PS→Prop} (hexit:∀ st s2 p',inr st=out→jM ms st (bW C.sc (wrC c) ms s0)=some s2→gU s2 p'→dH C.sc (wrC c) (sZ C.sc (wrC c) ms s0) s2→Q (.exit id) p')
  (hret:∀ r p',ret r=some out→QZ C fn p' r→Q .ret p') : PWP C.P C.n (.loop c) Q p:=by
 have put_of:∀ {m st out},ah step m st=some out→∃ sh,jM ms st (bW C.sc (wrC c) ms s0)=some sh:=by
  intro m st out h
  obtain ⟨m',_,h⟩:=DP h
  have:∃ r,step st=some r:=by rcases h with ⟨st',h,_⟩ | h <;> exact ⟨_,h⟩
  obtain ⟨r,hr⟩:=this
  rw [hstep] at hr
  simp only at hr
  split at hr
  ·cases hr
  ·rename_i sh hsh; exact ⟨sh,hsh⟩
 refine Rq (ks:=[]) (bs:=[]) (fun q m=>∃ st sh,jM ms st (bW C.sc (wrC c) ms s0)=some sh∧gU sh q∧dH C.sc (wrC c) (sZ C.sc (wrC c) ms s0) sh∧ah step m st=some out) ac ?_ ?_
 ·obtain ⟨sh,hsh⟩:=put_of hl
  obtain ⟨o1,o2,o3⟩:=IR hs0 hchk (.refl _ _) (s':=sZ C.sc (wrC c) ms s0) ⟨hs0.sl,hs0.bx⟩ (show sX (sZ C.sc (wrC c) ms s0) ms=some st0 from (by
   have:∀ (l:List Mod) (s s':SS),s.sl=s'.sl→s.bx=s'.bx→sX s l=sX s' l:=by
    intro l s s' h1 h2
    have cells:∀ (rows:List (Nat×Nat×Nat×Nat×Ty)) (cs:List SV) (j:Nat),cellsOf s rows j cs=cellsOf s' rows j cs:=by
     intro rows cs
     induction cs with
     | nil=>intro j; rfl
     | cons c cs ih=>intro j; simp only [cellsOf,h2,ih]
    have one:∀ m:Mod,Ao s m=Ao s' m:=by
     intro m
     cases m <;> simp only [Ao,h1,h2,cells]
    induction l with
    | nil=>rfl
    | cons m l ih =>
     cases l with
     | nil=>exact one m
     | cons m' l=>simp only [sX,one,ih]
   exact (this ms (sZ C.sc (wrC c) ms s0) s0 rfl rfl).trans hpack)) hsh
  exact ⟨st0,sh,hsh,o1,o2,hl⟩
 ·rintro q m ⟨st,sh,hsh,hq,hk,hlo⟩
  obtain ⟨m',rfl,hcase⟩:=DP hlo
  have hrun:∃ fr,step st=some fr∧((∃ st',fr = .inl st'∧ah step m' st' = some out)∨fr = .inr out):=by
   rcases hcase with ⟨st',h1,h2⟩ | h1
   ·exact ⟨_,h1,.inl ⟨st',rfl,h2⟩⟩
   ·exact ⟨_,h1,.inr rfl⟩
  obtain ⟨fr,hfr,hcase⟩:=hrun
  have hbody:body (jS ms⊕τ) sh (fun e s'=>match e with
    | .normal=>Option.bind (qk ms s') fun st'=>some (.inl st')
    | .exit id'=>(match Nat.beq id' id with | true=>Option.bind (qk ms s') fun st'=>some (.inr (inr st')) | false=>none)
    | _=>none) (fun r=>(ret r).map .inr)=some fr:=by
   rw [hstep] at hfr
   simp only [hsh] at hfr
   exact hfr
  have hprh:mc sh:=hk.prOk (An ms s0)
  have meet:∀ {s':SS} {p':PS} {st':jS ms} {s2:SS},gU s' p'→dH C.sc (wrC c) sh s'→qk ms s' = some st'→jM ms st' (bW C.sc (wrC c) ms s0)=some s2→∃ p'',Le p' p''∧gU s2 p''∧dH C.sc (wrC c) (sZ C.sc (wrC c) ms s0) s2:=by
   intro s' p' st' s2 m1 m2 m3 m4
   unfold qk at m3
   split at m3
   ·rename_i s'' hf
    obtain ⟨p'',n1,n2,n3⟩:=rn (sc:=C.sc) (m2.prOk hprh) m1 hf
    obtain ⟨o1,o2,o3⟩:=IR hs0 hchk ((hk.trans m2).trans (n3 (wrC c))) n2 m3 m4
    exact ⟨p'',n1,o1,o2⟩
   ·cases m3
  refine fw (hb _ sh q _ _ fr hprh hq hbody) fun e p' hpost=>?_
  by_cases he:e = .ret
  ·subst he
   obtain ⟨r,h1,h3⟩:=hpost
   rw [zm] at h3
   obtain ⟨v,h4,h5⟩:=h3
   rcases hcase with ⟨st',rfl,_⟩ | rfl
   ·cases h5
   ·injection h5 with h5
    subst h5
    exact ⟨p',.refl _,hret r p' h4 h1⟩
  ·obtain ⟨s',m1,m2,m3⟩:=qh he hpost
   cases e with
   | normal =>
    obtain ⟨st',m4,m5⟩:=cG m3
    injection m5 with m5
    rcases hcase with ⟨st2,h1,h2⟩ | h1
    ·rw [← m5] at h1
     injection h1 with h1
     subst h1
     obtain ⟨sh',hsh'⟩:=put_of h2
     obtain ⟨p'',n1,n2,n3⟩:=meet m1 m2 m4 hsh'
     exact ⟨p'',n1,p'',fun _ _ _ _ _ h=>h,m',⟨st',sh',hsh',n2,n3,h2⟩,Nat.lt_succ_self _⟩
    ·rw [← m5] at h1; cases h1
   | exit id' =>
    replace m3:(match Nat.beq id' id with | true=>Option.bind (qk ms s') fun st'=>some (.inr (inr st')) | false=>none)=some fr:=m3
    split at m3
    ·rename_i hid
     rw [cQ] at hid
     have hid:=zd hid
     subst hid
     obtain ⟨st',m4,m5⟩:=cG m3
     injection m5 with m5
     rcases hcase with ⟨st2,h1,h2⟩ | h1
     ·rw [← m5] at h1; cases h1
     ·rw [← m5] at h1
      injection h1 with h1
      obtain ⟨s2,hs2⟩:=hput st' h1
      obtain ⟨p'',n1,n2,n3⟩:=meet m1 m2 m4 hs2
      exact ⟨p'',n1,hexit st' s2 p'' h1 hs2 n2 n3⟩
    ·cases m3
   | ret=>exact absurd rfl he
   | _=>cases m3
end
section
variable {C:Cx} {fn:Func}
theorem oH (hT:qu C.P C.T) (hm:C.P.follows .mixedOrders=true) (hv:fn.results.toList=C.vars) : ∀ (c:Code) (h:tr),Ti C fn c (wrC c) (w6 C c h)
 | .skip,h=>fun ρ s p k kr res hpr hs hx=>TX ⟨s,hs,.refl _ _,hx⟩
 | .label l,h=>fun ρ s p k kr res hpr hs hx=>Rr ⟨s,hs,.refl _ _,hx⟩
 | .exit id,h=>fun ρ s p k kr res hpr hs hx=>TY ⟨s,hs,.refl _ _,hx⟩
 | .ret,h=>fun ρ s p k kr res hpr hs hx=>by
  obtain ⟨r,h1,h2⟩:=cG (show Option.bind (Bt C s) kr=some res from hx)
  obtain ⟨p',h3,h4⟩:=Qr hv (xQ hpr) (qX hs) h1
  exact tG ((Ai hs).trans h3) (Wj ⟨r,h4,h2⟩)
 | .region id ops draw,h=>xD (Wf hT hm id ops draw)
 | .seq a b,h=>by
  refine xD (c:=.seq a b) (wr:=wrC a++wrC b) fun ρ s p k kr res hpr hs hx=>?_
  refine Wi (fw (oH hT hm hv a h.l ρ s p _ _ res hpr hs hx) fun e p' hq=>⟨p',.refl _,?_⟩)
  by_cases he:e = .ret
  ·subst he; exact hq
  ·obtain ⟨s',m1,m2,m3⟩:=qh he hq
   have hk:dH C.sc (wrC a++wrC b) s s':=m2.wide fun i hi=>Wu hi
   cases e with
   | normal =>
    refine fw (oH hT hm hv b h.r ρ s' p' k kr res (hk.prOk hpr) m1 m3) fun e p2 hq2=>⟨p2,.refl _,?_⟩
    exact wM (fun i hi=>Ug hi) hk hq2
   | ret=>exact absurd rfl he
   | _=>exact ⟨s',m1,hk,m3⟩
 | .cond x a b,h=>by
  have hwA:∀ i,aA (wrC a) i=true→aA (wrC (.cond x a b)) i=true:=fun i hi=>by
   cases x <;> simp only [wrC,aZ,de,hi,Bool.true_or,Bool.or_true]
  have hwB:∀ i,aA (wrC b) i=true→aA (wrC (.cond x a b)) i=true:=fun i hi=>by
   cases x <;> simp only [wrC,aZ,de,hi,Bool.or_true]
  have hwx:∀ i,x = .tmp i→aA (wrC (.cond x a b)) i=true:=fun i hi=>by
   subst hi; simp only [wrC,aZ,decide_true,Bool.true_or]
  refine xD (c:=.cond x a b) (wr:=wrC (.cond x a b)) fun ρ s p k kr res hpr hs hx=>?_
  have hx:(match evX s x with | .d (.bool t)=>if t=true then w6 C a h.l ρ (v6 s x true) k kr else w6 C b h.r ρ (v6 s x false) k kr | _=>none)=some res:=hx
  split at hx
  ·rename_i t ht
   have hq:=UP hs x
   rw [ht] at hq
   have hb:=kV hq
   cases t
   ·rw [if_neg (by simp)] at hx
    refine KK false (by rw [hb]; rfl) ?_
    rw [if_neg (by simp)]
    exact fw (oH hT hm hv b h.r ρ _ p k kr res (DS hpr) (Dc hs ht) hx) fun e p' hq=>⟨p',.refl _,wM hwB (DX hwx) hq⟩
   ·rw [if_pos rfl] at hx
    refine KK true (by rw [hb]; rfl) ?_
    rw [if_pos rfl]
    exact fw (oH hT hm hv a h.l ρ _ p k kr res (DS hpr) (Dc hs ht) hx) fun e p' hq=>⟨p',.refl _,wM hwA (DX hwx) hq⟩
  ·cases hx
 | .block id c,h=>by
  refine xD (c:=.block id c) (wr:=wrC c) fun ρ s p k kr res hpr hs hx=>?_
  refine Rt (fw (oH hT hm hv c h.l ρ s p _ _ res hpr hs hx) fun e p' hq=>⟨p',.refl _,?_⟩)
  by_cases he:e = .ret
  ·subst he; exact hq
  ·obtain ⟨s',m1,m2,m3⟩:=qh he hq
   cases e with
   | exit id' =>
    have m3:(match Nat.beq id' id with | true=>k .normal s' | false=>k (.exit id') s')=some res:=m3
    simp only [D0]
    rw [cQ] at m3
    by_cases hid:id' = id
    ·rw [if_pos hid]
     simp only [hid,decide_true] at m3
     exact ⟨s',m1,m2,m3⟩
    ·rw [if_neg hid]
     simp only [hid,decide_false] at m3
     exact ⟨s',m1,m2,m3⟩
   | ret=>exact absurd rfl he
   | _=>exact ⟨s',m1,m2,m3⟩
 | .loop c,h=>fun ρ s p k kr res hpr hs hx=>by
  cases h with
  | lp ms id ret hb =>
   unfold w6 at hx
   cases he:NN (wrC c) ms (clr s) with
   | none=>rw [he] at hx; cases hx
   | some s0 =>
    rw [he] at hx
    obtain ⟨hchk,hx⟩:=am hx
    refine tG (Ai hs) ?_
    unfold NN at he
    split at he
    ·rename_i s1 hnil
     obtain ⟨p2,k1,k2,k3,k4⟩:=qm (sc:=C.sc) (s:=clr s) rfl (xQ hpr) (qX hs) hnil
     refine tG k1 ?_
     have hk1:dH C.sc (wrC c) s s1:=K6 k3
     obtain ⟨p3,n1,n2,n3⟩:=rn (sc:=C.sc) (hk1.prOk hpr) k2.w he
     refine tG n1 ?_
     have hk0:dH C.sc (wrC c) s s0:=hk1.trans (n3 _)
     have hchk':sg C.sc (wrC c) ms s0.pr s0=true:=by rw [hk0.pr]; exact hchk
     cases hpk:sX s0 ms with
     | none=>rw [hpk] at hx; cases hx
     | some st0 =>
      rw [hpk] at hx
      cases ret with
      | false =>
       obtain ⟨out,h1,h2⟩:=cG hx
       refine Ql (C:=C) (fn:=fn) (c:=c) (ms:=ms) (id:=id) (τ:=jS ms) (inr:=fun st=>st) (ret:=fun _=>none) (body:=w6 C c hb) (oH hT hm hv c hb) rfl n2 hchk' hpk h1 ?_ ?_ ?_
       ·intro st hst
        subst hst
        split at h2
        ·rename_i s2 hs2; exact ⟨s2,hs2⟩
        ·cases h2
       ·intro st s2 p' hst hs2 m1 m2
        subst hst
        rw [hs2] at h2
        exact ⟨⟨s2.sl,s2.bx,s.pr,s.ro,s.oc⟩,⟨m1.sl,m1.bx⟩,wU hk0 (Nq hpr hk0 hchk) m2,h2⟩
       ·intro r p' hr; cases hr
      | true =>
       obtain ⟨out,h1,h2⟩:=cG hx
       refine Ql (C:=C) (fn:=fn) (c:=c) (ms:=ms) (id:=id) (τ:=jS ms⊕bh C.rs) (inr:=.inl) (ret:=fun r=>some (.inr r)) (body:=w6 C c hb) (oH hT hm hv c hb) rfl n2 hchk' hpk h1 ?_ ?_ ?_
       ·intro st hst
        subst hst
        have h2:(match jM ms st (bW C.sc (wrC c) ms s0) with | some s2=>k (.exit id) ⟨s2.sl,s2.bx,s.pr,s.ro,s.oc⟩ | none=>none)=some res:=h2
        split at h2
        ·rename_i s2 hs2; exact ⟨s2,hs2⟩
        ·cases h2
       ·intro st s2 p' hst hs2 m1 m2
        subst hst
        have h2:(match jM ms st (bW C.sc (wrC c) ms s0) with | some s2=>k (.exit id) ⟨s2.sl,s2.bx,s.pr,s.ro,s.oc⟩ | none=>none)=some res:=h2
        rw [hs2] at h2
        exact ⟨⟨s2.sl,s2.bx,s.pr,s.ro,s.oc⟩,⟨m1.sl,m1.bx⟩,wU hk0 (Nq hpr hk0 hchk) m2,h2⟩
       ·intro r p' hr h3
        injection hr with hr
        subst hr
        exact ⟨r,h3,h2⟩
    ·cases he
  | _=>cases hx
 | .rangeFunc ..,h=>fun ρ s p k kr res hpr hs hx=>by cases hx
 | .scope ..,h=>fun ρ s p k kr res hpr hs hx=>by cases hx
 | .goto ..,h=>fun ρ s p k kr res hpr hs hx=>by cases hx
 | .refuse ..,h=>fun ρ s p k kr res hpr hs hx=>by cases hx
theorem Jt:∀ (vs:List SV) (i j:Nat),lkV (AI i vs) (i + j)=(vs[j]?).getD .junk
 | [],i,j=>by simp [AI,lkV]
 | v::vs,i,0=>by simp [AI,cO]
 | v::vs,i,j + 1=>by
  simp only [AI,cO]
  rw [if_neg (by omega),show i + (j + 1)=i + 1 + j by omega,Jt vs (i + 1) j]
  simp
theorem GD:∀ (ps:List PT) (x:cJ ps),(qS ps x).length=ps.length
 | [],_=>rfl
 | p::ps,x=>by simp [qS,GD ps]
theorem cT {P:Program} {T:List (Nat×Ent)} {n:Nat} {ps rs:List PT} {vars:List ResultVar} {fz:List (Nat×List Nat)} {sc:List Nat} {fb:List (Nat×List Nat)} {h:tr} {f:FuncId} {fn:Func} {c:Code} (hT:qu P T) (hm:P.follows .mixedOrders=true) (hf:P.funcs[f]? = some fn) (hb:fn.body=some c) (hcb:eB P f=true) (hn:fn.ntmps=n) (hv:fn.results.toList=vars) (hl:((decide (ps.length≤n)&&tI ps) && !(oI ps||oI rs))=true)
  {F:cJ ps→Option (bh rs)} (hF:∀ x,kz ⟨P,T,n,rs,vars,fz,sc,fb⟩ c h ps x=F x) : bR P f ps rs F:=by
 intro x r hx
 rw [Bool.and_eq_true] at hl
 obtain ⟨hl,hl3⟩:=hl
 refine ⟨fun hnM=>?_,fun h=>by rw [h] at hl3; cases hl3⟩
 have hrs:oI rs=false:=by rw [Bool.or_eq_false_iff] at hnM; exact hnM.2
 rw [← hF] at hx
 rw [Bool.and_eq_true] at hl
 have hlen:=zd hl.1
 subst hn
 refine T2 hf hb hcb (by rw [GD]; exact hlen) ?_
 have hargs:=Hm (B:=[]) ps x hl.2
 have hs:gU ⟨AI 0 (BD ps x),[],[],false,[]⟩ ⟨mq (qS ps x),dZ⟩:=by
  refine ⟨fun i=>?_,fun t b hb=>by cases hb⟩
  show bb [] (lkV (AI 0 (BD ps x)) i) (mq (qS ps x) i)
  have:=Jt (BD ps x) 0 i
  rw [Nat.zero_add] at this
  rw [this]
  unfold mq
  cases h1:(BD ps x)[i]? with
  | none=>exact .junk _
  | some v =>
   have hlt:i < (qS ps x).length:=by rw [← hargs.len]; exact (zg.1 h1).1
   rw [zq hlt]
   exact hargs.rep i v _ h1 (zq hlt)
 have hpr:mc ⟨AI 0 (BD ps x),[],[],false,[]⟩:=fun t ht=>by cases ht
 refine fw (oH (C:=⟨P,T,fn.ntmps,rs,vars,fz,sc,fb⟩) (fn:=fn) hT hm hv c h _ _ _ _ _ r hpr hs hx) fun e p' hq=>?_
 by_cases he:e = .ret
 ·subst he
  obtain ⟨r',h1,h3⟩:=hq
  injection h3 with h3
  subst h3
  obtain ⟨q,h1,h2⟩:=h1.1 hrs
  exact ⟨p',.refl _,trivial,q,h1,h2⟩
 ·obtain ⟨s',m1,m2,m3⟩:=qh he hq
  cases e with
  | normal =>
   obtain ⟨q,h1,h2⟩:=K4 (C:=⟨P,T,fn.ntmps,rs,vars,fz,sc,fb⟩) hv (qX m1) hrs m3
   exact ⟨xa s' p',Ai m1,trivial,q,h1,h2⟩
  | ret=>exact absurd rfl he
  | _=>cases m3
end
def Uj:List Nat→List Nat→Nat→Nat
 | a::xs,b::bs,t=>if t=a then b else Uj xs bs t
 | _,_,t=>t
theorem DK:∀ {xs bs:List Nat},xs.Nodup→xs.length=bs.length→xs.map (Uj xs bs)=bs
 | [],[],_,_=>rfl
 | [],_ :: _,_,h=>by cases h
 | _ :: _,[],_,h=>by cases h
 | a::xs,b::bs,hn,hl=>by
  rw [List.nodup_cons] at hn
  have ih:=DK (xs:=xs) (bs:=bs) hn.2 (by simpa using hl)
  simp only [List.map_cons,Uj,if_true]
  congr 1
  conv=>rhs; rw [← ih]
  apply List.map_congr_left
  intro t ht
  rw [if_neg (fun (e:t=a)=>hn.1 (by rw [← e]; exact ht))]
theorem Ab {f:Nat→Nat} : ∀ {l:List Nat},(l.map f).Nodup→∀ x∈l,∀ y∈l,f x=f y→x=y
 | [],_,x,hx,_,_=>by cases hx
 | a::l,h,x,hx,y,hy=>by
  rw [List.map_cons,List.nodup_cons] at h
  intro e
  have hm:∀ z∈l,f z≠f a:=fun z hz e=>h.1 (by rw [← e]; exact List.mem_map_of_mem hz)
  rcases List.mem_cons.1 hx with h1 | h1
  ·rcases List.mem_cons.1 hy with h2 | h2
   ·rw [h1,h2]
   ·exact absurd (by rw [← e,h1]) (hm y h2)
  ·rcases List.mem_cons.1 hy with h2 | h2
   ·exact absurd (by rw [e,h2]) (hm x h1)
   ·exact Ab h.2 x h1 y h2 e
theorem vd {τ : Nat→Nat} : ∀ {xs bs:List (List Nat)},xs.map List.length=bs.map List.length→(bq xs).map τ = bq bs→xs.map (·.map τ)=bs
 | [],[],_,_=>rfl
 | [],_ :: _,h,_=>by cases h
 | _ :: _,[],h,_=>by cases h
 | a::xs,b::bs,hl,h=>by
  simp only [List.map_cons,List.cons.injEq] at hl
  simp only [bq,List.map_append] at h
  obtain ⟨h1,h2⟩:=List.append_inj h (by simpa using hl.1)
  rw [List.map_cons,h1,vd hl.2 h2]
theorem wE:∀ {ps:List PT} {xs bs:List (List Nat)},iL ps xs→iL ps bs→xs.map List.length=bs.map List.length
 | [],[],[],_,_=>rfl
 | [],_ :: _,_,h,_=>h.elim
 | [],[],_ :: _,_,h=>h.elim
 | _ :: _,[],_,h,_=>h.elim
 | _ :: _,_ :: _,[],_,h=>h.elim
 | p::ps,a::xs,b::bs,h1,h2=>by simp only [List.map_cons,h1.1,h2.1,wE h1.2 h2.2]
theorem xM:∀ {ls:List IB} {xs bs:List (List Nat)},jZ ls xs→jZ ls bs→xs.map List.length=bs.map List.length
 | [],[],[],_,_=>rfl
 | [],_ :: _,_,h,_=>h.elim
 | [],[],_ :: _,_,h=>h.elim
 | _ :: _,[],_,h,_=>h.elim
 | _ :: _,_ :: _,[],_,h=>h.elim
 | p::ps,a::xs,b::bs,h1,h2=>by simp only [List.map_cons,h1.1,h2.1,xM h1.2 h2.2]
theorem rg:∀ {xs bs:List (List Nat)},xs.map List.length=bs.map List.length→(bq xs).length=(bq bs).length
 | [],[],_=>rfl
 | [],_ :: _,h=>by cases h
 | _ :: _,[],h=>by cases h
 | a::xs,b::bs,h=>by
  simp only [List.map_cons,List.cons.injEq] at h
  simp only [bq,List.length_append,h.1,rg h.2]
theorem Bf:∀ (ps:List PT) (i:Nat),iL ps (bg i ps)
 | [],_=>trivial
 | p::ps,i=>⟨by cases p <;> first | rfl | simp [mw,PT.nI],Bf ps (i + 1)⟩
mutual
theorem kQ (τ : Nat→Nat) : ∀ q:PV,clean q=true→ml τ q=q∧bc q = []
 | .junk,_=>⟨rfl,rfl⟩
 | .d _,_=>⟨rfl,rfl⟩
 | .fe _,_=>⟨rfl,rfl⟩
 | .ptr _ _,h=>by cases h
 | .row _ _,h=>by cases h
 | .re _ _ _ _,h=>by cases h
 | .vw _ _ _ _,h=>by cases h
 | .ag cs,h=>by simp only [ml,bc]; rw [(fF τ cs h).1,(fF τ cs h).2]; exact ⟨rfl,rfl⟩
 | .tup cs,h=>by simp only [ml,bc]; rw [(fF τ cs h).1,(fF τ cs h).2]; exact ⟨rfl,rfl⟩
 | .fn f ps qs,h=>by
  have h:(cD ps&&cD qs)=true:=h
  rw [Bool.and_eq_true] at h
  simp only [ml,bc]; rw [(fF τ ps h.1).1,(fF τ qs h.2).1,(fF τ ps h.1).2,(fF τ qs h.2).2]; exact ⟨rfl,rfl⟩
theorem fF (τ : Nat→Nat) : ∀ cs:List PV,cD cs=true→e9 τ cs=cs∧bF cs = []
 | [],_=>⟨rfl,rfl⟩
 | c::cs,h=>by
  simp only [cD,Bool.and_eq_true] at h
  simp only [e9,bF]; rw [(kQ τ c h.1).1,(fF τ cs h.2).1,(kQ τ c h.1).2,(fF τ cs h.2).2]; exact ⟨rfl,rfl⟩
end
theorem Ed (τ : Nat→Nat) : ∀ (rows:List (Nat×Nat×Nat×Ty)) (is:List Nat) (j:Nat),pu (mg rows (is.map τ)) j=(pu (mg rows is) j).map fun r=>(τ r.1,r.2)
 | [],is,j=>by cases is <;> rfl
 | (j0,e,k,t)::rows,[],j=>rfl
 | (j0,e,k,t)::rows,R::is,j=>by
  simp only [List.map_cons,mg,pu]
  split
  ·rfl
  ·exact Ed τ rows is j
theorem IE (τ : Nat→Nat) (rows:List (Nat×Nat×Nat×Ty)) (is:List Nat) : ∀ (ds:List D) (j:Nat),ed (mg rows (is.map τ)) j ds=e9 τ (ed (mg rows is) j ds)
 | [],_=>rfl
 | d::ds,j=>by
  simp only [ed,e9,IE τ rows is ds (j + 1),Ed]
  congr 1
  cases pu (mg rows is) j with
  | none=>rfl
  | some r =>
   obtain ⟨R,e,k,t⟩:=r
   cases d <;> rfl
theorem zY (τ : Nat→Nat) (rows:List (Nat×Nat×Nat×Ty)) (is:List Nat) : ∀ (ds:List D) (j:Nat),bZ (mg rows (is.map τ)) j ds=mj τ (bZ (mg rows is) j ds)
 | [],_=>rfl
 | d::ds,j=>by
  simp only [bZ,Ed]
  cases pu (mg rows is) j with
  | none=>exact zY τ rows is ds (j + 1)
  | some r =>
   obtain ⟨R,e,k,t⟩:=r
   cases d with
   | v=>exact zY τ rows is ds (j + 1)
   | sl es=>simp only [Option.map_some,mj,zY τ rows is ds (j + 1)]; rfl
theorem tE (τ : Nat→Nat) : ∀ (a b:BU),mj τ (a++b)=mj τ a++mj τ b
 | [],b=>rfl
 | (t,B)::a,b=>by simp only [List.cons_append,mj,tE τ a b]
theorem ib:∀ (a b:BU),bN (a++b)=bN a++bN b
 | [],b=>rfl
 | (t,B)::a,b=>by simp only [List.cons_append,bN,ib a b]
theorem LC (τ : Nat→Nat) : ∀ (a:BU),bN (mj τ a)=(bN a).map τ
 | []=>rfl
 | (t,B)::a=>by simp only [mj,bN,LC τ a,List.map_cons]
theorem Im (τ : Nat→Nat) (p:PT) (is:List Nat) (x:p.den) : toI p (is.map τ) x=(ml τ (toI p is x).1,mj τ (toI p is x).2):=by
 cases p with
 | io=>rfl
 | lf t=>simp only [toI]; rw [(kQ τ _ (dL (.lf t) x)).1]; rfl
 | ag t=>simp only [toI]; rw [(kQ τ _ (dL (.ag t) x)).1]; rfl
 | pl t=>simp only [toI]; rw [(kQ τ _ (dL (.pl t) x)).1]; rfl
 | ps t=>simp only [toI]; rw [(kQ τ _ (dL (.ps t) x)).1]; rfl
 | fn f a b=>simp only [toI]; rw [(kQ τ _ (dL (.fn f a b) x)).1]; rfl
 | own e k t=>match is with
  | []=>rfl
  | [i]=>rfl
  | _ :: _ :: _=>rfl
 | mv e k t=>match is with
  | []=>rfl
  | [i]=>rfl
  | _ :: _ :: _=>rfl
 | bx ty n rows=>match is with
  | []=>rfl
  | i::is=>simp only [toI,List.map_cons,IE,zY]; rfl
 | agr n rows=>simp only [toI,IE,zY]; rfl
theorem Ks (τ : Nat→Nat) : ∀ (ps:List PT) (iss:List (List Nat)) (x:cJ ps),eb ps (iss.map (·.map τ)) x=(e9 τ (eb ps iss x).1,mj τ (eb ps iss x).2)
 | [],iss,x=>by cases iss <;> rfl
 | p::ps,[],x=>rfl
 | p::ps,is::iss,x=>by simp only [List.map_cons,eb,Im,Ks τ ps iss x.2,e9,tE]
theorem zP (τ : Nat→Nat) : ∀ (rs:List PT) (iss:List (List Nat)) (x:bh rs),cN rs (iss.map (·.map τ)) x=(e9 τ (cN rs iss x).1,mj τ (cN rs iss x).2)
 | [],iss,x=>by cases iss <;> rfl
 | [p],[],x=>rfl
 | [p],is::iss,x=>by
  have h:=Im τ p is x
  show ([(toI p (is.map τ) x).1],(toI p (is.map τ) x).2)=([ml τ (toI p is x).1],mj τ (toI p is x).2)
  exact congrArg (fun z:PV×BU=>([z.1],z.2)) h
 | p::q::l,[],x=>rfl
 | p::q::l,is::iss,x=>by
  have h1:=Im τ p is x.1
  have h2:=zP τ (q::l) iss x.2
  have h3:((toI p (is.map τ) x.1).1::(cN (q::l) (iss.map (·.map τ)) x.2).1,(toI p (is.map τ) x.1).2++(cN (q::l) (iss.map (·.map τ)) x.2).2)=(ml τ (toI p is x.1).1::e9 τ (cN (q::l) iss x.2).1,mj τ (toI p is x.1).2++mj τ (cN (q::l) iss x.2).2) :=
   congr (f₁:=fun (y:List PV×BU)=>((toI p (is.map τ) x.1).1::y.1,(toI p (is.map τ) x.1).2++y.2)) (f₂:=fun (y:List PV×BU)=>(ml τ (toI p is x.1).1::y.1,mj τ (toI p is x.1).2++y.2)) (congrArg (fun (z:PV×BU) (y:List PV×BU)=>(z.1::y.1,z.2++y.2)) h1) h2
  refine h3.trans ?_
  rw [← tE]; rfl
theorem Wr (τ : Nat→Nat) (qs:List PV) : ml τ (xV qs)=xV (e9 τ qs):=by
 match qs with
 | []=>rfl
 | [q]=>rfl
 | q::q' :: qs=>rfl
theorem Kr (τi τ : Nat→Nat) : ∀ (ps:List PT) (ls:List IB) (i:Nat) (iss kss:List (List Nat)) (x:cJ ps) (o:xT ls),Nx ps ls=true→iL ps iss→jZ ls kss→(∀ s∈dr i ls,τ s = τi s)→(bg i ps).map (·.map τi)=iss→Q7 ps ls iss (kss.map (·.map τ)) x o=mj τ (rv i ls kss o)
 | [],[],i,iss,kss,x,o,_,_,_,_,_=>rfl
 | [],_ :: _,_,_,_,_,_,h,_,_,_,_=>by cases h
 | _ :: _,[],_,_,_,_,_,h,_,_,_,_=>by cases h
 | p::ps,b::ls,i,[],kss,x,o,_,h,_,_,_=>h.elim
 | p::ps,b::ls,i,is::iss,[],x,o,_,_,h,_,_=>h.elim
 | p::ps,b::ls,i,is::iss,js::kss,x,o,hio,hs,hk,hkk,he=>by
  simp only [Nx] at hio
  split at hio
  ·rename_i h1
   simp only [bg,List.map_cons,List.cons.injEq] at he
   obtain ⟨e1,e2⟩:=he
   have hk2:∀ s∈dr (i + 1) ls,τ s = τi s:=fun s hs=>hkk s (by cases b <;> simp [dr,hs])
   have ih:=Kr τi τ ps ls (i + 1) iss kss x.2 o.2 hio hs.2 hk.2 hk2 e2
   simp only [List.map_cons,Q7,rv,tE,ih]
   congr 1
   cases p with
   | own e k t=>cases b with
    | own e' k' t' =>
     subst e1
     have:=hkk (tn i) (by simp [dr])
     simp only [toO,mw,List.map_cons,List.map_nil,boI,mj,this]; rfl
    | _=>cases h1
   | bx ty n rows=>cases b with
    | bx ty' n' rows' =>
     subst e1
     have:=hkk (tn i) (by simp [dr])
     simp only [toO,mw,List.map_cons,boI,mj,IE,zY,this]; rfl
    | _=>cases h1
   | mv=>cases b <;> first | rfl | cases h1
   | lf=>cases b <;> first | rfl | cases h1
   | ag=>cases b <;> first | rfl | cases h1
   | pl=>cases b <;> first | rfl | cases h1
   | ps=>cases b <;> first | rfl | cases h1
   | fn=>cases b <;> first | rfl | cases h1
   | agr=>cases h1
   | io=>cases h1
  ·cases hio
def gS (l:BU) : Prop:=∀ t B,(t,B)∈l→∀ s∈KG B,s∈bN l
theorem gS.app {a b:BU} (h:gS a) (h':gS b) : gS (a++b):=fun t B hm s hs=>by
 rw [ib,List.mem_append]
 rcases List.mem_append.1 hm with hm | hm
 ·exact .inl (h t B hm s hs)
 ·exact .inr (h' t B hm s hs)
theorem gS.u {l:BU} (h:gS l) : Jg l:=fun t B hl=>h t B (oC hl)
theorem IG {rows:List (Nat×Nat×Nat×Nat×Ty)} : ∀ (ds:List D) (j:Nat),∀ s∈bF (ed rows j ds),s∈bN (bZ rows j ds)
 | [],_,s,h=>by cases h
 | d::ds,j,s,h=>by
  simp only [ed,bF,List.mem_append] at h
  simp only [bZ]
  have ih:=IG (rows:=rows) ds (j + 1) s
  cases hf:pu rows j with
  | none =>
   rw [hf] at h
   exact ih (h.resolve_left (by simp [bc]))
  | some r =>
   obtain ⟨R,e,k,t⟩:=r
   rw [hf] at h
   cases d with
   | v=>exact ih (h.resolve_left (by simp [bc]))
   | sl es =>
    simp only [bN,List.mem_cons]
    rcases h with h | h
    ·simp only [bc,List.mem_cons,List.not_mem_nil,or_false] at h; exact .inl h
    ·exact .inr (ih h)
theorem oT {rows:List (Nat×Nat×Nat×Nat×Ty)} : ∀ (ds:List D) (j:Nat) t B,(t,B)∈bZ rows j ds→KG B = []∧∃ e k es,B = .rw e k es
 | [],_,t,B,h=>by cases h
 | d::ds,j,t,B,h=>by
  simp only [bZ] at h
  split at h
  ·split at h
   ·rcases List.mem_cons.1 h with e | h
    ·injection e with _ e; subst e; exact ⟨rfl,_,_,_,rfl⟩
    ·exact oT ds (j + 1) t B h
   ·exact oT ds (j + 1) t B h
  ·exact oT ds (j + 1) t B h
theorem GG {rows:List (Nat×Nat×Nat×Nat×Ty)} (i:Nat) (ty:TypeId) (ds:List D) : gS ((i,.st ty (ed rows 0 ds))::bZ rows 0 ds):=fun t B hm s hs=>by
 simp only [bN,List.mem_cons]
 rcases List.mem_cons.1 hm with e | hm
 ·injection e with _ e
  subst e
  exact .inr (IG ds 0 s hs)
 ·rw [(oT ds 0 t B hm).1] at hs; cases hs
theorem wP (i:Nat) (e k:Nat) (t:Ty) (xs:List t.den) : gS [(i,rwU e k t xs)]:=fun t B hm s hs=>by
 simp only [List.mem_cons,List.not_mem_nil,or_false,Prod.mk.injEq] at hm
 rw [hm.2] at hs
 cases hs
theorem cV:gS []:=fun t B hm=>by cases hm
theorem C6 (p:PT) (is:List Nat) (x:p.den) : (∀ s∈bc (toI p is x).1,s∈bN (toI p is x).2)∧gS (toI p is x).2:=by
 have plain:∀ {q:PV},clean q=true→(∀ s∈bc q,s∈bN [])∧gS []:=fun hq=>⟨fun s h=>(by rw [(kQ id _ hq).2] at h; cases h),cV⟩
 cases p with
 | io=>exact ⟨fun s h=>(by cases h),cV⟩
 | lf t=>exact plain (dL (.lf t) x)
 | ag t=>exact plain (dL (.ag t) x)
 | pl t=>exact plain (dL (.pl t) x)
 | ps t=>exact plain (dL (.ps t) x)
 | fn f a b=>exact plain (dL (.fn f a b) x)
 | own e k t=>match is with
  | []=>exact ⟨fun s h=>(by cases h),cV⟩
  | [i]=>exact ⟨fun s h=>h,wP i e k t x⟩
  | _ :: _ :: _=>exact ⟨fun s h=>(by cases h),cV⟩
 | mv e k t=>match is with
  | []=>exact ⟨fun s h=>(by cases h),cV⟩
  | [i]=>exact ⟨fun s h=>h,wP i e k t x⟩
  | _ :: _ :: _=>exact ⟨fun s h=>(by cases h),cV⟩
 | bx ty n rows=>match is with
  | []=>exact ⟨fun s h=>(by cases h),cV⟩
  | i::is=>exact ⟨fun s h=>by simp only [toI,bc,List.mem_cons,List.not_mem_nil,or_false] at h; simp only [toI,bN,List.mem_cons]; exact .inl h,GG i ty _⟩
 | agr n rows=>exact ⟨fun s h=>IG _ 0 s h,fun t B hm s hs=>by rw [(oT _ 0 t B hm).1] at hs; cases hs⟩
theorem GF:∀ (ps:List PT) (iss:List (List Nat)) (x:cJ ps),(∀ s∈bF (eb ps iss x).1,s∈bN (eb ps iss x).2)∧gS (eb ps iss x).2
 | [],iss,x=>⟨fun s h=>(by cases h),cV⟩
 | p::ps,[],x=>⟨fun s h=>(by cases h),cV⟩
 | p::ps,is::iss,x=>by
  obtain ⟨h1,h2⟩:=C6 p is x.1
  obtain ⟨h3,h4⟩:=GF ps iss x.2
  refine ⟨fun s h=>?_,h2.app h4⟩
  simp only [eb,bF,List.mem_append] at h
  simp only [eb,ib,List.mem_append]
  exact h.imp (h1 s) (h3 s)
theorem C4:∀ (rs:List PT) (iss:List (List Nat)) (x:bh rs),(∀ s∈bF (cN rs iss x).1,s∈bN (cN rs iss x).2)∧gS (cN rs iss x).2
 | [],iss,x=>⟨fun s h=>(by cases h),cV⟩
 | [p],[],x=>⟨fun s h=>(by cases h),cV⟩
 | [p],is::iss,x=>by
  obtain ⟨h1,h2⟩:=C6 p is (show p.den from x)
  refine ⟨fun s h=>?_,h2⟩
  have h:s∈bc (toI p is (show p.den from x)).1 ++ []:=h
  rw [List.append_nil] at h
  exact h1 s h
 | p::q::l,[],x=>⟨fun s h=>(by cases h),cV⟩
 | p::q::l,is::iss,x=>by
  obtain ⟨h1,h2⟩:=C6 p is x.1
  obtain ⟨h3,h4⟩:=C4 (q::l) iss x.2
  refine ⟨fun s h=>?_,h2.app h4⟩
  have h:s∈bc (toI p is x.1).1++bF (cN (q::l) iss x.2).1:=h
  show s∈bN ((toI p is x.1).2++(cN (q::l) iss x.2).2)
  rw [ib,List.mem_append]
  exact (List.mem_append.1 h).imp (h1 s) (h3 s)
theorem T7 (qs:List PV) : ∀ s∈bc (xV qs),s∈bF qs:=by
 match qs with
 | []=>exact fun s h=>by cases h
 | [q]=>exact fun s h=>by simpa [bF,xV] using h
 | q::q' :: qs=>exact fun s h=>h
theorem GC:∀ {rs:List PT} {iss:List (List Nat)} {x:bh rs} {t:Nat},t∈bN (cN rs iss x).2→t∈bq iss
 | [],iss,x,t,h=>by cases h
 | [p],[],x,t,h=>by cases h
 | [p],is::iss,x,t,h=>by
  have h:t∈bN (toI p is (show p.den from x)).2:=h
  rw [rq,List.mem_append]
  obtain ⟨B,hB⟩:=cI.1 h
  exact .inl (Ip (oC hB))
 | p::q::l,[],x,t,h=>by cases h
 | p::q::l,is::iss,x,t,h=>by
  have h:t∈bN ((toI p is x.1).2++(cN (q::l) iss x.2).2):=h
  rw [ib,List.mem_append] at h
  rw [rq,List.mem_append]
  rcases h with h | h
  ·obtain ⟨B,hB⟩:=cI.1 h
   exact .inl (Ip (oC hB))
  ·exact .inr (GC h)
theorem Xb (i:Nat) (b:IB) (js:List Nat) (o:b.den) : gS (boI i b js o)∧∀ t∈bN (boI i b js o),t=tn i∧b≠.no∨t∈js:=by
 cases b with
 | no=>exact ⟨cV,fun t h=>by cases h⟩
 | own e k t=>exact ⟨wP _ _ _ _ _,fun t' h=>by simp only [boI,bN,List.mem_cons,List.not_mem_nil,or_false] at h; exact .inl ⟨h,fun e=>by cases e⟩⟩
 | bx ty n rows =>
  refine ⟨GG _ _ _,fun t h=>?_⟩
  simp only [boI,bN,List.mem_cons] at h
  rcases h with h | h
  ·exact .inl ⟨h,fun e=>by cases e⟩
  ·obtain ⟨B,hB⟩:=cI.1 h
   exact .inr (wL (oC hB))
theorem tT {i:Nat} {b:IB} {ls:List IB} {s:Nat} : s∈dr i (b::ls)↔(s=tn i∧b≠.no)∨s∈dr (i + 1) ls:=by
 cases b <;> simp [dr]
theorem EP:∀ (ls:List IB) (i:Nat) (kss:List (List Nat)) (o:xT ls),jZ ls kss→gS (rv i ls kss o)∧(∀ t∈bN (rv i ls kss o),t∈dr i ls∨t∈bq kss)∧∀ t∈dr i ls,t∈bN (rv i ls kss o)
 | [],i,kss,o,_=>⟨cV,fun t h=>(by cases h),fun t h=>by cases h⟩
 | b::ls,i,[],o,h=>h.elim
 | b::ls,i,js::kss,o,h=>by
  obtain ⟨h1,h2⟩:=Xb i b js o.1
  obtain ⟨h3,h4,h5⟩:=EP ls (i + 1) kss o.2 h.2
  refine ⟨h1.app h3,fun t ht=>?_,fun t ht=>?_⟩
  ·simp only [rv,ib,List.mem_append] at ht
   rw [tT,rq,List.mem_append]
   rcases ht with ht | ht
   ·rcases h2 t ht with h6 | h6
    ·exact .inl (.inl h6)
    ·exact .inr (.inl h6)
   ·rcases h4 t ht with h6 | h6
    ·exact .inl (.inr h6)
    ·exact .inr (.inr h6)
  ·rw [tT] at ht
   simp only [rv,ib,List.mem_append]
   rcases ht with ⟨rfl,hb⟩ | ht
   ·left
    cases b with
    | no=>exact absurd rfl hb
    | own=>simp [boI,bN]
    | bx=>simp [boI,bN]
   ·exact .inr (h5 t ht)
theorem K5:∀ (ls:List IB) (i:Nat),∀ s∈dr i ls,1000000≤s
 | [],i,s,h=>by cases h
 | b::ls,i,s,h=>by
  rw [tT] at h
  rcases h with ⟨rfl,_⟩ | h
  ·unfold tn; omega
  ·exact K5 ls (i + 1) s h
theorem Bc:∀ (ps:List PT) (ls:List IB) (i:Nat) (x:cJ ps),Nx ps ls=true →
  (∀ s∈dr i ls,s∈bN (eb ps (bg i ps) x).2)∧∀ t B,(t,B)∈(eb ps (bg i ps) x).2→t ∉ dr i ls→(∃ e k es,B = .rw e k es)∧t∈pn ps (bg i ps)
 | [],[],i,x,_=>⟨fun s h=>(by cases h),fun t B h=>by cases h⟩
 | [],_ :: _,_,_,h=>by cases h
 | _ :: _,[],_,_,h=>by cases h
 | p::ps,b::ls,i,x,hio=>by
  simp only [Nx] at hio
  split at hio
  ·rename_i h1
   obtain ⟨k1,k2⟩:=Bc ps ls (i + 1) x.2 hio
   have head:(b≠.no→tn i∈bN (toI p (mw i p) x.1).2)∧∀ t B,(t,B)∈(toI p (mw i p) x.1).2→¬ (t=tn i∧b≠.no)→(∃ e k es,B = .rw e k es)∧t∈G8 p (mw i p):=by
    cases p with
    | own e k t=>cases b with
     | own e' k' t' =>
      refine ⟨fun _=>by simp [toI,mw,bN],fun t B hm hn=>?_⟩
      simp only [toI,mw,List.mem_cons,List.not_mem_nil,or_false,Prod.mk.injEq] at hm
      exact absurd ⟨hm.1,fun e=>by cases e⟩ hn
     | _=>cases h1
    | mv e k t=>cases b with
     | no =>
      refine ⟨fun h=>absurd rfl h,fun t B hm _=>?_⟩
      simp only [toI,mw,List.mem_cons,List.not_mem_nil,or_false,Prod.mk.injEq] at hm
      obtain ⟨rfl,rfl⟩:=hm
      exact ⟨⟨_,_,_,rfl⟩,by simp [G8,mw]⟩
     | _=>cases h1
    | bx ty n rows=>cases b with
     | bx ty' n' rows' =>
      refine ⟨fun _=>by simp [toI,mw,bN],fun t B hm hn=>?_⟩
      simp only [toI,mw] at hm
      rcases List.mem_cons.1 hm with e | hm
      ·injection e with e _
       exact absurd ⟨e,fun e=>by cases e⟩ hn
      ·exact ⟨(oT _ 0 t B hm).2,wL hm⟩
     | _=>cases h1
    | lf=>cases b <;> first | exact ⟨fun h=>absurd rfl h,fun t B hm=>by cases hm⟩ | cases h1
    | ag=>cases b <;> first | exact ⟨fun h=>absurd rfl h,fun t B hm=>by cases hm⟩ | cases h1
    | pl=>cases b <;> first | exact ⟨fun h=>absurd rfl h,fun t B hm=>by cases hm⟩ | cases h1
    | ps=>cases b <;> first | exact ⟨fun h=>absurd rfl h,fun t B hm=>by cases hm⟩ | cases h1
    | fn=>cases b <;> first | exact ⟨fun h=>absurd rfl h,fun t B hm=>by cases hm⟩ | cases h1
    | agr=>cases h1
    | io=>cases h1
   refine ⟨fun s hs=>?_,fun t B hm hn=>?_⟩
   ·simp only [bg,eb,ib,List.mem_append]
    rcases tT.1 hs with ⟨rfl,h⟩ | h
    ·exact .inl (head.1 h)
    ·exact .inr (k1 s h)
   ·simp only [bg,eb] at hm
    simp only [bg,pn,List.mem_append]
    rw [tT,not_or] at hn
    rcases List.mem_append.1 hm with hm | hm
    ·obtain ⟨q1,q2⟩:=head.2 t B hm hn.1
     exact ⟨q1,.inl q2⟩
    ·obtain ⟨q1,q2⟩:=k2 t B hm hn.2
     exact ⟨q1,.inr q2⟩
  ·cases hio
theorem G6 (τ : Nat→Nat) : ∀ (ps:List PT) (iss:List (List Nat)),pn ps (iss.map (·.map τ))=(pn ps iss).map τ
 | [],iss=>by cases iss <;> rfl
 | p::ps,[]=>rfl
 | p::ps,is::iss=>by
  simp only [List.map_cons,pn,G6 τ ps iss,List.map_append]
  congr 1
  cases p with
  | bx=>cases is <;> rfl
  | _=>rfl
theorem D2:∀ (ps:List PT) (iss:List (List Nat)),∀ s∈pn ps iss,s∈bq iss
 | [],iss,s,h=>by cases iss <;> cases h
 | p::ps,[],s,h=>by cases h
 | p::ps,is::iss,s,h=>by
  simp only [pn,List.mem_append] at h
  rw [rq,List.mem_append]
  rcases h with h | h
  ·left
   cases p with
   | mv=>exact h
   | bx=>cases is with
    | nil=>cases h
    | cons a is=>exact List.mem_cons_of_mem _ h
   | _=>cases h
  ·exact .inr (D2 ps iss s h)
theorem D3 (l:BU) : ∀ (is:List Nat) (t:Nat),lkU (D4 l is) t=if t∈is then some (match lkU l t with | some B=>Xu B | none=>.st 0 []) else none
 | [],t=>rfl
 | a::is,t=>by
  simp only [D4,lkU]
  by_cases h:t=a
  ·subst h; simp only [if_true,List.mem_cons,true_or]; rfl
  ·simp only [h,if_false,List.mem_cons,false_or]; exact D3 l is t
theorem IW (a b:BU) (t:Nat) : lkU (a++b) t=match lkU a t with | some B=>some B | none=>lkU b t:=by
 induction a with
 | nil=>rfl
 | cons x a ih =>
  obtain ⟨j,B⟩:=x
  simp only [List.cons_append,lkU]
  split
  ·rfl
  ·exact ih
theorem W8 {P:Program} {f:FuncId} {ps rs:List PT} {x:cJ ps} {r:bh rs} (hio:Nx ps (cp rs)=true) (hlen:K1 ps (cp rs) x (jR rs r)) (hn0:(bq (bg 0 ps)).Nodup) (hgk:∀ s∈pn ps (bg 0 ps),s ∉ dr 0 (cp rs))
  (h:PCm P f (eb ps (bg 0 ps) x).1 (eb ps (bg 0 ps) x).2 (dr 0 (cp rs)) fun q bo=>∃ kss jss,jZ (cp rs) kss∧iL (e8 rs) jss∧(dr 0 (cp rs)++(bq kss++bq jss)).Nodup∧q=xV (cN (e8 rs) jss (iM rs r)).1∧bo=rv 0 (cp rs) kss (jR rs r)++(cN (e8 rs) jss (iM rs r)).2) : Zm P f ps rs x r:=by
 refine ⟨hlen,fun iss kss jss hsi hsk hsj hnd hlt hall=>⟨h.1,fun w0 F0 ρ b w F vs args hargs hb hbn hi hv=>?_⟩⟩
 have hK:=Bc ps (cp rs) 0 x hio
 have hl0:=wE (Bf ps 0) hsi
 let τi:=Uj (bq (bg 0 ps)) (bq iss)
 have e1:(bq (bg 0 ps)).map τi=bq iss:=DK hn0 (rg hl0)
 have e2:(bg 0 ps).map (·.map τi)=iss:=vd hl0 e1
 obtain ⟨n1,n2,n3⟩:=List.nodup_append.1 hnd
 have hinj:∀ s∈bq (bg 0 ps),∀ s'∈bq (bg 0 ps),τi s = τi s'→s=s':=Ab (by rw [e1]; exact n1)
 have hdom:∀ s∈bN (eb ps (bg 0 ps) x).2,s∈bq (bg 0 ps):=fun s hs=>by
  obtain ⟨B,hB⟩:=cI.1 hs
  exact C5 (oC hB)
 have hren:=Ks τi ps (bg 0 ps) x
 rw [e2] at hren
 have hfl:∀ s∈bq (bg 0 ps),s∈bN (eb ps (bg 0 ps) x).2:=fun s hs=>by
  have h1 : τi s∈bq iss:=by rw [← e1]; exact List.mem_map_of_mem hs
  have h2:=hall _ h1
  rw [hren] at h2
  simp only [LC] at h2
  obtain ⟨s',h3,h4⟩:=List.mem_map.1 h2
  rw [← hinj s' (hdom s' h3) s hs h4]
  exact h3
 have hii:∀ s∈bN (eb ps (bg 0 ps) x).2,∀ s'∈bN (eb ps (bg 0 ps) x).2,τi s = τi s'→s=s':=fun s h1 s' h2=>hinj s (hdom s h1) s' (hdom s' h2)
 have hcl:=GF ps (bg 0 ps) x
 refine Va (τi:=τi) (N:=bq kss++bq jss) (u:=sY ps rs iss kss jss x r) h hii ?_ hlt hcl.1 (by rw [hargs,hren]) hcl.2.u w0 F0 ρ b w F vs (fun s B hs=>?_) hbn hi hv
 rotate_left
 ·have:=CH (σ:=τi) hii hs
  rw [show mj τi (eb ps (bg 0 ps) x).2=(eb ps iss x).2 from by rw [hren]] at this
  exact hb _ _ this
 rintro q bo ⟨kss0,jss0,m1,m2,m3,rfl,rfl⟩
 have hl1:=xM m1 hsk
 have hl2:=wE m2 hsj
 have hKf:∀ s∈dr 0 (cp rs),s∈bq (bg 0 ps):=fun s hs=>hdom s (hK.1 s hs)
 have ⟨p1,p2,p3⟩:=List.nodup_append.1 m3
 have hKn:((dr 0 (cp rs)).map τi).Nodup:=by
  have:∀ l:List Nat,l.Nodup→(∀ s∈l,s∈bq (bg 0 ps))→(l.map τi).Nodup:=fun l=>by
   induction l with
   | nil=>intro _ _; exact List.nodup_nil
   | cons a l ih =>
    intro hn hs
    rw [List.nodup_cons] at hn
    rw [List.map_cons,List.nodup_cons]
    refine ⟨fun hm=>?_,ih hn.2 fun s h=>hs s (List.mem_cons_of_mem _ h)⟩
    obtain ⟨s,h1,h2⟩:=List.mem_map.1 hm
    have:=hinj s (hs s (List.mem_cons_of_mem _ h1)) a (hs a List.mem_cons_self) h2
    rw [this] at h1
    exact hn.1 h1
  exact this _ p1 hKf
 have htg:((dr 0 (cp rs)).map τi++(bq kss++bq jss)).Nodup:=by
  refine List.nodup_append.2 ⟨hKn,n2,fun a ha b' hb'=>?_⟩
  obtain ⟨s,h1,rfl⟩:=List.mem_map.1 ha
  exact n3 _ (by rw [← e1]; exact List.mem_map_of_mem (hKf s h1)) _ hb'
 let τ:=Uj (dr 0 (cp rs)++(bq kss0++bq jss0)) ((dr 0 (cp rs)).map τi++(bq kss++bq jss))
 have et:(dr 0 (cp rs)++(bq kss0++bq jss0)).map τ = (dr 0 (cp rs)).map τi++(bq kss++bq jss):=DK m3 (by simp [rg hl1,rg hl2])
 have hinjo:=Ab (f:=τ) (l:=dr 0 (cp rs)++(bq kss0++bq jss0)) (by rw [et]; exact htg)
 have et2:=et
 rw [List.map_append,List.map_append] at et2
 obtain ⟨q1,q2⟩:=List.append_inj et2 (by simp)
 obtain ⟨q2,q3⟩:=List.append_inj q2 (by simp [rg hl1])
 have hτK:∀ s∈dr 0 (cp rs),τ s = τi s:=List.map_inj_left.1 q1
 have b1:=vd hl1 q2
 have b2:=vd hl2 q3
 obtain ⟨c1,c2,c3⟩:=EP (cp rs) 0 kss0 (jR rs r) m1
 have hbo:∀ s∈bN (rv 0 (cp rs) kss0 (jR rs r)++(cN (e8 rs) jss0 (iM rs r)).2),s∈dr 0 (cp rs)∨s∈bq kss0++bq jss0:=fun s hs=>by
  rw [ib,List.mem_append] at hs
  rw [List.mem_append]
  rcases hs with hs | hs
  ·rcases c2 s hs with h | h
   ·exact .inl h
   ·exact .inr (.inl h)
  ·exact .inr (.inr (GC hs))
 have hbo':∀ s∈bN (rv 0 (cp rs) kss0 (jR rs r)++(cN (e8 rs) jss0 (iM rs r)).2),s∈dr 0 (cp rs)++(bq kss0++bq jss0):=fun s hs=>List.mem_append.2 (hbo s hs)
 have hnewm:∀ s∈bq kss0++bq jss0,τ s∈bq kss++bq jss:=fun s hs=>by
  rw [← q2,← q3,← List.map_append]
  exact List.mem_map_of_mem hs
 have hoo:∀ s∈bN (rv 0 (cp rs) kss0 (jR rs r)++(cN (e8 rs) jss0 (iM rs r)).2),∀ s'∈bN (rv 0 (cp rs) kss0 (jR rs r)++(cN (e8 rs) jss0 (iM rs r)).2),τ s = τ s'→s=s':=fun s h1 s' h2=>hinjo s (hbo' s h1) s' (hbo' s' h2)
 have hfit:Zk τi τ (eb ps (bg 0 ps) x).2 (rv 0 (cp rs) kss0 (jR rs r)++(cN (e8 rs) jss0 (iM rs r)).2) (dr 0 (cp rs)):=by
  refine ⟨hii,hoo,fun s hs s' hs' e=>?_,fun s hs=>⟨hK.1 s hs,by rw [ib,List.mem_append]; exact .inl (c3 s hs),(hτK s hs).symm⟩⟩
  rcases hbo s' hs' with h1 | h1
  ·rw [hτK s' h1] at e
   have:=hii s hs s' (hK.1 s' h1) e
   subst this
   exact ⟨rfl,h1⟩
  ·exact absurd e (n3 _ (by rw [← e1]; exact List.mem_map_of_mem (hdom s hs)) _ (hnewm s' h1))
 have hgo:pn ps iss=(pn ps (bg 0 ps)).map τi:=by rw [← G6,e2]
 have hu:sY ps rs iss kss jss x r=mj τ (rv 0 (cp rs) kss0 (jR rs r)++(cN (e8 rs) jss0 (iM rs r)).2)++D4 (mj τi (eb ps (bg 0 ps) x).2) (pn ps iss):=by
  unfold sY
  rw [hren]
  have h1:=Kr τi τ ps (cp rs) 0 iss kss0 x (jR rs r) hio hsi m1 hτK e2
  rw [b1] at h1
  have h2:=zP τ (e8 rs) jss0 (iM rs r)
  rw [b2] at h2
  rw [h1,h2,tE,List.append_assoc]
 refine ⟨τ,hfit,⟨fun s B hs=>?_,fun s B hs hk=>?_,fun i B hB=>?_⟩,?_,fun s hs hk=>?_⟩
 ·rw [hu,IW,CH hoo hs]
 ·have hm:=oC hs
  obtain ⟨⟨e,k,es,rfl⟩,hg⟩:=hK.2 s B hm hk
  have hnone:lkU (mj τ (rv 0 (cp rs) kss0 (jR rs r)++(cN (e8 rs) jss0 (iM rs r)).2)) (τi s)=none:=by
   cases hl:lkU (mj τ (rv 0 (cp rs) kss0 (jR rs r)++(cN (e8 rs) jss0 (iM rs r)).2)) (τi s) with
   | none=>rfl
   | some C =>
    obtain ⟨s',h1,h2⟩:=tQ hl
    exact absurd (hfit.io s (cI.2 ⟨_,hs⟩) s' h1 h2).2 hk
  refine ⟨e,k,es,es ++ [[]],rfl,?_,by simp⟩
  rw [hu,IW,hnone]
  simp only
  rw [D3,if_pos (by rw [hgo]; exact List.mem_map_of_mem hg),CH hii hs]
  rfl
 ·rw [hu,IW] at hB
  split at hB
  ·rename_i C hC
   obtain ⟨s',h1,h2⟩:=tQ hC
   exact .inl ⟨s',h1,h2⟩
  ·rw [D3] at hB
   split at hB
   ·rename_i hm
    rw [hgo] at hm
    obtain ⟨s,h1,h2⟩:=List.mem_map.1 hm
    exact .inr ⟨s,hfl s (D2 _ _ s h1),hgk s h1,h2.symm⟩
   ·cases hB
 ·have h2:=zP τ (e8 rs) jss0 (iM rs r)
  rw [b2] at h2
  rw [Wr,h2]
 ·exact hnewm s ((hbo s hs).resolve_left hk)
theorem QT {P:Program} {T:List (Nat×Ent)} {n:Nat} {ps rs:List PT} {vars:List ResultVar} {fz:List (Nat×List Nat)} {sc:List Nat} {fb:List (Nat×List Nat)} {h:tr} {f:FuncId} {fn:Func} {c:Code} (hT:qu P T) (hm:P.follows .mixedOrders=true) (hf:P.funcs[f]? = some fn) (hb:fn.body=some c) (hcb:eB P f=true) (hn:fn.ntmps=n) (hv:fn.results.toList=vars)
  (hl:(decide (ps.length≤n)&&(se ps&&(oI rs&&(Nx ps (cp rs)&&(sf (bq (bg 0 ps))&&Ho (pn ps (bg 0 ps)) (dr 0 (cp rs)))))))=true)
  {F:cJ ps→Option (bh rs)} (hlen:∀ x r,F x=some r→K1 ps (cp rs) x (jR rs r)) (hF:∀ x,P1 ⟨P,T,n,rs,vars,fz,sc,fb⟩ c h ps x=F x) : bR P f ps rs F:=by
 intro x r hx
 simp only [Bool.and_eq_true] at hl
 obtain ⟨hl1,hl2,hl3,hl4,hl5,hl6⟩:=hl
 refine ⟨fun hnM=>(by rw [Bool.or_eq_false_iff,hl3] at hnM; cases hnM.2),fun _=>?_⟩
 have hln:=hlen x r hx
 rw [← hF] at hx
 have hlen:=zd hl1
 subst hn
 unfold P1 at hx
 split at hx
 rotate_left
 ·cases hx
 rename_i vs bx hen
 obtain ⟨hnd,hx⟩:=am hx
 have hseen:vG bx bx:=by have:=CA (l':=[]) (iY hnd); rw [List.append_nil] at this; exact this
 obtain ⟨hal,hargs⟩:=Ej (G:=[]) hl2 hen hseen
 have halen:(eb ps (bg 0 ps) x).1.length=ps.length:=by
  have:∀ (ps:List PT) (i:Nat) (x:cJ ps),(eb ps (bg i ps) x).1.length=ps.length:=fun ps=>by
   induction ps with
   | nil=>intro i x; rfl
   | cons p ps ih=>intro i x; simp only [bg,eb,List.length_cons,ih]
  exact this ps 0 x
 refine W8 hl4 hln (iY hl5) (fun s hs hk=>?_) ?_
 ·have:=sy hl6 s (dX.2 hs)
  rw [ya] at this
  exact this hk
 refine Rz hf hb hcb (by rw [halen]; exact hlen) (K5 _ 0) ?_
 have hs:gU ⟨AI 0 vs,bx,[],false,[]⟩ ⟨mq (eb ps (bg 0 ps) x).1,lkU (eb ps (bg 0 ps) x).2⟩:=by
  refine ⟨fun i=>?_,fun t b hbl=>?_⟩
  ·show bb bx (lkV (AI 0 vs) i) (mq (eb ps (bg 0 ps) x).1 i)
   have:=Jt vs 0 i
   rw [Nat.zero_add] at this
   rw [this]
   unfold mq
   cases h1:vs[i]? with
   | none=>exact .junk _
   | some v =>
    have hlt:i < (eb ps (bg 0 ps) x).1.length:=by rw [← hargs.len]; exact (zg.1 h1).1
    rw [zq hlt]
    exact hargs.rep i v _ h1 (zq hlt)
  ·show mf bx true (some b) (lkU (eb ps (bg 0 ps) x).2 t)
   have hbl:lkB bx t=some b:=hbl
   rcases TD hal [] t with ⟨_,sb,b',m2,m3,m4,_⟩ | ⟨_,m2,_⟩
   ·rw [List.append_nil,hbl] at m2
    rw [m3]
    exact m4 b m2.symm
   ·rw [List.append_nil,hbl] at m2
    cases m2
 have hpr:mc ⟨AI 0 vs,bx,[],false,[]⟩:=fun t ht=>by cases ht
 have fin:∀ {e:Exit} {p':PS},(match e with | .normal=>True | .ret=>True | _=>False)→QZ ⟨P,T,fn.ntmps,rs,vars,fz,sc,fb⟩ fn p' r→Zd P fn (dr 0 (cp rs)) (fun q bo=>∃ kss jss,jZ (cp rs) kss∧iL (e8 rs) jss∧(dr 0 (cp rs)++(bq kss++bq jss)).Nodup∧q=xV (cN (e8 rs) jss (iM rs r)).1∧bo=rv 0 (cp rs) kss (jR rs r)++(cN (e8 rs) jss (iM rs r)).2) e p':=fun {e p'} he hr=>by
  obtain ⟨kss,jss,m1,m2,m3,⟨q,m4,m5⟩,m6⟩:=hr.2 hl3
  have m1:jZ (cp rs) kss:=m1
  have m2:iL (e8 rs) jss:=m2
  have m5:qd q=xV (cN (e8 rs) jss (iM rs r)).1:=m5
  obtain ⟨c1,c2,c3⟩:=EP (cp rs) 0 kss (jR rs r) m1
  obtain ⟨d1,d2⟩:=C4 (e8 rs) jss (iM rs r)
  refine ⟨he,_,_,⟨kss,jss,m1,m2,m3,rfl,rfl⟩,fun t ht=>by rw [ib,List.mem_append]; exact .inl (c3 t ht),fun s hs=>?_,(c1.app d2).u,⟨q,m4,m5⟩,fun t B ht=>m6 t B (oC ht)⟩
  rw [ib,List.mem_append]
  exact .inr (d1 s (T7 _ s hs))
 refine fw (oH (C:=⟨P,T,fn.ntmps,rs,vars,fz,sc,fb⟩) (fn:=fn) hT hm hv c h _ _ _ _ _ r hpr hs hx) fun e p' hq=>?_
 by_cases he:e = .ret
 ·subst he
  obtain ⟨r',h1,h3⟩:=hq
  injection h3 with h3
  subst h3
  exact ⟨p',.refl _,fin trivial h1⟩
 ·obtain ⟨s',m1,m2,m3⟩:=qh he hq
  cases e with
  | normal =>
   obtain ⟨p2,h1,h2⟩:=Qr (C:=⟨P,T,fn.ntmps,rs,vars,fz,sc,fb⟩) hv (xQ (m2.prOk hpr)) (qX m1) m3
   exact ⟨p2,(Ai m1).trans h1,fin trivial h2⟩
  | ret=>exact absurd rfl he
  | _=>cases m3
theorem Wn {w:World} {B e k n:Nat} {v:Value} {xs:List Value} (h:w.ownsRow B e k v n xs) : w.ownsRow 0 e k v n xs∧∀ g,blk v=some g→B≤g:=by
 refine ⟨⟨h.1,?_⟩,fun g hg=>?_⟩
 ·rcases h.2 with hn | ⟨g,cap,cur,rfl,hb,hr⟩
  ·exact .inl hn
  ·exact .inr ⟨g,cap,cur,rfl,Nat.zero_le _,hr⟩
 ·rcases h.2 with ⟨rfl,_⟩ | ⟨g',cap,cur,rfl,hb,hr⟩
  ·cases hg
  ·injection hg with hg; subst hg; exact hb
theorem W7 {P:Program} {f:FuncId} {ty:Ty} {e k:Nat} {F:List ty.den→Option (List ty.den)} (hk:tyN ty=k) (hk0 : 0 < k) (hcall:eB P f=true)
  (H:∀ (xs zs:List ty.den) (w:World) (G:Nat→Prop) (v:Value),F xs=some zs→(∀ g,G g→g < w.heap.size)→ew w G v (.sl (xs.map (bJ ty)))→Calls P f #[v] w fun en w'=>∃ v' us,en = .returned v'∧w'.ownsRow w.heap.size e k v' zs.length us∧Ext w w'∧us.length=zs.length * k∧∀ (j:Nat) u d,us[j]? = some u→(zs.map (bJ ty)).flatten[j]? = some d→ew w G u d) :
  bR P f [.lf (.sl ty)] [.io [.no],.own e k ty] (fun x=>(F x.1).bind fun z=>some (((),()),z)):=by
 rintro ⟨xs,⟨⟩⟩ zz hF
 change List ty.den at xs
 obtain ⟨zs,hz,hF⟩:=cG hF
 injection hF with hF
 subst hF
 refine ⟨fun h=>(by cases h),fun _=>⟨⟨trivial,trivial⟩,fun iss kss jss h1 h2 h3 h4 h5 h6=>⟨hcall,?_⟩⟩⟩
 match iss,h1 with
 | [is],h1 =>
 match is,h1.1 with
 | [],_ =>
 match kss,h2 with
 | [ks],h2 =>
 match ks,h2.1 with
 | [],_ =>
 match jss,h3 with
 | [js],h3 =>
 match js,h3.1 with
 | [j],_ =>
 intro w0 F0 ρ b w G vs args ha hb0 hb hi hr
 have hj:j < 1000000:=h5 j (by simp [bq])
 have hbj:b j=none:=hb j (by simp [bq])
 have hal:args.length=1:=by rw [← iA args,ha]; rfl
 match args,hal with
 | [a],_ =>
 have ha:qd a = .d (.sl (xs.map (bJ ty))):=by
  simp only [dW,eb,toI,List.cons.injEq] at ha
  exact ha.1
 have hvl:vs.toList.length=1:=hr.len
 obtain ⟨v,hv⟩ : ∃ v,vs = #[v]:=by
  match hv:vs.toList,hvl with
  | [v],_=>exact ⟨v,by apply Array.ext'; simpa using hv⟩
 subst hv
 have hrep:=(hr.rep 0 v a rfl rfl).nrmd
 rw [ha] at hrep
 have hd:ew w G v (.sl (xs.map (bJ ty))):=by
  cases hrep with
  | d _ _ h=>exact h
 refine (H xs zs w G v hz hi.flt hd).mono ?_
 rintro en w' ⟨v',us,rfl,ho,hx,hl,hu⟩
 obtain ⟨ho0,hbase⟩:=Wn ho
 have hzl:∀ x∈zs.map (bJ ty),x.length=k:=fun x hx=>by
  obtain ⟨y,_,rfl⟩:=List.mem_map.1 hx
  rw [px,hk]
 have:=DG (P:=P) (t:=j) (e:=e) (k:=k) (es:=zs.map (bJ ty)) (xs:=us) (v:=v') (w':=w') hi hj hbj hk0 hx hbase (by rw [List.length_map]; exact ho0) hzl (by rw [hl,cF k _ hzl,List.length_map]) hu
 obtain ⟨v2,w2,ρ',e1,k1,k2,k3⟩:=this
 injection e1 with e1 e2
 subst e1 e2
 have hU:dJ b (sY [.lf (.sl ty)] [.io [.no],.own e k ty] [[]] [[]] [[j]] (xs,()) (((),()),zs))=dn b (some (j,.rw e k (zs.map (bJ ty)))):=by
  rw [← AH]; rfl
 rw [hU]
 refine ⟨v',ρ',G,rfl,k1,k2,?_⟩
 rw [List.length_map] at k3
 exact k3
theorem W6 {P:Program} {f:FuncId} {F:cJ [.lf .str]→Option (bh [.lf .str])} (hcall:eB P f=true)
  (H:∀ (x z:ByteArray) (w:World),F (x,())=some z→Calls P f #[.string x] w fun en w'=>en = .returned (.string z)∧Ext w w') : bR P f [.lf .str] [.lf .str] F:=by
 rintro ⟨x,⟨⟩⟩ z hF
 refine ⟨fun _=>⟨hcall,fun w G vs hG hr=>?_⟩,fun h=>(by cases h)⟩
 have hvl:vs.toList.length=1:=hr.len
 obtain ⟨v,hv⟩ : ∃ v,vs = #[v]:=by
  match hv:vs.toList,hvl with
  | [v],_=>exact ⟨v,by apply Array.ext'; simpa using hv⟩
 subst hv
 obtain ⟨rfl,_⟩:=aL.vv (hr.rep 0 v _ rfl rfl)
 refine (H x z w hF).mono ?_
 rintro en w' ⟨rfl,hx⟩
 exact ⟨_,G,rfl,hx,fun _ h=>h,fun g hg=>Nat.lt_of_lt_of_le (hG g hg) hx.size,fun _ h=>.inl h,.d _ _ (.v _ rfl)⟩
end Go.Proofs.YtaknepbdbappdaaGreat
