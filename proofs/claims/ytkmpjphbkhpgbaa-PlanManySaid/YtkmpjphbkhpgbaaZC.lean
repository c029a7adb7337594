/- My texts, in one. -/
import Derived.Test.YtkmpjphbkhpgbaaZB
set_option linter.all false
set_option maxRecDepth 100000
set_option maxHeartbeats 4000000
namespace Go.Proofs.Ytkmpjphbkhpgbaa
open Go.RowKit
open IntKind (i64)
open Go.Proofs.Try (prog)
section
def Le (p p':PS) : Prop:=∀ (n:Nat) (w0:WM) (F0:Nat→Prop) (a:Act) (w:World),fh n w0 F0 p a w→fh n w0 F0 p' a w
theorem Le.refl (p:PS) : Le p p:=fun _ _ _ _ _ h=>h
theorem Le.trans {p p' p'':PS} (h:Le p p') (h':Le p' p'') : Le p p'':=fun n w0 F0 a w hc=>h' n w0 F0 a w (h n w0 F0 a w hc)
theorem j4 {P:Program} {n:Nat} {c:Code} {Q:Exit→PS→Prop} {p p':PS} (hl:Le p p') (h:PWP P n c Q p') : PWP P n c Q p:=fun w0 F0 a w hc=>h w0 F0 a w (hl n w0 F0 a w hc)
theorem co {P:Program} {n:Nat} {c:Code} {Q Q':Exit→PS→Prop} {p:PS} (h:PWP P n c Q p) (hq:∀ e p',Q e p'→∃ p'',Le p' p''∧Q' e p'') : PWP P n c Q' p :=
 fun w0 F0 a w hc=>wp_mono (h w0 F0 a w hc) fun e a' w' ⟨s',h1,h2⟩=>by
  obtain ⟨p'',h3,h4⟩:=hq e s' h1
  exact ⟨p'',h4,h3 n w0 F0 a' w' h2⟩
structure cJ (s:SS) (p:PS) : Prop where
 sl:∀ i,an s.bx (lkV s.sl i) (p.t i)
 bx:∀ t b,lkB s.bx t=some b→eg s.bx true (some b) (p.b t)
theorem eg.some {B:List (Nat×Option aj)} {o o':Bool} {b:aj} {q:Option Box} (h:eg B o (some b) q) : eg B o' (some b) q:=by cases b <;> exact h
theorem Sim.w {s:SS} {p:PS} (h:Sim s p) : cJ s p:=⟨h.sl,fun t b hb=>by have:=h.bx t; rw [hb] at this; exact this.some⟩
mutual
def Cn:SV→PV→PV
 | .junk,_=>.junk
 | .ag cs,.ag qs=>.ag (fH cs qs)
 | .tup cs,.tup qs=>.tup (fH cs qs)
 | .fn _ ps qs,.fn f ps' qs'=>.fn f (fH ps ps') (fH qs qs')
 | _,q=>q
def fH:List SV→List PV→List PV
 | [],_=>[]
 | _,[]=>[]
 | c::cs,q::qs=>Cn c q::fH cs qs
end
def uq:aj→Box→Box
 | .st _ cs,.st ty qs=>.st ty (fH cs qs)
 | _,b=>b
def me (s:SS) (p:PS) : PS:=⟨fun i=>Cn (lkV s.sl i) (p.t i),fun t=>match lkB s.bx t with | none=>none | some b=>(p.b t).map (uq b)⟩
theorem cD:∀ (cs:List SV) (qs:List PV),cs.length=qs.length→(fH cs qs).length=qs.length
 | [],[],_=>rfl
 | [],_ :: _,h=>by simp at h
 | _ :: _,[],h=>by simp at h
 | c::cs,q::qs,h=>by simp only [fH,List.length_cons,cD cs qs (by simpa using h)]
theorem cE:∀ (cs:List SV) (qs:List PV) (j:Nat) (r:PV),(fH cs qs)[j]? = some r→∃ c q,cs[j]? = some c∧qs[j]? = some q∧r=Cn c q
 | [],qs,j,r,h=>by simp [fH] at h
 | _ :: _,[],j,r,h=>by simp [fH] at h
 | c::cs,q::qs,0,r,h=>by simp [fH] at h; exact ⟨c,q,rfl,rfl,h.symm⟩
 | c::cs,q::qs,j + 1,r,h=>by
  simp [fH] at h
  simpa using cE cs qs j r h
theorem uO {B:List (Nat×Option aj)} {v:SV} {q:PV} (h:an B v q) : an B v (Cn v q):=by
 induction h with
 | junk q=>exact .junk _
 | d c y h=>exact .d c y h
 | ag cs qs hl hr ih =>
  refine .ag cs _ (by rw [cD cs qs hl]; exact hl) (fun j c r h1 h2=>?_)
  obtain ⟨c',q',h3,h4,rfl⟩:=cE cs qs j r h2
  rw [h1] at h3
  injection h3 with h3
  subst h3
  exact ih j c q' h1 h4
 | tup cs qs hl hr ih =>
  refine .tup cs _ (by rw [cD cs qs hl]; exact hl) (fun j c r h1 h2=>?_)
  obtain ⟨c',q',h3,h4,rfl⟩:=cE cs qs j r h2
  rw [h1] at h3
  injection h3 with h3
  subst h3
  exact ih j c q' h1 h4
 | ptr t o ty cs hb=>exact .ptr t o ty cs hb
 | row t n e k ty xs pins hb hn=>exact .row t n e k ty xs pins hb hn
 | re t p o n i e k ty xs pins pin hb hn hp hi=>exact .re t p o n i e k ty xs pins pin hb hn hp hi
 | vw t lo hi n e k ty xs pins hb hn=>exact .vw t lo hi n e k ty xs pins hb hn
 | fe cs ds h hn=>exact .fe cs ds h hn
 | fn f ps qs ps' qs' hl hr hl2 hr2 ih ih2 =>
  refine .fn f ps qs _ _ (by rw [cD ps ps' hl]; exact hl) (fun j c r h1 h2=>?_) (by rw [cD qs qs' hl2]; exact hl2) (fun j c r h1 h2=>?_)
  ·obtain ⟨c',q',h3,h4,rfl⟩:=cE ps ps' j r h2
   rw [h1] at h3
   injection h3 with h3
   subst h3
   exact ih j c q' h1 h4
  ·obtain ⟨c',q',h3,h4,rfl⟩:=cE qs qs' j r h2
   rw [h1] at h3
   injection h3 with h3
   subst h3
   exact ih2 j c q' h1 h4
theorem Co {B:List (Nat×Option aj)} {cs:List SV} {qs:List PV} (h:aL B cs qs) : aL B cs (fH cs qs) :=
 ⟨by rw [cD cs qs h.len]; exact h.len,fun j c r h1 h2=>by
  obtain ⟨c',q',h3,h4,rfl⟩:=cE cs qs j r h2
  rw [h1] at h3
  injection h3 with h3
  subst h3
  exact uO (h.rep j c q' h1 h4)⟩
section
variable {ρ : Nat→Value} {b b':Nat→Option Box} {w:World} {F:Nat→Prop} {B:List (Nat×Option aj)}
theorem vb (hst:∀ t ty cs ty' qs,lkB B t=some (.st ty cs)→b t=some (.st ty' qs)→∃ ty2 qs2,b' t=some (.st ty2 qs2)) (hrw:∀ t e k ty xs pins,lkB B t=some (.rw e k ty xs pins)→b' t=b t) {v:SV} {q:PV} (hv:an B v q) :
  ∀ {x:Value},ah ρ b w F x q→ah ρ b' w F x (Cn v q):=by
 induction hv with
 | junk q=>exact fun _=>.junk _
 | d c y h =>
  intro x hp
  cases hp with
  | d _ _ h=>exact .d _ _ h
 | ag cs qs hl hr ih =>
  intro x hp
  cases hp with
  | ag xs _ hl2 h1 hr2 =>
   refine .ag xs _ (by rw [cD cs qs hl]; exact hl2) h1 (fun j x r h2 h3=>?_)
   obtain ⟨c,q,h4,h5,rfl⟩:=cE cs qs j r h3
   exact ih j c q h4 h5 (hr2 j x q h2 h5)
 | tup cs qs hl hr ih =>
  intro x hp
  cases hp with
  | tup xs _ hl2 hr2 =>
   refine .tup xs _ (by rw [cD cs qs hl]; exact hl2) (fun j x r h2 h3=>?_)
   obtain ⟨c,q,h4,h5,rfl⟩:=cE cs qs j r h3
   exact ih j c q h4 h5 (hr2 j x q h2 h5)
 | ptr t o ty cs hb =>
  intro x hp
  cases hp with
  | ptr _ _ g ty' qs h1 h2 =>
   obtain ⟨ty2,qs2,h3⟩:=hst t ty cs ty' qs hb h1
   exact .ptr t o g ty2 qs2 h3 h2
 | row t n e k ty xs pins hb hn =>
  intro x hp
  cases hp with
  | row _ _ A c e2 k2 es h1 h2 h3 h4 h5=>exact .row t n A c e2 k2 es (by rw [hrw t e k ty xs pins hb]; exact h1) h2 h3 h4 h5
 | re t p o n i e k ty xs pins pin hb hn hp hi =>
  intro x hx
  cases hx with
  | re _ _ _ _ a e2 k2 es h1 h2 h3 h4=>exact .re t n i o a e2 k2 es (by rw [hrw t e k ty xs pins hb]; exact h1) h2 h3 h4
 | vw t lo hi n e k ty xs pins hb hn=>
  intro x hp
  cases hp with
  | vw _ _ _ _ A m c e2 k2 es h1 h2 h3 h4 h5 h6=>exact .vw t n lo hi A m c e2 k2 es (by rw [hrw t e k ty xs pins hb]; exact h1) h2 h3 h4 h5 h6
 | fe cs ds h hn =>
  intro x hx
  cases hx with
  | fe a _ us h1 h2 h3=>exact .fe a ds us h1 h2 h3
 | fn f ps qs ps' qs' hl hr hl2 hr2 ih ih2 =>
  intro x hx
  cases hx with
  | fn _ xs ys _ _ m1 m2 m3 m4 =>
   refine .fn f xs ys _ _ (by rw [cD ps ps' hl]; exact m1) (fun j x r h2 h3=>?_) (by rw [cD qs qs' hl2]; exact m3) (fun j x r h2 h3=>?_)
   ·obtain ⟨c,q,h4,h5,rfl⟩:=cE ps ps' j r h3
    exact ih j c q h4 h5 (m2 j x q h2 h5)
   ·obtain ⟨c,q,h4,h5,rfl⟩:=cE qs qs' j r h3
    exact ih2 j c q h4 h5 (m4 j x q h2 h5)
end
theorem iH {s:SS} {p:PS} (h:cJ s p) : Sim ⟨s.sl,s.bx,s.pr,s.ro,[]⟩ (me s p):=by
 refine ⟨fun i=>uO (h.sl i),fun t=>?_⟩
 show eg s.bx (ae [] t) (lkB s.bx t) (match lkB s.bx t with | none=>none | some b=>(p.b t).map (uq b))
 cases hb:lkB s.bx t with
 | none=>exact fun _=>rfl
 | some bx =>
  have h1:=h.bx t bx hb
  cases bx with
  | st ty cs =>
   obtain ⟨qs,h2,h3⟩:=h1
   rw [h2]
   exact ⟨fH cs qs,rfl,Co h3⟩
  | rw e k ty xs pins =>
   obtain ⟨h2,h3⟩:=h1
   rw [h2]
   exact ⟨rfl,h3⟩
theorem nC {s:SS} {p:PS} (h:cJ s p) : Le p (me s p):=by
 intro n w0 F0 a w ⟨h1,h2,ρ,F,hi,hev⟩
 have hst:∀ t ty cs ty' qs,lkB s.bx t=some (.st ty cs)→p.b t=some (.st ty' qs)→∃ ty2 qs2,(me s p).b t=some (.st ty2 qs2):=fun t ty cs ty' qs k1 k2=>by
  refine ⟨ty',fH cs qs,?_⟩
  show (match lkB s.bx t with | none=>none | some b=>(p.b t).map (uq b)) = _
  rw [k1,k2]; rfl
 have hrw:∀ t e k ty xs pins,lkB s.bx t=some (.rw e k ty xs pins)→(me s p).b t=p.b t:=fun t e k ty xs pins k1=>by
  show (match lkB s.bx t with | none=>none | some b=>(p.b t).map (uq b)) = _
  rw [k1,(h.bx t _ k1).1]; rfl
 have hreg:∀ t q,gy ρ p.b t q→gy ρ (me s p).b t q:=fun t q k=>by
  cases hl:lkB s.bx t with
  | none=>exact k.less (.inl (by show (match lkB s.bx t with | none=>none | some b=>(p.b t).map (uq b)) = _; rw [hl]))
  | some b =>
   have hc:(me s p).b t=(p.b t).map (uq b):=by show (match lkB s.bx t with | none=>none | some b=>(p.b t).map (uq b)) = _; rw [hl]
   cases b with
   | st ty cs =>
    refine k.mono (fun e=>by rw [hc,e]; rfl) (fun ty' qs e=>⟨⟨ty',_,by rw [hc,e]; rfl⟩,rfl⟩) (fun e k' es he=>⟨e,es,by rw [hc,he]; rfl,Nat.le_refl _,fun _=>rfl⟩)
   | rw e k' ty xs pins=>exact k.same (hrw t e k' ty xs pins hl) rfl
 have hb:∀ t Bx,(me s p).b t=some Bx→∃ b B0,lkB s.bx t=some b∧p.b t=some B0∧Bx=uq b B0:=fun t Bx k=>by
  have k:(match lkB s.bx t with | none=>none | some b=>(p.b t).map (uq b))=some Bx:=k
  cases hl:lkB s.bx t with
  | none=>rw [hl] at k; cases k
  | some b =>
   rw [hl] at k
   rw [zm] at k
   obtain ⟨B0,k1,k2⟩:=k
   exact ⟨b,B0,rfl,k1,k2.symm⟩
 refine ⟨h1,h2,ρ,F,⟨hi.ext,hi.f0,hi.flt,hi.fnew,fun t Bx k=>?_,fun t t' Bx Bx' g k1 k2=>?_,fun t q hq=>⟨(hi.reg t q hq).1,hreg t q (hi.reg t q hq).2⟩⟩,fun i=>vb hst hrw (h.sl i) (hev i)⟩
 ·obtain ⟨b,B0,k1,k2,rfl⟩:=hb t Bx k
  have hbx:=hi.box t B0 k2
  have hs:=h.bx t b k1
  cases b with
  | st ty cs =>
   obtain ⟨qs,k3,k4⟩:=hs
   rw [k2] at k3
   injection k3 with k3
   subst k3
   cases hbx with
   | st _ _ g xs hρ hg hF hh hl h1x hr =>
    refine .st ty _ g xs hρ hg hF hh (by rw [cD cs qs k4.len]; exact hl) h1x (fun j x r m1 m2=>?_)
    obtain ⟨c,q,m3,m4,rfl⟩:=cE cs qs j r m2
    exact vb hst hrw (k4.rep j c q m3 m4) (hr j x q m1 m4)
  | rw e k ty xs pins =>
   obtain ⟨k3,_⟩:=hs
   rw [k2] at k3
   injection k3 with k3
   subst k3
   cases hbx with
   | rw _ _ _ xs' hk0 ho hF hk hl hr hown=>exact .rw _ _ _ xs' hk0 ho hF hk hl hr hown
   | gn _ _ _ hρ=>exact .gn _ _ _ hρ
 ·obtain ⟨_,B1,_,m1,_⟩:=hb t Bx k1
  obtain ⟨_,B2,_,m2,_⟩:=hb t' Bx' k2
  exact hi.dist t t' B1 B2 g m1 m2
def ES (t:Nat) (es:List (List D)) (p:PS) : PS:=⟨fun i=>frz t es (p.t i),fun i=>if i=t then none else (p.b i).map (nL t es)⟩
theorem BM {p:PS} (t:Nat) {e k:Nat} {es:List (List D)} (hb0:p.b t=some (.rw e k es)) : Le p (ES t es p):=by
 intro n w0 F0 a w ⟨h1,h2,ρ,F,hi,hev⟩
 have hb':∀ i,(ES t es p).b i=if i=t then none else (p.b i).map (nL t es):=fun i=>rfl
 have hbt:=(hi.box t _ hb0)
 refine ⟨h1,h2,ρ,fun g=>F g∨blk (ρ t)=some g,⟨hi.ext,fun g hg=>.inl (hi.f0 g hg),?_,?_,fun t' B h=>?_,fun t1 t2 B1 B2 g k1 k2 hne=>?_,hi.reg_frz hb'⟩,fun i=>(hev i).frz hi hb0 hb'⟩
 ·rintro g (hg | hg)
  ·exact hi.flt g hg
  ·exact (hbt.lt hg).1
 ·rintro g (hg | hg)
  ·exact hi.fnew g hg
  ·exact .inr (hbt.lt hg).2.1
 ·rw [hb'] at h
  split at h
  ·cases h
  ·rename_i ht
   rw [zm] at h
   obtain ⟨B0,hB0,rfl⟩:=h
   have hnF:∀ g,blk (ρ t')=some g→¬ (F g∨blk (ρ t)=some g):=by
    rintro g hg (h | h)
    ·exact ((hi.box t' B0 hB0).lt hg).2.2 h
    ·exact hi.dist t' t B0 _ g hB0 hb0 ht hg h
   cases hi.box t' B0 hB0 with
   | st ty cs g xs hρ hg hF hh hl h1 hr =>
    refine .st ty _ g xs hρ hg (hnF g (by rw [hρ]; rfl)) hh (by rw [cK]; exact hl) h1 (fun j x c k1 k2=>?_)
    obtain ⟨d,h4,rfl⟩:=cL t es cs j c k2
    exact (hr j x d k1 h4).frz hi hb0 hb'
   | rw e' k' es' xs hk0 ho hF hk hl hr hown=>exact .rw e' k' es' xs hk0 ho hnF hk hl (fun j x d k1 k2=>(hr j x d k1 k2).mono (fun g h=>.inl h) (fun _ _=>rfl)) hown
   | gn e' k' es' hρ=>exact .gn e' k' es' hρ
 ·rw [hb'] at k1 k2
  split at k1
  ·cases k1
  ·split at k2
   ·cases k2
   ·rw [zm] at k1 k2
    obtain ⟨B1',k1,_⟩:=k1
    obtain ⟨B2',k2,_⟩:=k2
    exact hi.dist t1 t2 B1' B2' g k1 k2 hne
def B4 (t:Nat) (c:SD) : aj→aj
 | .st ty cs=>.st ty (eX t c cs)
 | b=>b
theorem d6 (t:Nat) (c:SD) : ∀ (l:List (Nat×Option aj)) (i:Nat),lkB (iT t c l) i=(lkB l i).map (B4 t c)
 | [],_=>rfl
 | (j,none)::l,i=>by simp only [iT,ab,d6 t c l i]; split <;> rfl
 | (j,some (.st ty cs))::l,i=>by simp only [iT,ab,d6 t c l i]; split <;> rfl
 | (j,some (.rw e k ty xs pins))::l,i=>by simp only [iT,ab,d6 t c l i]; split <;> rfl
theorem pk (t:Nat) (c:SD) : ∀ (l:List (Nat×SV)) (i:Nat),lkV (qJ t c l) i=kj t c (lkV l i)
 | [],_=>rfl
 | (j,v)::l,i=>by simp only [qJ,bj,pk t c l i]; split <;> rfl
theorem eJ (t:Nat) (c:SD) : ∀ (cs:List SV) (j:Nat),(eX t c cs)[j]? = (cs[j]?).map (kj t c)
 | [],j=>by simp [eX]
 | v::cs,0=>by simp [eX]
 | v::cs,j + 1=>by simpa [eX] using eJ t c cs j
theorem dM (t:Nat) (c:SD) : ∀ cs:List SV,(eX t c cs).length=cs.length
 | []=>rfl
 | v::cs=>by simp [eX,dM t c cs]
theorem an.frz {B B':List (Nat×Option aj)} {t e k:Nat} {ty:Ty} {xs:List ty.den} {pins:List (Nat×Pin)} (ht:lkB B t=some (.rw e k ty xs pins)) (hB:AF t B B') {v:SV} {q:PV} (h:an B v q) : an B' (kj t (.sl ty xs) v) (Go.Proofs.Ytkmpjphbkhpgbaa.frz t (xs.map (aA ty)) q):=by
 induction h with
 | junk q=>exact .junk _
 | d c y h=>exact .d c y h
 | ag cs qs hl hr ih =>
  refine .ag _ _ (by rw [dM,cK]; exact hl) (fun j c r h1 h2=>?_)
  rw [eJ,zm] at h1
  obtain ⟨c',h3,rfl⟩:=h1
  obtain ⟨q',h4,rfl⟩:=cL _ _ qs j r h2
  exact ih j c' q' h3 h4
 | tup cs qs hl hr ih =>
  refine .tup _ _ (by rw [dM,cK]; exact hl) (fun j c r h1 h2=>?_)
  rw [eJ,zm] at h1
  obtain ⟨c',h3,rfl⟩:=h1
  obtain ⟨q',h4,rfl⟩:=cL _ _ qs j r h2
  exact ih j c' q' h3 h4
 | ptr t' o ty2 cs hb=>obtain ⟨ty',cs',h1⟩:=hB.st t' ty2 cs hb; exact .ptr t' o ty' cs' h1
 | row t' n e2 k2 ty2 xs2 pins2 hb hn =>
  simp only [kj,Go.Proofs.Ytkmpjphbkhpgbaa.frz,bk]
  by_cases h:t' = t
  ·subst h
   rw [ht] at hb
   injection hb with hb
   injection hb with e1 e2 e3 e4 e5
   subst e3
   have e4:=eq_of_heq e4
   subst e4
   simp only [decide_true,if_true,List.length_map,hn]
   exact wB ty xs
  ·simp only [h,decide_false,if_false]
   exact .row t' n e2 k2 ty2 xs2 pins2 (hB.rw t' h _ _ _ _ _ hb) hn
 | re t' p o n i e2 k2 ty2 xs2 pins2 pin hb hn hp hi =>
  simp only [kj,Go.Proofs.Ytkmpjphbkhpgbaa.frz,bk]
  by_cases h:t' = t
  ·simp only [h,decide_true]; exact .junk _
  ·simp only [h,decide_false,if_false]
   exact .re t' p o n i e2 k2 ty2 xs2 pins2 pin (hB.rw t' h _ _ _ _ _ hb) hn hp hi
 | vw t' lo hi n e2 k2 ty2 xs2 pins2 hb hn=>
  simp only [kj,Go.Proofs.Ytkmpjphbkhpgbaa.frz,bk]
  by_cases h:t' = t
  ·simp only [h,decide_true]; exact .junk _
  ·simp only [h,decide_false,if_false]
   exact .vw t' lo hi n e2 k2 ty2 xs2 pins2 (hB.rw t' h _ _ _ _ _ hb) hn
 | fe cs ds h hn=>exact .fe cs ds h hn
 | fn f ps qs ps' qs' hl hr hl2 hr2 ih ih2 =>
  refine .fn f _ _ _ _ (by rw [dM,cK]; exact hl) (fun j c r h1 h2=>?_) (by rw [dM,cK]; exact hl2) (fun j c r h1 h2=>?_)
  ·rw [eJ,zm] at h1
   obtain ⟨c',h3,rfl⟩:=h1
   obtain ⟨q',h4,rfl⟩:=cL _ _ ps' j r h2
   exact ih j c' q' h3 h4
  ·rw [eJ,zm] at h1
   obtain ⟨c',h3,rfl⟩:=h1
   obtain ⟨q',h4,rfl⟩:=cL _ _ qs' j r h2
   exact ih2 j c' q' h3 h4
mutual
theorem vD {pr:List Nat} {t:Nat} {c:SD} (ht:ae pr t=false) : ∀ v:SV,dX pr v=true→kj t c v=v
 | .junk,_=>rfl
 | .d _,_=>rfl
 | .fe _,_=>rfl
 | .ptr _ _,_=>rfl
 | .row t',h=>by
  have:=qk ht (show ae pr t' = true from h)
  simp only [kj,bk,this,decide_false]
 | .re _ _ _,h=>by cases h
 | .vw _ _ _,h=>by cases h
 | .ag cs,h=>by simp only [kj]; rw [iR ht cs h]
 | .tup cs,h=>by simp only [kj]; rw [iR ht cs h]
 | .fn f ps qs,h=>by
  have h:(b4 pr ps&&b4 pr qs)=true:=h
  rw [Bool.and_eq_true] at h
  simp only [kj]; rw [iR ht ps h.1,iR ht qs h.2]
theorem iR {pr:List Nat} {t:Nat} {c:SD} (ht:ae pr t=false) : ∀ cs:List SV,b4 pr cs=true→eX t c cs=cs
 | [],_=>rfl
 | v::cs,h=>by
  simp only [b4,Bool.and_eq_true] at h
  simp only [eX]
  rw [vD ht v h.1,iR ht cs h.2]
end
mutual
theorem zM {t:Nat} {c:SD} : ∀ v:SV,gj v=true→kj t c v=v
 | .junk,_=>rfl
 | .d _,_=>rfl
 | .fe _,_=>rfl
 | .ptr _ _,_=>rfl
 | .row _,h=>by cases h
 | .re _ _ _,h=>by cases h
 | .vw _ _ _,h=>by cases h
 | .ag cs,h=>by simp only [kj]; rw [eI cs h]
 | .tup cs,h=>by simp only [kj]; rw [eI cs h]
 | .fn f ps qs,h=>by
  have h:(match aZ ps with | true=>aZ qs | false=>false)=true:=h
  split at h
  ·rename_i h1; simp only [kj]; rw [eI ps h1,eI qs h]
  ·cases h
theorem eI {t:Nat} {c:SD} : ∀ cs:List SV,aZ cs=true→eX t c cs=cs
 | [],_=>rfl
 | v::cs,h=>by
  simp only [aZ] at h
  split at h
  ·rename_i h1
   simp only [eX]
   rw [zM v h1,eI cs h]
  ·cases h
end
theorem yy {sc:List Nat} {s s':SS} {p:PS} {t:Nat} (hpr:ed s) (hs:cJ s p) (h:xj t s=some s') : ∃ p',Le p p'∧cJ s' p'∧∀ W,bM sc W s s':=by
 unfold xj at h
 split at h
 ·rename_i e k ty xs pins hb
  split at h
  ·rename_i ht
   injection h with h
   subst h
   have hpb:p.b t=some (.rw e k (xs.map (aA ty))):=(hs.bx t _ hb).1
   have hX:AF t s.bx ((t,none)::iT t (.sl ty xs) s.bx):=by
    refine ⟨fun t' ht' e2 k2 ty2 xs2 pins2 h=>?_,fun t' ty2 cs2 h=>?_⟩
    ·rw [ab,if_neg ht',d6,h]; rfl
    ·have : ¬ t' = t:=fun e=>by rw [e,hb] at h; cases h
     rw [ab,if_neg this,d6,h]
     exact ⟨_,_,rfl⟩
   refine ⟨_,BM t hpb,⟨fun i=>?_,fun t' b h=>?_⟩,fun W=>⟨rfl,rfl,fun t' ht'=>?_,fun i _ hsf=>?_,fun t' _ ty2 cs2 h=>?_⟩⟩
   ·show an _ (lkV (qJ t (.sl ty xs) s.sl) i) (frz t (xs.map (aA ty)) (p.t i))
    rw [pk]
    exact (hs.sl i).frz hb hX
   ·have h:lkB ((t,none)::iT t (.sl ty xs) s.bx) t' = some b:=h
    rw [ab] at h
    split at h
    ·cases h
    ·rename_i hne
     rw [d6,zm] at h
     obtain ⟨b0,h1,rfl⟩:=h
     have h2:=hs.bx t' b0 h1
     show eg _ true (some (B4 t (.sl ty xs) b0)) (if t' = t then none else (p.b t').map (nL t (xs.map (aA ty))))
     rw [if_neg hne]
     cases b0 with
     | st ty2 cs =>
      obtain ⟨qs,h3,h4⟩:=h2
      rw [h3]
      refine ⟨_,rfl,by rw [dM,cK]; exact h4.len,fun j c r k1 k2=>?_⟩
      rw [eJ,zm] at k1
      obtain ⟨c',k3,rfl⟩:=k1
      obtain ⟨q',k4,rfl⟩:=cL _ _ qs j r k2
      exact (h4.rep j c' q' k3 k4).frz hb hX
     | rw e2 k2 ty2 xs2 pins2 =>
      obtain ⟨h3,h4⟩:=h2
      rw [h3]
      exact ⟨rfl,h4⟩
   ·show dP _ (lkB ((t,none)::iT t (.sl ty xs) s.bx) t')
    rw [ab,if_neg (fun e=>by rw [e,ht] at ht'; cases ht'),d6]
    obtain ⟨b',h1,h2⟩:=hpr t' ht'
    rw [h1]
    cases b' with
    | st ty2 cs=>simp only [Option.map_some,B4]; rw [eI cs h2]; rfl
    | rw e2 k2 ty2 xs2 pins2=>exact ⟨pins2,rfl⟩
   ·show lkV (qJ t (.sl ty xs) s.sl) i = _
    rw [pk]
    exact vD ht _ hsf
   ·show ∃ cs',lkB ((t,none)::iT t (.sl ty xs) s.bx) t' = _∧_
    rw [ab,if_neg (fun e=>by rw [e,hb] at h; cases h),d6,h]
    exact ⟨_,rfl,dM _ _ cs2⟩
  ·injection h with h
   subst h
   exact ⟨p,.refl p,hs,fun W=>.refl W s⟩
 ·injection h with h
  subst h
  exact ⟨p,.refl p,hs,fun W=>.refl W s⟩
theorem B3 {sc:List Nat} {s s':SS} {p:PS} {t:Nat} (hpr:ed s) (hs:Sim s p) (h:xj t s=some s') : ∃ p',Le p p'∧Sim s' p'∧(∀ W,bM sc W s s')∧s'.oc=s.oc:=by
 unfold xj at h
 split at h
 ·rename_i e k ty xs pins hb
  split at h
  ·rename_i ht
   have h0:xj t s=some s':=by unfold xj; rw [hb]; simp only; rw [ht]; exact h
   injection h with h
   have hpb:p.b t=some (.rw e k (xs.map (aA ty))):=by have:=hs.bx t; rw [hb] at this; exact this.1
   obtain ⟨p2,k1,k2,k3⟩:=yy (sc:=sc) hpr hs.w h0
   have hX:AF t s.bx ((t,none)::iT t (.sl ty xs) s.bx):=by
    refine ⟨fun t' ht' e2 k2 ty2 xs2 pins2 h=>?_,fun t' ty2 cs2 h=>?_⟩
    ·rw [ab,if_neg ht',d6,h]; rfl
    ·have : ¬ t' = t:=fun e=>by rw [e,hb] at h; cases h
     rw [ab,if_neg this,d6,h]
     exact ⟨_,_,rfl⟩
   subst h
   refine ⟨_,BM t hpb,⟨fun i=>?_,fun t'=>?_⟩,k3,rfl⟩
   ·show an _ (lkV (qJ t (.sl ty xs) s.sl) i) (frz t (xs.map (aA ty)) (p.t i))
    rw [pk]
    exact (hs.sl i).frz hb hX
   ·show eg _ (ae s.oc t') (lkB ((t,none)::iT t (.sl ty xs) s.bx) t') (if t' = t then none else (p.b t').map (nL t (xs.map (aA ty))))
    rw [ab]
    by_cases hne:t' = t
    ·rw [if_pos hne,if_pos hne]; exact fun _=>rfl
    ·rw [if_neg hne,if_neg hne,d6]
     have h2:=hs.bx t'
     cases hl:lkB s.bx t' with
     | none=>rw [hl] at h2; exact fun ho=>by rw [h2 ho]; rfl
     | some b0 =>
      rw [hl] at h2
      cases b0 with
      | st ty2 cs =>
       obtain ⟨qs,h3,h4⟩:=h2
       rw [h3]
       refine ⟨_,rfl,by rw [dM,cK]; exact h4.len,fun j c r k1 k2=>?_⟩
       rw [eJ,zm] at k1
       obtain ⟨c',k3,rfl⟩:=k1
       obtain ⟨q',k4,rfl⟩:=cL _ _ qs j r k2
       exact (h4.rep j c' q' k3 k4).frz hb hX
      | rw e2 k2 ty2 xs2 pins2 =>
       obtain ⟨h3,h4⟩:=h2
       rw [h3]
       exact ⟨rfl,h4⟩
  ·injection h with h
   subst h
   exact ⟨p,.refl p,hs,fun W=>.refl W s,rfl⟩
 ·injection h with h
  subst h
  exact ⟨p,.refl p,hs,fun W=>.refl W s,rfl⟩
theorem l3 {sc:List Nat} : ∀ {l:List Nat} {s s':SS} {p:PS},ed s→Sim s p→d8 l s=some s'→∃ p',Le p p'∧Sim s' p'∧(∀ W,bM sc W s s')∧s'.oc=s.oc
 | [],s,s',p,_,hs,h=>by injection h with h; subst h; exact ⟨p,.refl p,hs,fun W=>.refl W s,rfl⟩
 | t::l,s,s',p,hpr,hs,h=>by
  simp only [d8] at h
  split at h
  ·rename_i s1 h1
   obtain ⟨p1,k1,k2,k3,k4⟩:=B3 (sc:=sc) hpr hs h1
   obtain ⟨p2,m1,m2,m3,m4⟩:=l3 (sc:=sc) ((k3 []).prOk hpr) k2 h
   exact ⟨p2,k1.trans m1,m2,fun W=>(k3 W).trans (m3 W),m4.trans k4⟩
  ·cases h
theorem iU {sc:List Nat} : ∀ {l:List Nat} {s s':SS} {p:PS},ed s→cJ s p→d8 l s=some s'→∃ p',Le p p'∧cJ s' p'∧∀ W,bM sc W s s'
 | [],s,s',p,_,hs,h=>by injection h with h; subst h; exact ⟨p,.refl p,hs,fun W=>.refl W s⟩
 | t::l,s,s',p,hpr,hs,h=>by
  simp only [d8] at h
  split at h
  ·rename_i s1 h1
   obtain ⟨p1,k1,k2,k3⟩:=yy hpr hs h1
   obtain ⟨p2,k4,k5,k6⟩:=iU ((k3 []).prOk hpr) k2 h
   exact ⟨p2,k1.trans k4,k5,fun W=>(k3 W).trans (k6 W)⟩
  ·cases h
mutual
def fzp (t:Nat) (ds:List D) : PV→PV
 | .ptr t' o=>if t' = t then .fe (ds.drop o) else .ptr t' o
 | .ag cs=>.ag (qG t ds cs)
 | .tup cs=>.tup (qG t ds cs)
 | .fn f ps qs=>.fn f (qG t ds ps) (qG t ds qs)
 | p=>p
def qG (t:Nat) (ds:List D) : List PV→List PV
 | []=>[]
 | c::cs=>fzp t ds c::qG t ds cs
end
def qH (t:Nat) (ds:List D) : Box→Box
 | .st ty cs=>.st ty (qG t ds cs)
 | B=>B
def ER (t:Nat) (ds:List D) (p:PS) : PS:=⟨fun i=>fzp t ds (p.t i),fun i=>if i=t then none else (p.b i).map (qH t ds)⟩
theorem dh (t:Nat) (ds:List D) : ∀ cs:List PV,(qG t ds cs).length=cs.length
 | []=>rfl
 | c::cs=>by simp [qG,dh t ds cs]
theorem di (t:Nat) (ds:List D) : ∀ (cs:List PV) (j:Nat) (c:PV),(qG t ds cs)[j]? = some c→∃ d,cs[j]? = some d∧c=fzp t ds d
 | [],j,c,h=>by simp [qG] at h
 | d::cs,j,c,h=>by
  simp only [qG] at h
  cases j with
  | zero=>simp at h; exact ⟨d,rfl,h.symm⟩
  | succ j=>simp at h; simpa using di t ds cs j c h
section
variable {ρ : Nat→Value} {b b':Nat→Option Box} {w:World} {F F0:Nat→Prop} {w0:WM}
theorem ah.fzp {x:Value} {p:PV} {t:Nat} {ty:TypeId} {cs:List PV} {ds:List D} (hi:Inv w0 F0 ρ b w F) (hb:b t=some (.st ty cs)) (hl:ds.length=cs.length) (hc:∀ (j:Nat) d,ds[j]? = some d→∃ y,cs[j]? = some (.d y)∧nrm y=d) (hb':∀ i,b' i=if i=t then none else (b i).map (qH t ds)) (h:ah ρ b w F x p) :
  ah ρ b' w (fun g=>F g∨blk (ρ t)=some g) x (Go.Proofs.Ytkmpjphbkhpgbaa.fzp t ds p):=by
 have hF:∀ g,F g→(F g∨blk (ρ t)=some g):=fun g h=>.inl h
 induction h with
 | junk x=>exact .junk x
 | d x d h=>exact .d x d (h.mono hF (fun _ _=>rfl))
 | ag xs cs hl h1 hr ih =>
  refine .ag xs _ (by rw [dh]; exact hl) h1 (fun j x c h2 h3=>?_)
  obtain ⟨d,h4,rfl⟩:=di t ds cs j c h3
  exact ih j x d h2 h4
 | tup xs cs hl hr ih =>
  refine .tup xs _ (by rw [dh]; exact hl) (fun j x c h2 h3=>?_)
  obtain ⟨d,h4,rfl⟩:=di t ds cs j c h3
  exact ih j x d h2 h4
 | fn f xs ys ps qs hl hr hl2 hr2 ih ih2 =>
  refine .fn f xs ys _ _ (by rw [dh]; exact hl) (fun j x c h2 h3=>?_) (by rw [dh]; exact hl2) (fun j x c h2 h3=>?_)
  ·obtain ⟨d,h4,rfl⟩:=di t ds ps j c h3
   exact ih j x d h2 h4
  ·obtain ⟨d,h4,rfl⟩:=di t ds qs j c h3
   exact ih2 j x d h2 h4
 | row t' m A cc e' k' es' hb2 hn hcc hA hρ =>
  have:t'≠t:=fun e=>by rw [e,hb] at hb2; cases hb2
  exact .row t' m A cc e' k' es' (by rw [hb',if_neg this,hb2]; rfl) hn hcc hA hρ
 | re t' m i o a e' k' es' hb2 hn hi' hρ =>
  have:t'≠t:=fun e=>by rw [e,hb] at hb2; cases hb2
  exact .re t' m i o a e' k' es' (by rw [hb',if_neg this,hb2]; rfl) hn hi' hρ
 | vw t' m lo hi' A mm cc e' k' es' hb2 hn hl hh hm hρ=>
  have:t'≠t:=fun e=>by rw [e,hb] at hb2; cases hb2
  exact .vw t' m lo hi' A mm cc e' k' es' (by rw [hb',if_neg this,hb2]; rfl) hn hl hh hm hρ
 | fe a cs us hF' hcell hrep=>exact .fe a cs us (.inl hF') hcell (fun j d h=>(hrep j d h).mono hF (fun _ _=>rfl))
 | ptr t' off g ty' cs' hb2 hρ =>
  simp only [Go.Proofs.Ytkmpjphbkhpgbaa.fzp]
  by_cases ht:t' = t
  ·subst ht
   rw [if_pos rfl]
   cases hi.box t' _ hb with
   | st _ _ g' xs hρ' hg hFg hh hlx h1 hr =>
    rw [hρ] at hρ'
    injection hρ' with e
    injection e with e
    injection e with e
    subst e
    have key:∀ (j:Nat) d,(ds.drop off)[j]? = some d→∃ u,w.cell? ⟨g,off + j,none⟩=some u∧cw w F u d:=fun j d hj=>by
     rw [List.getElem?_drop] at hj
     obtain ⟨y,k1,k2⟩:=hc _ d hj
     have hlt:off + j < xs.size:=by rw [hlx,← hl]; exact (zg.1 hj).1
     have k3:=hr (off + j) xs[off + j] _ (by simp [hlt]) k1
     refine ⟨xs[off + j],by rw [cell_of_row w g (off + j) xs ty (0,0) hh]; simp [hlt],?_⟩
     rw [← k2]
     exact k3.dd.nrm
    refine .fe _ _ (fun j=>(w.cell? ⟨g,off + j,none⟩).getD undef) (.inr (by rw [hρ]; rfl)) (fun j d hj=>?_) (fun j d hj=>?_)
    ·obtain ⟨u,k1,_⟩:=key j d hj
     rw [ik,k1]; rfl
    ·obtain ⟨u,k1,k2⟩:=key j d hj
     rw [k1]
     exact k2.mono hF (fun _ _=>rfl)
  ·rw [if_neg ht]
   exact .ptr t' off g ty' _ (by rw [hb',if_neg ht,hb2]; rfl) hρ
end
theorem Inv.reg_fzp {ρ : Nat→Value} {b b':Nat→Option Box} {w:World} {w0:WM} {F F0:Nat→Prop} {t:Nat} {ds:List D} (hi:Inv w0 F0 ρ b w F) (hb':∀ i,b' i=if i=t then none else (b i).map (qH t ds)) : ∀ i q,w0.R i=some q→1000000≤i∧gy ρ b' i q:=by
 intro i q h
 obtain ⟨h1,h2⟩:=hi.reg i q h
 refine ⟨h1,?_⟩
 by_cases hit:i=t
 ·exact h2.less (.inl (by rw [hb',if_pos hit]))
 ·refine h2.mono (fun e=>by rw [hb',if_neg hit,e]; rfl) (fun ty cs e=>⟨⟨ty,_,by rw [hb',if_neg hit,e]; rfl⟩,rfl⟩) (fun e k es' he=>⟨e,es',by rw [hb',if_neg hit,he]; rfl,Nat.le_refl _,fun _=>rfl⟩)
theorem Ek {p:PS} (t:Nat) {ty:TypeId} {cs:List PV} {ds:List D} (hb0:p.b t=some (.st ty cs)) (hl:ds.length=cs.length) (hc:∀ (j:Nat) d,ds[j]? = some d→∃ y,cs[j]? = some (.d y)∧nrm y=d) : Le p (ER t ds p):=by
 intro n w0 F0 a w ⟨h1,h2,ρ,F,hi,hev⟩
 have hb':∀ i,(ER t ds p).b i=if i=t then none else (p.b i).map (qH t ds):=fun i=>rfl
 have hbt:=(hi.box t _ hb0)
 refine ⟨h1,h2,ρ,fun g=>F g∨blk (ρ t)=some g,⟨hi.ext,fun g hg=>.inl (hi.f0 g hg),?_,?_,fun t' B h=>?_,fun t1 t2 B1 B2 g k1 k2 hne=>?_,hi.reg_fzp hb'⟩,fun i=>(hev i).fzp hi hb0 hl hc hb'⟩
 ·rintro g (hg | hg)
  ·exact hi.flt g hg
  ·exact (hbt.lt hg).1
 ·rintro g (hg | hg)
  ·exact hi.fnew g hg
  ·exact .inr (hbt.lt hg).2.1
 ·rw [hb'] at h
  split at h
  ·cases h
  ·rename_i ht
   rw [zm] at h
   obtain ⟨B0,hB0,rfl⟩:=h
   have hnF:∀ g,blk (ρ t')=some g→¬ (F g∨blk (ρ t)=some g):=by
    rintro g hg (h | h)
    ·exact ((hi.box t' B0 hB0).lt hg).2.2 h
    ·exact hi.dist t' t B0 _ g hB0 hb0 ht hg h
   cases hi.box t' B0 hB0 with
   | st ty cs g xs hρ hg hF hh hl2 h1 hr =>
    refine .st ty _ g xs hρ hg (hnF g (by rw [hρ]; rfl)) hh (by rw [dh]; exact hl2) h1 (fun j x c k1 k2=>?_)
    obtain ⟨d,h4,rfl⟩:=di t ds cs j c k2
    exact (hr j x d k1 h4).fzp hi hb0 hl hc hb'
   | rw e' k' es' xs hk0 ho hF hk hl hr hown=>exact .rw e' k' es' xs hk0 ho hnF hk hl (fun j x d k1 k2=>(hr j x d k1 k2).mono (fun g h=>.inl h) (fun _ _=>rfl)) hown
   | gn e' k' es' hρ=>exact .gn e' k' es' hρ
 ·rw [hb'] at k1 k2
  split at k1
  ·cases k1
  ·split at k2
   ·cases k2
   ·rw [zm] at k1 k2
    obtain ⟨B1',k1,_⟩:=k1
    obtain ⟨B2',k2,_⟩:=k2
    exact hi.dist t1 t2 B1' B2' g k1 k2 hne
def yz (t:Nat) (c:List SD) : aj→aj
 | .st ty cs=>.st ty (gp t c cs)
 | b=>b
theorem fQ (t:Nat) (c:List SD) : ∀ (l:List (Nat×Option aj)) (i:Nat),lkB (iV t c l) i=(lkB l i).map (yz t c)
 | [],_=>rfl
 | (j,none)::l,i=>by simp only [iV,ab,fQ t c l i]; split <;> rfl
 | (j,some (.st ty cs))::l,i=>by simp only [iV,ab,fQ t c l i]; split <;> rfl
 | (j,some (.rw e k ty xs pins))::l,i=>by simp only [iV,ab,fQ t c l i]; split <;> rfl
theorem tU (t:Nat) (c:List SD) : ∀ (l:List (Nat×SV)) (i:Nat),lkV (qK t c l) i=l4 t c (lkV l i)
 | [],_=>rfl
 | (j,v)::l,i=>by simp only [qK,bj,tU t c l i]; split <;> rfl
theorem cT (t:Nat) (c:List SD) : ∀ (cs:List SV) (j:Nat),(gp t c cs)[j]? = (cs[j]?).map (l4 t c)
 | [],j=>by simp [gp]
 | v::cs,0=>by simp [gp]
 | v::cs,j + 1=>by simpa [gp] using cT t c cs j
theorem cC (t:Nat) (c:List SD) : ∀ cs:List SV,(gp t c cs).length=cs.length
 | []=>rfl
 | v::cs=>by simp [gp,cC t c cs]
structure Fd (t:Nat) (B B':List (Nat×Option aj)) : Prop where
 rw:∀ t' e k ty xs pins,lkB B t' = some (.rw e k ty xs pins)→lkB B' t' = some (.rw e k ty xs pins)
 st:∀ t',t'≠t→∀ ty cs,lkB B t' = some (.st ty cs)→∃ ty' cs',lkB B' t' = some (.st ty' cs')
theorem an.frp {B B':List (Nat×Option aj)} {t:Nat} {ds:List SD} (hn:∀ c∈ds,c≠.nl) (hB:Fd t B B') {v:SV} {q:PV} (h:an B v q) : an B' (l4 t ds v) (fzp t (ds.map SD.toD) q):=by
 induction h with
 | junk q=>exact .junk _
 | d c y h=>exact .d c y h
 | ag cs qs hl hr ih =>
  refine .ag _ _ (by rw [cC,dh]; exact hl) (fun j c r h1 h2=>?_)
  rw [cT,zm] at h1
  obtain ⟨c',h3,rfl⟩:=h1
  obtain ⟨q',h4,rfl⟩:=di _ _ qs j r h2
  exact ih j c' q' h3 h4
 | tup cs qs hl hr ih =>
  refine .tup _ _ (by rw [cC,dh]; exact hl) (fun j c r h1 h2=>?_)
  rw [cT,zm] at h1
  obtain ⟨c',h3,rfl⟩:=h1
  obtain ⟨q',h4,rfl⟩:=di _ _ qs j r h2
  exact ih j c' q' h3 h4
 | fn f ps qs ps' qs' hl hr hl2 hr2 ih ih2 =>
  refine .fn f _ _ _ _ (by rw [cC,dh]; exact hl) (fun j c r h1 h2=>?_) (by rw [cC,dh]; exact hl2) (fun j c r h1 h2=>?_)
  ·rw [cT,zm] at h1
   obtain ⟨c',h3,rfl⟩:=h1
   obtain ⟨q',h4,rfl⟩:=di _ _ ps' j r h2
   exact ih j c' q' h3 h4
  ·rw [cT,zm] at h1
   obtain ⟨c',h3,rfl⟩:=h1
   obtain ⟨q',h4,rfl⟩:=di _ _ qs' j r h2
   exact ih2 j c' q' h3 h4
 | ptr t' o ty2 cs hb =>
  simp only [l4,fzp,bk]
  by_cases h:t' = t
  ·simp only [h,decide_true,if_true]
   exact .fe _ _ (by rw [List.map_drop]) (fun c hc=>hn c (List.mem_of_mem_drop hc))
  ·simp only [h,decide_false,if_false]
   obtain ⟨ty',cs',h1⟩:=hB.st t' h ty2 cs hb
   exact .ptr t' o ty' cs' h1
 | row t' n e2 k2 ty2 xs2 pins2 hb hn=>exact .row t' n e2 k2 ty2 xs2 pins2 (hB.rw t' _ _ _ _ _ hb) hn
 | re t' p o n i e2 k2 ty2 xs2 pins2 pin hb hn hp hi=>exact .re t' p o n i e2 k2 ty2 xs2 pins2 pin (hB.rw t' _ _ _ _ _ hb) hn hp hi
 | vw t' lo hi n e2 k2 ty2 xs2 pins2 hb hn=>exact .vw t' lo hi n e2 k2 ty2 xs2 pins2 (hB.rw t' _ _ _ _ _ hb) hn
 | fe cs ds h hn=>exact .fe cs ds h hn
theorem kR {cs cs':List SV} (hl:cs'.length=cs.length) (h:∀ (j:Nat) c,cs[j]? = some c→cs'[j]? = some c) : cs' = cs:=by
 apply List.ext_getElem?
 intro j
 cases hj:cs[j]? with
 | none=>rw [List.getElem?_eq_none_iff] at hj ⊢; omega
 | some c=>exact h j c hj
theorem Dh {B:List (Nat×Option aj)} {t:Nat} {ds:List SD} (ht:lkB B t=none) {v:SV} {q:PV} (h:an B v q) : l4 t ds v=v:=by
 induction h with
 | ag cs qs hl hr ih =>
  simp only [l4]
  rw [kR (cC _ _ _) fun j c hj=>?_]
  rw [cT,hj,Option.map_some,ih j c (qs[j]'(by rw [← hl]; exact (zg.1 hj).1)) hj (by simp)]
 | tup cs qs hl hr ih =>
  simp only [l4]
  rw [kR (cC _ _ _) fun j c hj=>?_]
  rw [cT,hj,Option.map_some,ih j c (qs[j]'(by rw [← hl]; exact (zg.1 hj).1)) hj (by simp)]
 | fn f ps qs ps' qs' hl hr hl2 hr2 ih ih2 =>
  simp only [l4]
  rw [kR (cs:=ps) (cC _ _ _) fun j c hj=>?_,kR (cs:=qs) (cC _ _ _) fun j c hj=>?_]
  ·rw [cT,hj,Option.map_some,ih2 j c (qs'[j]'(by rw [← hl2]; exact (zg.1 hj).1)) hj (by simp)]
  ·rw [cT,hj,Option.map_some,ih j c (ps'[j]'(by rw [← hl]; exact (zg.1 hj).1)) hj (by simp)]
 | ptr t' o ty cs hb =>
  have : ¬ t' = t:=fun e=>by rw [e,ht] at hb; cases hb
  simp only [l4,bk,this,decide_false]
 | _=>rfl
mutual
theorem zN {t:Nat} {c:List SD} : ∀ v:SV,gj v=true→l4 t c v=v
 | .junk,_=>rfl
 | .d _,_=>rfl
 | .fe _,_=>rfl
 | .ptr _ _,h=>by cases h
 | .row _,h=>by cases h
 | .re _ _ _,h=>by cases h
 | .vw _ _ _,h=>by cases h
 | .ag cs,h=>by simp only [l4]; rw [dH cs h]
 | .tup cs,h=>by simp only [l4]; rw [dH cs h]
 | .fn f ps qs,h=>by
  have h:(match aZ ps with | true=>aZ qs | false=>false)=true:=h
  split at h
  ·rename_i h1; simp only [l4]; rw [dH ps h1,dH qs h]
  ·cases h
theorem dH {t:Nat} {c:List SD} : ∀ cs:List SV,aZ cs=true→gp t c cs=cs
 | [],_=>rfl
 | v::cs,h=>by
  simp only [aZ] at h
  split at h
  ·rename_i h1
   simp only [gp]
   rw [zN v h1,dH cs h]
  ·cases h
end
theorem sH:∀ {ds:List SD},Eg ds=true→∀ c∈ds,c≠.nl
 | [],_,c,h=>by cases h
 | d::ds,h,c,hc=>by
  rcases List.mem_cons.1 hc with rfl | hc'
  ·intro e; subst e; cases h
  ·cases d with
   | nl=>cases h
   | _=>exact sH (ds:=ds) h c hc'
theorem pX:∀ {cs:List SV} {ds:List SD},jH cs=some ds→cs.length=ds.length∧∀ (j:Nat) d,ds[j]? = some d→cs[j]? = some (.d d)
 | [],ds,h=>by injection h with h; subst h; exact ⟨rfl,fun j d hj=>by simp at hj⟩
 | v::cs,ds,h=>by
  simp only [jH] at h
  split at h
  ·rename_i c l hc hl
   injection h with h
   subst h
   obtain ⟨h1,h2⟩:=pX hl
   refine ⟨by simp [h1],fun j d hj=>?_⟩
   cases j with
   | zero =>
    simp at hj
    subst hj
    cases v <;> simp [D7] at hc
    subst hc
    rfl
   | succ j=>simp at hj; simpa using h2 j d hj
  ·cases h
theorem En {sc W:List Nat} {s0 s s':SS} {p0 p:PS} {t:Nat} (hpr:ed s) (h0:cJ s0 p0) (hnew:lkB s0.bx t=none) (hk:bM sc W s0 s) (hs:cJ s p) (h:fbX sc t s=some s') : ∃ p',Le p p'∧cJ s' p'∧bM sc W s0 s'∧ed s':=by
 unfold fbX at h
 split at h
 ·rename_i ty cs hb
  split at h
  ·rename_i ds hds
   obtain ⟨h1,h2⟩:=aa h
   injection h2 with h2
   subst h2
   rw [Bool.and_eq_true,Bool.and_eq_true] at h1
   obtain ⟨h1,h3,h4⟩:=h1
   have h3:ae s.pr t=false:=by simpa using h3
   have h4:ae sc t=false:=by simpa using h4
   have hnl:=sH h1
   obtain ⟨hlen,hget⟩:=pX hds
   obtain ⟨qs,hq,hqs⟩:=hs.bx t _ hb
   have hc:∀ (j:Nat) d,(ds.map SD.toD)[j]? = some d→∃ y,qs[j]? = some (.d y)∧nrm y=d:=fun j d hj=>by
    rw [List.getElem?_map,zm] at hj
    obtain ⟨c,hc,rfl⟩:=hj
    have hc2:=hget j c hc
    have hlt:j < qs.length:=by rw [← hqs.len]; exact (zg.1 hc2).1
    have:=hqs.rep j _ qs[j] hc2 (by simp)
    rw [zq hlt]
    revert this
    generalize qs[j] = q
    intro this
    cases this with
    | d _ y hd=>exact ⟨y,rfl,hd.nrm⟩
   have hl:(ds.map SD.toD).length=qs.length:=by rw [List.length_map,← hlen,hqs.len]
   have hX:Fd t s.bx ((t,none)::iV t ds s.bx):=by
    refine ⟨fun t' e k ty2 xs pins h=>?_,fun t' ht' ty2 cs2 h=>?_⟩
    ·have : ¬ t' = t:=fun e=>by rw [e,hb] at h; cases h
     rw [ab,if_neg this,fQ,h]; rfl
    ·rw [ab,if_neg ht',fQ,h]; exact ⟨_,_,rfl⟩
   have hkp:bM sc W s0 ⟨qK t ds s.sl,(t,none)::iV t ds s.bx,s.pr,s.ro,s.oc⟩:=by
    refine ⟨hk.pr,hk.ro,fun t' ht'=>?_,fun i hi hsf=>?_,fun t' ht' ty2 cs2 h=>?_⟩
    ·have hpt:ae s.pr t' = true:=by rw [hk.pr]; exact ht'
     refine (hk.bx t' ht').trans ?_
     show dP _ (lkB ((t,none)::iV t ds s.bx) t')
     rw [ab,if_neg (fun e=>by rw [e,h3] at hpt; cases hpt),fQ]
     obtain ⟨b',k1,k2⟩:=hpr t' hpt
     rw [k1]
     cases b' with
     | st ty2 cs=>simp only [Option.map_some,yz]; rw [dH cs k2]; rfl
     | rw e2 k2 ty2 xs2 pins2=>exact ⟨pins2,rfl⟩
    ·show lkV (qK t ds s.sl) i = _
     rw [tU,hk.sl i hi hsf]
     exact Dh hnew (h0.sl i)
    ·obtain ⟨cs',k1,k2⟩:=hk.st t' ht' ty2 cs2 h
     show ∃ cs',lkB ((t,none)::iV t ds s.bx) t' = _∧_
     rw [ab,if_neg (fun e=>by rw [e,h4] at ht'; cases ht'),fQ,k1]
     exact ⟨_,rfl,by rw [cC]; exact k2⟩
   refine ⟨_,Ek t hq hl hc,⟨fun i=>?_,fun t' b h=>?_⟩,hkp,fun t' ht'=>?_⟩
   ·show an _ (lkV (qK t ds s.sl) i) (fzp t (ds.map SD.toD) (p.t i))
    rw [tU]
    exact (hs.sl i).frp hnl hX
   ·have h:lkB ((t,none)::iV t ds s.bx) t' = some b:=h
    rw [ab] at h
    split at h
    ·cases h
    ·rename_i hne
     rw [fQ,zm] at h
     obtain ⟨b0,h1,rfl⟩:=h
     have h2:=hs.bx t' b0 h1
     show eg _ true (some (yz t ds b0)) (if t' = t then none else (p.b t').map (qH t (ds.map SD.toD)))
     rw [if_neg hne]
     cases b0 with
     | st ty2 cs =>
      obtain ⟨qs,h3,h4⟩:=h2
      rw [h3]
      refine ⟨_,rfl,by rw [cC,dh]; exact h4.len,fun j c r k1 k2=>?_⟩
      rw [cT,zm] at k1
      obtain ⟨c',k3,rfl⟩:=k1
      obtain ⟨q',k4,rfl⟩:=di _ _ qs j r k2
      exact (h4.rep j c' q' k3 k4).frp hnl hX
     | rw e2 k2 ty2 xs2 pins2 =>
      obtain ⟨h3,h4⟩:=h2
      rw [h3]
      exact ⟨rfl,h4⟩
   ·obtain ⟨b',k1,k2⟩:=hpr t' ht'
    show ∃ b,lkB ((t,none)::iV t ds s.bx) t' = some b∧_
    rw [ab,if_neg (fun e=>by rw [e,h3] at ht'; cases ht'),fQ,k1]
    refine ⟨_,rfl,?_⟩
    cases b' with
    | st ty2 cs=>simp only [yz]; rw [dH cs k2]; exact k2
    | rw e2 k2 ty2 xs2 pins2=>rfl
  ·cases h
 ·cases h
theorem vK {sc W:List Nat} {s0:SS} {p0:PS} (h0:cJ s0 p0) : ∀ {l:List Nat} {s s':SS} {p:PS},ed s→yH s0 l=true→bM sc W s0 s→cJ s p→sS sc l s=some s'→∃ p',Le p p'∧cJ s' p'∧bM sc W s0 s'
 | [],s,s',p,_,_,hk,hs,h=>by injection h with h; subst h; exact ⟨p,.refl p,hs,hk⟩
 | t::l,s,s',p,hpr,hn,hk,hs,h=>by
  simp only [sS] at h
  simp only [yH] at hn
  split at hn
  ·rename_i hnew
   split at h
   ·rename_i s1 h1
    obtain ⟨p1,k1,k2,k3,k4⟩:=En hpr h0 hnew hk hs h1
    obtain ⟨p2,m1,m2,m3⟩:=vK h0 k4 hn k3 k2 h
    exact ⟨p2,k1.trans m1,m2,m3⟩
   ·cases h
  ·cases hn
end
section
theorem pN {m:Nat} {ops:Array Oper} (h:uS m ops=true) {i k:Nat} (hi:i < ops.size) (hm : ¬ i < m) (hk:k < i) : mP ops 4 i k=true:=by
 unfold uS at h
 rw [List.all_eq_true] at h
 have h:=h i (List.mem_range.2 hi)
 simp only [Bool.or_eq_true,decide_eq_true_eq,List.all_eq_true] at h
 exact (h.resolve_left hm) k (List.mem_range.2 hk)
section
variable {P:Program} {w0:WM} {F0:Nat→Prop} {n:Nat} {ops:Array Oper} {Q:Exit→Act→World→Prop}
def Am (P:Program) (ops:Array Oper) : List Nat→PS→(PS→Prop)→Prop
 | [],s,K=>K s
 | i::l,s,K=>∃ s1,Le s s1∧∃ o r u,ops[i]? = some o∧Eff P ops o s1 r u∧Am P ops l (s1.updL o.dst r u) K
theorem yX {bd:Nat→Bd} {mT:Nat} {Qs:Exit→PS→Prop} (hQ:∀ e s a w,Qs e s→fh n w0 F0 s a w→Q e a w) (hB:rm bd n ops=true) (hT:uS mT ops=true) : ∀ (m:Nat) (l lt:List Nat) (listed:Array Bool) (s:PS) (a:Act) (w:World),(l++lt).length=m→(l++lt).Pairwise (· < ·)→(∀ j∈l,j < mT)→(∀ j∈lt,¬ j < mT)→(∀ j,j∈l++lt↔(j < ops.size∧listed.getD j true=false))→listed.size=ops.size→xM ops listed →
  rH P ops bd l s (fun s'=>Am P ops lt s' (Qs .normal))→fh n w0 F0 s a w→wpAny P .any ops Q m listed a w
 | 0,l,lt,listed,s,a,w,hl,_,_,_,hm,hls,_,h,hc=>by
  have h0:l++lt = []:=List.eq_nil_of_length_eq_zero hl
  obtain ⟨rfl,rfl⟩:=List.append_eq_nil_iff.1 h0
  refine ⟨?_,hQ _ s a w h hc⟩
  rw [List.eq_nil_iff_forall_not_mem]
  intro j hj
  obtain ⟨h1,o,h2,_⟩:=mem_ready.1 hj
  have:=(hm j).2 ⟨(Array.getElem?_eq_some_iff.1 h2).1,h1⟩
  simp at this
 | m + 1,l,lt,listed,s,a,w,hl,hs,hlm,hltm,hm,hls,hcl,h,hc=>by
  have notdone:∀ {k:Nat},k∈l++lt→listed.getD k false=false:=fun {k} hk=>by
   have h1:=(hm k).1 hk
   have hsz:k < listed.size:=by rw [hls]; exact h1.1
   have h2:=h1.2
   simp [hsz] at h2 ⊢
   exact h2
  refine ⟨fun h0=>?_,fun i hi=>?_⟩
  ·exfalso
   cases hll:l++lt with
   | nil=>rw [hll] at hl; simp at hl
   | cons k ls =>
    have hk:=(hm k).1 (by rw [hll]; simp)
    have hok:ops[k]? = some ops[k]:=Array.getElem?_eq_getElem hk.1
    have:k∈Region.ready .any ops listed:=by
     refine mem_ready.2 ⟨hk.2,_,hok,fun e he hb=>?_⟩
     have hlt:=(eK hB hok).2.1 e he hb
     cases hx:listed.getD e.on false with
     | true=>rfl
     | false =>
      exfalso
      have hsz:e.on < listed.size:=by rw [hls]; omega
      have h2:listed.getD e.on true=false:=by
       simp [hsz] at hx ⊢; exact hx
      have h3:=(hm e.on).2 ⟨by omega,h2⟩
      rw [hll] at h3 hs
      rcases List.mem_cons.1 h3 with h | h
      ·omega
      ·have:=(List.pairwise_cons.1 hs).1 _ h
       omega
    rw [h0] at this
    cases this
  ·obtain ⟨hun,oi,hoi,hall⟩:=mem_ready.1 hi
   have hisz:=(Array.getElem?_eq_some_iff.1 hoi).1
   have hin:i∈l++lt:=(hm i).2 ⟨hisz,hun⟩
   have hready:∀ k,k∈l++lt→mP ops 4 i k=true→False:=fun k hk hh=>by
    have h1:=lZ hcl 4 i k hh (fun o' ho' e he hb=>by rw [hoi] at ho'; cases ho'; exact hall e he hb)
    rw [notdone hk] at h1
    cases h1
   have key:∃ l' lt' s1 r u,Le s s1∧Eff P ops oi s1 r u∧rH P ops bd l' (s1.updL oi.dst r u) (fun s'=>Am P ops lt' s' (Qs .normal))∧(l' ++ lt').length=m∧(l' ++ lt').Pairwise (· < ·)∧(∀ j∈l',j < mT)∧(∀ j∈lt',¬ j < mT)∧(∀ j,j∈l' ++ lt'↔(j∈l++lt∧j≠i)):=by
    by_cases him:i < mT
    ·have hil:i∈l:=by
      rcases List.mem_append.1 hin with h | h
      ·exact h
      ·exact absurd him (hltm i h)
     obtain ⟨l1,l2,rfl⟩:=List.append_of_mem hil
     have hpw0:=List.pairwise_append.1 hs
     have hpw:=List.pairwise_append.1 hpw0.1
     have hfront:=lS (P:=P) (bd:=bd) (K:=fun s'=>Am P ops lt s' (Qs .normal)) hoi l1 l2 s (fun k hk ok hok=>by
      have hlt:k < i:=hpw.2.2 k hk i (by simp)
      rcases (eK hB hoi).2.2 k ok hlt hok with hh | h
      ·exact (hready k (by simp [hk]) hh).elim
      ·exact h) h
     obtain ⟨o',r,u,ho',h1,_,h2⟩:=hfront
     rw [hoi] at ho'
     injection ho' with ho'
     subst ho'
     have hc3:=List.pairwise_cons.1 hpw.2.1
     have hne:∀ x,x∈l1++l2→x≠i:=fun x hx e=>by
      subst e
      rcases List.mem_append.1 hx with h | h
      ·have:=hpw.2.2 x h x (by simp); omega
      ·have:=hc3.1 x h; omega
     refine ⟨l1++l2,lt,s,r,u,.refl s,h1,h2,by simp at hl ⊢; omega,?_,fun j hj=>hlm j (by rcases List.mem_append.1 hj with h | h <;> simp [h]),hltm,fun j=>?_⟩
     ·refine List.pairwise_append.2 ⟨List.pairwise_append.2 ⟨hpw.1,hc3.2,fun x hx y hy=>hpw.2.2 x hx y (by simp [hy])⟩,hpw0.2.1,fun x hx y hy=>hpw0.2.2 x (by rcases List.mem_append.1 hx with h | h <;> simp [h]) y hy⟩
     ·refine ⟨fun hj=>?_,fun ⟨hj,hji⟩=>?_⟩
      ·rcases List.mem_append.1 hj with hj2 | hj2
       ·exact ⟨by rcases List.mem_append.1 hj2 with h | h <;> simp [h],hne j hj2⟩
       ·exact ⟨by simp [hj2],fun e=>by subst e; exact hltm j hj2 him⟩
      ·rcases List.mem_append.1 hj with h | h
       ·rcases List.mem_append.1 h with h | h
        ·simp [h]
        ·rcases List.mem_cons.1 h with h | h
         ·exact absurd h hji
         ·simp [h]
       ·simp [h]
    ·have hnil:l = []:=by
      cases l with
      | nil=>rfl
      | cons k l =>
       exfalso
       have hk:=hlm k (by simp)
       exact hready k (by simp) (pN hT hisz him (by omega))
     subst hnil
     cases lt with
     | nil=>simp at hin
     | cons k lt =>
      have hki:k=i:=by
       rcases List.mem_cons.1 hin with h | h
       ·exact h.symm
       ·exfalso
        have hlt:=(List.pairwise_cons.1 hs).1 i h
        exact hready k (by simp) (pN hT hisz him hlt)
      subst hki
      obtain ⟨s1,hle,o',r,u,ho',h1,h2⟩:=h
      rw [hoi] at ho'
      injection ho' with ho'
      subst ho'
      have hc3:=List.pairwise_cons.1 hs
      refine ⟨[],lt,s1,r,u,hle,h1,h2,by simp at hl ⊢; omega,hc3.2,fun j hj=>(by cases hj),fun j hj=>hltm j (by simp [hj]),fun j=>?_⟩
      refine ⟨fun hj=>⟨by simp at hj; simp [hj],fun e=>by
       subst e
       have:=hc3.1 j (by simpa using hj)
       omega⟩,fun ⟨hj,hji⟩=>?_⟩
      rcases List.mem_cons.1 hj with h | h
      ·exact absurd h hji
      ·simpa using h
   obtain ⟨l',lt',s1,r,u,hle,h1,h2,k1,k2,k3,k4,k5⟩:=key
   have hc1:=hle n w0 F0 a w hc
   have hstep:=Bv (f:=0) (Q:=Q) (K:=wpAny P .any ops Q m (listed.setIfInBounds i true)) hc1 h1 (eK hB hoi).1 (fun a' w' hc'=>by
    have hmono:∀ j,listed.getD j false=true→(listed.setIfInBounds i true).getD j false=true:=fun j hj=>by
     by_cases hji:j=i
     ·subst hji
      have hsz:j < listed.size:=by rw [hls]; exact hisz
      simp [hsz]
     ·rw [getD_set_ne false (Ne.symm hji)]; exact hj
    refine yX hQ hB hT m l' lt' _ _ a' w' k1 k2 k3 k4 (fun j=>?_) (by simpa using hls) (fun j hj o ho e he hb=>?_) h2 hc'
    ·by_cases hji:j=i
     ·subst hji
      have hsz:j < listed.size:=by rw [hls]; exact hisz
      refine ⟨fun hmem=>absurd rfl ((k5 j).1 hmem).2,fun ⟨_,hx⟩=>?_⟩
      simp [hsz] at hx
     ·rw [getD_set_ne true (Ne.symm hji),k5 j,hm j]
      simp [hji]
    ·by_cases hji:j=i
     ·subst hji
      rw [hoi] at ho
      cases ho
      exact hmono _ (hall e he hb)
     ·rw [getD_set_ne false (Ne.symm hji)] at hj
      exact hmono _ (hcl j hj o ho e he hb))
   unfold wpOp
   rw [hoi]
   simp only
   split
   ·rename_i hw
    rw [if_pos hw] at hstep
    exact .inl hstep
   ·rename_i hw
    rw [if_neg hw] at hstep
    exact hstep
theorem zo (bd:Nat→Bd) {Qs:Exit→PS→Prop} {s:PS} {id:Nat} {l:List Oper} (mT:Nat) (hmT:mT≤l.length) (hm:P.follows .mixedOrders=true) (hB:rm bd n l.toArray=true) (hT:uS mT l.toArray=true) (h:rH P l.toArray bd (List.range' 0 mT) s (fun s'=>Am P l.toArray (List.range' mT (l.length - mT)) s' (Qs .normal))) : PWP P n (.region id l.toArray true) Qs s:=by
 intro w0 F0 a w hc
 refine wp_region_any hm ?_
 have hr:List.range' 0 mT++List.range' mT (l.length - mT)=List.range' 0 l.length:=by
  have:=List.range'_append (s:=0) (m:=mT) (n:=l.length - mT) (step:=1)
  simp only [Nat.one_mul,Nat.zero_add] at this
  rw [this]
  congr 1
  omega
 refine yX (Qs:=Qs) (mT:=mT) (fun _ s' _ _ h1 h2=>⟨s',h1,h2⟩) hB hT l.toArray.size (List.range' 0 mT) (List.range' mT (l.length - mT)) _ s a _ (by rw [hr]; simp) (by rw [hr]; exact List.pairwise_lt_range') (fun j hj=>by simp [List.mem_range'_1] at hj; exact hj) (fun j hj=>by simp [List.mem_range'_1] at hj; omega) (fun j=>?_) (by simp) (fun j hj=>by exfalso; simp only [Array.getD_eq_getD_getElem?,Array.getElem?_replicate] at hj; split at hj <;> cases hj) h (hc.drew _)
 rw [hr]
 simp only [List.mem_range'_1,Nat.zero_le,true_and,Nat.zero_add,List.size_toArray]
 refine ⟨fun h=>⟨h,by simp [h]⟩,fun h=>h.1⟩
end
end
section
variable {B B':List (Nat×Option aj)} {s:SS} {p:PS} {P:Program} {ρ : Type}
theorem iE (ks:List Nat) : ∀ (cs:List SV) (j:Nat),(jR ks cs)[j]? = (cs[j]?).map (stV ks)
 | [],j=>by simp [jR]
 | c::cs,0=>by simp [jR]
 | c::cs,j + 1=>by simpa [jR] using iE ks cs j
theorem gf (ks:List Nat) : ∀ cs:List SV,(jR ks cs).length=cs.length
 | []=>rfl
 | c::cs=>by simp [jR,gf ks cs]
theorem xe (ks:List Nat) : ∀ (l:List (Nat×SV)) (i:Nat),lkV (y6 ks l) i=stV ks (lkV l i)
 | [],_=>rfl
 | (j,v)::l,i=>by simp only [y6,bj,xe ks l i]; split <;> rfl
def EB (ks:List Nat) : aj→aj
 | .st ty cs=>.st ty (jR ks cs)
 | b=>b
theorem kh (ks:List Nat) : ∀ (l:List (Nat×Option aj)) (i:Nat),lkB (lJ ks l) i=(lkB l i).map (EB ks)
 | [],_=>rfl
 | (j,none)::l,i=>by simp only [lJ,ab,kh ks l i]; split <;> rfl
 | (j,some (.st ty cs))::l,i=>by simp only [lJ,ab,kh ks l i]; split <;> rfl
 | (j,some (.rw e k ty xs pins))::l,i=>by simp only [lJ,ab,kh ks l i]; split <;> rfl
structure Ey (ks:List Nat) (B B':List (Nat×Option aj)) : Prop where
 rw:∀ t,ae ks t=false→∀ e k ty xs pins,lkB B t=some (.rw e k ty xs pins)→∃ e' k' ty' xs' pins',lkB B' t=some (.rw e' k' ty' xs' pins')∧xs'.length=xs.length∧∀ p pin,lkP pins p=some pin→∃ pin',lkP pins' p=some pin'∧pin'.i=pin.i
 st:∀ t ty cs,lkB B t=some (.st ty cs)→∃ ty' cs',lkB B' t=some (.st ty' cs')
theorem an.st {ks:List Nat} {v:SV} {q:PV} (h:an B v q) (hB:Ey ks B B') : an B' (stV ks v) q:=by
 induction h with
 | junk q=>exact .junk q
 | d c y h=>exact .d c y h
 | ag cs qs hl hr ih =>
  refine .ag _ qs (by rw [gf]; exact hl) (fun j c q h1 h2=>?_)
  rw [iE,zm] at h1
  obtain ⟨c',h3,rfl⟩:=h1
  exact ih j c' q h3 h2
 | tup cs qs hl hr ih =>
  refine .tup _ qs (by rw [gf]; exact hl) (fun j c q h1 h2=>?_)
  rw [iE,zm] at h1
  obtain ⟨c',h3,rfl⟩:=h1
  exact ih j c' q h3 h2
 | ptr t' o ty cs hb=>obtain ⟨ty',cs',h1⟩:=hB.st t' ty cs hb; exact .ptr t' o ty' cs' h1
 | row t' n e k ty xs pins hb hn =>
  simp only [stV]
  split
  ·exact .junk _
  ·rename_i h
   obtain ⟨e',k',ty',xs',pins',h1,h2,h3⟩:=hB.rw t' h e k ty xs pins hb
   exact .row t' n e' k' ty' xs' pins' h1 (h2.trans hn)
 | re t' p o n i e k ty xs pins pin hb hn hp hi =>
  simp only [stV]
  split
  ·exact .junk _
  ·rename_i h
   obtain ⟨e',k',ty',xs',pins',h1,h2,h3⟩:=hB.rw t' h e k ty xs pins hb
   obtain ⟨pin',h4,h5⟩:=h3 p pin hp
   exact .re t' p o n i e' k' ty' xs' pins' pin' h1 (h2.trans hn) h4 (by rw [h5]; exact hi)
 | vw t' lo hi n e k ty xs pins hb hn=>
  simp only [stV]
  split
  ·exact .junk _
  ·rename_i h
   obtain ⟨e',k',ty',xs',pins',h1,h2,h3⟩:=hB.rw t' h e k ty xs pins hb
   exact .vw t' lo hi n e' k' ty' xs' pins' h1 (h2.trans hn)
 | fe cs ds h hn=>exact .fe cs ds h hn
 | fn f ps qs ps' qs' hl hr hl2 hr2 ih ih2 =>
  refine .fn f _ _ ps' qs' (by rw [gf]; exact hl) (fun j c q h1 h2=>?_) (by rw [gf]; exact hl2) (fun j c q h1 h2=>?_)
  ·rw [iE,zm] at h1
   obtain ⟨c',h3,rfl⟩:=h1
   exact ih j c' q h3 h2
  ·rw [iE,zm] at h1
   obtain ⟨c',h3,rfl⟩:=h1
   exact ih2 j c' q h3 h2
theorem aL.st {ks:List Nat} {cs:List SV} {qs:List PV} (h:aL B cs qs) (hB:Ey ks B B') : aL B' (jR ks cs) qs :=
 ⟨by rw [gf]; exact h.len,fun j c q h1 h2=>by
  rw [iE,zm] at h1
  obtain ⟨c',h3,rfl⟩:=h1
  exact (h.rep j c' q h3 h2).st hB⟩
mutual
theorem xU {pr ks:List Nat} (hk:∀ t,ae ks t=true→ae pr t=false) : ∀ v:SV,dX pr v=true→stV ks v=v
 | .junk,_=>rfl
 | .d _,_=>rfl
 | .fe _,_=>rfl
 | .ptr _ _,_=>rfl
 | .row t,h=>by
  have h:ae pr t=true:=h
  simp only [stV]
  split
  ·rename_i h1; rw [hk t h1] at h; cases h
  ·rfl
 | .re _ _ _,h=>by cases h
 | .vw _ _ _,h=>by cases h
 | .ag cs,h=>by simp only [stV]; rw [jX hk cs h]
 | .tup cs,h=>by simp only [stV]; rw [jX hk cs h]
 | .fn f ps qs,h=>by
  have h:(b4 pr ps&&b4 pr qs)=true:=h
  rw [Bool.and_eq_true] at h
  simp only [stV]; rw [jX hk ps h.1,jX hk qs h.2]
theorem jX {pr ks:List Nat} (hk:∀ t,ae ks t=true→ae pr t=false) : ∀ cs:List SV,b4 pr cs=true→jR ks cs=cs
 | [],_=>rfl
 | c::cs,h=>by
  simp only [b4,Bool.and_eq_true] at h
  simp only [jR]
  rw [xU hk c h.1,jX hk cs h.2]
end
mutual
theorem AP {ks:List Nat} : ∀ v:SV,gj v=true→stV ks v=v
 | .junk,_=>rfl
 | .d _,_=>rfl
 | .fe _,_=>rfl
 | .ptr _ _,_=>rfl
 | .row _,h=>by cases h
 | .re _ _ _,h=>by cases h
 | .vw _ _ _,h=>by cases h
 | .ag cs,h=>by simp only [stV]; rw [fY cs h]
 | .tup cs,h=>by simp only [stV]; rw [fY cs h]
 | .fn f ps qs,h=>by
  have h:(match aZ ps with | true=>aZ qs | false=>false)=true:=h
  split at h
  ·rename_i h1; simp only [stV]; rw [fY ps h1,fY qs h]
  ·cases h
theorem fY {ks:List Nat} : ∀ cs:List SV,aZ cs=true→jR ks cs=cs
 | [],_=>rfl
 | c::cs,h=>by
  simp only [aZ] at h
  split at h
  ·rename_i h1
   simp only [jR]
   rw [AP c h1,fY cs h]
  ·cases h
end
inductive UAl (G:List Nat) (B':List (Nat×Option aj)) : List (Nat×Option aj)→BU→Prop
 | nil:UAl G B' [] []
 | cons (t:Nat) (sb:Option aj) (b:Box) (us:List (Nat×Option aj)) (u:BU) (h1:∀ x,sb=some x→eg B' true (some x) (some b)) (h2:sb=none→ae G t=true) (h:UAl G B' us u) : UAl G B' ((t,sb)::us) ((t,b)::u)
variable {G:List Nat}
theorem UAl.app {us us':List (Nat×Option aj)} {u u':BU} (h:UAl G B' us u) (h':UAl G B' us' u') : UAl G B' (us++us') (u++u'):=by
 induction h with
 | nil=>exact h'
 | cons t sb b us u h1 h2 h ih=>exact .cons t sb b _ _ h1 h2 ih
theorem cm:∀ {us:List (Nat×Option aj)} {t:Nat},t∈idU us↔∃ sb,(t,sb)∈us
 | [],t=>by simp [idU]
 | (i,b)::us,t=>by
  simp only [idU,List.mem_cons,Prod.mk.injEq]
  constructor
  ·rintro (rfl | h)
   ·exact ⟨b,.inl ⟨rfl,rfl⟩⟩
   ·obtain ⟨sb,h⟩:=cm.1 h; exact ⟨sb,.inr h⟩
  ·rintro ⟨sb,⟨rfl,_⟩ | h⟩
   ·exact .inl rfl
   ·exact .inr (cm.2 ⟨sb,h⟩)
theorem AM {us:List (Nat×Option aj)} {u:BU} (h:UAl G B' us u) (l:List (Nat×Option aj)) (t:Nat) :
  (t∈idU us∧∃ sb b,lkB (us++l) t=sb∧lkU u t=some b∧(∀ x,sb=some x→eg B' true (some x) (some b))∧(sb=none→ae G t=true))∨(t ∉ idU us∧lkB (us++l) t=lkB l t∧lkU u t=none):=by
 induction h with
 | nil=>exact .inr ⟨by simp [idU],rfl,rfl⟩
 | cons i sb b us u h1 h2 h ih =>
  by_cases hi:t=i
  ·subst hi
   refine .inl ⟨by simp [idU],sb,b,?_,?_,h1,h2⟩
   ·rw [List.cons_append,ab,if_pos rfl]
   ·simp [lkU]
  ·rcases ih with ⟨m1,sb',b',m2,m3,m4⟩ | ⟨m1,m2,m3⟩
   ·refine .inl ⟨by simp [idU,m1],sb',b',?_,?_,m4⟩
    ·rw [List.cons_append,ab,if_neg hi]; exact m2
    ·simp only [lkU,if_neg hi]; exact m3
   ·refine .inr ⟨by simp [idU,m1,hi],?_,?_⟩
    ·rw [List.cons_append,ab,if_neg hi]; exact m2
    ·simp only [lkU,if_neg hi]; exact m3
theorem bU:∀ {l:List Nat} {i:Nat},ae l i=true↔i∈l
 | [],i=>by simp [ae]
 | j::l,i=>by
  simp only [ae,bk,List.mem_cons]
  by_cases h:i=j
  ·simp [h]
  ·simp only [h,decide_false,false_or]; exact bU
theorem mJ {l:List Nat} {i:Nat} : ae l i=false↔i ∉ l:=by rw [← bU]; simp
theorem dg:∀ {l:List Nat},jm l=true→l.Nodup
 | [],_=>List.nodup_nil
 | a::l,h=>by
  simp only [jm] at h
  split at h
  ·cases h
  ·rename_i h1
   exact List.nodup_cons.2 ⟨mJ.1 h1,dg h⟩
theorem iB:∀ {l m:List Nat},wH l m=true→∀ x∈l,x∈m
 | [],_,_,x,hx=>by cases hx
 | a::l,m,h,x,hx=>by
  simp only [wH] at h
  split at h
  ·rename_i h1
   rcases List.mem_cons.1 hx with rfl | hx
   ·exact bU.1 h1
   ·exact iB h x hx
  ·cases h
theorem qg:∀ {l:List Nat},yj s l=true→∀ i∈l,ae s.pr i=false
 | [],_,i,hi=>by cases hi
 | a::l,h,i,hi=>by
  simp only [yj] at h
  split at h
  ·cases h
  ·rename_i h1
   rcases List.mem_cons.1 hi with rfl | hi
   ·exact h1
   ·exact qg h i hi
theorem qh:∀ {l:List Nat},yk s l=true→∀ i∈l,tR s i=true∧lkB s.bx i=none∧i < 1000000
 | [],_,i,hi=>by cases hi
 | a::l,h,i,hi=>by
  simp only [yk] at h
  split at h
  ·rename_i h1 h2 h3
   rcases List.mem_cons.1 hi with rfl | hi
   ·exact ⟨h1,h2,Nat.le_of_ble_eq_true h3⟩
   ·exact qh h i hi
  ·cases h
theorem qi:∀ {us:List (Nat×Option aj)},yl s us=true→∀ t sb,(t,sb)∈us→∀ ty cs,lkB s.bx t=some (.st ty cs)→∃ cs',sb=some (.st ty cs')∧cs'.length=cs.length
 | [],_,t,sb,h,_,_,_=>by cases h
 | (i,b)::us,h,t,sb,hm,ty,cs,hl=>by
  simp only [yl,Bool.and_eq_true] at h
  rcases List.mem_cons.1 hm with e | hm
  ·injection e with e1 e2
   subst e1 e2
   have h1:=h.1
   rw [hl] at h1
   simp only at h1
   split at h1
   ·rename_i ty' cs'
    rw [Bool.and_eq_true,Nat.beq_eq] at h1
    have:=zd h1.1
    subst this
    exact ⟨cs',rfl,h1.2.symm⟩
   ·cases h1
  ·exact qi h.2 t sb hm ty cs hl
mutual
theorem tf (b:Nat→Option Box) : ∀ q:PV,clean q=true→asData b q=gP q
 | .junk,_=>rfl
 | .d _,_=>rfl
 | .fe _,_=>rfl
 | .ptr _ _,h=>by cases h
 | .row _ _,h=>by cases h
 | .re _ _ _ _,h=>by cases h
 | .vw _ _ _ _,h=>by cases h
 | .ag cs,h=>by simp only [asData,gP]; rw [gw b cs h]
 | .tup cs,h=>by simp only [asData,gP]; rw [gw b cs h]
 | .fn f ps qs,h=>by
  have h:(ba ps&&ba qs)=true:=h
  rw [Bool.and_eq_true] at h
  simp only [asData,gP]; rw [gw b ps h.1,gw b qs h.2]
theorem gw (b:Nat→Option Box) : ∀ cs:List PV,ba cs=true→aE b cs=bO cs
 | [],_=>rfl
 | c::cs,h=>by
  simp only [ba,Bool.and_eq_true] at h
  simp only [aE,bO]; rw [tf b c h.1,gw b cs h.2]
end
theorem mh (hs:Sim s p) {rows:List (Nat×Nat×Nat×Nat×Ty)} : ∀ {cs:List SV} {qs:List PV} {ds:List SD} {j:Nat},aL s.bx cs qs→cellsOf s rows j cs=some ds →
  bO qs=b5 rows j (ds.map SD.toD)∧∀ t Bx,(t,Bx)∈aQ rows j (ds.map SD.toD)→p.b t=some Bx
 | [],qs,ds,j,hv,h=>by
  rcases hv.cases with ⟨_,rfl⟩ | ⟨_,_,_,_,h1,_⟩
  ·injection h with h; subst h; exact ⟨rfl,fun _ _ h=>by cases h⟩
  ·cases h1
 | c::cs,qs,ds,j,hv,h=>by
  rcases hv.cases with ⟨h1,_⟩ | ⟨c',q,cs',qs',h1,rfl,h2,h3⟩
  ·cases h1
  ·injection h1 with e1 e2
   subst e1 e2
   simp only [cellsOf] at h
   split at h
   ·rename_i R e k t hf
    split at h
    ·rename_i R' e' k' t' xs pins hb
     split at h
     ·rename_i hty _
      obtain ⟨m1,h⟩:=aa h
      obtain ⟨m2,h⟩:=aa h
      obtain ⟨m3,h⟩:=aa h
      split at h
      ·rename_i r hr
       injection h with h
       subst h hty
       rw [Nat.beq_eq] at m1
       have m2:=zd m2
       have m3:=zd m3
       subst m1 m2 m3
       obtain ⟨k1,k2⟩:=mh hs h3 hr
       have hbx:=hs.bx R'
       rw [hb] at hbx
       cases h2 with
       | row _ n e2 k2' ty2 xs2 pins2 hb2 hn =>
        rw [hb] at hb2
        injection hb2 with hb2
        injection hb2 with q1 q2 q3 q4 q5
        subst q3
        have q4:=eq_of_heq q4
        subst q4
        refine ⟨?_,?_⟩
        ·simp only [bO,gP,List.map_cons,b5,hf,SD.toD,k1]
         simp [mX,hn]
        ·intro t Bx hm
         simp only [List.map_cons,aQ,hf,SD.toD,List.mem_cons,Prod.mk.injEq] at hm
         rcases hm with ⟨rfl,rfl⟩ | hm
         ·exact hbx.1
         ·exact k2 t Bx hm
      ·cases h
     ·cases h
    ·cases h
   ·rename_i hf
    split at h
    ·rename_i x r hr
     injection h with h
     subst h
     obtain ⟨k1,k2⟩:=mh hs h3 hr
     cases h2 with
     | d _ y hy =>
      refine ⟨?_,?_⟩
      ·simp only [bO,gP,List.map_cons,b5,hf,k1,hy.nrm]
      ·intro t Bx hm
       simp only [List.map_cons,aQ,hf] at hm
       exact k2 t Bx hm
    ·cases h
theorem ou:∀ {rows:List (Nat×Nat×Nat×Ty)} {cs:List SV} {is:List Nat},pg rows cs=some is→is.length=rows.length
 | [],_,is,h=>by injection h with h; subst h; rfl
 | (j,e)::rows,cs,is,h=>by
  simp only [pg] at h
  split at h
  ·rename_i R is' _ h1
   injection h with h
   subst h
   simp [ou h1]
  ·cases h
theorem rn (hs:Sim s p) {rows:List (Nat×Nat×Nat×Ty)} {n:Nat} {cs:List SV} {qs:List PV} {x:ST n} {is:List Nat} (hv:aL s.bx cs qs) (h:vZ s rows n cs=some (x,is)) :
  is.length=rows.length∧bO qs=b5 (eh rows is) 0 (stD n x)∧∀ t Bx,(t,Bx)∈aQ (eh rows is) 0 (stD n x)→p.b t=some Bx:=by
 unfold vZ at h
 split at h
 ·rename_i is' hi
  split at h
  ·rename_i ds hd
   split at h
   ·rename_i x' hx
    injection h with h
    injection h with e1 e2
    subst e1 e2
    rw [← nh hx]
    exact ⟨ou hi,mh hs hv hd⟩
   ·cases h
  ·cases h
 ·cases h
structure E9 (p:PS) (pt:PT) (q:PV) (x:pt.den) (is:List Nat) : Prop where
 len:is.length=pt.nI
 v:gP q=(toI pt is x).1
 b:∀ t Bx,(t,Bx)∈(toI pt is x).2→∃ B',p.b t=some B'∧iL B' = Bx
theorem nV (hs:Sim s p) {e k:Nat} {t:Ty} {v:SV} {q:PV} {xs:List t.den} {is:List Nat} (hv:an s.bx v q) (h:jA s e k t v=some (xs,is)) : ∃ i,is = [i]∧q = .row i xs.length∧p.b i=some (rwU e k t xs)∧∃ e' k' t' xs' pins,lkB s.bx i=some (.rw e' k' t' xs' pins)∧xs'.length=xs.length:=by
 unfold jA at h
 split at h
 ·rename_i i
  split at h
  ·rename_i e' k' t' xs' pins hb
   split at h
   ·rename_i hty _
    obtain ⟨m2,h⟩:=aa h
    obtain ⟨m3,h⟩:=aa h
    injection h with h
    injection h with e1 e2
    subst e1 e2 hty
    have m2:=zd m2
    have m3:=zd m3
    subst m2 m3
    have hbx:=hs.bx i
    rw [hb] at hbx
    cases hv with
    | row _ n e2 k2' ty2 xs2 pins2 hb2 hn =>
     rw [hb] at hb2
     injection hb2 with hb2
     injection hb2 with q1 q2 q3 q4 q5
     subst q3
     have q4:=eq_of_heq q4
     subst q4
     exact ⟨i,rfl,by rw [← hn]; rfl,hbx.1,_,_,_,_,_,hb,rfl⟩
   ·cases h
  ·cases h
 ·cases h
theorem Dv (hs:Sim s p) {pt:PT} {v:SV} {q:PV} {x:pt.den} {is:List Nat} (hv:an s.bx v q) (h:v7 s pt v=some (x,is)) : is = []∧gP q=gd pt x:=by
 unfold v7 at h
 obtain ⟨h1,h⟩:=aa h
 split at h
 ·rename_i x' hx
  injection h with h
  injection h with e1 e2
  subst e1 e2
  obtain ⟨k1,k2⟩:=(px hs hv hx).2 h1
  exact ⟨rfl,by rw [← tf bW q k1]; exact k2⟩
 ·cases h
theorem um (hs:Sim s p) : ∀ {pt:PT} {v:SV} {q:PV} {x:pt.den} {is:List Nat},an s.bx v q→xy s pt v=some (x,is)→E9 p pt q x is:=by
 intro pt v q x is hv h
 have plain:∀ {pt:PT} {x:pt.den},pt.nI=0→(toI pt [] x)=(gd pt x,[])→v7 s pt v=some (x,is)→E9 p pt q x is:=fun {pt x} h0 h1 h=>by
  obtain ⟨rfl,h2⟩:=Dv hs hv h
  exact ⟨h0.symm,by rw [h1]; exact h2,by rw [h1]; exact fun _ _ h=>by cases h⟩
 have row:∀ {e k:Nat} {t:Ty} {xs:List t.den},jA s e k t v=some (xs,is)→is.length=1∧∃ i,is = [i]∧q = .row i xs.length∧p.b i=some (rwU e k t xs):=fun {e k t xs} h=>by
  obtain ⟨i,rfl,h1,h2,_⟩:=nV hs hv h
  exact ⟨rfl,i,rfl,h1,h2⟩
 cases pt with
 | lf t=>exact plain rfl rfl h
 | ag i=>exact plain rfl rfl h
 | pl t=>exact plain rfl rfl h
 | ps i=>exact plain rfl rfl h
 | fn f a b=>exact plain rfl rfl h
 | io l=>exact bP (x:=(x,is)) h
 | own e k t =>
  obtain ⟨h1,i,rfl,h2,h3⟩:=row (xs:=x) h
  refine ⟨h1,by rw [h2]; rfl,fun t' Bx hm=>?_⟩
  simp only [toI,List.mem_cons,List.not_mem_nil,or_false,Prod.mk.injEq] at hm
  obtain ⟨rfl,rfl⟩:=hm
  exact ⟨_,h3,rfl⟩
 | mv e k t =>
  obtain ⟨h1,i,rfl,h2,h3⟩:=row (xs:=x) h
  refine ⟨h1,by rw [h2]; rfl,fun t' Bx hm=>?_⟩
  simp only [toI,List.mem_cons,List.not_mem_nil,or_false,Prod.mk.injEq] at hm
  obtain ⟨rfl,rfl⟩:=hm
  exact ⟨_,h3,rfl⟩
 | bx ty n rows =>
  replace h:wc s ty n rows v=some (x,is):=h
  unfold wc at h
  split at h
  ·rename_i i
   split at h
   ·rename_i ty' cs hb
    obtain ⟨m1,h⟩:=aa h
    have m1:=zd m1
    subst m1
    split at h
    ·rename_i x' is' hd
     injection h with h
     injection h with e1 e2
     subst e1 e2
     have hbx:=hs.bx i
     rw [hb] at hbx
     obtain ⟨qs,k1,k2⟩:=hbx
     obtain ⟨k3,k4,k5⟩:=rn hs k2 hd
     cases hv with
     | ptr _ _ _ _ _ =>
      refine ⟨by simp [k3,PT.nI],rfl,fun t' Bx hm=>?_⟩
      simp only [toI,List.mem_cons,Prod.mk.injEq] at hm
      rcases hm with ⟨rfl,rfl⟩ | hm
      ·exact ⟨_,k1,by rw [iL,k4]⟩
      ·have:=k5 t' Bx hm
       refine ⟨Bx,this,?_⟩
       have:∀ {rows:List (Nat×Nat×Nat×Nat×Ty)} {ds:List D} {j:Nat},(t',Bx)∈aQ rows j ds→iL Bx=Bx:=by
        intro rows ds
        induction ds with
        | nil=>intro j h; cases h
        | cons d ds ih =>
         intro j h
         simp only [aQ] at h
         split at h
         ·split at h
          ·rcases List.mem_cons.1 h with e | h
           ·injection e with _ e; subst e; rfl
           ·exact ih h
          ·exact ih h
         ·exact ih h
       exact this hm
    ·cases h
   ·cases h
  ·cases h
 | agr n rows =>
  replace h:xz s n rows v=some (x,is):=h
  unfold xz at h
  split at h
  ·rename_i cs
   obtain ⟨qs,rfl,hq⟩:=pF hv
   obtain ⟨k3,k4,k5⟩:=rn hs hq h
   refine ⟨k3,by simp only [gP,toI,k4],fun t' Bx hm=>?_⟩
   have:=k5 t' Bx hm
   refine ⟨Bx,this,?_⟩
   have:∀ {rows:List (Nat×Nat×Nat×Nat×Ty)} {ds:List D} {j:Nat},(t',Bx)∈aQ rows j ds→iL Bx=Bx:=by
    intro rows ds
    induction ds with
    | nil=>intro j h; cases h
    | cons d ds ih =>
     intro j h
     simp only [aQ] at h
     split at h
     ·split at h
      ·rcases List.mem_cons.1 h with e | h
       ·injection e with _ e; subst e; rfl
       ·exact ih h
      ·exact ih h
     ·exact ih h
   exact this hm
  ·cases h
theorem v8 (hs:Sim s p) : ∀ {ps:List PT} {vs:List SV} {qs:List PV} {x:bb ps} {iss:List (List Nat)},aL s.bx vs qs→td s ps vs=some (x,iss) →
  cY ps iss∧bO qs=(bQ ps iss x).1∧∀ t Bx,(t,Bx)∈(bQ ps iss x).2→∃ B',p.b t=some B'∧iL B' = Bx
 | [],[],qs,x,iss,hv,h=>by
  rcases hv.cases with ⟨_,rfl⟩ | ⟨_,_,_,_,h1,_⟩
  ·injection h with h
   injection h with _ h
   subst h
   exact ⟨trivial,rfl,fun _ _ h=>by cases h⟩
  ·cases h1
 | [],_ :: _,_,_,_,_,h=>by cases h
 | _ :: _,[],_,_,_,_,h=>by cases h
 | pt::ps,v::vs,qs,x,iss,hv,h=>by
  rcases hv.cases with ⟨h1,_⟩ | ⟨v',q,vs',qs',h1,rfl,h2,h3⟩
  ·cases h1
  ·injection h1 with e1 e2
   subst e1 e2
   simp only [td] at h
   split at h
   ·rename_i y is ys iss' m1 m2
    injection h with h
    injection h with e1 e2
    subst e1 e2
    obtain ⟨k1,k2,k3⟩:=um hs h2 m1
    obtain ⟨k4,k5,k6⟩:=v8 hs h3 m2
    refine ⟨⟨k1,k4⟩,by simp only [bO,bQ,k2,k5],fun t Bx hm=>?_⟩
    simp only [bQ,List.mem_append] at hm
    rcases hm with hm | hm
    ·exact k3 t Bx hm
    ·exact k6 t Bx hm
   ·cases h
end
section
variable {B B':List (Nat×Option aj)} {s:SS} {p:PS} {P:Program} {ρ : Type} {G:List Nat} {sc:List Nat}
def lc (B':List (Nat×Option aj)) (bx:List (Nat×Option aj)) : Prop:=∀ t x,(t,some x)∈bx→lkB B' t=some x
theorem lc.app {a b:List (Nat×Option aj)} (h:lc B' (a++b)) : lc B' a∧lc B' b:=⟨fun t x hm=>h t x (List.mem_append_left _ hm),fun t x hm=>h t x (List.mem_append_right _ hm)⟩
theorem wT {rows:List (Nat×Nat×Nat×Nat×Ty)} : ∀ {cs:List SD} {j:Nat} {vs:List SV} {bx:List (Nat×Option aj)},cy rows j cs [] = some (vs,bx)→(∀ c∈cs,c≠.nl) →
  UAl G B' bx (aQ rows j (cs.map SD.toD))∧(lc B' bx→aL B' vs (b5 rows j (cs.map SD.toD)))
 | [],j,vs,bx,h,_=>by
  simp only [cy] at h
  injection h with h
  injection h with e1 e2
  subst e1 e2
  exact ⟨.nil,fun _=>.nil⟩
 | c::cs,j,vs,bx,h,hn=>by
  simp only [cy] at h
  have hn':=fun c' hc=>hn c' (List.mem_cons_of_mem _ hc)
  split at h
  ·rename_i R e k t hf
   split at h
   ·rename_i xs vs' bx' hx hr
    injection h with h
    injection h with e1 e2
    subst e1 e2
    obtain ⟨k1,k2⟩:=wT hr hn'
    have hD:c.toD = .sl ((show List t.den from xs).map (aA t)):=by
     rw [← pv hx]; rfl
    simp only [List.map_cons,aQ,b5,hf,hD]
    refine ⟨.cons R _ _ _ _ (fun x hx=>?_) (fun h=>by cases h) k1,fun hs=>.cons ?_ (k2 fun t x hm=>hs t x (List.mem_cons_of_mem _ hm))⟩
    ·injection hx with hx
     subst hx
     exact ⟨rfl,fun p pin h=>by cases h⟩
    ·exact .row R _ e k t xs [] (hs R _ List.mem_cons_self) (show List.length (show List t.den from xs) = _ from (List.length_map _).symm)
   ·cases h
  ·rename_i hf
   split at h
   ·rename_i vs' bx' hr
    injection h with h
    injection h with e1 e2
    subst e1 e2
    obtain ⟨k1,k2⟩:=wT hr hn'
    simp only [List.map_cons,aQ,b5,hf]
    exact ⟨k1,fun hs=>.cons (.d _ _ (uL.of (hn c List.mem_cons_self))) (k2 hs)⟩
   ·cases h
theorem qS {rows:List (Nat×Nat×Nat×Ty)} {is:List Nat} {n:Nat} {x:ST n} {vs:List SV} {bx:List (Nat×Option aj)} (h:vN rows is n x=some (vs,bx)) :
  UAl G B' bx (aQ (eh rows is) 0 (stD n x))∧(lc B' bx→aL B' vs (b5 (eh rows is) 0 (stD n x))):=by
 rw [← jY n x]
 exact wT h (lI n x)
theorem sX {e k:Nat} {t:Ty} (xs:List t.den) {is:List Nat} {v:SV} {bx:List (Nat×Option aj)} (h:(match is with | [i]=>some (SV.row i,[(i,some (aj.rw e k t xs []))]) | _=>none)=some (v,bx)) (hs:lc B' bx) :
  ∃ i,is = [i]∧v = .row i∧UAl G B' bx [(i,rwU e k t xs)]∧an B' v (.row i xs.length):=by
 split at h
 ·rename_i i
  injection h with h
  injection h with e1 e2
  subst e1 e2
  exact ⟨i,rfl,rfl,.cons i _ _ _ _ (fun x hx=>by injection hx with hx; subst hx; exact ⟨rfl,fun p pin h=>by cases h⟩) (fun h=>by cases h) .nil,.row i _ e k t xs [] (hs i _ List.mem_cons_self) rfl⟩
 ·cases h
theorem uf {pt:PT} {is:List Nat} {x:pt.den} {v:SV} {bx:List (Nat×Option aj)} (hp:(pt.isM||zu pt)=true) (h:vQ pt is x=some (v,bx)) (hs:lc B' bx) :
  UAl G B' bx (toI pt is x).2∧an B' v (toI pt is x).1:=by
 have plain:∀ {pt:PT} {x:pt.den},pt.isM=false→(pt.isM||zu pt)=true→(toI pt is x)=(gd pt x,[])→v=zW pt x→bx = []→UAl G B' bx (toI pt is x).2∧an B' v (toI pt is x).1:=fun {pt x} h1 h2 h3 h4 h5=>by
  subst h4 h5
  rw [h1,Bool.false_or] at h2
  rw [h3]
  exact ⟨.nil,mS pt x h2⟩
 cases pt with
 | lf t=>injection h with h; injection h with e1 e2; exact plain rfl hp rfl e1.symm e2.symm
 | ag t=>injection h with h; injection h with e1 e2; exact plain rfl hp rfl e1.symm e2.symm
 | pl t=>injection h with h; injection h with e1 e2; exact plain rfl hp rfl e1.symm e2.symm
 | ps t=>injection h with h; injection h with e1 e2; exact plain rfl hp rfl e1.symm e2.symm
 | fn f a b=>injection h with h; injection h with e1 e2; exact plain rfl hp rfl e1.symm e2.symm
 | io l=>cases h
 | own e k t=>obtain ⟨i,rfl,rfl,k1,k2⟩:=sX (G:=G) (B':=B') (show List t.den from x) h hs; exact ⟨k1,k2⟩
 | mv e k t=>obtain ⟨i,rfl,rfl,k1,k2⟩:=sX (G:=G) (B':=B') (show List t.den from x) h hs; exact ⟨k1,k2⟩
 | bx ty n rows =>
  simp only [vQ] at h
  split at h
  ·rename_i i is'
   split at h
   ·rename_i vs bx' he
    injection h with h
    injection h with e1 e2
    subst e1 e2
    obtain ⟨k1,k2⟩:=qS (G:=G) (B':=B') he
    have hc:=k2 fun t x hm=>hs t x (List.mem_cons_of_mem _ hm)
    exact ⟨.cons i _ _ _ _ (fun x hx=>by injection hx with hx; subst hx; exact ⟨_,rfl,hc⟩) (fun h=>by cases h) k1,.ptr i 0 _ _ (hs i _ List.mem_cons_self)⟩
   ·cases h
  ·cases h
 | agr n rows =>
  simp only [vQ] at h
  split at h
  ·rename_i vs bx' he
   injection h with h
   injection h with e1 e2
   subst e1 e2
   obtain ⟨k1,k2⟩:=qS (G:=G) (B':=B') he
   have hc:=k2 hs
   exact ⟨k1,.ag _ _ hc.len hc.rep⟩
  ·cases h
theorem sY:∀ {rs:List PT} {jss:List (List Nat)} {r:aq rs} {vs:List SV} {bs:List (Nat×Option aj)},jk rs=true→ud rs jss r=some (vs,bs)→lc B' bs→UAl G B' bs (be rs jss r).2∧aL B' vs (be rs jss r).1
 | [],[],r,vs,bs,_,h,_=>by
  have h:some (([] : List SV),([] : List (Nat×Option aj)))=some (vs,bs):=h
  injection h with h
  injection h with e1 e2
  subst e1 e2
  exact ⟨.nil,.nil⟩
 | [],_ :: _,r,vs,bs,_,h,_=>by cases h
 | [pt],[],r,vs,bs,_,h,_=>by cases h
 | [pt],[is],r,vs,bs,hp,h,hs=>by
  have h:(match vQ pt is r with | some (v,b)=>some ([v],b) | none=>none)=some (vs,bs):=h
  simp only [jk] at hp
  split at hp
  ·rename_i hp1
   split at h
   ·rename_i v b he
    injection h with h
    injection h with e1 e2
    subst e1 e2
    obtain ⟨k1,k2⟩:=uf (G:=G) (B':=B') hp1 he hs
    exact ⟨k1,.cons k2 .nil⟩
   ·cases h
  ·cases hp
 | [pt],_ :: _ :: _,r,vs,bs,_,h,_=>by cases h
 | pt::q::l,[],r,vs,bs,_,h,_=>by cases h
 | pt::q::l,is::iss,r,vs,bs,hp,h,hs=>by
  have h:(match vQ pt is r.1,ud (q::l) iss r.2 with | some (v,b),some (vs,bs)=>some (v::vs,b++bs) | _,_=>none)=some (vs,bs):=h
  rw [jk] at hp
  split at hp
  ·rename_i hp1
   split at h
   ·rename_i v b vs' bs' he hr
    injection h with h
    injection h with e1 e2
    subst e1 e2
    obtain ⟨s1,s2⟩:=hs.app
    obtain ⟨k1,k2⟩:=uf (G:=G) (B':=B') hp1 he s1
    obtain ⟨k3,k4⟩:=sY hp hr s2
    exact ⟨k1.app k3,.cons k2 k4⟩
   ·cases h
  ·cases hp
theorem Bz {vs:List SV} {qs:List PV} (h:aL B vs qs) : an B (BA vs) (mF qs):=by
 match vs,qs,h with
 | [],[],h=>exact .tup _ _ rfl (fun j c q h1=>by simp at h1)
 | [v],[q],h=>exact h.head
 | v::v' :: vs,q::q' :: qs,h=>exact .tup _ _ h.len h.rep
 | [],_ :: _,h=>have:=h.len; simp at this
 | _ :: _,[],h=>have:=h.len; simp at this
 | [_],_ :: _ :: _,h=>have:=h.len; simp at this
 | _ :: _ :: _,[_],h=>have:=h.len; simp at this
def n6 (s:SS) (ks js:List Nat) (t:Nat) (sb:Option aj) : Prop :=
 ae ks t=true∨t∈js∨(∃ ty cs,lkB s.bx t=some (.st ty cs))∨∃ e k ty xs pins e' k' ty' xs',lkB s.bx t=some (.rw e k ty xs pins)∧sb=some (.rw e' k' ty' xs' (lh pins))∧xs'.length=xs.length
theorem pC:∀ {rows:List (Nat×Nat×Nat×Ty)} {is:List Nat} {j R e k:Nat} {t:Ty},gr (eh rows is) j=some (R,e,k,t)→R∈is
 | [],is,j,R,e,k,t,h=>by cases is <;> cases h
 | (j0,e0,k0,t0)::rows,[],j,R,e,k,t,h=>by cases h
 | (j0,e0,k0,t0)::rows,R0::is,j,R,e,k,t,h=>by
  simp only [eh,gr] at h
  split at h
  ·injection h with h
   injection h with h _
   subst h
   exact List.mem_cons_self
  ·exact List.mem_cons_of_mem _ (pC h)
theorem tM {rows:List (Nat×Nat×Nat×Ty)} {is:List Nat} : ∀ {cs:List SD} {j:Nat} {vs:List SV} {bx:List (Nat×Option aj)},cy (eh rows is) j cs [] = some (vs,bx)→∀ t sb,(t,sb)∈bx→t∈is
 | [],j,vs,bx,h,t,sb,hm=>by
  simp only [cy] at h
  injection h with h
  injection h with e1 e2
  subst e1 e2
  cases hm
 | c::cs,j,vs,bx,h,t,sb,hm=>by
  simp only [cy] at h
  split at h
  ·rename_i R e k t' hf
   split at h
   ·rename_i xs vs' bx' hx hr
    injection h with h
    injection h with e1 e2
    subst e1 e2
    rcases List.mem_cons.1 hm with e | hm
    ·injection e with e _
     subst e
     exact pC hf
    ·exact tM hr t sb hm
   ·cases h
  ·split at h
   ·rename_i vs' bx' hr
    injection h with h
    injection h with e1 e2
    subst e1 e2
    exact tM hr t sb hm
   ·cases h
theorem Dl (hs:Sim s p) {pt:PT} {b:IB} {is js:List Nat} {x:pt.den} {o:b.den} {v:SV} {q:PV} {m:MU} (hv:an s.bx v q) (hd:xy s pt v=some (x,is)) (hl:EK pt b x o) (h:Ep s pt b is js o=some m) (hsn:lc B' m.us) :
  (UAl G B' m.us (toO pt b is js x o)∧m.gs=qF pt is∧∀ i∈m.gs,ae m.ks i=true)∧∀ t sb,(t,sb)∈m.us→n6 s m.ks js t sb:=by
 have nil:some (⟨[],[],[]⟩ : MU)=some m→toO pt b is js x o = []→qF pt is = []→(UAl G B' m.us (toO pt b is js x o)∧m.gs=qF pt is∧∀ i∈m.gs,ae m.ks i=true)∧∀ t sb,(t,sb)∈m.us→n6 s m.ks js t sb:=fun h1 h2 h3=>by
  injection h1 with h1
  subst h1
  rw [h2,h3]
  exact ⟨⟨.nil,rfl,fun _ h=>by cases h⟩,fun t sb h=>by cases h⟩
 cases pt with
 | lf t=>cases b with
  | no=>exact nil h rfl rfl
  | _=>cases h
 | ag t=>cases b with
  | no=>exact nil h rfl rfl
  | _=>cases h
 | pl t=>cases b with
  | no=>exact nil h rfl rfl
  | _=>cases h
 | ps t=>cases b with
  | no=>exact nil h rfl rfl
  | _=>cases h
 | fn f a c=>cases b with
  | no=>exact nil h rfl rfl
  | _=>cases h
 | io l=>cases b <;> cases h
 | agr n rows=>cases b <;> cases h
 | own e k t=>cases b with
  | no=>cases h
  | bx=>cases h
  | own e' k' t' =>
   obtain ⟨i,rfl,h1,h2,e2,k2,t2,xs2,pins,h3,h4⟩:=nV hs hv (show jA s e k t v=some (x,is) from hd)
   have h:some (⟨[],[(i,some (.rw e' k' t' o (tP s i)))],[]⟩ : MU)=some m:=h
   injection h with h
   subst h
   have hp:tP s i=lh pins:=by unfold tP; rw [h3]
   rw [hp]
   have hl:(show List t'.den from o).length=(show List t.den from x).length:=hl
   refine ⟨⟨.cons i _ _ _ _ (fun y hy=>?_) (fun h=>by cases h) .nil,rfl,fun _ h=>by cases h⟩,fun t sb hm=>?_⟩
   ·injection hy with hy
    subst hy
    refine ⟨rfl,fun pp pin hpin=>?_⟩
    rw [eH,zm] at hpin
    obtain ⟨pin0,h5,rfl⟩:=hpin
    have hbx:=hs.bx i
    rw [h3] at hbx
    obtain ⟨h6,_⟩:=hbx.2 pp pin0 h5
    exact ⟨by show pin0.i.toNat < (show List t'.den from o).length; rw [hl]; show _ < List.length _; rw [← h4]; exact h6,fun cs h=>by cases h⟩
   ·simp only [List.mem_cons,List.not_mem_nil,or_false,Prod.mk.injEq] at hm
    obtain ⟨rfl,rfl⟩:=hm
    exact .inr (.inr (.inr ⟨_,_,_,_,_,_,_,_,_,h3,rfl,by show (show List t'.den from o).length = _; rw [hl]; exact h4.symm⟩))
 | mv e k t=>cases b with
  | own=>cases h
  | bx=>cases h
  | no =>
   obtain ⟨i,rfl,_⟩:=nV hs hv (show jA s e k t v=some (x,is) from hd)
   have h:some (⟨[i],[],[i]⟩ : MU)=some m:=h
   injection h with h
   subst h
   exact ⟨⟨.nil,rfl,fun j hj=>bU.2 hj⟩,fun t sb hm=>by cases hm⟩
 | bx ty n rows=>cases b with
  | own=>cases h
  | no=>cases h
  | bx ty' n' rows' =>
   have hb:∃ i is' cs ty0,is=i::is'∧lkB s.bx i=some (.st ty0 cs):=by
    replace hd:wc s ty n rows v=some (x,is):=hd
    clear h
    unfold wc at hd
    split at hd
    ·rename_i i
     split at hd
     ·rename_i ty0 cs hb
      obtain ⟨_,hd⟩:=aa hd
      split at hd
      ·injection hd with hd
       injection hd with _ hd
       exact ⟨i,_,cs,ty0,hd.symm,hb⟩
      ·cases hd
     ·cases hd
    ·cases hd
   obtain ⟨i,is',cs,ty0,rfl,hb⟩:=hb
   have h:(match vN rows' js n' o with | some (vs,bx)=>some (⟨is',(i,some (.st ty' vs))::bx,is'⟩ : MU) | none=>none)=some m:=h
   split at h
   ·rename_i vs bx he
    injection h with h
    subst h
    obtain ⟨k1,k2⟩:=qS (G:=G) (B':=B') he
    have hc:=k2 fun t x hm=>hsn t x (List.mem_cons_of_mem _ hm)
    refine ⟨⟨.cons i _ _ _ _ (fun x hx=>by injection hx with hx; subst hx; exact ⟨_,rfl,hc⟩) (fun h=>by cases h) k1,rfl,fun j hj=>bU.2 hj⟩,fun t sb hm=>?_⟩
    rcases List.mem_cons.1 hm with e | hm
    ·injection e with e1 e2
     subst e1 e2
     exact .inr (.inr (.inl ⟨_,_,hb⟩))
    ·exact .inr (.inl (tM he t sb hm))
   ·cases h
theorem n6.more {ks ks' js js':List Nat} {t:Nat} {sb:Option aj} (h:n6 s ks js t sb) (hk:∀ t,ae ks t=true→ae ks' t=true) (hj:∀ t∈js,t∈js') : n6 s ks' js' t sb:=by
 rcases h with h | h | h
 ·exact .inl (hk t h)
 ·exact .inr (.inl (hj t h))
 ·exact .inr (.inr h)
theorem vO (hs:Sim s p) : ∀ {ps:List PT} {ls:List IB} {iss kss:List (List Nat)} {x:bb ps} {o:mD ls} {vs:List SV} {qs:List PV} {m:MU},aL s.bx vs qs→td s ps vs=some (x,iss)→vu ps ls x o→yL s ps ls iss kss o=some m→lc B' m.us →
  (UAl G B' m.us (wD ps ls iss kss x o)∧m.gs=fG ps iss∧∀ i∈m.gs,ae m.ks i=true)∧∀ t sb,(t,sb)∈m.us→n6 s m.ks (aw kss) t sb
 | [],[],[],[],x,o,vs,qs,m,_,_,_,h,_=>by
  have h:some (⟨[],[],[]⟩ : MU)=some m:=h
  injection h with h
  subst h
  exact ⟨⟨.nil,rfl,fun _ h=>by cases h⟩,fun t sb h=>by cases h⟩
 | [],[],[],_ :: _,x,o,vs,qs,m,_,_,_,h,_=>by cases h
 | [],[],_ :: _,_,x,o,vs,qs,m,_,_,_,h,_=>by cases h
 | [],_ :: _,_,_,x,o,vs,qs,m,_,_,_,h,_=>by cases h
 | _ :: _,[],_,_,x,o,vs,qs,m,_,_,_,h,_=>by cases h
 | _ :: _,_ :: _,[],_,x,o,vs,qs,m,_,_,_,h,_=>by cases h
 | _ :: _,_ :: _,_ :: _,[],x,o,vs,qs,m,_,_,_,h,_=>by cases h
 | pt::ps,b::ls,is::iss,js::kss,x,o,vs,qs,m,hv,hd,hl,h,hsn=>by
  have h:(match Ep s pt b is js o.1,yL s ps ls iss kss o.2 with | some m,some m'=>some (m.app m') | _,_=>none)=some m:=h
  cases vs with
  | nil=>cases hd
  | cons v vs =>
  rcases hv.cases with ⟨h1,_⟩ | ⟨v',q,vs',qs',h1,rfl,h2,h3⟩
  ·cases h1
  ·injection h1 with e1 e2
   subst e1 e2
   simp only [td] at hd
   split at hd
   ·rename_i y is1 ys iss1 m1 m2
    injection hd with hd
    injection hd with e1 e2
    injection e2 with e2 e3
    subst e1 e2 e3
    split at h
    ·rename_i ma mb ha hb
     injection h with h
     subst h
     have hsn:lc B' (ma.us++mb.us):=hsn
     obtain ⟨s1,s2⟩:=hsn.app
     obtain ⟨⟨k1,g1,g2⟩,k2⟩:=Dl hs h2 m1 hl.1 ha s1
     obtain ⟨⟨k3,g3,g4⟩,k4⟩:=vO hs h3 m2 hl.2 hb s2
     refine ⟨⟨k1.app k3,by show ma.gs++mb.gs = _; rw [g1,g3]; rfl,fun i hi=>?_⟩,fun t sb hm=>?_⟩
     ·have hi:i∈ma.gs++mb.gs:=hi
      rcases List.mem_append.1 hi with hi | hi
      ·exact bU.2 (List.mem_append_left _ (bU.1 (g2 i hi)))
      ·exact bU.2 (List.mem_append_right _ (bU.1 (g4 i hi)))
     have hm:(t,sb)∈ma.us++mb.us:=hm
     rcases List.mem_append.1 hm with hm | hm
     ·exact (k2 t sb hm).more (fun t ht=>bU.2 (List.mem_append_left _ (bU.1 ht))) fun t ht=>List.mem_append_left _ ht
     ·exact (k4 t sb hm).more (fun t ht=>bU.2 (List.mem_append_right _ (bU.1 ht))) fun t ht=>List.mem_append_right _ ht
    ·cases h
   ·cases hd
theorem vC (l:BU) : ∀ (is:List Nat),(∀ i∈is,ae G i=true)→UAl G B' (d7 is) (oB l is)
 | [],_=>.nil
 | a::is,hg=>.cons a _ _ _ _ (fun y hy=>by cases hy) (fun _=>hg a List.mem_cons_self) (vC l is fun i hi=>hg i (List.mem_cons_of_mem _ hi))
theorem iQ:∀ {is:List Nat} {t:Nat} {sb:Option aj},(t,sb)∈d7 is→t∈is∧sb=none
 | [],t,sb,h=>by cases h
 | a::is,t,sb,h=>by
  rcases List.mem_cons.1 h with e | h
  ·injection e with e1 e2; subst e1 e2; exact ⟨List.mem_cons_self,rfl⟩
  ·obtain ⟨h1,h2⟩:=iQ h; exact ⟨List.mem_cons_of_mem _ h1,h2⟩
theorem sO:∀ {is:List Nat} {t:Nat},t∈is→(t,none)∈d7 is
 | a::is,t,h=>by
  rcases List.mem_cons.1 h with rfl | h
  ·exact List.mem_cons_self
  ·exact List.mem_cons_of_mem _ (sO h)
theorem qT:∀ {ps:List PT} {iss:List (List Nat)} {x:bb ps} {vs:List SV} {bs:List (Nat×Option aj)},jk ps=true→vP ps iss x=some (vs,bs)→lc B' bs→UAl G B' bs (bQ ps iss x).2∧aL B' vs (bQ ps iss x).1
 | [],[],x,vs,bs,_,h,_=>by
  injection h with h
  injection h with e1 e2
  subst e1 e2
  exact ⟨.nil,.nil⟩
 | [],_ :: _,x,vs,bs,_,h,_=>by cases h
 | _ :: _,[],x,vs,bs,_,h,_=>by cases h
 | pt::ps,is::iss,x,vs,bs,hp,h,hs=>by
  simp only [vP] at h
  simp only [jk] at hp
  split at hp
  ·rename_i hp1
   split at h
   ·rename_i v b vs' bs' he hr
    injection h with h
    injection h with e1 e2
    subst e1 e2
    obtain ⟨s1,s2⟩:=hs.app
    obtain ⟨k1,k2⟩:=uf (G:=G) (B':=B') hp1 he s1
    obtain ⟨k3,k4⟩:=qT hp hr s2
    exact ⟨k1.app k3,.cons k2 k4⟩
   ·cases h
  ·cases hp
theorem UAl.dom {us:List (Nat×Option aj)} {u:BU} (h:UAl G B' us u) : aJ u=idU us:=by
 induction h with
 | nil=>rfl
 | cons t sb b us u h1 h2 h ih=>simp only [aJ,idU,ih]
theorem pd:∀ {l l':List (Nat×Option aj)},(idU l).Nodup→lc (l++l') l
 | [],_,_,t,x,hm=>by cases hm
 | (i,b)::l,l',hn,t,x,hm=>by
  rw [show idU ((i,b)::l)=i::idU l from rfl,List.nodup_cons] at hn
  rw [List.cons_append,ab]
  rcases List.mem_cons.1 hm with e | hm
  ·injection e with e1 e2
   subst e1 e2
   rw [if_pos rfl]
  ·rw [if_neg (fun (e:t=i)=>hn.1 (by rw [← e]; exact cm.2 ⟨_,hm⟩))]
   exact pd hn.2 t x hm
end
section
variable {B B':List (Nat×Option aj)} {s:SS} {p:PS} {P:Program} {ρ : Type} {G:List Nat} {sc:List Nat}
theorem sB:∀ (rs:List PT) (base:Nat),cY rs (fm base rs)
 | [],_=>trivial
 | p::l,base=>⟨List.length_range',sB l _⟩
theorem oq:∀ (ls:List IB) (base:Nat),dB ls (ka base ls)
 | [],_=>trivial
 | p::l,base=>⟨List.length_range',oq l _⟩
theorem fO:∀ {l:BU} {t:Nat} {B:Box},lkU l t=some B→(t,B)∈l
 | [],t,B,h=>by cases h
 | (j,C)::l,t,B,h=>by
  simp only [lkU] at h
  split at h
  ·rename_i e; subst e; injection h with h; subst h; exact List.mem_cons_self
  ·exact List.mem_cons_of_mem _ (fO h)
theorem lN {rows:List (Nat×Nat×Nat×Ty)} {is:List Nat} : ∀ {ds:List D} {j t:Nat} {Bx:Box},(t,Bx)∈aQ (eh rows is) j ds→t∈is
 | [],j,t,Bx,h=>by cases h
 | d::ds,j,t,Bx,h=>by
  simp only [aQ] at h
  split at h
  ·rename_i hf
   split at h
   ·rcases List.mem_cons.1 h with e | h
    ·injection e with e _; subst e; exact pC hf
    ·exact lN h
   ·exact lN h
  ·exact lN h
theorem tz {pt:PT} {is:List Nat} {x:pt.den} {t:Nat} {Bx:Box} (h:(t,Bx)∈(toI pt is x).2) : t∈is:=by
 cases pt with
 | lf=>cases h
 | ag=>cases h
 | pl=>cases h
 | ps=>cases h
 | fn=>cases h
 | io=>cases h
 | own e k t' =>
  simp only [toI] at h
  split at h
  ·simp only [List.mem_cons,List.not_mem_nil,or_false,Prod.mk.injEq] at h; simp [h.1]
  ·cases h
 | mv e k t' =>
  simp only [toI] at h
  split at h
  ·simp only [List.mem_cons,List.not_mem_nil,or_false,Prod.mk.injEq] at h; simp [h.1]
  ·cases h
 | bx ty n rows =>
  simp only [toI] at h
  split at h
  ·rcases List.mem_cons.1 h with e | h
   ·injection e with e _; subst e; exact List.mem_cons_self
   ·exact List.mem_cons_of_mem _ (lN h)
  ·cases h
 | agr n rows=>exact lN h
theorem iX (l:List Nat) (ls:List (List Nat)) : aw (l::ls)=l++aw ls:=rfl
theorem pJ:∀ {ps:List PT} {iss:List (List Nat)} {x:bb ps} {t:Nat} {Bx:Box},(t,Bx)∈(bQ ps iss x).2→t∈aw iss
 | [],_,_,_,_,h=>by cases h
 | _ :: _,[],_,_,_,h=>by cases h
 | p::ps,is::iss,x,t,Bx,h=>by
  simp only [bQ,List.mem_append] at h
  rw [iX,List.mem_append]
  exact h.imp tz pJ
def CC (p:PS) : List Nat→BU
 | []=>[]
 | t::l=>match p.b t with | some B=>(t,B)::CC p l | none=>CC p l
theorem kX (p:PS) : ∀ (l:List Nat) (t:Nat),lkU (CC p l) t=if t∈l then p.b t else none
 | [],t=>rfl
 | a::l,t=>by
  simp only [CC]
  cases ha:p.b a with
  | none =>
   rw [kX p l t]
   by_cases h:t=a
   ·subst h; simp [ha]
   ·simp [h]
  | some B =>
   simp only [lkU]
   by_cases h:t=a
   ·subst h; simp [ha]
   ·simp only [h,if_false,List.mem_cons,false_or]; exact kX p l t
structure DW (sc:List Nat) (P:Program) (f:Nat) (dst:Option Nat) (s:SS) (p:PS) (qs:List PV) (v:SV) (m:MU) (r:PV) (u:BU) : Prop where
 ro:s.ro=false
 call:DX P p.b f qs r u
 sim:Sim (s.updM dst v m) (p.updL dst r u)
 keep:∀ W,(∀ d,dst=some d→ae W d=true)→bM sc W s (s.updM dst v m)
 foot:∀ t Bx,lkU u t=some Bx→t∈idU m.us
theorem Cw {T:List (Nat×Ent)} (hT:hZ P T) (hpr:ed s) (hs:Sim s p) {f:Nat} {dst:Option Nat} {vs:List SV} {qs:List PV} (hM:zI T f vs=true) (hv:aL s.bx vs qs) {k:SV→MU→Option ρ} {res : ρ} (h:yV T f s dst vs k=some res) :
  ∃ v m r u,k v m=some res∧DW sc P f dst s p qs v m r u:=by
 unfold yV at h
 split at h
 ·cases h
 ·rename_i hro
  split at h
  ·rename_i en d hen
   split at h
   ·rename_i x iss hd
    obtain ⟨r,hf,h⟩:=a8 h
    simp only at h
    split at h
    ·rename_i m ws bs hm hbs
     obtain ⟨hc,h⟩:=aa h
     simp only [Bool.and_eq_true] at hc
     obtain ⟨c1,c2,c3,c4,c5,c6,c7,c10,c8,c9,c11⟩:=hc
     have c1:=qg c1
     have c2:=qh c2
     have c3:=dg c3
     have c4:=dg c4
     have c5:=qi c5
     have c6:=iB c6
     have c7:=iB c7
     have c8:=iB c8
     have hE:(fV en.ps||fV en.rs)=true:=by unfold zI at hM; rw [hen] at hM; exact hM
     obtain ⟨hlen,hsem⟩:=(hT f _ en hen x r hf).2 hE
     obtain ⟨hsh,hargs,hbox⟩:=v8 hs hv hd
     have hall:∀ i∈aw iss,i∈aJ (bQ en.ps iss x).2:=fun i hi=>by
      unfold DV at c10
      split at c10
      ·rename_i vv bi hbi
       rw [Bool.and_eq_true] at c10
       have hse:=pd (l':=[]) (dg c10.1)
       obtain ⟨z1,_⟩:=qT (G:=[]) c11 hbi hse
       rw [z1.dom]
       exact iB c10.2 i hi
      ·cases c10
     obtain ⟨hcb,hsem⟩:=hsem iss (ka (500000 + 64 * d) (aX en.rs)) (fm (500000 + 64 * d + pO (aX en.rs)) (ci en.rs)) hsh (oq _ _) (sB _ _) c3 (fun j hj=>(c2 j (List.mem_append_right _ hj)).2.2) hall
     have hseen:lc ((m.us++(bs++d7 m.gs))++lJ m.ks s.bx) (m.us++(bs++d7 m.gs)):=pd c4
     have hG:∀ i∈m.gs,ae (m.gs++s.oc) i=true:=fun i hi=>bU.2 (List.mem_append_left _ hi)
     obtain ⟨s1,s23⟩:=hseen.app
     obtain ⟨s2,_⟩:=s23.app
     obtain ⟨⟨k1,g1,g2⟩,k2⟩:=vO (G:=m.gs++s.oc) hs hv hd hlen hm s1
     obtain ⟨k3,k4⟩:=sY (G:=m.gs++s.oc) c9 hbs s2
     have hal:=k1.app (k3.app (vC (bQ en.ps iss x).2 m.gs hG))
     have hids:∀ t,t∈idU m.us++m.gs→t∈idU (m.us++(bs++d7 m.gs)):=fun t ht=>by
      rcases List.mem_append.1 ht with ht | ht
      ·obtain ⟨sb,h⟩:=cm.1 ht; exact cm.2 ⟨sb,List.mem_append_left _ h⟩
      ·exact cm.2 ⟨none,List.mem_append_right _ (List.mem_append_right _ (sO ht))⟩
     have hids2:∀ t,t∈idU bs→t∈idU (m.us++(bs++d7 m.gs)):=fun t ht=>by obtain ⟨sb,h⟩:=cm.1 ht; exact cm.2 ⟨sb,List.mem_append_right _ (List.mem_append_left _ h)⟩
     have hids3:∀ t,t∈idU (m.us++(bs++d7 m.gs))→t∈idU m.us++m.gs∨t∈idU bs:=fun t ht=>by
      obtain ⟨sb,h⟩:=cm.1 ht
      rcases List.mem_append.1 h with h | h
      ·exact .inl (List.mem_append_left _ (cm.2 ⟨sb,h⟩))
      ·rcases List.mem_append.1 h with h | h
       ·exact .inr (cm.2 ⟨sb,h⟩)
       ·exact .inl (List.mem_append_right _ (iQ h).1)
     have hlk:=fun t=>AM hal (lJ m.ks s.bx) t
     have hnone2:∀ t,t∈idU bs++(aw (ka (500000 + 64 * d) (aX en.rs))++aw (fm (500000 + 64 * d + pO (aX en.rs)) (ci en.rs)))→p.b t=none:=fun t ht=>by
      obtain ⟨n1,n2,_⟩:=c2 t ht
      have:=hs.bx t
      rw [n2] at this
      exact this (eE n1).1
     have hnone:∀ t,t∈idU bs→p.b t=none:=fun t ht=>hnone2 t (List.mem_append_left _ ht)
     have hBL:Ey m.ks s.bx ((m.us++(bs++d7 m.gs))++lJ m.ks s.bx):=by
      refine ⟨fun t hk e kk ty xs pins hb=>?_,fun t ty cs hb=>?_⟩
      ·rcases hlk t with ⟨m1,sb,b,m2,m3,m4,m5⟩ | ⟨m1,m2,_⟩
       ·obtain ⟨sb',hsb'⟩:=cm.1 m1
        rcases List.mem_append.1 hsb' with hin | hin
        ·rcases k2 t sb' hin with q | q | ⟨ty',cs',q⟩ | ⟨e1,kk1,ty1,xs1,pins1,e2,kk2,ty2,xs2,q1,q2,q3⟩
         ·rw [hk] at q; cases q
         ·have:=(c2 t (List.mem_append_right _ (List.mem_append_left _ q))).2.1
          rw [hb] at this
          cases this
         ·rw [hb] at q; cases q
         ·rw [hb] at q1
          injection q1 with q1
          injection q1 with z1 z2 z3 z4 z5
          subst z3
          have z4:=eq_of_heq z4
          subst z1 z2 z4 z5 q2
          refine ⟨_,_,_,_,_,hseen t _ (List.mem_append_left _ hin),q3,fun pp pin hp=>⟨⟨pin.i,none⟩,by rw [eH,hp]; rfl,rfl⟩⟩
        ·rcases List.mem_append.1 hin with hin | hin
         ·have:=(c2 t (List.mem_append_left _ (cm.2 ⟨_,hin⟩))).2.1
          rw [hb] at this
          cases this
         ·rw [g2 t (iQ hin).1] at hk; cases hk
       ·exact ⟨e,kk,ty,xs,pins,by rw [m2,kh,hb]; rfl,rfl,fun _ pin hp=>⟨pin,hp,rfl⟩⟩
      ·rcases hlk t with ⟨m1,sb,b,m2,m3,m4,m5⟩ | ⟨m1,m2,_⟩
       ·obtain ⟨sb',hsb'⟩:=cm.1 m1
        rcases List.mem_append.1 hsb' with hin | hin
        ·obtain ⟨cs',q1,_⟩:=c5 t sb' (List.mem_append_left _ hin) ty cs hb
         subst q1
         exact ⟨ty,cs',hseen t _ (List.mem_append_left _ hin)⟩
        ·rcases List.mem_append.1 hin with hin | hin
         ·have:=(c2 t (List.mem_append_left _ (cm.2 ⟨_,hin⟩))).2.1
          rw [hb] at this
          cases this
         ·obtain ⟨cs',q1,_⟩:=c5 t sb' (List.mem_append_right _ hin) ty cs hb
          rw [(iQ hin).2] at q1
          cases q1
       ·exact ⟨ty,_,by rw [m2,kh,hb]; rfl⟩
     have hu:∀ t,lkU (gm en.ps en.rs iss (ka (500000 + 64 * d) (aX en.rs)) (fm (500000 + 64 * d + pO (aX en.rs)) (ci en.rs)) x r) t=lkU (wD en.ps (aX en.rs) iss (ka (500000 + 64 * d) (aX en.rs)) x (dr en.rs r)++((be (ci en.rs) (fm (500000 + 64 * d + pO (aX en.rs)) (ci en.rs)) (cZ en.rs r)).2++oB (bQ en.ps iss x).2 m.gs)) t:=fun t=>by unfold gm; rw [g1]
     refine ⟨BA ws,⟨m.ks,m.us++(bs++d7 m.gs),m.gs⟩,mF (be (ci en.rs) (fm (500000 + 64 * d + pO (aX en.rs)) (ci en.rs)) (cZ en.rs r)).1,gm en.ps en.rs iss (ka (500000 + 64 * d) (aX en.rs)) (fm (500000 + 64 * d + pO (aX en.rs)) (ci en.rs)) x r,h,hro,⟨hcb,CC p (aw iss),fun t Bx ht=>?_,fun t Bx ht hn=>?_,fun w0 F0 ρ' b w F ws' hb hbn hi hr=>?_⟩,⟨fun i=>?_,fun t=>?_⟩,fun W hW=>?_,fun t Bx ht=>?_⟩
     ·rw [kX] at ht
      split at ht
      ·rename_i hin
       rcases hlk t with ⟨_,_,b,_,m3,_⟩ | ⟨m1,_⟩
       ·exact ⟨⟨b,(hu t).trans m3⟩,ht⟩
       ·exact absurd (hids t (c6 t hin)) m1
      ·cases ht
     ·rw [kX] at hn
      rcases hlk t with ⟨m1,_⟩ | ⟨_,_,m3⟩
      ·rcases hids3 t m1 with m1 | m1
       ·rcases List.mem_append.1 (c7 t m1) with m1 | m1
        ·rw [if_pos m1] at hn; exact hn
        ·exact hnone2 t (List.mem_append_right _ (List.mem_append_left _ m1))
       ·exact hnone t m1
      ·rw [hu,m3] at ht; cases ht
     ·refine hsem w0 F0 ρ' b w F ws' qs hargs (fun t Bx ht=>?_) (fun t ht=>?_) hi hr
      ·have hm:=fO ht
       obtain ⟨B1,q1,q2⟩:=hbox t Bx hm
       exact ⟨B1,hb t B1 (by rw [kX,if_pos (pJ hm)]; exact q1),q2⟩
      ·have hin:=c8 t ht
       rcases hlk t with ⟨_,_,b1,_,m3,_⟩ | ⟨m1,_⟩
       ·refine hbn t b1 ((hu t).trans m3) ?_
        rw [kX,if_neg (fun h1=>?_)]
        exact (List.nodup_append.1 c3).2.2 t h1 t ht rfl
       ·exact absurd ((List.mem_append.1 hin).elim (fun h=>hids t (List.mem_append_left _ h)) (hids2 t)) m1
     ·show an ((m.us++(bs++d7 m.gs))++lJ m.ks s.bx) (lkV (jc (y6 m.ks s.sl) (some d) (BA ws)) i) (lG p.t (some d) _ i)
      rw [kQ]
      unfold lG
      split
      ·exact Bz k4
      ·rw [xe]; exact (hs.sl i).st hBL
     ·show eg ((m.us++(bs++d7 m.gs))++lJ m.ks s.bx) (ae (m.gs++s.oc) t) (lkB ((m.us++(bs++d7 m.gs))++lJ m.ks s.bx) t) (bG p.b _ t)
      rcases hlk t with ⟨_,sb,b,m2,m3,m4,m5⟩ | ⟨_,m2,m3⟩
      ·rw [m2]
       have hb:bG p.b (gm en.ps en.rs iss (ka (500000 + 64 * d) (aX en.rs)) (fm (500000 + 64 * d + pO (aX en.rs)) (ci en.rs)) x r) t=some b:=by simp only [bG,hu,m3]
       rw [hb]
       cases sb with
       | none=>intro ho; rw [m5 rfl] at ho; cases ho
       | some y=>have:=m4 y rfl; cases y <;> exact this
      ·rw [m2,kh]
       have hb:bG p.b (gm en.ps en.rs iss (ka (500000 + 64 * d) (aX en.rs)) (fm (500000 + 64 * d + pO (aX en.rs)) (ci en.rs)) x r) t=p.b t:=by simp only [bG,hu,m3]
       rw [hb]
       have hbx:=hs.bx t
       cases hl:lkB s.bx t with
       | none =>
        rw [hl] at hbx
        intro ho
        refine hbx (mJ.2 fun hi=>?_)
        rw [mJ] at ho
        exact ho (List.mem_append_right _ hi)
       | some y =>
        rw [hl] at hbx
        cases y with
        | st ty cs=>obtain ⟨qs',z1,z2⟩:=hbx; exact ⟨qs',z1,z2.st hBL⟩
        | rw e kk ty xs pins=>exact hbx
     ·have hkp:∀ t,ae m.ks t=true→ae s.pr t=false:=fun t ht=>c1 t (List.mem_append_right _ (List.mem_append_left _ (bU.1 ht)))
      refine ⟨rfl,rfl,fun t ht=>?_,fun i hi hsf=>?_,fun t _ ty cs hb=>?_⟩
      ·show dP _ (lkB ((m.us++(bs++d7 m.gs))++lJ m.ks s.bx) t)
       rcases hlk t with ⟨m1,_⟩ | ⟨_,m2,_⟩
       ·rcases hids3 t m1 with m1 | m1
        ·have:t∈idU m.us++(m.ks++m.gs):=by
          rcases List.mem_append.1 m1 with m1 | m1
          ·exact List.mem_append_left _ m1
          ·exact List.mem_append_right _ (List.mem_append_right _ m1)
         rw [c1 t this] at ht; cases ht
        ·rw [(eE (c2 t (List.mem_append_left _ m1)).1).2] at ht; cases ht
       ·rw [m2,kh]
        obtain ⟨b',z1,z2⟩:=hpr t ht
        rw [z1]
        cases b' with
        | st ty cs=>simp only [Option.map_some,EB]; rw [fY cs z2]; rfl
        | rw e kk ty xs pins=>exact ⟨pins,rfl⟩
      ·show lkV (jc (y6 m.ks s.sl) (some d) (BA ws)) i=lkV s.sl i
       rw [kQ,if_neg (fun e=>by rw [hW i e] at hi; cases hi),xe]
       exact xU hkp _ hsf
      ·show ∃ cs',lkB ((m.us++(bs++d7 m.gs))++lJ m.ks s.bx) t = _∧_
       rcases hlk t with ⟨m1,sb,b,m2,m3,m4,m5⟩ | ⟨m1,m2,_⟩
       ·obtain ⟨sb',hsb'⟩:=cm.1 m1
        rcases List.mem_append.1 hsb' with hin | hin
        ·obtain ⟨cs',q1,q2⟩:=c5 t sb' (List.mem_append_left _ hin) ty cs hb
         subst q1
         exact ⟨cs',hseen t _ (List.mem_append_left _ hin),q2⟩
        ·rcases List.mem_append.1 hin with hin | hin
         ·have:=(c2 t (List.mem_append_left _ (cm.2 ⟨_,hin⟩))).2.1
          rw [hb] at this
          cases this
         ·obtain ⟨cs',q1,q2⟩:=c5 t sb' (List.mem_append_right _ hin) ty cs hb
          rw [(iQ hin).2] at q1
          cases q1
       ·exact ⟨_,by rw [m2,kh,hb]; rfl,gf _ _⟩
     ·rcases hlk t with ⟨m1,_⟩ | ⟨_,_,m3⟩
      ·exact m1
      ·rw [hu,m3] at ht; cases ht
    ·cases h
   ·cases h
  ·cases h
end
section
variable {sc:List Nat} {P:Program} {T:List (Nat×Ent)} {ops:Array Oper}
def LeQ (q:Bool) (p p':PS) : Prop:=match q with | true=>Le p p' | false=>p' = p
theorem LeQ.refl (q:Bool) (p:PS) : LeQ q p p:=by cases q; exact rfl; exact Le.refl p
def ld (q:Bool) (P:Program) (ops:Array Oper) (bd:Nat→Bd) : Nat→List Oper→PS→(PS→Prop)→Prop
 | _,[],s,K=>K s
 | i,o::l,s,K=>∃ s1,LeQ q s s1∧∃ r u,Eff P ops o s1 r u∧(q=false→cn ops o s1 u (bd i))∧ld q P ops bd (i + 1) l (s1.updL o.dst r u) K
theorem vt {bd:Nat→Bd} {w0:WM} {F0:Nat→Prop} {n:Nat} {Q:Exit→Act→World→Prop} {Qs:Exit→PS→Prop} (hQ:∀ e s a w,Qs e s→fh n w0 F0 s a w→Q e a w) : ∀ (i:Nat) (l:List Oper) (s:PS) (a:Act) (w:World),s7 n l=true→ld true P ops bd i l s (Qs .normal)→fh n w0 F0 s a w→wpList P ops Q l a w
 | _,[],s,a,w,_,h,hc=>hQ _ s a w h hc
 | i,o::l,s,a,w,hd,h,hc=>by
  obtain ⟨s1,h1,r,u,h2,_,h3⟩:=h
  have hc1:=(show Le s s1 from h1) n w0 F0 a w hc
  obtain ⟨hd1,hd2⟩:=xx hd
  exact wpList_step fun K hK=>Bv (f:=0) hc1 h2 hd1 (fun a' w' hc'=>hK _ _ (vt hQ (i + 1) l _ a' w' hd2 h3 hc'))
theorem u6 {bd:Nat→Bd} {n:Nat} {Qs:Exit→PS→Prop} {s:PS} {id:Nat} {l:List Oper} (hd:s7 n l=true) (h:ld true P l.toArray bd 0 l s (Qs .normal)) : PWP P n (.region id l.toArray false) Qs s :=
 fun _ _ a w hc=>wp_region_lit (vt (Qs:=Qs) (fun _ s' _ _ h1 h2=>⟨s',h1,h2⟩) 0 l s a w hd h hc)
theorem nj {bd:Nat→Bd} {K:PS→Prop} : ∀ (l:List Oper) (k:Nat) (s:PS),(∀ j,j < l.length→l[j]? = ops[k + j]?)→ld false P ops bd k l s K→rH P ops bd (List.range' k l.length) s K
 | [],k,s,_,h=>h
 | o::l,k,s,hl,h=>by
  obtain ⟨s1,he,r,u,h1,hf,h2⟩:=h
  have he:s1=s:=he
  subst he
  have h0:ops[k]? = some o:=by simpa using (hl 0 (by simp)).symm
  rw [List.length_cons,List.range'_succ]
  exact ⟨o,r,u,h0,h1,hf rfl,nj l (k + 1) _ (fun j hj=>by have:=hl (j + 1) (by simp; omega); simpa [Nat.add_assoc,Nat.add_comm 1 j] using this) h2⟩
theorem xW {bd:Nat→Bd} {K:PS→Prop} : ∀ (l:List Oper) (i k:Nat) (s:PS),(∀ j,j < l.length→l[j]? = ops[k + j]?)→ld true P ops bd i l s K→Am P ops (List.range' k l.length) s K
 | [],i,k,s,_,h=>h
 | o::l,i,k,s,hl,h=>by
  obtain ⟨s1,hle,r,u,h1,_,h2⟩:=h
  have h0:ops[k]? = some o:=by simpa using (hl 0 (by simp)).symm
  rw [List.length_cons,List.range'_succ]
  exact ⟨s1,hle,o,r,u,h0,h1,xW l (i + 1) (k + 1) _ (fun j hj=>by have:=hl (j + 1) (by simp; omega); simpa [Nat.add_assoc,Nat.add_comm 1 j] using this) h2⟩
theorem cx {q:Bool} {bd:Nat→Bd} : ∀ {l:List Oper} {i:Nat} {p:PS} {K K':PS→Prop},ld q P ops bd i l p K→(∀ p',K p'→K' p')→ld q P ops bd i l p K'
 | [],i,p,K,K',h,hk=>hk p h
 | o::l,i,p,K,K',h,hk=>by
  obtain ⟨s1,h1,r,u,h2,hf,h3⟩:=h
  exact ⟨s1,h1,r,u,h2,hf,cx h3 hk⟩
theorem ot {q:Bool} {bd:Nat→Bd} : ∀ {a b:List Oper} {i:Nat} {p:PS} {K:PS→Prop},ld q P ops bd i a p (fun p'=>ld q P ops bd (i + a.length) b p' K)→ld q P ops bd i (a++b) p K
 | [],b,i,p,K,h=>h
 | o::a,b,i,p,K,h=>by
  obtain ⟨s1,h1,r,u,h2,hf,h3⟩:=h
  refine ⟨s1,h1,r,u,h2,hf,ot ?_⟩
  rw [List.length_cons] at h3
  rw [show i + 1 + a.length=i + (a.length + 1) by omega]
  exact h3
mutual
theorem gh {B:List (Nat×Option aj)} : ∀ {v:SV} {q:PV} {l:List Nat},an B v q→lq v=some l→∀ x∈ao q,x∈l
 | .junk,q,l,_,h,x,hx=>by cases h
 | .d c,q,l,hv,h,x,hx=>by cases hv with | d _ y _=>simp [ao] at hx
 | .fe cs,q,l,hv,h,x,hx=>by cases hv with | fe _ ds _ _=>simp [ao] at hx
 | .ptr t o,q,l,hv,h,x,hx=>by
  cases hv with
  | ptr _ _ ty cs hb=>injection h with h; subst h; simpa [ao] using hx
 | .row t,q,l,hv,h,x,hx=>by
  cases hv with
  | row _ n e k ty xs pins hb hn=>injection h with h; subst h; simpa [ao] using hx
 | .re t p o,q,l,hv,h,x,hx=>by
  cases hv with
  | re _ _ _ n i e k ty xs pins pin hb hn hp hi=>injection h with h; subst h; simpa [ao] using hx
 | .vw t p o,q,l,hv,h,x,hx=>by
  cases hv with
  | vw _ _ _ n e k ty xs pins hb hn=>injection h with h; subst h; simpa [ao] using hx
 | .ag cs,q,l,hv,h,x,hx=>by
  cases hv with
  | ag _ qs hl hr=>exact eB (qs:=qs) ⟨hl,hr⟩ h x (by simpa [ao] using hx)
 | .tup cs,q,l,hv,h,x,hx=>by
  cases hv with
  | tup _ qs hl hr=>exact eB (qs:=qs) ⟨hl,hr⟩ h x (by simpa [ao] using hx)
 | .fn f ps qs,q,l,hv,h,x,hx=>by
  cases hv with
  | fn _ _ _ ps' qs' hl hr hl2 hr2 =>
   simp only [lq] at h
   split at h
   ·rename_i a b ha hb
    injection h with h
    subst h
    simp only [ao,List.mem_append] at hx ⊢
    rcases hx with hx | hx
    ·exact .inl (eB (qs:=ps') ⟨hl,hr⟩ ha x hx)
    ·exact .inr (eB (qs:=qs') ⟨hl2,hr2⟩ hb x hx)
   ·cases h
theorem eB {B:List (Nat×Option aj)} : ∀ {cs:List SV} {qs:List PV} {l:List Nat},aL B cs qs→ij cs=some l→∀ x∈aC qs,x∈l
 | [],qs,l,hv,h,x,hx=>by
  rcases hv.cases with ⟨_,rfl⟩ | ⟨_,_,_,_,h1,_⟩
  ·simp [aC] at hx
  ·cases h1
 | c::cs,qs,l,hv,h,x,hx=>by
  rcases hv.cases with ⟨h1,_⟩ | ⟨c',q,cs',qs',h1,rfl,h2,h3⟩
  ·cases h1
  ·injection h1 with e1 e2
   subst e1 e2
   simp only [ij] at h
   split at h
   ·rename_i a b ha hb
    injection h with h
    subst h
    simp only [aC,List.mem_append] at hx ⊢
    rcases hx with hx | hx
    ·exact .inl (gh h2 ha x hx)
    ·exact .inr (eB h3 hb x hx)
   ·cases h
end
theorem vE {o:Oper} {s:SS} {p:PS} {l:List Nat} (hs:Sim s p) (h:yD o s=some l) : ∀ x∈gq o p,x∈l:=by
 unfold yD at h
 unfold gq
 split at h <;> rename_i ho <;> simp only [ho]
 ·exact gh (aI hs _) h
 ·exact gh (aI hs _) h
 ·exact gh (aI hs _) h
 ·exact gh (aI hs _) h
 ·exact gh (aI hs _) h
 ·rename_i c
  split at h
  ·rename_i f hf
   simp only [hf]
   split at h
   ·rename_i a b ha hb
    injection h with h
    subst h
    intro x hx
    rcases List.mem_append.1 hx with hx | hx
    ·exact List.mem_append_left _ (gh (aI hs f) ha x hx)
    ·exact List.mem_append_right _ (eB (fc hs c.args.toList) hb x hx)
   ·cases h
  ·rename_i hf
   split
   ·rename_i f hf2
    exact absurd hf2 (hf f)
   ·exact eB (fc hs c.args.toList) h
 ·intro x hx
  simp at hx
theorem iC:∀ {l m:List Nat},wI l m=true→∀ x∈l,cn.memL m x=true
 | [],m,_,x,hx=>by cases hx
 | a::l,m,h,x,hx=>by
  simp only [wI] at h
  split at h
  ·rename_i ha
   rcases List.mem_cons.1 hx with rfl | hx
   ·exact ha
   ·exact iC h x hx
  ·cases h
theorem sJ:∀ {l:List Nat} {x:Nat},cn.memL l x=true→x∈l
 | [],x,h=>by cases h
 | a::l,x,h=>by
  rw [ny,Bool.or_eq_true] at h
  rcases h with h | h
  ·have:=zd h; subst this; simp
  ·exact List.mem_cons_of_mem _ (sJ h)
theorem vF {B:List Bd} {i:Nat} {o:Oper} {s:SS} {p:PS} {u:Upd} {w:Option (Nat×Box)} (hs:Sim s p) (hw:OkW s o.dst u w) {q:Bool} (h:sP q B i o s u=true) : q=false→cn ops o p w.toList (mH B i):=by
 intro hq
 subst hq
 unfold sP at h
 simp only at h
 split at h
 ·rename_i fs hf
  rw [Bool.and_eq_true] at h
  refine ⟨fun _ x hx=>iC h.1 x (vE hs hf x hx),fun x Bx hx=>?_⟩
  cases w with
  | none=>cases hx
  | some y =>
   obtain ⟨t,b⟩:=y
   simp only [Option.toList,lkU] at hx
   split at hx
   ·rename_i e
    subst e
    exact iC h.2 x (sJ (hw x b rfl).2)
   ·cases hx
 ·cases h
theorem B9 {B:List Bd} {i:Nat} {o:Oper} {s:SS} {p:PS} {m:MU} {u:BU} (hs:Sim s p) (hw:∀ t Bx,lkU u t=some Bx→t∈idU m.us) {q:Bool} (h:yE q B i o s m=true) : q=false→cn ops o p u (mH B i):=by
 intro hq
 subst hq
 unfold yE at h
 simp only at h
 split at h
 ·rename_i fs hf
  rw [Bool.and_eq_true] at h
  exact ⟨fun _ x hx=>iC h.1 x (vE hs hf x hx),fun x Bx hx=>iC h.2 x (hw x Bx hx)⟩
 ·cases h
theorem bA:∀ (a b:List Nat) (i:Nat),ae (a++b) i=(ae a i||ae b i)
 | [],b,i=>rfl
 | j::a,b,i=>by
  simp only [List.cons_append,ae,bA a b i]
  split <;> simp
theorem ak (j:Nat) (l:List Nat) (i:Nat) : ae (j::l) i=(decide (i=j)||ae l i):=by
 simp only [ae,bk]
 by_cases h:i=j
 ·simp [h]
 ·simp [h]
theorem pG:∀ {g:Nat} {l a b:List Oper} {d:Nat},xT g l=some (a,d,b)→l=a++b∧∃ o∈a,o.dst=some d
 | g,[],a,b,d,h=>by cases h
 | g,o::l,a,b,d,h=>by
  simp only [xT] at h
  split at h
  ·rename_i d' hd
   injection h with h
   injection h with h1 h2
   injection h2 with h2 h3
   subst h1 h2 h3
   refine ⟨rfl,o,List.mem_cons_self,?_⟩
   split at hd
   ·rename_i g' d2 e1 e2 hdst
    split at hd
    ·injection hd with hd; subst hd; exact hdst
    ·cases hd
   ·cases hd
  ·split at h
   ·rename_i a' d' b' h'
    injection h with h
    injection h with h1 h2
    injection h2 with h2 h3
    subst h1 h2 h3
    obtain ⟨h4,o',h5,h6⟩:=pG h'
    exact ⟨by rw [h4]; rfl,o',List.mem_cons_of_mem _ h5,h6⟩
   ·cases h
theorem jy:∀ {l:List Oper} {o:Oper} {d:Nat},o∈l→o.dst=some d→ae (aR l) d=true
 | [],o,d,h,_=>by cases h
 | x::l,o,d,h,hd=>by
  rcases List.mem_cons.1 h with rfl | h
  ·simp only [aR,hd,ak,decide_true,Bool.true_or]
  ·have:=jy h hd
   simp only [aR]
   split
   ·simp [ak,this]
   ·exact this
theorem nU:∀ {l:List Oper} {d:Nat},ae (aR l) d=true→∃ o∈l,o.dst=some d
 | [],d,h=>by cases h
 | x::l,d,h=>by
  simp only [aR] at h
  split at h
  ·rename_i d' hd'
   rw [ak,Bool.or_eq_true] at h
   rcases h with h | h
   ·have:=zd h
    subst this
    exact ⟨x,List.mem_cons_self,hd'⟩
   ·obtain ⟨o,h1,h2⟩:=nU h
    exact ⟨o,List.mem_cons_of_mem _ h1,h2⟩
  ·obtain ⟨o,h1,h2⟩:=nU h
   exact ⟨o,List.mem_cons_of_mem _ h1,h2⟩
theorem mc:∀ (a b:List Oper),aR (a++b)=aR a++aR b
 | [],b=>rfl
 | o::a,b=>by
  simp only [List.cons_append,aR,mc a b]
  split <;> rfl
theorem ke:∀ (ds:List Nat) (l:List (Nat×SV)) (i:Nat),lkV (fT ds l) i=if ae ds i=true then .junk else lkV l i
 | [],l,i=>by simp [fT,ae]
 | d::ds,l,i=>by
  simp only [fT,bj,ke ds l i,ak]
  by_cases h:i=d
  ·simp [h]
  ·simp [h]
structure Fr (l:List Oper) (s:SS) (p p':PS) : Prop where
 t:s.ro=true→∀ i,ae (aR l) i=false→p'.t i=p.t i
 b:s.ro=true→∀ t,(lkB s.bx t≠none∨ae (aR l) t=false)→p'.b t=p.b t
theorem DZ {s:SS} {dst:Option Nat} {v:SV} {u:Upd} {t:Nat} (h:lkB s.bx t≠none) : lkB (s.upd dst v u).bx t≠none:=by
 cases u with
 | no=>exact h
 | grow t' b =>
  show lkB ((t',some b)::fj t' s.bx) t≠none
  rw [ab]
  split
  ·simp
  ·rw [dn]; simpa using h
 | _ =>
  rename_i t' b
  show lkB ((t',some b)::s.bx) t≠none
  rw [ab]
  split
  ·simp
  ·exact h
theorem AI {s:SS} {dst:Option Nat} {v:SV} {u:Upd} : (s.upd dst v u).ro=s.ro:=by cases u <;> rfl
theorem Di {o:Oper} {l:List Oper} {s:SS} {p p':PS} {v:SV} {u:Upd} {q:PV} {w:Option (Nat×Box)} (hw:OkW s o.dst u w) (h:Fr l (s.upd o.dst v u) (p.upd o.dst q w) p') : Fr (o::l) s p p':=by
 have sub:∀ i,ae (aR (o::l)) i=false→ae (aR l) i=false∧o.dst≠some i:=fun i hi=>by
  simp only [aR] at hi
  split at hi
  ·rename_i d hd
   rw [ak,Bool.or_eq_false_iff] at hi
   refine ⟨hi.2,fun e=>?_⟩
   rw [hd] at e
   injection e with e
   have:=of_decide_eq_false hi.1
   exact this e.symm
  ·rename_i hd
   exact ⟨hi,fun e=>by rw [hd] at e; cases e⟩
 refine ⟨fun hro i hi=>?_,fun hro t ht=>?_⟩
 ·obtain ⟨h1,h2⟩:=sub i hi
  rw [h.t (by rw [AI]; exact hro) i h1]
  simp only [PS.upd,lG,if_neg h2]
 ·have hb:(p.upd o.dst q w).b t=p.b t:=by
   show bt p.b w t=p.b t
   unfold bt
   split
   ·rename_i j Bx
    rcases (hw j Bx rfl).1 with ⟨h1,h2⟩ | h1
    ·split
     ·rename_i e
      subst e
      rcases ht with ht | ht
      ·exact absurd h1 ht
      ·exact absurd h2 (sub t ht).2
     ·rfl
    ·rw [hro] at h1; cases h1
   ·rfl
  rw [h.b (by rw [AI]; exact hro) t (ht.imp DZ fun ht=>(sub t ht).1),hb]
def rJ (sc W:List Nat) (l:List Oper) (s:SS) (p:PS) {ρ : Type} (k:SS→Option ρ) (res : ρ) (p':PS) : Prop:=∃ s',Sim s' p'∧bM sc W s s'∧ed s'∧k s' = some res∧Fr l s p p'
theorem np {W:List Nat} {o:Oper} {l:List Oper} {s:SS} {p p':PS} {ρ : Type} {k:SS→Option ρ} {res : ρ} {v:SV} {u:Upd} {q:PV} {w:Option (Nat×Box)} (hW:∀ d,o.dst=some d→ae W d=true) (hpr:ed s) (hu:OkU s u) (hw:OkW s o.dst u w)
  (h:rJ sc W l (s.upd o.dst v u) (p.upd o.dst q w) k res p') : rJ sc W (o::l) s p k res p':=by
 obtain ⟨s',h1,h2,h3,h4,h5⟩:=h
 exact ⟨s',h1,(mO hu hW hpr).trans h2,h3,h4,Di hw h5⟩
theorem wX {W:List Nat} {f:Nat} {qs:List PV} {o:Oper} {l:List Oper} {s:SS} {p p':PS} {ρ : Type} {k:SS→Option ρ} {res : ρ} {v:SV} {m:MU} {r:PV} {u:BU} (hW:∀ d,o.dst=some d→ae W d=true) (hR:DW sc P f o.dst s p qs v m r u)
  (h:rJ sc W l (s.updM o.dst v m) (p.updL o.dst r u) k res p') : rJ sc W (o::l) s p k res p':=by
 obtain ⟨s',h1,h2,h3,h4,h5⟩:=h
 exact ⟨s',h1,(hR.keep W hW).trans h2,h3,h4,fun hro=>(by rw [hR.ro] at hro; cases hro),fun hro=>(by rw [hR.ro] at hro; cases hro)⟩
theorem C1 {q:Bool} {o:Oper} {s s':SS} {p:PS} (hpr:ed s) (hs:Sim s p) (h:C2 q T o s=some s') : ∃ p',LeQ q p p'∧Sim s' p'∧(∀ W,bM sc W s s')∧(s.ro=true→s' = s∧p' = p)∧(o.guard=none∨p' = p):=by
 have triv:s' = s→∃ p',LeQ q p p'∧Sim s' p'∧(∀ W,bM sc W s s')∧(s.ro=true→s' = s∧p' = p)∧(o.guard=none∨p' = p):=fun e=>by
  subst e; exact ⟨p,.refl _ _,hs,fun W=>.refl W s',fun _=>⟨rfl,rfl⟩,.inr rfl⟩
 unfold C2 at h
 split at h
 ·rename_i hro hg
  have froz:∀ {l:List Nat},d8 l s=some s'→∃ p',LeQ true p p'∧Sim s' p'∧(∀ W,bM sc W s s')∧(s.ro=true→s' = s∧p' = p)∧(o.guard=none∨p' = p):=fun h=>by
   obtain ⟨p',k1,k2,k3,k4⟩:=l3 (sc:=sc) hpr hs h
   exact ⟨p',k1,k2,k3,fun h=>(by rw [hro] at h; cases h),.inl hg⟩
  split at h
  ·exact froz h
  ·split at h
   ·split at h
    ·split at h
     ·exact froz h
     ·split at h
      ·injection h with h; exact triv h.symm
      ·exact froz h
    ·injection h with h; exact triv h.symm
   ·injection h with h; exact triv h.symm
  ·injection h with h; exact triv h.symm
 ·injection h with h; exact triv h.symm
theorem p4 {W:List Nat} {l:List Oper} {s s1:SS} {p p1 p':PS} {ρ : Type} {k:SS→Option ρ} {res : ρ} (hk:bM sc W s s1) (hro:s.ro=true→s1=s∧p1=p) (h:rJ sc W l s1 p1 k res p') : rJ sc W l s p k res p':=by
 obtain ⟨s',h1,h2,h3,h4,h5⟩:=h
 refine ⟨s',h1,hk.trans h2,h3,h4,fun hr=>?_,fun hr=>?_⟩
 ·obtain ⟨e1,e2⟩:=hro hr
  subst e1 e2
  exact h5.t hr
 ·obtain ⟨e1,e2⟩:=hro hr
  subst e1 e2
  exact h5.b hr
theorem pe {q:Bool} {B:List Bd} (hT:hZ P T) {W:List Nat} : ∀ (n i:Nat) (kn:List Nat) (l:List Oper) {ρ : Type} {s:SS} {p:PS} {k:SS→Option ρ} {res : ρ},(∀ o∈l,∀ d,o.dst=some d→ae W d=true)→(∀ (j:Nat) (o:Oper),ops[j]? = some o→∀ d,o.dst=some d→ae W d=true) →
  (∀ o∈l,∀ t x y,o.op = .store t x y→o.dst=none)→ed s→Sim s p→j2 q P T ops B n i kn l s k=some res→ld q P ops (mH B) i l p (rJ sc W l s p k res):=by
 intro n
 induction n with
 | zero =>
  intro i kn l ρ s p k res hW hO hst hpr hs h
  cases l with
  | nil=>exact ⟨s,hs,.refl _ _,hpr,h,fun _ _ _=>rfl,fun _ _ _=>rfl⟩
  | cons o l=>cases h
 | succ n ih =>
  intro i kn l ρ s p k res hW hO hst hpr hs h
  cases l with
  | nil=>exact ⟨s,hs,.refl _ _,hpr,h,fun _ _ _=>rfl,fun _ _ _=>rfl⟩
  | cons o l =>
   have hWo:=hW o List.mem_cons_self
   have hWl:∀ o∈l,∀ d,o.dst=some d→ae W d=true:=fun o ho=>hW o (List.mem_cons_of_mem _ ho)
   have hstl:∀ o∈l,∀ t x y,o.op = .store t x y→o.dst=none:=fun o ho=>hst o (List.mem_cons_of_mem _ ho)
   have goOk:dG ops o p=some true→(match C2 q T o s with
     | none=>none
     | some s=>(match kz o with
      | some (x,xs)=>(match evX s x with
       | .fn f ps qs=>(match zI T f (ps++lb s xs++qs) with
        | false=>chk (sP q B i o s .no) (yU T f s (ps++lb s xs++qs) fun r=>j2 q P T ops B n (i + 1) kn l (s.upd o.dst r .no) k)
        | true=>yV T f s o.dst (ps++lb s xs++qs) fun v m=>chk (yE q B i o s m) (j2 q P T ops B n (i + 1) kn l (s.updM o.dst v m) k))
       | _=>none)
      | none=>Dp P o s fun v u=>chk (sP q B i o s u) (j2 q P T ops B n (i + 1) kn l (s.upd o.dst v u) k)))=some res→ld q P ops (mH B) i (o::l) p (rJ sc W (o::l) s p k res):=by
    intro hg h
    split at h
    ·cases h
    ·rename_i s1 hfz
     obtain ⟨p1,hle,hs1,hk1,hro,hgn⟩:=C1 (sc:=sc) hpr hs hfz
     have hg1:dG ops o p1=some true:=by
      rcases hgn with hgn | hgn
      ·simp [dG,hgn]
      ·rw [hgn]; exact hg
     have hpr1:ed s1:=(hk1 []).prOk hpr
     have mk:∀ {r:PV} {u:BU},uK P o p1 r u→Eff P ops o p1 r u:=fun h=>by unfold Eff; rw [hg1]; exact h
     split at h
     ·rename_i x xs hc
      have hx:=aI hs1 x
      split at h
      rotate_left
      ·cases h
      rename_i f ps qs hev
      rw [hev] at hx
      obtain ⟨ps',qs',e1,e2,e3⟩:=DI hx
      split at h
      rotate_left
      ·rename_i hM
       obtain ⟨v,m,r,u,h,hR⟩:=Cw (sc:=sc) hT hpr1 hs1 hM ((e2.append (fc hs1 xs)).append e3) h
       obtain ⟨hfb,h⟩:=aa h
       refine ⟨p1,hle,r,u,mk ?_,B9 hs1 hR.foot hfb,?_⟩
       ·unfold uK
        simp only [hc,e1,oP]
        exact .inr hR.call
       exact cx (ih (i + 1) kn l hWl hO hstl ((hR.keep W hWo).prOk hpr1) hR.sim h) fun p' hp=>p4 (hk1 W) hro (wX hWo hR hp)
      rename_i hM
      obtain ⟨hfb,h⟩:=aa h
      obtain ⟨v,r,h1,h2,h3⟩:=Cu hT hs1 hM ((e2.append (fc hs1 xs)).append e3) h
      refine ⟨p1,hle,r,[],mk ?_,vF (w:=none) hs1 bJ hfb,?_⟩
      ·unfold uK
       simp only [hc,e1,oP]
       exact .inl ⟨trivial,h1⟩
      have hs':Sim (s1.upd o.dst v .no) (p1.upd o.dst r none):=dE hs1 h3
      rw [show ([] : BU)=(none:Option (Nat×Box)).toList from rfl,pH]
      exact cx (ih (i + 1) kn l hWl hO hstl ((mO (sc:=sc) (u:=.no) trivial hWo hpr1).prOk hpr1) hs' h2) fun p' hp=>p4 (hk1 W) hro (np (u:=.no) hWo hpr1 trivial bJ hp)
     ·rename_i hc
      obtain ⟨v,u,qv,w,h1,h2,h3,h4,h5⟩:=Dn hs1 (hst o List.mem_cons_self) h
      obtain ⟨hfb,h2⟩:=aa h2
      refine ⟨p1,hle,qv,w.toList,mk ?_,vF hs1 h5 hfb,?_⟩
      ·unfold uK
       simp only [hc]
       exact ⟨w,h1,rfl⟩
      rw [pH]
      exact cx (ih (i + 1) kn l hWl hO hstl ((mO (sc:=sc) h4 hWo hpr1).prOk hpr1) h3 h2) fun p' hp=>p4 (hk1 W) hro (np hWo hpr1 h4 h5 hp)
   have skipOk:dG ops o p=some false→j2 q P T ops B n (i + 1) kn l (s.upd o.dst (.tup []) .no) k=some res→ld q P ops (mH B) i (o::l) p (rJ sc W (o::l) s p k res):=by
    intro hg h
    refine ⟨p,.refl _ _,.tup [],[],by unfold Eff; rw [hg]; exact ⟨rfl,rfl⟩,fun _=>⟨fun h=>(by rw [hg] at h; cases h),fun x Bx h=>(by cases h)⟩,?_⟩
    rw [show ([] : BU)=(none:Option (Nat×Box)).toList from rfl,pH]
    have hs':Sim (s.upd o.dst (.tup []) .no) (p.upd o.dst (.tup []) none):=dE hs (.tup [] [] rfl (fun j c q h=>by simp at h))
    exact cx (ih (i + 1) kn l hWl hO hstl ((mO (sc:=sc) (u:=.no) trivial hWo hpr).prOk hpr) hs' h) fun p' hp=>np (u:=.no) hWo hpr trivial bJ hp
   unfold j2 at h
   simp only at h
   split at h
   ·rename_i hg
    exact goOk (by simp [dG,hg]) h
   ·rename_i j want hg
    split at h
    ·cases h
    ·rename_i g hgd
     have hsg:=hs.sl g
     split at h
     ·rename_i hv
      rw [hv] at hsg
      obtain ⟨qs,h1,h2⟩:=AH hsg
      have:qs = []:=by have:=h2.len; simpa using this.symm
      subst this
      exact skipOk (by simp [dG,hg,hgd,h1]) h
     ·rename_i b hv
      rw [hv] at hsg
      have hpg:=dV hsg
      have hgb:dG ops o p=some (b==want):=by simp [dG,hg,hgd,hpg,asB]
      split at h
      ·split at h
       ·split at h
        ·exact goOk (by rw [hgb]; rfl) h
        ·exact skipOk (by rw [hgb]; rfl) h
       ·split at h
        ·exact skipOk (by rw [hgb]; rfl) h
        ·exact goOk (by rw [hgb]; rfl) h
      ·split at h
       ·cases h
       ·rename_i l1 d l2 hup
        obtain ⟨h1,o1,h2,h3⟩:=pG hup
        obtain ⟨qb,h4,h5⟩:=a8 h
        have hg0:∃ o',ops[j]? = some o'∧o'.dst=some g:=by
         cases ho:ops[j]? with
         | none=>simp [ho] at hgd
         | some o'=>exact ⟨o',rfl,by simpa [ho] using hgd⟩
        obtain ⟨o',ho',hdo'⟩:=hg0
        have hWg:ae W g=true:=hO j o' ho' g hdo'
        rw [h1]
        have hW1:∀ o∈l1,∀ d,o.dst=some d→ae W d=true:=fun o ho=>hW o (by rw [h1]; exact List.mem_append_left _ ho)
        have hW2:∀ o∈l2,∀ d,o.dst=some d→ae W d=true:=fun o ho=>hW o (by rw [h1]; exact List.mem_append_right _ ho)
        have hst1:∀ o∈l1,∀ t x y,o.op = .store t x y→o.dst=none:=fun o ho=>hst o (by rw [h1]; exact List.mem_append_left _ ho)
        have hst2:∀ o∈l2,∀ t x y,o.op = .store t x y→o.dst=none:=fun o ho=>hst o (by rw [h1]; exact List.mem_append_right _ ho)
        have hsb:Sim ⟨(g,.d (.bool b))::s.sl,s.bx,s.pr,true,s.oc⟩ p:=by
         refine ⟨fun i=>?_,hs.bx⟩
         show an s.bx (lkV ((g,.d (.bool b))::s.sl) i) (p.t i)
         rw [bj]
         split
         ·rename_i e; subst e; exact hsg
         ·exact hs.sl i
        have hA:ld q P ops (mH B) i l1 p (rJ sc W l1 ⟨(g,.d (.bool b))::s.sl,s.bx,s.pr,true,s.oc⟩ p (pc d) qb):=by
         cases b
         ·exact ih i (g::kn) l1 hW1 hO hst1 hpr hsb (by simpa using h4)
         ·exact ih i (g::kn) l1 hW1 hO hst1 hpr hsb (by simpa using h4)
        refine ot (cx hA fun p1 hp1=>?_)
        obtain ⟨s1,k1,k2,k3,k4,k5⟩:=hp1
        have hd:ae (aR l1) d=true:=jy h2 h3
        have hpd:p1.t d = .d (.v (.bool qb)):=by
         have:=k1.sl d
         unfold pc at k4
         split at k4
         ·rename_i b' hb'
          injection k4 with k4
          subst k4
          rw [hb'] at this
          exact dV this
         ·cases k4
        have hs2:Sim ⟨(d,.d (.bool qb))::fT (aR l1) s.sl,s.bx,s.pr,s.ro,aR l1++s.oc⟩ p1:=by
         refine ⟨fun i=>?_,fun t=>?_⟩
         ·show an s.bx (lkV ((d,.d (.bool qb))::fT (aR l1) s.sl) i) (p1.t i)
          rw [bj]
          split
          ·rename_i e; subst e; rw [hpd]; exact ch qb
          ·rw [ke]
           split
           ·exact .junk _
           ·rename_i hi
            rw [k5.t rfl i (by simpa using hi)]
            exact hs.sl i
         ·show eg s.bx (ae (aR l1++s.oc) t) (lkB s.bx t) (p1.b t)
          have hbt:=hs.bx t
          cases hl:lkB s.bx t with
          | none =>
           rw [hl] at hbt
           intro hoc
           rw [bA,Bool.or_eq_false_iff] at hoc
           rw [k5.b rfl t (.inr hoc.1)]
           exact hbt hoc.2
          | some bx =>
           rw [hl] at hbt
           rw [k5.b rfl t (.inl (by show lkB s.bx t≠none; rw [hl]; simp))]
           cases bx <;> exact hbt
        have hk2:bM sc W s ⟨(d,.d (.bool qb))::fT (aR l1) s.sl,s.bx,s.pr,s.ro,aR l1++s.oc⟩:=by
         refine ⟨rfl,rfl,fun _ _=>.refl _,fun i hi _=>?_,fun _ _ _ cs h=>⟨cs,h,rfl⟩⟩
         show lkV ((d,.d (.bool qb))::fT (aR l1) s.sl) i = _
         rw [bj,if_neg (fun e=>by rw [e,hW1 o1 h2 d h3] at hi; cases hi),ke]
         rw [if_neg (fun e=>by
          obtain ⟨o2,m1,m2⟩:=nU e
          rw [hW1 o2 m1 i m2] at hi
          cases hi)]
        refine cx (ih (i + l1.length) kn l2 hW2 hO hst2 (hk2.prOk hpr) hs2 h5) fun p2 hp2=>?_
        obtain ⟨s3,m1,m2,m3,m4,m5⟩:=hp2
        refine ⟨s3,m1,hk2.trans m2,m3,m4,fun hro i hi=>?_,fun hro t ht=>?_⟩
        ·rw [mc,bA,Bool.or_eq_false_iff] at hi
         rw [m5.t hro i hi.2,k5.t rfl i hi.1]
        ·rw [mc,bA,Bool.or_eq_false_iff] at ht
         rw [m5.b hro t (ht.imp id fun h=>h.2),k5.b rfl t (ht.imp id fun h=>h.1)]
     ·cases h
end
theorem zG {p:PS} (i e k:Nat) (ht:p.t i = .d (.v (.slice none 0 0))) (hb:p.b i=none) (hi0:i < 1000000) (hk : 0 < k) : Le p (p.upd (some i) (.row i 0) (some (i,.rw e k []))):=by
 intro n w0 F0 a w ⟨h1,h2,ρ,F,hi,hev⟩
 have hx:=(hev i)
 rw [ht] at hx
 obtain ⟨hx,_⟩:=hx.vv
 have hnew:=ql (P:=default) (t:=i) (e:=e) (k:=k) (es:=[]) (xs:=[]) (v:=.slice none 0 0) (w':=w) hi hi0 hb hk (Ext.refl w) (fun g hg=>by cases hg) (World.ownsRow_nil w _ e k) (by simp) rfl (by simp)
 obtain ⟨v,w',ρ',hok,k1,k2,k3⟩:=hnew
 injection hok with e1 e2
 subst e1 e2
 refine ⟨h1,h2,ρ',F,k1,fun j=>?_⟩
 by_cases hj:i=j
 ·subst hj
  rw [hx]
  simpa [PS.upd,lG] using k3
 ·have:(p.upd (some i) (.row i 0) (some (i,.rw e k []))).t j=p.t j:=by simp [PS.upd,lG,hj]
  rw [this]
  exact (hev j).mono k2
theorem xh {p:PS} (i t j e k:Nat) {ty:TypeId} {cs:List PV} (hb:p.b t=some (.st ty cs)) (hc:cs[j]? = some (.d (.v (.slice none 0 0)))) (hi:p.b i=none) (hi0:i < 1000000) (hk : 0 < k) :
  Le p ⟨p.t,bt (bt p.b (some (i,.rw e k []))) (some (t,.st ty (cs.set j (.row i 0))))⟩:=by
 intro n w0 F0 a w ⟨h1,h2,ρ,F,hinv,hev⟩
 have hnew:=ql (P:=default) (t:=i) (e:=e) (k:=k) (es:=[]) (xs:=[]) (v:=.slice none 0 0) (w':=w) hinv hi0 hi hk (Ext.refl w) (fun g hg=>by cases hg) (World.ownsRow_nil w _ e k) (by simp) rfl (by simp)
 obtain ⟨v,w',ρ',hok,k1,k2,k3⟩:=hnew
 injection hok with e1 e2
 subst e1 e2
 have hti:t≠i:=fun e=>by rw [e,hi] at hb; cases hb
 have hb1:(bt p.b (some (i,.rw e k []))) t=some (.st ty cs):=by rw [aW _ _ hti]; exact hb
 have hs2:Stp ρ' (bt p.b (some (i,.rw e k []))) w F ρ' (bt (bt p.b (some (i,.rw e k []))) (some (t,.st ty (cs.set j (.row i 0))))) w F:=by
  refine ⟨fun _ h=>h,fun _ _=>rfl,fun t' ty' cs' h=>⟨?_,rfl⟩,fun t' e' k' es h=>?_⟩
  ·by_cases h':t' = t
   ·subst h'; rw [br]; exact ⟨_,_,rfl⟩
   ·rw [aW _ _ h']; exact ⟨_,_,h⟩
  ·have h':t'≠t:=fun e=>by rw [e,hb1] at h; cases h
   rw [aW _ _ h']
   exact ⟨e',es,h,Nat.le_refl _,fun _=>rfl⟩
 have hinv2:Inv w0 F0 ρ' (bt (bt p.b (some (i,.rw e k []))) (some (t,.st ty (cs.set j (.row i 0))))) w F:=by
  have hs3:=hs2
  rw [← a6 ρ' t] at hs3
  have:=Inv.turn (v:=ρ' t) (B':=.st ty (cs.set j (.row i 0))) (w':=w) k1 hb1 (by rw [a6] at hs3 ⊢; exact hs2) k1.ext (Nat.le_refl _) (fun _ _ _=>rfl) (fun g hg=>.inl hg) ?_
  ·rw [a6] at this; exact this
  ·rw [a6]
   cases k1.box t _ hb1 with
   | st _ _ g xs hρ hg hF hh hl h1x hr =>
    refine .st ty _ g xs hρ hg hF hh (by rw [List.length_set]; exact hl) h1x (fun p x c h4 h5=>?_)
    rw [List.getElem?_set] at h5
    split at h5
    ·rename_i hjp
     subst hjp
     split at h5
     ·injection h5 with h5
      subst h5
      have hx:=hr j x _ h4 hc
      obtain ⟨hx,_⟩:=hx.vv
      rw [hx]
      exact k3.mono hs2
     ·cases h5
    ·exact (hr p x c h4 h5).mono hs2
 exact ⟨h1,h2,ρ',F,hinv2,fun q=>((hev q).mono k2).mono hs2⟩
theorem BLe.trans {B B' B'':List (Nat×Option aj)} (h:BLe B B') (h':BLe B' B'') : BLe B B'':=by
 refine ⟨fun t e k ty xs pins h1=>?_,fun t ty cs h1=>?_⟩
 ·obtain ⟨e1,k1,ty1,xs1,pins1,h2,h3,h4⟩:=h.rw t e k ty xs pins h1
  obtain ⟨e2,k2,ty2,xs2,pins2,h5,h6,h7⟩:=h'.rw t e1 k1 ty1 xs1 pins1 h2
  refine ⟨e2,k2,ty2,xs2,pins2,h5,h6.trans h3,fun p pin hp=>?_⟩
  obtain ⟨pin1,h8,h9⟩:=h4 p pin hp
  obtain ⟨pin2,h10,h11⟩:=h7 p pin1 h8
  exact ⟨pin2,h10,h11.trans h9⟩
 ·obtain ⟨ty1,cs1,h2⟩:=h.st t ty cs h1
  exact h'.st t ty1 cs1 h2
theorem Dd {B:List (Nat×Option aj)} {b:Nat} {x:Option aj} (h:lkB B b=x) (t:Nat) : lkB ((b,x)::B) t=lkB B t:=by
 rw [ab]
 split
 ·rename_i e; subst e; exact h.symm
 ·rfl
theorem an.lk {B B':List (Nat×Option aj)} (h:∀ t,lkB B' t=lkB B t) {v:SV} {q:PV} (hv:an B v q) : an B' v q :=
 hv.mono ⟨fun t e k ty xs pins h1=>⟨e,k,ty,xs,pins,by rw [h]; exact h1,rfl,fun _ pin hp=>⟨pin,hp,rfl⟩⟩,fun t ty cs h1=>⟨ty,cs,by rw [h]; exact h1⟩⟩
theorem eg.lk {B B':List (Nat×Option aj)} (h:∀ t,lkB B' t=lkB B t) {o:Bool} {b:Option aj} {q:Option Box} (hv:eg B o b q) : eg B' o b q :=
 hv.mono ⟨fun t e k ty xs pins h1=>⟨e,k,ty,xs,pins,by rw [h]; exact h1,rfl,fun _ pin hp=>⟨pin,hp,rfl⟩⟩,fun t ty cs h1=>⟨ty,cs,by rw [h]; exact h1⟩⟩
theorem Sim.lk {sl:List (Nat×SV)} {B B':List (Nat×Option aj)} {pr oc:List Nat} {ro:Bool} {p:PS} (h:∀ t,lkB B' t=lkB B t) (hs:Sim ⟨sl,B,pr,ro,oc⟩ p) : Sim ⟨sl,B',pr,ro,oc⟩ p :=
 ⟨fun i=>(hs.sl i).lk h,fun t=>by show eg B' _ (lkB B' t) _; rw [h]; exact (hs.bx t).lk h⟩
theorem j8 {s:SS} {b:Nat} {ty:TypeId} : ∀ {rows:List (Nat×Nat×Nat×Nat×Ty)} {cs cs':List SV} {bx bx':List (Nat×Option aj)} {p:PS},(∃ x,lkB bx b=some x)→Sim ⟨s.sl,(b,some (.st ty cs))::bx,s.pr,s.ro,[]⟩ p→j9 s rows cs bx=some (cs',bx') →
  ∃ p',Le p p'∧Sim ⟨s.sl,(b,some (.st ty cs'))::bx',s.pr,s.ro,[]⟩ p'∧(∀ t,ae s.pr t=true→lkB bx' t=lkB bx t)∧cs'.length=cs.length∧∀ t x,lkB bx t=some x→lkB bx' t=some x
 | [],cs,cs',bx,bx',p,_,hs,h=>by
  injection h with h
  injection h with e1 e2
  subst e1 e2
  exact ⟨p,.refl p,hs,fun _ _=>rfl,rfl,fun _ _ h=>h⟩
 | (j,R,e,k,t)::l,cs,cs',bx,bx',p,hb,hs,h=>by
  simp only [j9] at h
  split at h
  ·rename_i hj
   split at h
   ·rename_i hR hk hp
    have hk:=zd hk
    obtain ⟨xb,hxb⟩:=hb
    have hRb : ¬ R=b:=fun e=>by rw [e,hxb] at hR; cases hR
    have hbx:=hs.bx b
    have hbx:eg ((b,some (.st ty cs))::bx) (ae [] b) (lkB ((b,some (.st ty cs))::bx) b) (p.b b):=hbx
    rw [ab,if_pos rfl] at hbx
    obtain ⟨qs,h1,h2⟩:=hbx
    have hRn:lkB ((b,some (.st ty cs))::bx) R=none:=by rw [ab,if_neg hRb]; exact hR
    have hpR:p.b R=none:=by
     have h3:=hs.bx R
     have h3:eg ((b,some (.st ty cs))::bx) (ae [] R) (lkB ((b,some (.st ty cs))::bx) R) (p.b R):=h3
     rw [hRn] at h3
     exact h3 rfl
    have hlt:j < qs.length:=by rw [← h2.len]; exact (zg.1 hj).1
    have hqj:qs[j]? = some (.d (.v (.slice none 0 0))):=by
     have h3:qs[j]? = some qs[j]:=by simp [hlt]
     rw [h3,xS (h2.rep j _ _ hj h3)]
    have hle:=xh R b j e k h1 hqj hpR hk.2 hk.1
    have hB1:BLe ((b,some (.st ty cs))::bx) ((R,some (.rw e k t [] []))::(b,some (.st ty cs))::bx):=hL hRn
    have hB2:BLe ((R,some (.rw e k t [] []))::(b,some (.st ty cs))::bx) ((b,some (.st ty (cs.set j (.row R))))::(R,some (.rw e k t [] []))::(b,some (.st ty cs))::bx):=xD (ty:=ty) (cs:=cs) (by rw [ab,if_neg (fun e=>hRb e.symm),ab,if_pos rfl])
    have hB:=hB1.trans hB2
    have hsame:∀ t',lkB ((b,some (.st ty (cs.set j (.row R))))::(R,some (.rw e k t [] []))::bx) t' = lkB ((b,some (.st ty (cs.set j (.row R))))::(R,some (.rw e k t [] []))::(b,some (.st ty cs))::bx) t':=fun t'=>by
     simp only [ab]
     split
     ·rfl
     ·rename_i h'; split
      ·rfl
      ·rfl
    have hs1:Sim ⟨s.sl,(b,some (.st ty (cs.set j (.row R))))::(R,some (.rw e k t [] []))::(b,some (.st ty cs))::bx,s.pr,s.ro,[]⟩ ⟨p.t,bt (bt p.b (some (R,.rw e k []))) (some (b,.st ty (qs.set j (.row R 0))))⟩:=by
     refine ⟨fun i=>(hs.sl i).mono hB,fun t'=>?_⟩
     show eg _ (ae [] t') (lkB ((b,some (.st ty (cs.set j (.row R))))::(R,some (.rw e k t [] []))::(b,some (.st ty cs))::bx) t') (bt (bt p.b (some (R,.rw e k []))) (some (b,.st ty (qs.set j (.row R 0)))) t')
     rw [ab]
     by_cases e1:t' = b
     ·subst e1
      rw [if_pos rfl,br]
      refine ⟨_,rfl,by simpa using h2.len,fun j' c q m1 m2=>?_⟩
      rw [List.getElem?_set] at m1 m2
      by_cases e2:j=j'
      ·subst e2
       have hlc:j < cs.length:=by rw [h2.len]; exact hlt
       rw [if_pos rfl,if_pos hlc] at m1
       rw [if_pos rfl,if_pos hlt] at m2
       injection m1 with m1
       injection m2 with m2
       subst m1 m2
       exact .row R 0 e k t [] [] (by rw [ab,if_neg hRb,ab,if_pos rfl]) rfl
      ·rw [if_neg e2] at m1 m2
       exact (h2.rep j' c q m1 m2).mono hB
     ·rw [if_neg e1,aW _ _ e1,ab]
      by_cases e2:t' = R
      ·subst e2
       rw [if_pos rfl,br]
       exact ⟨rfl,fun p pin hp=>by cases hp⟩
      ·rw [if_neg e2,aW _ _ e2]
       exact (hs.bx t').mono hB
    have hs2:=hs1.lk hsame
    obtain ⟨p',k1,k2,k3,k4,k5⟩:=j8 (s:=s) (b:=b) (ty:=ty) ⟨xb,by rw [ab,if_neg (fun e=>hRb e.symm)]; exact hxb⟩ hs2 h
    refine ⟨p',hle.trans k1,k2,fun t' ht'=>?_,by rw [k4,List.length_set],fun t' x hx=>k5 t' x ?_⟩
    ·rw [k3 t' ht',ab,if_neg (fun e=>by rw [e,hp] at ht'; cases ht')]
    ·rw [ab,if_neg (fun e=>by rw [e,hR] at hx; cases hx)]; exact hx
   ·cases h
  ·exact j8 hb hs h
theorem gW {sc wr:List Nat} : ∀ {ms:List Mod} {s s':SS} {p:PS},s.oc = []→ed s→Sim s p→rX wr ms s=some s'→∃ p',Le p p'∧Sim s' p'∧bM sc wr s s'∧s'.oc = []
 | [],s,s',p,ho,_,hs,h=>by injection h with h; subst h; exact ⟨p,.refl p,hs,.refl _ _,ho⟩
 | .leaf _ _ :: l,s,s',p,ho,hpr,hs,h=>gW (ms:=l) ho hpr hs h
 | .agg _ _ :: l,s,s',p,ho,hpr,hs,h=>gW (ms:=l) ho hpr hs h
 | .box _ _ _ [] :: l,s,s',p,ho,hpr,hs,h=>gW (ms:=l) ho hpr hs h
 | .box b _ _ (r::rows)::l,s,s',p,ho,hpr,hs,h=>by
  simp only [rX] at h
  split at h
  ·rename_i ty cs hb
   split at h
   ·rename_i cs' bx' hp hn
    have hs0:Sim ⟨s.sl,(b,some (.st ty cs))::s.bx,s.pr,s.ro,[]⟩ p:=by
     have:Sim ⟨s.sl,s.bx,s.pr,s.ro,[]⟩ p:=by rw [← ho]; exact hs
     exact this.lk (Dd hb)
    obtain ⟨p1,k1,k2,k3,k4,k5⟩:=j8 ⟨_,hb⟩ hs0 hn
    have hk:bM sc wr s ⟨s.sl,(b,some (.st ty cs'))::bx',s.pr,s.ro,s.oc⟩:=by
     refine ⟨rfl,rfl,fun t ht=>?_,fun _ _ _=>rfl,fun t _ ty2 cs2 h2=>?_⟩
     ·show dP _ (lkB ((b,some (.st ty cs'))::bx') t)
      rw [ab,if_neg (fun e=>by rw [e,hp] at ht; cases ht),k3 t ht]
      exact .refl _
     ·show ∃ cs3,lkB ((b,some (.st ty cs'))::bx') t = _∧_
      rw [ab]
      by_cases e:t=b
      ·rw [e,hb] at h2
       injection h2 with h2
       injection h2 with e1 e2
       subst e1 e2
       rw [if_pos e]
       exact ⟨_,rfl,k4⟩
      ·rw [if_neg e]
       exact ⟨cs2,k5 t _ h2,rfl⟩
    obtain ⟨p2,m1,m2,m3,m4⟩:=gW (ms:=l) (s:=⟨s.sl,(b,some (.st ty cs'))::bx',s.pr,s.ro,s.oc⟩) ho (hk.prOk hpr) (by rw [ho]; exact k2) h
    exact ⟨p2,k1.trans m1,m2,hk.trans m3,m4⟩
   ·cases h
  ·cases h
 | .row i R e k t::l,s,s',p,ho,hpr,hs,h=>by
  simp only [rX] at h
  split at h
  ·rename_i hv
   split at h
   ·rename_i hR hb hk hw hp
    have hk:=zd hk
    have hsi:=hs.sl i
    rw [hv] at hsi
    have hpt:=xS hsi
    have hpb:p.b i=none:=by
     have:=hs.bx i
     rw [hb] at this
     exact this (by rw [ho]; rfl)
    have hle:=zG (p:=p) i e k hpt hpb hk.2 hk.1
    have hs1:Sim ⟨jc s.sl (some i) (.row i),(i,some (.rw e k t [] []))::s.bx,s.pr,s.ro,s.oc⟩ (p.upd (some i) (.row i 0) (some (i,.rw e k (([] : List t.den).map (aA t))))) :=
     fK hs (hL hb) (fun _=>⟨rfl,fun p pin hp=>by cases hp⟩) (.row i 0 e k t [] [] (by rw [ab,if_pos rfl]) rfl)
    have hkp:bM sc wr s ⟨(i,.row i)::s.sl,(i,some (.rw e k t [] []))::s.bx,s.pr,s.ro,s.oc⟩:=by
     refine ⟨rfl,rfl,fun t' ht'=>?_,fun j hj _=>?_,fun t' _ ty2 cs2 h2=>⟨cs2,by show lkB ((i,some (.rw e k t [] []))::s.bx) t' = _; rw [ab,if_neg (fun e=>by rw [e,hb] at h2; cases h2)]; exact h2,rfl⟩⟩
     ·show dP _ (lkB ((i,some (.rw e k t [] []))::s.bx) t')
      rw [ab,if_neg (fun e=>by rw [e,hp] at ht'; cases ht')]
      exact .refl _
     ·show lkV ((i,.row i)::s.sl) j = _
      rw [bj,if_neg (fun e=>by rw [e,hw] at hj; cases hj)]
    obtain ⟨p2,m1,m2,m3,m4⟩:=gW (ms:=l) (s:=⟨(i,.row i)::s.sl,(i,some (.rw e k t [] []))::s.bx,s.pr,s.ro,s.oc⟩) ho (hkp.prOk hpr) hs1 h
    exact ⟨p2,hle.trans m1,m2,hkp.trans m3,m4⟩
   ·cases h
  ·exact gW (ms:=l) ho hpr hs h
theorem eV (wr pr kb:List Nat) : ∀ (l:List (Nat×SV)) (seen:List Nat) (i:Nat),lkV (jo wr pr kb l seen) i=if ae seen i=true then .junk else if ae wr i=true then .junk else if rV pr kb (lkV l i)=true then lkV l i else .junk
 | [],seen,i=>by simp [jo,lkV,rV]
 | (j,v)::l,seen,i=>by
  simp only [jo]
  have hc:=bj j v l i
  split
  ·rename_i hs
   rw [eV wr pr kb l seen i,hc]
   by_cases e:i=j
   ·subst e; simp [hs]
   ·simp [e]
  ·rename_i hs
   split
   ·rename_i hw
    rw [eV wr pr kb l (j::seen) i,hc,ak]
    by_cases e:i=j
    ·subst e; simp [hw]
    ·simp [e]
   ·rename_i hw
    split
    ·rename_i hf
     rw [bj,eV wr pr kb l (j::seen) i,hc,ak]
     by_cases e:i=j
     ·subst e; simp [hs,hw,hf]
     ·simp [e]
    ·rename_i hf
     rw [eV wr pr kb l (j::seen) i,hc,ak]
     by_cases e:i=j
     ·subst e; simp [hf]
     ·simp [e]
theorem eW (pr:List Nat) : ∀ (l:List (Nat×Option aj)) (seen:List Nat) (t:Nat),lkB (jp pr l seen) t=if ae seen t=true then none else if ae pr t=true then tv (lkB l t) else none
 | [],seen,t=>by simp [jp,lkB,tv]
 | (j,b)::l,seen,t=>by
  simp only [jp]
  have hc:=ab j b l t
  split
  ·rename_i hs
   rw [eW pr l seen t,hc]
   by_cases e:t=j
   ·subst e; simp [hs]
   ·simp [e]
  ·rename_i hs
   split
   ·rename_i hw
    rw [ab,eW pr l (j::seen) t,hc,ak]
    by_cases e:t=j
    ·subst e; simp [hs,hw]
    ·simp [e]
   ·rename_i hw
    rw [eW pr l (j::seen) t,hc,ak]
    by_cases e:t=j
    ·subst e; simp [hw]
    ·simp [e]
theorem dY (mb:List Nat) : ∀ (l:List (Nat×Option aj)) (seen:List Nat) (t:Nat),ae (fL mb l seen) t=true↔ae seen t=false∧ae mb t=false∧∃ b,lkB l t=some b∧mB b=true
 | [],seen,t=>by simp [fL,ae,lkB]
 | (j,b)::l,seen,t=>by
  have hc:=ab j b l t
  simp only [fL]
  split
  ·rename_i hs
   rw [dY mb l seen t,hc]
   by_cases e:t=j
   ·subst e; simp [hs]
   ·simp [e]
  ·rename_i hs
   split
   ·rw [dY mb l (j::seen) t,hc,ak]
    by_cases e:t=j
    ·subst e; simp
    ·simp [e]
   ·rename_i b'
    split
    ·rename_i h1 h2
     rw [ak,Bool.or_eq_true,dY mb l (j::seen) t,hc,ak]
     by_cases e:t=j
     ·subst e; simp [hs,h1,h2]
     ·simp [e]
    ·rename_i h12
     rw [dY mb l (j::seen) t,hc,ak]
     by_cases e:t=j
     ·subst e
      simp only [decide_true,Bool.true_or,Bool.true_eq_false,false_and,if_true,Option.some.injEq,exists_eq_left',false_iff,not_and]
      intro _ h3 h4
      exact h12 h3 h4
     ·simp [e]
theorem kN (bx:List (Nat×Option aj)) : ∀ (l:List Nat) (r:List (Nat×Option aj)) (t:Nat),(ae l t=true→∀ ty cs,lkB bx t=some (.st ty cs)→lkB (uW bx l r) t=some (.st ty (lv cs)))∧((ae l t=false∨∀ ty cs,lkB bx t≠some (.st ty cs))→lkB (uW bx l r) t=lkB r t)
 | [],r,t=>⟨fun h=>(by cases h),fun _=>rfl⟩
 | b::l,r,t=>by
  obtain ⟨h1,h2⟩:=kN bx l r t
  simp only [uW]
  split
  ·rename_i ty cs hb
   refine ⟨fun hm ty2 cs2 h=>?_,fun h=>?_⟩
   ·rw [ab]
    by_cases e:t=b
    ·subst e
     rw [hb] at h
     injection h with h
     injection h with e1 e2
     subst e1 e2
     rw [if_pos rfl]
    ·rw [if_neg e]
     rw [ak] at hm
     exact h1 (by simpa [e] using hm) ty2 cs2 h
   ·rw [ab]
    by_cases e:t=b
    ·subst e
     rcases h with h | h
     ·rw [ak] at h; simp at h
     ·exact absurd hb (h ty cs)
    ·rw [if_neg e]
     rw [ak] at h
     exact h2 (h.imp (by simp [e]) id)
  ·rename_i hb
   refine ⟨fun hm ty2 cs2 h=>?_,fun h=>?_⟩
   ·by_cases e:t=b
    ·subst e; exact absurd h (hb ty2 cs2)
    ·rw [ak] at hm
     exact h1 (by simpa [e] using hm) ty2 cs2 h
   ·rw [ak] at h
    by_cases e:t=b
    ·subst e; exact h2 (.inr fun ty cs=>hb ty cs)
    ·exact h2 (h.imp (by simp [e]) id)
theorem gR (bx:List (Nat×Option aj)) : ∀ (l:List Nat) (t:Nat),ae (jg bx l) t=true↔ae l t=true∧∃ ty cs,lkB bx t=some (.st ty cs)
 | [],t=>by simp [jg,ae]
 | b::l,t=>by
  have ih:=gR bx l t
  simp only [jg]
  split
  ·rename_i ty cs hb
   rw [ak,ak,Bool.or_eq_true,Bool.or_eq_true,ih]
   by_cases e:t=b
   ·subst e; simp [hb]
   ·simp [e]
  ·rename_i hb
   rw [ih,ak,Bool.or_eq_true]
   by_cases e:t=b
   ·subst e
    refine ⟨fun h=>⟨.inl (by simp),h.2⟩,fun h=>?_⟩
    obtain ⟨ty,cs,h⟩:=h.2
    exact absurd h (hb ty cs)
   ·simp [e]
theorem nD:∀ cs:List SV,(lv cs).length=cs.length
 | []=>rfl
 | c::cs=>by simp [lv,nD cs]
theorem sK:∀ (cs:List SV) (j:Nat) (c:SV),(lv cs)[j]? = some c→c = .junk
 | [],j,c,h=>by simp [lv] at h
 | _ :: cs,0,c,h=>by simp [lv] at h; exact h.symm
 | _ :: cs,j + 1,c,h=>by simp [lv] at h; exact sK cs j c h
theorem fR (mb sc:List Nat) : ∀ (l:List (Nat×Option aj)) (seen:List Nat),kS mb sc l seen=true→∀ t ty cs,ae seen t=false→lkB l t=some (.st ty cs)→ae mb t=true∨ae sc t=true∨aZ cs=true
 | [],seen,_,t,ty,cs,_,h=>by cases h
 | (j,b)::l,seen,hk,t,ty,cs,hs,h=>by
  simp only [kS] at hk
  rw [ab] at h
  split at hk
  ·rename_i hj
   have e : ¬ t=j:=fun e=>by rw [e,hj] at hs; cases hs
   rw [if_neg e] at h
   exact fR mb sc l seen hk t ty cs hs h
  ·split at hk
   ·split at hk
    ·rename_i hm
     by_cases e:t=j
     ·rw [if_pos e] at h
      injection h with h
      injection h with e1 e2
      subst e1 e2 e
      simpa [Bool.or_eq_true] using hm
     ·rw [if_neg e] at h
      exact fR mb sc l (j::seen) hk t ty cs (by rw [ak]; simp [e,hs]) h
    ·cases hk
   ·rename_i hb
    by_cases e:t=j
    ·rw [if_pos e] at h
     exact absurd h (hb ty cs)
    ·rw [if_neg e] at h
     exact fR mb sc l (j::seen) hk t ty cs (by rw [ak]; simp [e,hs]) h
theorem jz:∀ {a b:List Nat},s8 a b=true→∀ t,ae a t=true→ae b t=false
 | [],b,_,t,h=>by cases h
 | x::a,b,hd,t,h=>by
  simp only [s8] at hd
  split at hd
  ·cases hd
  ·rename_i hx
   rw [ak,Bool.or_eq_true] at h
   rcases h with h | h
   ·have:=zd h; subst this; exact hx
   ·exact jz hd t h
theorem iI {pr kb:List Nat} : ∀ {cs:List SV} (_:dW pr kb cs=true) {j:Nat} {c:SV},cs[j]? = some c→rV pr kb c=true
 | [],_,j,c,h=>by simp at h
 | d::cs,h,j,c,hj=>by
  simp only [dW] at h
  split at h
  ·rename_i h1
   cases j with
   | zero=>simp at hj; subst hj; exact h1
   | succ j=>simp at hj; exact iI h hj
  ·cases h
theorem yZ {B B':List (Nat×Option aj)} {pr kb:List Nat} (hrw:∀ t,ae pr t=true→∀ e k ty xs pins,lkB B t=some (.rw e k ty xs pins)→∃ e' k' ty' xs' pins',lkB B' t=some (.rw e' k' ty' xs' pins')∧xs'.length=xs.length)
  (hst:∀ t,ae kb t=true→∀ ty cs,lkB B t=some (.st ty cs)→∃ ty' cs',lkB B' t=some (.st ty' cs')) {v:SV} {q:PV} (h:an B v q) : rV pr kb v=true→an B' v q:=by
 induction h with
 | junk q=>exact fun _=>.junk q
 | d c y h=>exact fun _=>.d c y h
 | ag cs qs hl hr ih=>exact fun hs=>.ag cs qs hl fun j c q h1 h2=>ih j c q h1 h2 (iI hs h1)
 | tup cs qs hl hr ih=>exact fun hs=>.tup cs qs hl fun j c q h1 h2=>ih j c q h1 h2 (iI hs h1)
 | ptr t o ty cs hb=>exact fun hs=>by obtain ⟨ty',cs',h1⟩:=hst t hs ty cs hb; exact .ptr t o ty' cs' h1
 | row t n e k ty xs pins hb hn =>
  intro hs
  obtain ⟨e',k',ty',xs',pins',h1,h2⟩:=hrw t hs e k ty xs pins hb
  exact .row t n e' k' ty' xs' pins' h1 (h2.trans hn)
 | re t p o n i e k ty xs pins pin hb hn hp hi=>exact fun hs=>by cases hs
 | vw t lo hi n e k ty xs pins hb hn=>exact fun hs=>by cases hs
 | fe cs ds h hn=>exact fun _=>.fe cs ds h hn
 | fn f ps qs ps' qs' hl hr hl2 hr2 ih ih2 =>
  intro hs
  have hs:(match dW pr kb ps with | true=>dW pr kb qs | false=>false)=true:=hs
  split at hs
  ·rename_i h1
   exact .fn f ps qs ps' qs' hl (fun j c q h2 h3=>ih j c q h2 h3 (iI h1 h2)) hl2 (fun j c q h2 h3=>ih2 j c q h2 h3 (iI hs h2))
  ·cases hs
mutual
theorem AW {pr pr' kb:List Nat} (h:∀ t,ae pr t=true→ae pr' t=true) : ∀ v:SV,rV pr kb v=true→dX pr' v=true
 | .junk,_=>rfl
 | .d _,_=>rfl
 | .fe _,_=>rfl
 | .ptr _ _,_=>rfl
 | .row t,hs=>h t hs
 | .re _ _ _,hs=>by cases hs
 | .vw _ _ _,hs=>by cases hs
 | .ag cs,hs=>by simp only [dX]; exact mw h cs hs
 | .tup cs,hs=>by simp only [dX]; exact mw h cs hs
 | .fn f ps qs,hs=>by
  have hs:(match dW pr kb ps with | true=>dW pr kb qs | false=>false)=true:=hs
  split at hs
  ·rename_i h1
   simp only [dX,Bool.and_eq_true]
   exact ⟨mw h ps h1,mw h qs hs⟩
  ·cases hs
theorem mw {pr pr' kb:List Nat} (h:∀ t,ae pr t=true→ae pr' t=true) : ∀ cs:List SV,dW pr kb cs=true→b4 pr' cs=true
 | [],_=>rfl
 | c::cs,hs=>by
  simp only [dW] at hs
  split at hs
  ·rename_i h1
   simp only [b4,Bool.and_eq_true]
   exact ⟨AW h c h1,mw h cs hs⟩
  ·cases hs
end
theorem gg {pr:List Nat} : ∀ {cs:List SV} (_:b4 pr cs=true) {j:Nat} {c:SV},cs[j]? = some c→dX pr c=true
 | [],_,j,c,h=>by simp at h
 | d::cs,h,j,c,hj=>by
  simp only [b4,Bool.and_eq_true] at h
  cases j with
  | zero=>simp at hj; subst hj; exact h.1
  | succ j=>simp at hj; exact gg h.2 hj
theorem jZ {pr kb:List Nat} : ∀ {cs:List SV},(∀ (j:Nat) c,cs[j]? = some c→rV pr kb c=true)→dW pr kb cs=true
 | [],_=>rfl
 | c::cs,h=>by
  simp only [dW]
  rw [h 0 c rfl]
  exact jZ fun j d hj=>h (j + 1) d (by simpa using hj)
theorem wP {B:List (Nat×Option aj)} {pr pr' kb:List Nat} (h:∀ t,ae pr t=true→ae pr' t=true) (hst:∀ t ty cs,lkB B t=some (.st ty cs)→ae kb t=true) {v:SV} {q:PV} (hv:an B v q) : dX pr v=true→rV pr' kb v=true:=by
 induction hv with
 | junk q=>exact fun _=>rfl
 | d c y h=>exact fun _=>rfl
 | ag cs qs hl hr ih =>
  refine fun hs=>jZ fun j c hj=>?_
  have hlt:j < qs.length:=by rw [← hl]; exact (zg.1 hj).1
  exact ih j c qs[j] hj (by simp [hlt]) (gg hs hj)
 | tup cs qs hl hr ih =>
  refine fun hs=>jZ fun j c hj=>?_
  have hlt:j < qs.length:=by rw [← hl]; exact (zg.1 hj).1
  exact ih j c qs[j] hj (by simp [hlt]) (gg hs hj)
 | ptr t o ty cs hb=>exact fun _=>hst t ty cs hb
 | row t n e k ty xs pins hb hn=>exact fun hs=>h t hs
 | re t p o n i e k ty xs pins pin hb hn hp hi=>exact fun hs=>by cases hs
 | vw t lo hi n e k ty xs pins hb hn=>exact fun hs=>by cases hs
 | fe cs ds h hn=>exact fun _=>rfl
 | fn f ps qs ps' qs' hl hr hl2 hr2 ih ih2 =>
  intro hs
  simp only [dX,Bool.and_eq_true] at hs
  have k1:dW pr' kb ps=true:=jZ fun j c hj=>by
   have hlt:j < ps'.length:=by rw [← hl]; exact (zg.1 hj).1
   exact ih j c ps'[j] hj (by simp [hlt]) (gg hs.1 hj)
  have k2:dW pr' kb qs=true:=jZ fun j c hj=>by
   have hlt:j < qs'.length:=by rw [← hl2]; exact (zg.1 hj).1
   exact ih2 j c qs'[j] hj (by simp [hlt]) (gg hs.2 hj)
  show (match dW pr' kb ps with | true=>dW pr' kb qs | false=>false)=true
  rw [k1]
  exact k2
theorem Ff {B:List (Nat×Option aj)} {c:SD} {q:PV} (h:an B (.d c) q) : ∃ y,q = .d y∧uL c y:=by
 cases h with
 | d _ y h=>exact ⟨y,rfl,h⟩
theorem DY {B:List (Nat×Option aj)} {t:Nat} {q:PV} (h:an B (.row t) q) : ∃ n,q = .row t n:=by
 cases h with
 | row _ n=>exact ⟨n,rfl⟩
def ef (bx:List (Nat×Option aj)) : Prop:=∀ t e k ty xs pins,lkB bx t=some (.rw e k ty xs pins)→pins = []
theorem ef.cons_rw {bx:List (Nat×Option aj)} (h:ef bx) {R e k:Nat} {t:Ty} {xs:List t.den} : ef ((R,some (.rw e k t xs []))::bx):=by
 intro t' e' k' ty' xs' pins' h1
 rw [ab] at h1
 split at h1
 ·injection h1 with h1
  injection h1 with q1 q2 q3 q4 q5
  exact q5.symm
 ·exact h t' e' k' ty' xs' pins' h1
theorem ef.cons_st {bx:List (Nat×Option aj)} (h:ef bx) {R:Nat} {ty:TypeId} {cs:List SV} : ef ((R,some (.st ty cs))::bx):=by
 intro t' e' k' ty' xs' pins' h1
 rw [ab] at h1
 split at h1
 ·cases h1
 ·exact h t' e' k' ty' xs' pins' h1
def su (bx:List (Nat×Option aj)) (p:PS) : Prop:=∀ t b,lkB bx t=some b→eg bx true (some b) (p.b t)
theorem tn {bx:List (Nat×Option aj)} {p:PS} (hn:ef bx) (hb:su bx p) {R e k:Nat} {t:Ty} {xs:List t.den} (hR:p.b R=some (.rw e k (xs.map (aA t)))) : BLe bx ((R,some (.rw e k t xs []))::bx):=by
 refine ⟨fun t' e2 k2 ty2 xs2 pins2 h=>?_,fun t' ty2 cs2 h=>?_⟩
 ·rw [ab]
  by_cases e1:t' = R
  ·subst e1
   rw [if_pos rfl]
   have h1:=(hb t' _ h).1
   rw [hR] at h1
   injection h1 with h1
   injection h1 with q1 q2 q3
   refine ⟨e,k,t,xs,[],rfl,by simpa using congrArg List.length q3,fun p pin hp=>?_⟩
   rw [hn _ _ _ _ _ _ h] at hp
   cases hp
  ·rw [if_neg e1]; exact ⟨_,_,_,_,_,h,rfl,fun p pin hp=>⟨pin,hp,rfl⟩⟩
 ·rw [ab]
  by_cases e1:t' = R
  ·subst e1
   obtain ⟨qs,h1,_⟩:=hb t' _ h
   rw [hR] at h1
   cases h1
  ·rw [if_neg e1]; exact ⟨_,_,h⟩
theorem CB {bx:List (Nat×Option aj)} {p:PS} (hb:su bx p) {b:Nat} {ty:TypeId} {cs:List SV} {qs:List PV} (hR:p.b b=some (.st ty qs)) : BLe bx ((b,some (.st ty cs))::bx):=by
 refine ⟨fun t' e2 k2 ty2 xs2 pins2 h=>?_,fun t' ty2 cs2 h=>?_⟩
 ·rw [ab]
  by_cases e1:t' = b
  ·subst e1
   have h1:=(hb t' _ h).1
   rw [hR] at h1
   cases h1
  ·rw [if_neg e1]; exact ⟨_,_,_,_,_,h,rfl,fun p pin hp=>⟨pin,hp,rfl⟩⟩
 ·rw [ab]
  by_cases e1:t' = b
  ·rw [if_pos e1]; exact ⟨_,_,rfl⟩
  ·rw [if_neg e1]; exact ⟨_,_,h⟩
theorem su.cons {bx:List (Nat×Option aj)} {p:PS} (h:su bx p) {R:Nat} {b:aj} (hB:BLe bx ((R,some b)::bx)) (hb:eg ((R,some b)::bx) true (some b) (p.b R)) : su ((R,some b)::bx) p:=by
 intro t b' h1
 rw [ab] at h1
 by_cases e:t=R
 ·subst e
  rw [if_pos rfl] at h1
  injection h1 with h1
  subst h1
  exact hb
 ·rw [if_neg e] at h1
  exact (h t b' h1).mono hB
theorem De {t:Ty} {xs ys:List t.den} (h:xs.map (aA t)=ys.map (aA t)) : xs.length=ys.length:=by
 have h9:=congrArg List.length h
 rw [List.length_map,List.length_map] at h9
 exact h9
theorem D5 {t t':Ty} {xs:List t.den} {ys:List t'.den} {c:SD} (h:c.as (.sl t)=some xs) (hd:c.toD = .sl (ys.map (aA t'))) : xs.map (aA t)=ys.map (aA t'):=by
 have h1:=SD.as_ok h
 rw [hd] at h1
 have h2 : [D.sl (xs.map (aA t))] = [D.sl (ys.map (aA t'))]:=h1
 injection h2 with h2
 injection h2
theorem j5 {s':SS} {p:PS} (hs':cJ s' p) {rows:List (Nat×Nat×Nat×Nat×Ty)} : ∀ {cs:List SV} {qs:List PV} {ds0 ds:List SD} {j:Nat} {bx bx':List (Nat×Option aj)} {vs:List SV},aL s'.bx cs qs→cellsOf s' rows j cs=some ds0→ds0.map SD.toD=ds.map SD.toD→(∀ c∈ds,c≠.nl) →
  ef bx→su bx p→cy rows j ds bx=some (vs,bx')→ef bx'∧su bx' p∧BLe bx bx'∧aL bx' vs qs∧(∀ t,(∀ r∈rows,r.2.1≠t)→lkB bx' t=lkB bx t)
 | [],qs,ds0,ds,j,bx,bx',vs,hc,h0,hd,_,hn,hb,h=>by
  rcases hc.cases with ⟨_,rfl⟩ | ⟨_,_,_,_,h1,_⟩
  ·injection h0 with h0
   subst h0
   have:ds = []:=by simpa using hd.symm
   subst this
   injection h with h
   injection h with e1 e2
   subst e1 e2
   exact ⟨hn,hb,.refl _,.nil,fun _ _=>rfl⟩
  ·cases h1
 | c::cs,qs,ds0,ds,j,bx,bx',vs,hc,h0,hd,hnl,hn,hb,h=>by
  rcases hc.cases with ⟨h1,_⟩ | ⟨c',q,cs',qs',h1,rfl,hq,hcs⟩
  ·cases h1
  injection h1 with e1 e2
  subst e1 e2
  have findR_mem:∀ {rows:List (Nat×Nat×Nat×Nat×Ty)} {j R e k:Nat} {t:Ty},gr rows j=some (R,e,k,t)→∃ r∈rows,r.2.1=R:=by
   intro rows
   induction rows with
   | nil=>intro j R e k t h; cases h
   | cons r rows ih =>
    intro j R e k t h
    obtain ⟨j',R',e',k',t'⟩:=r
    simp only [gr] at h
    split at h
    ·injection h with h
     injection h with h _
     exact ⟨_,List.mem_cons_self,h⟩
    ·obtain ⟨r,h1,h2⟩:=ih h
     exact ⟨r,List.mem_cons_of_mem _ h1,h2⟩
  simp only [cellsOf] at h0
  split at h0
  ·rename_i R e k t hf
   split at h0
   ·rename_i R' e' k' t' xs pins hbR
    split at h0
    ·rename_i ht hsame
     have k1:=(aa h0).1
     replace h0:=(aa h0).2
     have k2:=(aa h0).1
     replace h0:=(aa h0).2
     have k3:=(aa h0).1
     replace h0:=(aa h0).2
     replace k1:R' = R:=by simpa [bk] using k1
     replace k2:e' = e:=by simpa using k2
     replace k3:k' = k:=by simpa using k3
     subst k1 k2 k3 ht
     split at h0
     ·rename_i r hr
      injection h0 with h0
      subst h0
      cases ds with
      | nil=>simp at hd
      | cons d ds =>
       simp only [List.map_cons,List.cons.injEq] at hd
       obtain ⟨hd1,hd2⟩:=hd
       simp only [cy,hf] at h
       split at h
       ·rename_i xs' vs' bx1 hxs hp
        injection h with h
        injection h with e1 e2
        subst e1 e2
        obtain ⟨m1,m2,m3,m4,m5⟩:=j5 hs' hcs hr hd2 (fun c hc=>hnl c (List.mem_cons_of_mem _ hc)) hn hb hp
        have hpR:p.b R' = some (.rw e' k' (xs.map (aA t'))):=(hs'.bx R' _ hbR).1
        have hx:xs'.map (aA t')=xs.map (aA t'):=D5 hxs (by rw [← hd1]; rfl)
        have hpR':p.b R' = some (.rw e' k' (xs'.map (aA t'))):=by rw [hx]; exact hpR
        have hB:=tn m1 m2 hpR'
        refine ⟨m1.cons_rw,m2.cons hB ⟨hpR',fun p pin hp=>by cases hp⟩,m3.trans hB,.cons ?_ (m4.mono hB),fun t2 ht2=>?_⟩
        ·cases hq with
         | row _ n e2 k2 ty2 xs2 pins2 hb2 hn2 =>
          rw [hbR] at hb2
          injection hb2 with hb2
          injection hb2 with q1 q2 q3 q4 q5
          subst q3
          have q4:=eq_of_heq q4
          subst q4
          refine .row R' n e' k' t' xs' [] (by rw [ab,if_pos rfl]) ?_
          rw [← hn2]
          exact De hx
        ·rw [ab,if_neg (fun e=>by
          obtain ⟨r,h1,h2⟩:=findR_mem hf
          exact ht2 r h1 (h2.trans e.symm))]
         exact m5 t2 ht2
       ·cases h
     ·cases h0
    ·cases h0
   ·cases h0
  ·rename_i hf
   split at h0
   ·rename_i x r hr
    injection h0 with h0
    subst h0
    cases ds with
    | nil=>simp at hd
    | cons d ds =>
     simp only [List.map_cons,List.cons.injEq] at hd
     obtain ⟨hd1,hd2⟩:=hd
     simp only [cy,hf] at h
     split at h
     ·rename_i vs' bx1 hp
      injection h with h
      injection h with e1 e2
      subst e1 e2
      obtain ⟨m1,m2,m3,m4,m5⟩:=j5 hs' hcs hr hd2 (fun c hc=>hnl c (List.mem_cons_of_mem _ hc)) hn hb hp
      refine ⟨m1,m2,m3,.cons ?_ m4,m5⟩
      cases hq with
      | d _ y hy =>
       refine .d d y ?_
       have h1:=hy.nrm
       rw [hd1] at h1
       have h2:=hnl d List.mem_cons_self
       cases d <;> first | exact h1 | exact absurd rfl h2
     ·cases h
   ·cases h0
theorem Dm {t:Ty} {c:SD} {x:t.den} (h:c.as t=some x) : gQ t x≠.nl:=by
 cases t with
 | st i=>simp [SD.as] at h
 | _=>intro e; cases e
theorem vo {t:Nat} : ∀ {rows:List (Nat×Nat×Nat×Nat×Ty)} {r:Nat×Nat×Nat×Nat×Ty},r∈rows→r.2.1=t→ae (rows.map (·.2.1)) t=true
 | [],r,h,_=>by cases h
 | a::rows,r,h,e=>by
  rw [List.map_cons,ak,Bool.or_eq_true]
  rcases List.mem_cons.1 h with rfl | h
  ·exact .inl (by simp [e])
  ·exact .inr (vo h e)
theorem ye {s':SS} {p:PS} (hs':cJ s' p) {m:Mod} {x:m.den} {c c':SS} (hg:nK s' m=some x) (hc:cJ c p) (hn:ef c.bx) (h:iK m x c=some c') :
  cJ c' p∧ef c'.bx∧BLe c.bx c'.bx∧(∀ t,ae (ax [m]) t=false→lkB c'.bx t=lkB c.bx t):=by
 cases m with
 | leaf i t =>
  simp only [iK] at h
  injection h with h
  subst h
  refine ⟨⟨fun j=>?_,hc.bx⟩,hn,.refl _,fun _ _=>rfl⟩
  show an c.bx (lkV ((i,.d (gQ t x))::c.sl) j) (p.t j)
  rw [bj]
  split
  ·rename_i e
   subst e
   have h1:=hs'.sl j
   have hg:(match lkV s'.sl j with | .d c=>c.as t | _=>none)=some (show t.den from x):=hg
   split at hg
   ·rename_i c0 hc0
    rw [hc0] at h1
    obtain ⟨y,hp,hy⟩:=Ff h1
    rw [hp]
    refine .d _ y ?_
    have h2:=hy.nrm
    rw [← pv hg] at h2
    have h3:=Dm hg
    revert h2 h3
    generalize gQ t x=z
    intro h2 h3
    cases z <;> first | exact h2 | exact absurd rfl h3
   ·exact bP hg
  ·exact hc.sl j
 | agg i n =>
  simp only [iK] at h
  injection h with h
  subst h
  refine ⟨⟨fun j=>?_,hc.bx⟩,hn,.refl _,fun _ _=>rfl⟩
  show an c.bx (lkV ((i,.ag (nA (stC n x)))::c.sl) j) (p.t j)
  rw [bj]
  split
  ·rename_i e
   subst e
   have h1:=hs'.sl j
   simp only [nK] at hg
   split at hg
   ·rename_i cs hcs
    split at hg
    ·rename_i ds hds
     rw [hcs] at h1
     obtain ⟨qs,h2,h3⟩:=pF h1
     rw [h2]
     have h4:=kO h3 hds
     have h5:=nh hg
     have hlen:qs.length=(stC n x).length:=by
      have a:=nm hds
      have b:=h3.len
      have c:=congrArg List.length h5
      have d:=congrArg List.length (jY n x)
      simp only [List.length_map] at c d
      omega
     refine .ag _ qs (by rw [tT,List.length_map]; exact hlen.symm) (fun k v q k1 k2=>?_)
     rw [tT,List.getElem?_map,zm] at k1
     obtain ⟨z,k3,rfl⟩:=k1
     obtain ⟨y,k4,k5⟩:=mL qs _ h4 |>.2 k (z.toD) (by
      have h7:(stC n x).map SD.toD=stD n x:=jY n x
      rw [h5,← h7,List.getElem?_map,k3]
      rfl)
     rw [k2] at k4
     injection k4 with k4
     subst k4
     have h6:=lI n x z (List.mem_of_getElem? k3)
     refine .d z y ?_
     cases z <;> first | exact k5.symm | exact absurd rfl h6
    ·exact bP hg
   ·exact bP hg
  ·exact hc.sl j
 | row i R e k t =>
  simp only [iK] at h
  injection h with h
  subst h
  simp only [nK] at hg
  split at hg
  ·rename_i R' e' k' t' xs pins hv hb
   split at hg
   ·rename_i ht hsame
    have k1:=(aa hg).1
    replace hg:=(aa hg).2
    have k2:=(aa hg).1
    replace hg:=(aa hg).2
    have k3:=(aa hg).1
    replace hg:=(aa hg).2
    replace k1:R' = R:=by simpa [bk] using k1
    replace k2:e' = e:=by simpa using k2
    replace k3:k' = k:=by simpa using k3
    subst k1 k2 k3 ht
    injection hg with hg
    subst hg
    have hpR:p.b R' = some (.rw e' k' (xs.map (aA t'))):=(hs'.bx R' _ hb).1
    have hB:=tn hn hc.bx hpR
    refine ⟨⟨fun j=>?_,su.cons hc.bx hB ⟨hpR,fun p pin hp=>by cases hp⟩⟩,hn.cons_rw,hB,fun t2 ht2=>?_⟩
    ·show an _ (lkV ((i,.row R')::c.sl) j) (p.t j)
     rw [bj]
     split
     ·rename_i e
      subst e
      have h1:=hs'.sl j
      rw [hv] at h1
      obtain ⟨n,h2⟩:=DY h1
      rw [h2] at h1 ⊢
      cases h1 with
      | row _ _ e2 k2 ty2 xs2 pins2 hb2 hn2 =>
       rw [hb] at hb2
       injection hb2 with hb2
       injection hb2 with q1 q2 q3 q4 q5
       subst q3
       have q4:=eq_of_heq q4
       subst q4
       exact .row R' n e' k' t' xs [] (by rw [ab,if_pos rfl]; rfl) hn2
     ·exact (hc.sl j).mono hB
    ·show lkB ((R',_)::c.bx) t2 = _
     rw [ab,if_neg (fun e=>by subst e; simp [ax,ak] at ht2)]
   ·exact bP hg
  ·exact bP hg
 | box b ty n rows =>
  simp only [iK] at h
  split at h
  ·rename_i vs bx hp
   injection h with h
   subst h
   simp only [nK] at hg
   split at hg
   ·rename_i ty' cs hb
    have k1:=(aa hg).1
    replace hg:=(aa hg).2
    replace k1:ty' = ty:=by simpa using k1
    subst k1
    replace hg:=(aa hg).2
    split at hg
    ·rename_i ds hds
     obtain ⟨qs,h1,h2⟩:=hs'.bx b _ hb
     have h3:=nh hg
     obtain ⟨m1,m2,m3,m4,m5⟩:=j5 hs' h2 hds (h3.trans (jY n x).symm) (lI n x) hn hc.bx hp
     have hB:=CB (cs:=vs) m2 h1
     refine ⟨⟨fun j=>((hc.sl j).mono m3).mono hB,su.cons m2 hB ⟨qs,h1,m4.mono hB⟩⟩,m1.cons_st,m3.trans hB,fun t2 ht2=>?_⟩
     simp only [ax,ak,bA,Bool.or_eq_false_iff] at ht2
     show lkB ((b,_)::bx) t2 = _
     rw [ab,if_neg (fun e=>by have:=ht2.1; simp [e] at this)]
     refine m5 t2 fun r hr e=>?_
     have:=vo hr e
     rw [this] at ht2
     cases ht2.2.1
    ·exact bP hg
   ·exact bP hg
  ·cases h
section
variable {sc wr:List Nat}
theorem dz (m:Mod) (l:List Mod) (t:Nat) : ae (ax (m::l)) t=(ae (ax [m]) t||ae (ax l) t):=by
 cases m with
 | leaf i t'=>simp [ax,ae]
 | agg i n=>simp [ax,ae]
 | row i R e k t'=>simp [ax,ak,ae]
 | box b ty n rows=>simp [ax,ak,bA,ae,Bool.or_assoc]
def lU:Mod→Option Nat
 | .leaf i _=>some i
 | .agg i _=>some i
 | .row i _ _ _ _=>some i
 | .box ..=>none
theorem yd {m:Mod} {x:m.den} {l:List (Nat×SV)} {bx:List (Nat×Option aj)} {pr oc:List Nat} {ro:Bool} {s2:SS} (h:iK m x ⟨l,bx,pr,ro,oc⟩=some s2) :
  ∃ X bx2,s2=⟨X++l,bx2,pr,ro,oc⟩∧(∀ l',iK m x ⟨l',bx,pr,ro,oc⟩=some ⟨X++l',bx2,pr,ro,oc⟩)∧∀ i,ae (X.map (·.1)) i=true→lU m=some i:=by
 cases m with
 | leaf i t=>simp only [iK] at h ⊢; injection h with h; subst h; exact ⟨[(i,.d (gQ t x))],bx,rfl,fun _=>rfl,fun j hj=>by simp [ak,ae] at hj; simp [lU,hj]⟩
 | agg i n=>simp only [iK] at h ⊢; injection h with h; subst h; exact ⟨[(i,.ag (nA (stC n x)))],bx,rfl,fun _=>rfl,fun j hj=>by simp [ak,ae] at hj; simp [lU,hj]⟩
 | row i R e k t=>simp only [iK] at h ⊢; injection h with h; subst h; exact ⟨[(i,.row R)],_,rfl,fun _=>rfl,fun j hj=>by simp [ak,ae] at hj; simp [lU,hj]⟩
 | box b ty n rows =>
  simp only [iK] at h ⊢
  split at h
  ·rename_i vs bx' hp
   injection h with h
   subst h
   exact ⟨[],_,rfl,fun _=>rfl,fun j hj=>by cases hj⟩
  ·cases h
theorem u9:∀ {ms:List Mod} {st:dy ms} {l:List (Nat×SV)} {bx:List (Nat×Option aj)} {pr oc:List Nat} {ro:Bool} {s2:SS},dq ms st ⟨l,bx,pr,ro,oc⟩=some s2 →
  ∃ X bx2,s2=⟨X++l,bx2,pr,ro,oc⟩∧(∀ l',dq ms st ⟨l',bx,pr,ro,oc⟩=some ⟨X++l',bx2,pr,ro,oc⟩)∧∀ i,ae (X.map (·.1)) i=true→∃ m∈ms,lU m=some i
 | [],st,l,bx,pr,oc,ro,s2,h=>by injection h with h; subst h; exact ⟨[],bx,rfl,fun _=>rfl,fun j hj=>by cases hj⟩
 | [m],st,l,bx,pr,oc,ro,s2,h=>by
  obtain ⟨X,bx2,h1,h2,h3⟩:=yd (show iK m st _ = some s2 from h)
  exact ⟨X,bx2,h1,h2,fun i hi=>⟨m,List.mem_cons_self,h3 i hi⟩⟩
 | m::m' :: ms,st,l,bx,pr,oc,ro,s2,h=>by
  have h:(match dq (m' :: ms) st.2 ⟨l,bx,pr,ro,oc⟩ with | some s=>iK m st.1 s | none=>none)=some s2:=h
  split at h
  ·rename_i s1 h1
   obtain ⟨X,bx2,rfl,k2,k3⟩:=u9 h1
   obtain ⟨Y,bx3,rfl,m2,m3⟩:=yd h
   refine ⟨Y++X,bx3,by simp,fun l'=>?_,fun i hi=>?_⟩
   ·show (match dq (m' :: ms) st.2 ⟨l',bx,pr,ro,oc⟩ with | some s=>iK m st.1 s | none=>none) = _
    rw [k2 l']
    simp only
    rw [m2]
    simp
   ·rw [List.map_append,bA,Bool.or_eq_true] at hi
    rcases hi with hi | hi
    ·exact ⟨m,List.mem_cons_self,m3 i hi⟩
    ·obtain ⟨m0,h4,h5⟩:=k3 i hi
     exact ⟨m0,List.mem_cons_of_mem _ h4,h5⟩
  ·cases h
theorem tV:∀ (X l:List (Nat×SV)) (i:Nat),lkV (X++l) i=if ae (X.map (·.1)) i=true then lkV X i else lkV l i
 | [],l,i=>by simp [ae]
 | (j,v)::X,l,i=>by
  simp only [List.cons_append,bj,tV X l i,List.map_cons,ak]
  by_cases e:i=j
  ·simp [e]
  ·simp [e]
theorem yx {s':SS} {m:Mod} {x:m.den} (hg:nK s' m=some x) {t:Nat} (ht:ae (ax [m]) t=true) {ty:TypeId} {cs:List SV} (hb:lkB s'.bx t=some (.st ty cs)) : ∃ ty n rows,m = .box t ty n rows:=by
 cases m with
 | leaf i t'=>cases ht
 | agg i n=>cases ht
 | row i R e k t' =>
  simp only [ax,ak,ae,Bool.or_false,decide_eq_true_eq] at ht
  subst ht
  have hg:(match lkV s'.sl i,lkB s'.bx t with | .row R',some (.rw e' k' t2 xs _)=>(match Ty.same t2 t' with | some ⟨h⟩=>chk (Nat.beq R' t) (chk (e' == e) (chk (k' == k) (some (mX h xs)))) | none=>none) | _,_=>none)=some (show List t'.den from x):=hg
  rw [hb] at hg
  split at hg
  ·rename_i h2; cases h2
  ·cases hg
 | box b ty' n rows =>
  simp only [ax,ak,bA,ae,Bool.or_false,Bool.or_eq_true,decide_eq_true_eq] at ht
  rcases ht with ht | ht
  ·subst ht; exact ⟨_,_,_,rfl⟩
  ·exfalso
   simp only [nK] at hg
   split at hg
   ·have h1:=(aa (aa hg).2).1
    have key:∀ rows:List (Nat×Nat×Nat×Nat×Ty),ae (rows.map (·.2.1)) t=true→(rows.all fun r=>El (lkB s'.bx r.2.1))=true→El (lkB s'.bx t)=true:=by
     intro rows
     induction rows with
     | nil=>intro h; cases h
     | cons r rows ih =>
      intro h h2
      rw [List.all_cons,Bool.and_eq_true] at h2
      rw [List.map_cons,ak,Bool.or_eq_true] at h
      rcases h with h | h
      ·have:=zd h
       rw [this]; exact h2.1
      ·exact ih h h2.2
    have h2:=key rows ht h1
    rw [hb] at h2
    cases h2
   ·exact bP hg
theorem vh {s':SS} {p:PS} (hs':cJ s' p) : ∀ {ms:List Mod} {st:dy ms} {c c':SS},jI s' ms=some st→cJ c p→ef c.bx→dq ms st c=some c' →
  cJ c' p∧ef c'.bx∧BLe c.bx c'.bx∧(∀ t,ae (ax ms) t=false→lkB c'.bx t=lkB c.bx t)∧∀ t,ae (ax ms) t=true→∀ ty cs,lkB s'.bx t=some (.st ty cs)→∃ ty' cs',lkB c'.bx t=some (.st ty' cs')
 | [],st,c,c',_,hc,hn,h=>by injection h with h; subst h; exact ⟨hc,hn,.refl _,fun _ _=>rfl,fun t ht=>by cases ht⟩
 | [m],st,c,c',hp,hc,hn,h=>by
  have hg:nK s' m=some st:=hp
  have h:iK m st c=some c':=h
  obtain ⟨h1,h2,h3,h4⟩:=ye hs' hg hc hn h
  refine ⟨h1,h2,h3,h4,fun t ht ty cs hb=>?_⟩
  obtain ⟨ty',n,rows,rfl⟩:=yx hg ht hb
  simp only [iK] at h
  split at h
  ·injection h with h
   subst h
   exact ⟨_,_,by show lkB ((t,_) :: _) t = _; rw [ab,if_pos rfl]⟩
  ·cases h
 | m::m' :: ms,st,c,c',hp,hc,hn,h=>by
  have hp:Option.bind (nK s' m) (fun x=>Option.bind (jI s' (m' :: ms)) fun xs=>some (x,xs))=some st:=hp
  obtain ⟨x,hg,hp2⟩:=a8 hp
  obtain ⟨xs,hp3,he⟩:=a8 hp2
  injection he with he
  subst he
  have h:(match dq (m' :: ms) xs c with | some s=>iK m x s | none=>none)=some c':=h
  split at h
  ·rename_i c1 h1
   obtain ⟨k1,k2,k3,k4,k5⟩:=vh hs' hp3 hc hn h1
   obtain ⟨n1,n2,n3,n4⟩:=ye hs' hg k1 k2 h
   refine ⟨n1,n2,k3.trans n3,fun t ht=>?_,fun t ht ty cs hb=>?_⟩
   ·rw [dz,Bool.or_eq_false_iff] at ht
    rw [n4 t ht.1,k4 t ht.2]
   ·rw [dz,Bool.or_eq_true] at ht
    rcases ht with ht | ht
    ·obtain ⟨ty',n,rows,rfl⟩:=yx hg ht hb
     simp only [iK] at h
     split at h
     ·injection h with h
      subst h
      exact ⟨_,_,by show lkB ((t,_) :: _) t = _; rw [ab,if_pos rfl]⟩
     ·cases h
    ·obtain ⟨ty',cs',h5⟩:=k5 t ht ty cs hb
     exact n3.st t ty' cs' h5
  ·cases h
theorem kc {s:SS} : ∀ {ms:List Mod},gl wr s ms=true→(∀ m∈ms,∀ i,lU m=some i→ae wr i=true∨∃ R,ae (ax ms) R=true∧lkV s.sl i = .row R)∧∀ t,ae (ax ms) t=true→ae s.pr t=false
 | [],_=>⟨fun m hm=>(by cases hm),fun t ht=>(by cases ht)⟩
 | m::ms,h=>by
  have key:gl wr s ms=true∧(∀ i,lU m=some i→ae wr i=true∨∃ R,ae (ax [m]) R=true∧lkV s.sl i = .row R)∧∀ t,ae (ax [m]) t=true→ae s.pr t=false:=by
   cases m with
   | leaf i t =>
    simp only [gl] at h
    split at h
    ·rename_i hw; exact ⟨h,fun j hj=>by injection hj with hj; subst hj; exact .inl hw,fun t ht=>by cases ht⟩
    ·cases h
   | agg i n =>
    simp only [gl] at h
    split at h
    ·rename_i hw; exact ⟨h,fun j hj=>by injection hj with hj; subst hj; exact .inl hw,fun t ht=>by cases ht⟩
    ·cases h
   | row i R e k t =>
    simp only [gl] at h
    split at h
    ·rename_i hp hw
     refine ⟨h,fun j hj=>?_,fun t ht=>?_⟩
     ·injection hj with hj
      subst hj
      rw [Bool.or_eq_true] at hw
      rcases hw with hw | hw
      ·exact .inl hw
      ·unfold DN at hw
       split at hw
       ·rename_i R' hv
        rw [bk] at hw
        have:=zd hw
        subst this
        exact .inr ⟨R',by simp [ax,ak],hv⟩
       ·cases hw
     ·simp only [ax,ak,ae,Bool.or_false,decide_eq_true_eq] at ht
      subst ht; exact hp
    ·cases h
   | box b ty n rows =>
    simp only [gl] at h
    split at h
    ·rename_i hp hr
     refine ⟨h,fun j hj=>(by cases hj),fun t ht=>?_⟩
     simp only [ax,ak,bA,ae,Bool.or_false,Bool.or_eq_true,decide_eq_true_eq] at ht
     rcases ht with ht | ht
     ·subst ht; exact hp
     ·clear h
      induction rows with
      | nil=>cases ht
      | cons r rows ih =>
       rw [List.all_cons,Bool.and_eq_true] at hr
       rw [List.map_cons,ak,Bool.or_eq_true] at ht
       rcases ht with ht | ht
       ·have:=zd ht
        rw [this]; simpa using hr.1
       ·exact ih hr.2 ht
    ·cases h
  obtain ⟨h1,h2,h3⟩:=key
  obtain ⟨h4,h5⟩:=kc h1
  refine ⟨fun m0 hm i hi=>?_,fun t ht=>?_⟩
  ·rcases List.mem_cons.1 hm with rfl | hm
   ·rcases h2 i hi with h | ⟨R,h6,h7⟩
    ·exact .inl h
    ·exact .inr ⟨R,by rw [dz,h6]; rfl,h7⟩
   ·rcases h4 m0 hm i hi with h | ⟨R,h6,h7⟩
    ·exact .inl h
    ·exact .inr ⟨R,by rw [dz,h6]; simp,h7⟩
  ·rw [dz,Bool.or_eq_true] at ht
   exact ht.elim (h3 t) (h5 t)
theorem eD:∀ {cs:List SV} (_:aZ cs=true) {j:Nat} {c:SV},cs[j]? = some c→gj c=true
 | [],_,j,c,h=>by simp at h
 | d::cs,h,j,c,hj=>by
  simp only [aZ] at h
  split at h
  ·rename_i h1
   cases j with
   | zero=>simp at hj; subst hj; exact h1
   | succ j=>simp at hj; exact eD h hj
  ·cases h
theorem wA {B B':List (Nat×Option aj)} {v:SV} {q:PV} (h:an B v q) : gj v=true→an B' v q:=by
 induction h with
 | junk q=>exact fun _=>.junk q
 | d c y h=>exact fun _=>.d c y h
 | ag cs qs hl hr ih=>exact fun hs=>.ag cs qs hl fun j c q h1 h2=>ih j c q h1 h2 (eD hs h1)
 | tup cs qs hl hr ih=>exact fun hs=>.tup cs qs hl fun j c q h1 h2=>ih j c q h1 h2 (eD hs h1)
 | ptr t o ty cs hb=>exact fun hs=>by cases hs
 | row t n e k ty xs pins hb hn=>exact fun hs=>by cases hs
 | re t p o n i e k ty xs pins pin hb hn hp hi=>exact fun hs=>by cases hs
 | vw t lo hi n e k ty xs pins hb hn=>exact fun hs=>by cases hs
 | fe cs ds h hn=>exact fun _=>.fe cs ds h hn
 | fn f ps qs ps' qs' hl hr hl2 hr2 ih ih2 =>
  intro hs
  have hs:(match aZ ps with | true=>aZ qs | false=>false)=true:=hs
  split at hs
  ·rename_i h1
   exact .fn f ps qs ps' qs' hl (fun j c q h2 h3=>ih j c q h2 h3 (eD h1 h2)) hl2 (fun j c q h2 h3=>ih2 j c q h2 h3 (eD hs h2))
  ·cases hs
def jJ (sc wr:List Nat) (ms:List Mod) (s1:SS) : SS:=⟨s1.sl,s1.bx,(aO sc wr ms s1).pr,s1.ro,s1.oc⟩
theorem gS (ms:List Mod) (s1:SS) (t:Nat) : ae (aO sc wr ms s1).pr t=true↔ae (ax ms) t=false∧ae sc t=false∧∃ b,lkB s1.bx t=some b∧mB b=true:=by
 show ae (fL (ax ms++sc) s1.bx []) t=true↔_
 rw [dY,bA,Bool.or_eq_false_iff]
 simp [ae,and_assoc]
theorem nH (ms:List Mod) (s1:SS) : ed (jJ sc wr ms s1):=fun t ht=>((gS (wr:=wr) ms s1 t).1 ht).2.2
theorem mZ {ms:List Mod} {s1:SS} {t:Nat} (h:ae (aO sc wr ms s1).pr t=true) : lkB (aO sc wr ms s1).bx t=tv (lkB s1.bx t):=by
 obtain ⟨_,h2,_⟩:=(gS ms s1 t).1 h
 show lkB (uW s1.bx sc (jp (aO sc wr ms s1).pr s1.bx [])) t = _
 rw [(kN s1.bx sc _ t).2 (.inl h2),eW,h]
 simp [ae]
theorem py {ms:List Mod} {s1:SS} {t:Nat} (h:ae sc t=true) {ty:TypeId} {cs:List SV} (hb:lkB s1.bx t=some (.st ty cs)) : lkB (aO sc wr ms s1).bx t=some (.st ty (lv cs)) :=
 (kN s1.bx sc _ t).1 h ty cs hb
theorem rG {ms:List Mod} {s1:SS} {t:Nat} {b:aj} (h:lkB (aO sc wr ms s1).bx t=some b) : ae (aO sc wr ms s1).pr t=true∨ae sc t=true∧∃ ty cs,lkB s1.bx t=some (.st ty cs):=by
 by_cases h1:ae sc t=true∧∃ ty cs,lkB s1.bx t=some (.st ty cs)
 ·exact .inr h1
 ·left
  have h2:ae sc t=false∨∀ ty cs,lkB s1.bx t≠some (.st ty cs):=by
   by_cases h3:ae sc t=true
   ·exact .inr fun ty cs h4=>h1 ⟨h3,ty,cs,h4⟩
   ·exact .inl (by simpa using h3)
  have h:lkB (uW s1.bx sc (jp (aO sc wr ms s1).pr s1.bx [])) t=some b:=h
  rw [(kN s1.bx sc _ t).2 h2,eW] at h
  cases h4:ae (aO sc wr ms s1).pr t with
  | true=>rfl
  | false=>rw [h4] at h; simp [ae] at h
theorem tS {ms:List Mod} {s1 s':SS} {p1 p':PS} {st:dy ms} {s2:SS} (hs1:cJ s1 p1) (hchk:jn sc wr ms s1.pr s1=true) (hk:bM sc wr (jJ sc wr ms s1) s') (hs':cJ s' p') (hpk:jI s' ms=some st) (hput:dq ms st (aO sc wr ms s1)=some s2) :
  cJ s2 p'∧bM sc wr (jJ sc wr ms s1) s2∧s2.pr=(aO sc wr ms s1).pr:=by
 unfold jn at hchk
 simp only [Bool.and_eq_true] at hchk
 obtain ⟨c1,c2,c3,c4⟩:=hchk
 obtain ⟨o1,o2⟩:=kc c1
 have hscm:=jz c3
 obtain ⟨X,bx2,rfl,hX,hkeys⟩:=u9 (show dq ms st ⟨(aO sc wr ms s1).sl,(aO sc wr ms s1).bx,(aO sc wr ms s1).pr,(aO sc wr ms s1).ro,(aO sc wr ms s1).oc⟩=some s2 from hput)
 have hX0:=hX []
 rw [List.append_nil] at hX0
 have hsame:∀ t,ae (aO sc wr ms s1).pr t=true→dP (lkB s1.bx t) (lkB s'.bx t):=hk.bx
 have hbx:su (aO sc wr ms s1).bx p':=by
  intro t b hb
  rcases rG hb with h | ⟨h,ty,cs,h1⟩
  ·obtain ⟨_,_,b1,h2,h3⟩:=(gS ms s1 t).1 h
   have h4:=hsame t h
   rw [mZ h,h2] at hb
   rw [h2] at h4
   cases b1 with
   | st ty cs =>
    injection hb with hb
    subst hb
    obtain ⟨qs,h5,h6⟩:=hs'.bx t _ h4
    exact ⟨qs,h5,h6.len,fun j c q m1 m2=>wA (h6.rep j c q m1 m2) (eD h3 m1)⟩
   | rw e k ty xs pins =>
    injection hb with hb
    subst hb
    obtain ⟨pins',h4⟩:=h4
    exact ⟨(hs'.bx t _ h4).1,fun p pin hp=>by cases hp⟩
  ·rw [py h h1] at hb
   injection hb with hb
   subst hb
   obtain ⟨cs',h2,h3⟩:=hk.st t h ty cs h1
   obtain ⟨qs,h4,h5⟩:=hs'.bx t _ h2
   refine ⟨qs,h4,by rw [nD,← h3]; exact h5.len,fun j c q m1 m2=>?_⟩
   rw [sK cs j c m1]
   exact .junk q
 have hnp:ef (aO sc wr ms s1).bx:=by
  intro t e k ty xs pins hb
  rcases rG hb with h | ⟨h,ty2,cs,h1⟩
  ·rw [mZ h] at hb
   cases hl:lkB s1.bx t with
   | none=>rw [hl] at hb; cases hb
   | some b =>
    rw [hl] at hb
    cases b with
    | st=>cases hb
    | rw e2 k2 ty2 xs2 pins2 =>
     injection hb with hb
     injection hb with q1 q2 q3 q4 q5
     exact q5.symm
  ·rw [py h h1] at hb; cases hb
 have hc0:cJ ⟨[],(aO sc wr ms s1).bx,(aO sc wr ms s1).pr,(aO sc wr ms s1).ro,(aO sc wr ms s1).oc⟩ p':=⟨fun i=>.junk _,hbx⟩
 obtain ⟨k1,k2,k3,k4,k5⟩:=vh hs' hpk hc0 hnp hX0
 have k4:∀ t,ae (ax ms) t=false→lkB bx2 t=lkB (aO sc wr ms s1).bx t:=k4
 have hprm:∀ t,ae (aO sc wr ms s1).pr t=true→ae (ax ms) t=false:=fun t ht=>((gS ms s1 t).1 ht).1
 have hkb:∀ t,ae (ax ms++(jg s1.bx sc++(aO sc wr ms s1).pr)) t=true→∀ ty cs,lkB s'.bx t=some (.st ty cs)→∃ ty' cs',lkB bx2 t=some (.st ty' cs'):=by
  intro t ht ty cs hb
  rw [bA,bA,Bool.or_eq_true,Bool.or_eq_true] at ht
  rcases ht with ht | ht | ht
  ·exact k5 t ht ty cs hb
  ·obtain ⟨h1,ty2,cs2,h2⟩:=(gR s1.bx sc t).1 ht
   rw [k4 t (hscm t h1),py h1 h2]
   exact ⟨_,_,rfl⟩
  ·rw [k4 t (hprm t ht),mZ ht]
   have h1:=hsame t ht
   obtain ⟨_,_,b1,h2,h3⟩:=(gS ms s1 t).1 ht
   rw [h2] at h1 ⊢
   cases b1 with
   | st ty2 cs2=>exact ⟨_,_,rfl⟩
   | rw e k ty2 xs pins =>
    obtain ⟨pins',h1⟩:=h1
    rw [h1] at hb
    cases hb
 have hbase:∀ i,lkV (aO sc wr ms s1).sl i=if ae wr i=true then .junk else if rV (aO sc wr ms s1).pr (ax ms++(jg s1.bx sc++(aO sc wr ms s1).pr)) (lkV s1.sl i)=true then lkV s1.sl i else .junk:=fun i=>by
  show lkV (jo wr (aO sc wr ms s1).pr (ax ms++(jg s1.bx sc++(aO sc wr ms s1).pr)) s1.sl []) i = _
  rw [eV]
  simp [ae]
 refine ⟨⟨fun i=>?_,k1.bx⟩,⟨rfl,rfl,fun t ht=>?_,fun i hi hsf=>?_,fun t ht ty cs hb=>?_⟩,rfl⟩
 ·show an bx2 (lkV (X++(aO sc wr ms s1).sl) i) (p'.t i)
  rw [tV]
  split
  ·exact k1.sl i
  ·rw [hbase]
   split
   ·exact .junk _
   ·rename_i hw
    split
    ·rename_i hsf
     have e:=hk.sl i (by simpa using hw) (AW (fun t h=>h) _ hsf)
     have h1:=hs'.sl i
     rw [e] at h1
     refine yZ (fun t ht e k ty xs pins hb=>?_) hkb h1 hsf
     rw [k4 t (hprm t ht),mZ ht]
     have h2:=hsame t ht
     obtain ⟨_,_,b1,h3,h4⟩:=(gS ms s1 t).1 ht
     rw [h3] at h2 ⊢
     cases b1 with
     | st ty2 cs2=>have h2:lkB s'.bx t=some (.st ty2 cs2):=h2; rw [h2] at hb; cases hb
     | rw e2 k2 ty2 xs2 pins2 =>
      obtain ⟨pins',h2⟩:=h2
      rw [h2] at hb
      injection hb with hb
      injection hb with q1 q2 q3 q4 q5
      subst q3
      have q4:=eq_of_heq q4
      subst q4
      exact ⟨_,_,_,_,_,rfl,rfl⟩
    ·exact .junk _
 ·show dP (lkB s1.bx t) (lkB bx2 t)
  have ht:ae (aO sc wr ms s1).pr t=true:=ht
  rw [k4 t (hprm t ht),mZ ht]
  match lkB s1.bx t with
  | none=>rfl
  | some (.st _ _)=>rfl
  | some (.rw _ _ _ _ _)=>exact ⟨[],rfl⟩
 ·show lkV (X++(aO sc wr ms s1).sl) i=lkV s1.sl i
  have hsf:dX (aO sc wr ms s1).pr (lkV s1.sl i)=true:=hsf
  rw [tV,if_neg,hbase,if_neg (by simp [hi]),if_pos]
  ·refine wP (fun t h=>h) (fun t ty cs hb=>?_) (hs1.sl i) hsf
   rw [bA,bA,Bool.or_eq_true,Bool.or_eq_true]
   rcases fR _ _ _ _ c4 t ty cs rfl hb with h | h | h
   ·exact .inl h
   ·exact .inr (.inl ((gR s1.bx sc t).2 ⟨h,ty,cs,hb⟩))
   ·by_cases hm:ae (ax ms) t=true
    ·exact .inl hm
    ·by_cases hsc:ae sc t=true
     ·exact .inr (.inl ((gR s1.bx sc t).2 ⟨hsc,ty,cs,hb⟩))
     ·exact .inr (.inr ((gS ms s1 t).2 ⟨by simpa using hm,by simpa using hsc,_,hb,h⟩))
  ·intro hX1
   obtain ⟨m,hm,hkey⟩:=hkeys i hX1
   rcases o1 m hm i hkey with h | ⟨R,h1,h2⟩
   ·rw [h] at hi; cases hi
   ·rw [h2] at hsf
    have hsf:ae (aO sc wr ms s1).pr R=true:=hsf
    rw [hprm R hsf] at h1
    cases h1
 ·show ∃ cs',lkB bx2 t = _∧_
  rw [k4 t (hscm t ht),py ht (show lkB s1.bx t = _ from hb)]
  exact ⟨_,rfl,nD cs⟩
end
section
theorem ph {P:Program} {s:SS} {p:PS} (hs:Sim s p) : ∀ {l:List ResultVar} {vs:List SV},uY P s l=some vs→∃ qs,l.mapM (oQ P p)=some qs∧aL s.bx vs qs
 | [],vs,h=>by injection h with h; subst h; exact ⟨[],rfl,.nil⟩
 | .tmp t::l,vs,h=>by
  simp only [uY] at h
  split at h
  ·rename_i vs' h1
   injection h with h
   subst h
   obtain ⟨qs,h2,h3⟩:=ph hs h1
   exact ⟨p.t t::qs,by simp [List.mapM_cons,oQ,h2],.cons (hs.sl t) h3⟩
  ·cases h
 | .cell t ty::l,vs,h=>by
  simp only [uY] at h
  split at h
  ·rename_i v vs' h0 h1
   injection h with h
   subst h
   obtain ⟨qs,h2,h3⟩:=ph hs h1
   obtain ⟨r,h4,h5⟩:=vp hs (hs.sl t) h0
   exact ⟨r::qs,by simp [List.mapM_cons,oQ,h4,h2],.cons h5 h3⟩
  ·cases h
theorem v6 {s:SS} {p:PS} (hs:Sim s p) : ∀ {rs:List PT} {vs:List SV} {qs:List PV} {x:aq rs},aL s.bx vs qs→tb s rs vs=some x→aE p.b qs=mr rs x
 | [],[],qs,x,hv,h=>by
  rcases hv.cases with ⟨_,rfl⟩ | ⟨_,_,_,_,h1,_⟩
  ·rfl
  ·cases h1
 | [],_ :: _,_,x,_,h=>bP (x:=x) h
 | [t],[],_,x,_,h=>bP (x:=x) h
 | [t],[v],qs,x,hv,h=>by
  rcases hv.cases with ⟨h1,_⟩ | ⟨v',q,vs',qs',h1,rfl,h2,h3⟩
  ·cases h1
  ·injection h1 with e1 e2
   subst e1 e2
   rcases h3.cases with ⟨_,rfl⟩ | ⟨_,_,_,_,h4,_⟩
   ·have:=(px hs h2 (show we s t v=some x from h)).1
    simp only [aE,mr,this]
   ·cases h4
 | [t],_ :: _ :: _,_,x,_,h=>bP (x:=x) h
 | t::t' :: rs,[],_,x,_,h=>bP (x:=x) h
 | t::t' :: rs,v::vs,qs,x,hv,h=>by
  rcases hv.cases with ⟨h1,_⟩ | ⟨v',q,vs',qs',h1,rfl,h2,h3⟩
  ·cases h1
  ·injection h1 with e1 e2
   subst e1 e2
   have h:Option.bind (we s t v) (fun x=>Option.bind (tb s (t' :: rs) vs) fun xs=>some (x,xs))=some x:=h
   obtain ⟨y,h4,h5⟩:=a8 h
   obtain ⟨ys,h6,h7⟩:=a8 h5
   injection h7 with h7
   subst h7
   simp only [aE,mr,(px hs h2 h4).1,v6 hs h3 h6]
theorem ta {s:SS} : ∀ {rs:List PT} {vs:List SV} {x:aq rs},tb s rs vs=some x→vs.length=rs.length
 | [],[],x,_=>rfl
 | [],_ :: _,x,h=>bP (x:=x) h
 | [t],[],x,h=>bP (x:=x) h
 | [t],[v],x,_=>rfl
 | [t],_ :: _ :: _,x,h=>bP (x:=x) h
 | t::t' :: rs,[],x,h=>bP (x:=x) h
 | t::t' :: rs,v::vs,x,h=>by
  have h:Option.bind (we s t v) (fun x=>Option.bind (tb s (t' :: rs) vs) fun xs=>some (x,xs))=some x:=h
  obtain ⟨y,h4,h5⟩:=a8 h
  obtain ⟨ys,h6,h7⟩:=a8 h5
  simp only [List.length_cons,ta h6]
theorem vy {C:Cx} {fn:Func} (hv:fn.results.toList=C.vars) {s:SS} {p:PS} (hs:Sim (clr s) p) {r:aq C.rs} (hM:fV C.rs=false) (h:oz C s=some r) : ∃ q,ig C.P fn p=some q∧asData p.b q=toR C.rs r:=by
 unfold oz at h
 rw [hM] at h
 simp only at h
 split at h
 ·rename_i vs hvs
  obtain ⟨qs,h1,h2⟩:=ph hs hvs
  have h3:=v6 hs h2 h
  have h4:=ta h
  have h5:=h2.len
  unfold ig
  rw [hv,h1]
  match qs,h3,h5 with
  | [],h3,h5 =>
   refine ⟨.tup [],rfl,?_⟩
   rcases iz C.rs r with ⟨q,k1,_⟩ | k1
   ·rw [k1] at h3; simp [aE] at h3
   ·rw [k1,← h3]; rfl
  | [q],h3,h5 =>
   refine ⟨q,rfl,?_⟩
   have:C.rs.length=1:=by rw [← h4,h5]; rfl
   rcases iz C.rs r with ⟨q',k1,k2⟩ | k1
   ·rw [k1] at h3
    rw [k2]
    simpa [aE] using h3
   ·exfalso
    match C.rs,r,this,k1 with
    | [t],r,_,k1=>cases t <;> simp [toR,gd] at k1
  | q::q' :: qs,h3,h5 =>
   refine ⟨.tup (q::q' :: qs),rfl,?_⟩
   rcases iz C.rs r with ⟨q2,k1,_⟩ | k1
   ·rw [k1] at h3; simp [aE] at h3
   ·rw [k1,← h3]; rfl
 ·cases h
theorem w7:∀ (rs:List PT) (o:mD (aX rs)) (r:aq (ci rs)),dr rs (BO rs o r)=o∧cZ rs (BO rs o r)=r
 | [],_,_=>⟨rfl,rfl⟩
 | [.io _],_,_=>⟨rfl,rfl⟩
 | .io _ :: _ :: _,_,_=>⟨rfl,rfl⟩
 | .own .. :: _,_,_=>⟨rfl,rfl⟩
 | .mv .. :: _,_,_=>⟨rfl,rfl⟩
 | .bx .. :: _,_,_=>⟨rfl,rfl⟩
 | .agr .. :: _,_,_=>⟨rfl,rfl⟩
 | .lf _ :: _,_,_=>⟨rfl,rfl⟩
 | .ag _ :: _,_,_=>⟨rfl,rfl⟩
 | .pl _ :: _,_,_=>⟨rfl,rfl⟩
 | .ps _ :: _,_,_=>⟨rfl,rfl⟩
 | .fn .. :: _,_,_=>⟨rfl,rfl⟩
def boI (i:Nat) : (b:IB)→List Nat→b.den→BU
 | .no,_,_=>[]
 | .own e k t,_,xs=>[(jS i,rwU e k t xs)]
 | .bx ty n rows,js,x=>(jS i,.st ty (b5 (eh rows js) 0 (stD n x)))::aQ (eh rows js) 0 (stD n x)
def i7:Nat→(ls:List IB)→List (List Nat)→mD ls→BU
 | i,b::ls,js::kss,o=>boI i b js o.1++i7 (i + 1) ls kss o.2
 | _,_,_,_=>[]
def yY (C:Cx) (fn:Func) (p:PS) (r:aq C.rs) : Prop :=
 (fV C.rs=false→∃ q,ig C.P fn p=some q∧asData p.b q=toR C.rs r) ∧
 (fV C.rs=true→∃ kss jss,dB (aX C.rs) kss∧cY (ci C.rs) jss∧(bF 0 (aX C.rs)++(aw kss++aw jss)).Nodup∧(∃ q,ig C.P fn p=some q∧gP q=mF (be (ci C.rs) jss (cZ C.rs r)).1) ∧
  ∀ t Bx,(t,Bx)∈i7 0 (aX C.rs) kss (dr C.rs r)++(be (ci C.rs) jss (cZ C.rs r)).2→∃ B',p.b t=some B'∧iL B' = Bx)
theorem tO {rows:List (Nat×Nat×Nat×Nat×Ty)} {t:Nat} {Bx:Box} : ∀ {ds:List D} {j:Nat},(t,Bx)∈aQ rows j ds→iL Bx=Bx
 | [],j,h=>by cases h
 | d::ds,j,h=>by
  simp only [aQ] at h
  split at h
  ·split at h
   ·rcases List.mem_cons.1 h with e | h
    ·injection e with _ e; subst e; rfl
    ·exact tO h
   ·exact tO h
  ·exact tO h
theorem Dy {s:SS} {p:PS} (hs:Sim s p) {i:Nat} {b:IB} {o:b.den} {js:List Nat} (h:DA s i b=some (o,js)) : js.length=b.nJ∧∀ t Bx,(t,Bx)∈boI i b js o→∃ B',p.b t=some B'∧iL B' = Bx:=by
 cases b with
 | no =>
  injection h with h
  injection h with _ h
  subst h
  exact ⟨rfl,fun _ _ h=>by cases h⟩
 | own e k t =>
  simp only [DA] at h
  split at h
  ·rename_i xs is hd
   injection h with h
   injection h with e1 e2
   subst e1 e2
   refine ⟨rfl,fun t' Bx hm=>?_⟩
   have hbx:=hs.bx (jS i)
   unfold jA at hd
   simp only at hd
   split at hd
   ·rename_i e' k' t2 xs' pins hb
    split at hd
    ·rename_i hty _
     obtain ⟨m2,hd⟩:=aa hd
     obtain ⟨m3,hd⟩:=aa hd
     injection hd with hd
     injection hd with e1 e2
     subst e1 hty
     have m2:=zd m2
     have m3:=zd m3
     subst m2 m3
     rw [hb] at hbx
     simp only [boI,List.mem_cons,List.not_mem_nil,or_false,Prod.mk.injEq] at hm
     obtain ⟨rfl,rfl⟩:=hm
     exact ⟨_,hbx.1,rfl⟩
    ·cases hd
   ·cases hd
  ·cases h
 | bx ty n rows =>
  simp only [DA] at h
  split at h
  ·rename_i ty' cs hb
   obtain ⟨m1,h⟩:=aa h
   have m1:=zd m1
   subst m1
   have hbx:=hs.bx (jS i)
   rw [hb] at hbx
   obtain ⟨qs,k1,k2⟩:=hbx
   obtain ⟨k3,k4,k5⟩:=rn hs k2 h
   refine ⟨k3,fun t Bx hm=>?_⟩
   rcases List.mem_cons.1 hm with e | hm
   ·injection e with e1 e2
    subst e1 e2
    exact ⟨_,k1,by rw [iL,k4]⟩
   ·exact ⟨_,k5 t Bx hm,tO hm⟩
  ·cases h
theorem wa {s:SS} {p:PS} (hs:Sim s p) : ∀ {ls:List IB} {i:Nat} {o:mD ls} {kss:List (List Nat)},yO s i ls=some (o,kss)→dB ls kss∧∀ t Bx,(t,Bx)∈i7 i ls kss o→∃ B',p.b t=some B'∧iL B' = Bx
 | [],i,o,kss,h=>by
  injection h with h
  injection h with _ h
  subst h
  exact ⟨trivial,fun _ _ h=>by cases h⟩
 | b::ls,i,o,kss,h=>by
  simp only [yO] at h
  split at h
  ·rename_i o1 js os kss' h1 h2
   injection h with h
   injection h with e1 e2
   subst e1 e2
   obtain ⟨k1,k2⟩:=Dy hs h1
   obtain ⟨k3,k4⟩:=wa hs h2
   refine ⟨⟨k1,k3⟩,fun t Bx hm=>?_⟩
   rcases List.mem_append.1 hm with hm | hm
   ·exact k2 t Bx hm
   ·exact k4 t Bx hm
  ·cases h
theorem tc {s:SS} {p:PS} (hs:Sim s p) : ∀ {rs:List PT} {vs:List SV} {qs:List PV} {x:aq rs} {jss:List (List Nat)},aL s.bx vs qs→ul s rs vs=some (x,jss) →
  cY rs jss∧bO qs=(be rs jss x).1∧∀ t Bx,(t,Bx)∈(be rs jss x).2→∃ B',p.b t=some B'∧iL B' = Bx
 | [],[],qs,x,jss,hv,h=>by
  rcases hv.cases with ⟨_,rfl⟩ | ⟨_,_,_,_,h1,_⟩
  ·injection h with h
   injection h with _ h
   subst h
   exact ⟨trivial,rfl,fun _ _ h=>by cases h⟩
  ·cases h1
 | [],_ :: _,_,x,jss,_,h=>bP (x:=(x,jss)) h
 | [pt],[],_,x,jss,_,h=>bP (x:=(x,jss)) h
 | [pt],[v],qs,x,jss,hv,h=>by
  rcases hv.cases with ⟨h1,_⟩ | ⟨v',q,vs',qs',h1,rfl,h2,h3⟩
  ·cases h1
  ·injection h1 with e1 e2
   subst e1 e2
   rcases h3.cases with ⟨_,rfl⟩ | ⟨_,_,_,_,h4,_⟩
   ·have h:(match xy s pt v with | some (x,is)=>some (x,[is]) | none=>none)=some (x,jss):=h
    split at h
    ·rename_i y is hd
     injection h with h
     injection h with e1 e2
     subst e1 e2
     obtain ⟨k1,k2,k3⟩:=um hs h2 hd
     exact ⟨⟨k1,trivial⟩,by simp only [bO,be,k2],k3⟩
    ·cases h
   ·cases h4
 | [pt],_ :: _ :: _,_,x,jss,_,h=>bP (x:=(x,jss)) h
 | pt::q::l,[],_,x,jss,_,h=>bP (x:=(x,jss)) h
 | pt::q::l,v::vs,qs,x,jss,hv,h=>by
  rcases hv.cases with ⟨h1,_⟩ | ⟨v',qv,vs',qs',h1,rfl,h2,h3⟩
  ·cases h1
  ·injection h1 with e1 e2
   subst e1 e2
   have h:(match xy s pt v,ul s (q::l) vs with | some (x,is),some (xs,iss)=>some ((x,xs),is::iss) | _,_=>none)=some (x,jss):=h
   split at h
   ·rename_i y is ys iss hd hr
    injection h with h
    injection h with e1 e2
    subst e1 e2
    obtain ⟨k1,k2,k3⟩:=um hs h2 hd
    obtain ⟨k4,k5,k6⟩:=tc hs h3 hr
    refine ⟨⟨k1,k4⟩,by simp only [bO,be,k2,k5],fun t Bx hm=>?_⟩
    rcases List.mem_append.1 hm with hm | hm
    ·exact k3 t Bx hm
    ·exact k6 t Bx hm
   ·cases h
theorem wS {P:Program} {fn:Func} {p:PS} {qs:List PV} (h:fn.results.toList.mapM (oQ P p)=some qs) : ig P fn p=some (mF qs):=by
 unfold ig
 rw [h]
 match qs with
 | []=>rfl
 | [q]=>rfl
 | q::q' :: qs=>rfl
theorem Da (qs:List PV) : gP (mF qs)=mF (bO qs):=by
 match qs with
 | []=>rfl
 | [q]=>rfl
 | q::q' :: qs=>rfl
theorem yq {C:Cx} {fn:Func} (hv:fn.results.toList=C.vars) {s:SS} {p:PS} (hpr:ed (clr s)) (hs:Sim (clr s) p) {r:aq C.rs} (h:oz C s=some r) : ∃ p',Le p p'∧yY C fn p' r:=by
 cases hM:fV C.rs with
 | false=>exact ⟨p,.refl p,fun _=>vy hv hs hM h,fun e=>by rw [hM] at e; cases e⟩
 | true =>
  unfold oz at h
  rw [hM] at h
  simp only [DM] at h
  split at h
  ·split at h
   ·rename_i s1 hf
    obtain ⟨p1,k1,k2,_,_⟩:=l3 (sc:=C.sc) hpr hs hf
    split at h
    ·rename_i ws hws
     obtain ⟨qs,k3,k4⟩:=ph k2 hws
     split at h
     ·rename_i o kss r' jss ho hr
      obtain ⟨hn,h⟩:=aa h
      injection h with h
      obtain ⟨e1,e2⟩:=w7 C.rs o r'
      rw [h] at e1 e2
      obtain ⟨m1,m2⟩:=wa k2 ho
      obtain ⟨m3,m4,m5⟩:=tc k2 k4 hr
      refine ⟨p1,k1,fun e=>(by rw [hM] at e; cases e),fun _=>⟨kss,jss,m1,m3,dg hn,⟨_,wS (by rw [hv]; exact k3),by rw [Da,m4,e2]⟩,fun t Bx hm=>?_⟩⟩
      rw [e1,e2] at hm
      rcases List.mem_append.1 hm with hm | hm
      ·exact m2 t Bx hm
      ·exact m5 t Bx hm
     ·cases h
    ·cases h
   ·cases h
  ·cases h
def lw (C:Cx) (fn:Func) (W:List Nat) (s:SS) {ρ : Type} (k:Exit→SS→Option ρ) (kr:aq C.rs→Option ρ) (res : ρ) : Exit→PS→Prop
 | .ret,p'=>∃ r,yY C fn p' r∧kr r=some res
 | e,p'=>∃ s',cJ s' p'∧bM C.sc W s s'∧k e s' = some res
theorem Dc {a b:List Nat} {i:Nat} (h:ae a i=true) : ae (a++b) i=true:=by rw [bA,h]; rfl
theorem BD {a b:List Nat} {i:Nat} (h:ae b i=true) : ae (a++b) i=true:=by rw [bA,h]; simp
variable {C:Cx} {fn:Func}
theorem gU {W:List Nat} {s:SS} {ρ : Type} {k:Exit→SS→Option ρ} {kr:aq C.rs→Option ρ} {res : ρ} {e:Exit} {p:PS} (he:e≠.ret) (h:lw C fn W s k kr res e p) : ∃ s',cJ s' p∧bM C.sc W s s'∧k e s' = some res:=by
 cases e <;> first | exact h | exact absurd rfl he
theorem vc {W:List Nat} {s s':SS} {ρ : Type} {k:Exit→SS→Option ρ} {kr:aq C.rs→Option ρ} {res : ρ} {e:Exit} {p:PS} (he:e≠.ret) (h1:cJ s' p) (h2:bM C.sc W s s') (h3:k e s' = some res) : lw C fn W s k kr res e p:=by
 cases e <;> first | exact ⟨s',h1,h2,h3⟩ | exact absurd rfl he
def Aw (C:Cx) (fn:Func) (c:Code) (W:List Nat) (body:(ρ : Type)→SS→(Exit→SS→Option ρ)→(aq C.rs→Option ρ)→Option ρ) : Prop :=
 ∀ (ρ : Type) (s:SS) (p:PS) (k:Exit→SS→Option ρ) (kr:aq C.rs→Option ρ) (res : ρ),ed s→cJ s p→body ρ s k kr=some res→PWP C.P C.n c (lw C fn W s k kr res) p
theorem wW {wr:List Nat} {ms:List Mod} {s s1:SS} (hpr:ed s) (hk:bM C.sc wr s s1) (hchk:jn C.sc wr ms s.pr s1=true) : ∀ t,ae s.pr t=true→ae (aO C.sc wr ms s1).pr t=true:=by
 intro t ht
 unfold jn at hchk
 simp only [Bool.and_eq_true] at hchk
 obtain ⟨c1,c2,c3,c4⟩:=hchk
 rw [gS]
 refine ⟨?_,?_,hk.prOk hpr t (by rw [hk.pr]; exact ht)⟩
 ·cases hm:ae (ax ms) t with
  | false=>rfl
  | true =>
   have:=(kc c1).2 t hm
   rw [hk.pr,ht] at this
   cases this
 ·cases hm:ae C.sc t with
  | false=>rfl
  | true =>
   have:=jz c2 t hm
   rw [ht] at this
   cases this
mutual
theorem pU {pr pr':List Nat} (h:∀ t,ae pr t=true→ae pr' t=true) : ∀ v:SV,dX pr v=true→dX pr' v=true
 | .junk,_=>rfl
 | .d _,_=>rfl
 | .fe _,_=>rfl
 | .ptr _ _,_=>rfl
 | .row t,hs=>h t hs
 | .re _ _ _,hs=>by cases hs
 | .vw _ _ _,hs=>by cases hs
 | .ag cs,hs=>by simp only [dX] at hs ⊢; exact eT h cs hs
 | .tup cs,hs=>by simp only [dX] at hs ⊢; exact eT h cs hs
 | .fn f ps qs,hs=>by simp only [dX,Bool.and_eq_true] at hs ⊢; exact ⟨eT h ps hs.1,eT h qs hs.2⟩
theorem eT {pr pr':List Nat} (h:∀ t,ae pr t=true→ae pr' t=true) : ∀ cs:List SV,b4 pr cs=true→b4 pr' cs=true
 | [],_=>rfl
 | c::cs,hs=>by
  simp only [b4,Bool.and_eq_true] at hs ⊢
  exact ⟨pU h c hs.1,eT h cs hs.2⟩
end
theorem lX {wr:List Nat} {ms:List Mod} {s s1 s2:SS} {oc:List Nat} (hk:bM C.sc wr s s1) (hsub:∀ t,ae s.pr t=true→ae (aO C.sc wr ms s1).pr t=true) (hk2:bM C.sc wr (jJ C.sc wr ms s1) s2) : bM C.sc wr s ⟨s2.sl,s2.bx,s.pr,s.ro,oc⟩:=by
 refine ⟨rfl,rfl,fun t ht=>(hk.bx t ht).trans (hk2.bx t (hsub t ht)),fun i hi hsf=>?_,fun t ht ty cs hb=>?_⟩
 ·have e:=hk.sl i hi hsf
  have:=hk2.sl i hi (pU hsub _ (by show dX s.pr (lkV s1.sl i)=true; rw [e]; exact hsf))
  exact this.trans e
 ·obtain ⟨cs1,h1,h2⟩:=hk.st t ht ty cs hb
  obtain ⟨cs2,h3,h4⟩:=hk2.st t ht ty cs1 h1
  exact ⟨cs2,h3,h4.trans h2⟩
theorem mA {s:SS} (h:ed s) : ed (clr s):=h
theorem vA {W:List Nat} {s s':SS} (h:bM C.sc W (clr s) s') : bM C.sc W s s':=⟨h.pr,h.ro,h.bx,h.sl,h.st⟩
theorem mo {c:Code} {wr:List Nat} {h:jU} {body:(ρ : Type)→SS→(Exit→SS→Option ρ)→(aq C.rs→Option ρ)→Option ρ} (hb:Aw C fn c wr body) : Aw C fn c wr (sv C wr h body):=by
 intro ρ s p k kr res hpr hs hx
 unfold sv at hx
 split at hx
 ·rename_i ms h'
  split at hx
  ·cases hx
  ·rename_i s1 hnil
   obtain ⟨hchk,hx⟩:=aa hx
   obtain ⟨st,h1,h2⟩:=a8 hx
   split at h2
   ·rename_i s2 hput
    refine j4 (nC hs) ?_
    obtain ⟨p2,k1,k2,k3,k4⟩:=gW (sc:=C.sc) (s:=clr s) rfl (mA hpr) (iH hs) hnil
    refine j4 k1 ?_
    have hk1:bM C.sc wr s s1:=vA k3
    have hw:cJ (jJ C.sc wr ms s1) p2:=⟨k2.w.sl,k2.w.bx⟩
    refine co (hb _ (jJ C.sc wr ms s1) p2 _ _ st (nH ms s1) hw h1) fun e p' hq=>?_
    by_cases he:e = .ret
    ·subst he
     obtain ⟨r,_,h⟩:=hq
     cases h
    ·obtain ⟨s',m1,m2,m3⟩:=gU he hq
     cases e with
     | normal =>
      have m3:gV ms s' = some st:=m3
      unfold gV at m3
      split at m3
      ·rename_i s'' hf
       obtain ⟨p'',n1,n2,n3⟩:=iU (sc:=C.sc) (m2.prOk (nH ms s1)) m1 hf
       have hchk':jn C.sc wr ms s1.pr s1=true:=by rw [hk1.pr]; exact hchk
       obtain ⟨o1,o2,o3⟩:=tS k2.w hchk' (m2.trans (n3 wr)) n2 m3 hput
       exact ⟨p'',n1,⟨s2.sl,s2.bx,s.pr,s.ro,s.oc⟩,⟨o1.sl,o1.bx⟩,lX hk1 (wW hpr hk1 hchk) o2,h2⟩
      ·cases m3
     | ret=>exact absurd rfl he
     | _=>cases m3
   ·cases h2
 ·exact hb ρ s p k kr res hpr hs hx
end
section
variable {C:Cx} {fn:Func}
theorem iG:∀ {l:List Oper},AQ l=true→∀ o∈l,∀ t x y,o.op = .store t x y→o.dst=none
 | [],_,o,ho,_,_,_,_=>by cases ho
 | x::l,h,o,ho,t,a,b,hop=>by
  simp only [AQ] at h
  rcases List.mem_cons.1 ho with rfl | ho
  ·cases hd:o.dst with
   | none=>rfl
   | some d=>rw [hop,hd] at h; cases h
  ·split at h
   ·cases h
   ·exact iG h o ho t a b hop
theorem yc (hT:hZ C.P C.T) (hm:C.P.follows .mixedOrders=true) (id:Nat) (ops:Array Oper) (draw:Bool) : Aw C fn (.region id ops draw) (aR ops.toList) (fun _ s k _=>A8 C id ops draw s fun s=>k .normal s):=by
 intro ρ s p k kr res hpr hs h
 have ha:ops.toList.toArray=ops:=by simp
 have hW:∀ o∈ops.toList,∀ d,o.dst=some d→ae (aR ops.toList) d=true:=fun o ho d hd=>jy ho hd
 have hO:∀ (j:Nat) (o:Oper),ops[j]? = some o→∀ d,o.dst=some d→ae (aR ops.toList) d=true:=fun j o ho d hd=>jy (by
  rw [Array.mem_toList_iff]
  exact Array.mem_of_getElem? ho) hd
 replace h:A8 C id ops draw s (fun s=>k .normal s)=some res:=h
 unfold A8 at h
 cases hf:d8 (lkF C.fz id) s with
 | none=>rw [hf] at h; cases h
 | some s0 =>
  rw [hf] at h
  obtain ⟨p1,k1,k2,k3⟩:=iU (sc:=C.sc) hpr hs hf
  refine j4 k1 (j4 (nC k2) ?_)
  have hs2:=iH k2
  have hpr2:ed ⟨s0.sl,s0.bx,s0.pr,s0.ro,[]⟩:=(k3 []).prOk hpr
  have fin:∀ p',rJ C.sc (aR ops.toList) ops.toList ⟨s0.sl,s0.bx,s0.pr,s0.ro,[]⟩ (me s0 p1) (fun s=>k .normal s) res p'→lw C fn (aR ops.toList) s k kr res .normal p':=by
   rintro p' ⟨s',m1,m2,m3,m4,_⟩
   exact ⟨s',m1.w,(k3 _).trans ⟨m2.pr,m2.ro,m2.bx,m2.sl,m2.st⟩,m4⟩
  simp only at h
  cases draw <;> simp only at h
  ·obtain ⟨h1,h2⟩:=aa h
   rw [Bool.and_eq_true] at h1
   have hrun:=pe (q:=true) (sc:=C.sc) hT (ops:=ops) 1000 0 [] ops.toList hW hO (iG h1.1) hpr2 hs2 h2
   have:=u6 (P:=C.P) (n:=C.n) (id:=id) (Qs:=lw C fn (aR ops.toList) s k kr res) (s:=me s0 p1) h1.2 (by rw [ha]; exact cx hrun fin)
   rw [ha] at this
   exact this
  ·obtain ⟨h1,h2⟩:=aa h
   obtain ⟨h3,h4⟩:=aa h2
   split at h4
   ·have hrun:=pe (q:=false) (sc:=C.sc) hT (ops:=ops) 1000 0 [] ops.toList hW hO (iG h1) hpr2 hs2 h4
    have:=Bb (P:=C.P) (n:=C.n) (id:=id) (l:=ops.toList) (Qs:=lw C fn (aR ops.toList) s k kr res) (s:=me s0 p1) _ hm (by rw [ha]; exact h3) (by
     rw [ha]
     exact nj (P:=C.P) (ops:=ops) ops.toList 0 (me s0 p1) (fun j hj=>by simp) (cx hrun fin))
    rw [ha] at this
    exact this
   ·obtain ⟨h5,h6⟩:=aa h4
    rw [Bool.and_eq_true] at h5
    have hle:=zd h5.2
    have hsub1:∀ o∈ops.toList.take (df ops),o∈ops.toList:=fun o ho=>List.mem_of_mem_take ho
    have hsub2:∀ o∈ops.toList.drop (df ops),o∈ops.toList:=fun o ho=>List.mem_of_mem_drop ho
    have hrun1:=pe (q:=false) (sc:=C.sc) hT (ops:=ops) 1000 0 [] (ops.toList.take (df ops)) (fun o ho=>hW o (hsub1 o ho)) hO (fun o ho=>iG h1 o (hsub1 o ho)) hpr2 hs2 h6
    have hrun:ld false C.P ops (mH (dR C.T ⟨s0.sl,s0.bx,s0.pr,s0.ro,[]⟩ ops.toList [] [])) 0 (ops.toList.take (df ops)) (me s0 p1) fun p'=>ld true C.P ops (mH []) 0 (ops.toList.drop (df ops)) p' (lw C fn (aR ops.toList) s k kr res .normal):=by
     refine cx hrun1 fun p' hp=>?_
     obtain ⟨s',m1,m2,m3,m4,_⟩:=hp
     have hrun2:=pe (q:=true) (sc:=C.sc) hT (ops:=ops) 1000 0 [] (ops.toList.drop (df ops)) (fun o ho=>hW o (hsub2 o ho)) hO (fun o ho=>iG h1 o (hsub2 o ho)) m3 m1 m4
     refine cx hrun2 fun p2 hp2=>?_
     obtain ⟨s3,n1,n2,n3,n4,_⟩:=hp2
     exact ⟨s3,n1.w,(k3 _).trans ((show bM C.sc (aR ops.toList) s0 s' from ⟨m2.pr,m2.ro,m2.bx,m2.sl,m2.st⟩).trans n2),n4⟩
    have:=zo (P:=C.P) (n:=C.n) (id:=id) (l:=ops.toList) (Qs:=lw C fn (aR ops.toList) s k kr res) (s:=me s0 p1) _ (df ops) hle hm (by rw [ha]; exact h3) (by rw [ha]; exact h5.1) (by
     rw [ha]
     have e1:(ops.toList.take (df ops)).length=df ops:=by rw [List.length_take]; exact Nat.min_eq_left (by simpa using hle)
     have e2:(ops.toList.drop (df ops)).length=ops.toList.length - df ops:=by simp
     rw [← e2]
     have r1:=nj (P:=C.P) (ops:=ops) (ops.toList.take (df ops)) 0 (me s0 p1) (fun j hj=>by
      rw [e1] at hj
      rw [List.getElem?_take,if_pos hj]
      simp) hrun
     rw [e1] at r1
     refine sC r1 fun p' hp=>xW _ _ _ _ (fun j hj=>by rw [List.getElem?_drop]; simp) hp)
    rw [ha] at this
    exact this
theorem CX (hT:hZ C.P C.T) (hm:C.P.follows .mixedOrders=true) (id:Nat) (ops:Array Oper) (draw:Bool) : Aw C fn (.region id ops draw) (aR ops.toList) (fun _ s k _=>CY C id ops draw s fun s=>k .normal s):=by
 intro ρ s p k kr res hpr hs h
 replace h:CY C id ops draw s (fun s=>k .normal s)=some res:=h
 unfold CY at h
 split at h
 ·exact yc hT hm id ops draw ρ s p k kr res hpr hs h
 ·rename_i t l _
  obtain ⟨h1,h2⟩:=aa h
  have h3:=yc (fn:=fn) hT hm id ops draw ρ s p (fun e s=>match e with | .normal=>(match sS C.sc (t::l) s with | some s=>k .normal s | none=>none) | e=>k e s) kr res hpr hs h2
  refine co h3 fun e p' hq=>?_
  by_cases he:e = .ret
  ·subst he; exact ⟨p',.refl _,hq⟩
  ·obtain ⟨s',m1,m2,m3⟩:=gU he hq
   cases e with
   | ret=>exact absurd rfl he
   | normal =>
    have m3:(match sS C.sc (t::l) s' with | some s=>k .normal s | none=>none)=some res:=m3
    split at m3
    ·rename_i s2 hfb
     obtain ⟨p2,k1,k2,k3⟩:=vK hs (m2.prOk hpr) h1 m2 m1 hfb
     exact ⟨p2,k1,s2,k2,k3,m3⟩
    ·cases m3
   | _=>exact ⟨p',.refl _,vc he m1 m2 m3⟩
theorem pT {s:SS} {p:PS} (hs:cJ s p) {x:Operand} {b:Bool} (h:evX s x = .d (.bool b)) : cJ (lu s x b) p:=by
 unfold lu
 split
 ·rename_i i
  refine ⟨fun j=>?_,hs.bx⟩
  show an s.bx (lkV ((i,.d (.bool b))::s.sl) j) (p.t j)
  rw [bj]
  split
  ·rename_i e
   subst e
   have:=hs.sl j
   rw [show lkV s.sl j = .d (.bool b) from h] at this
   exact this
  ·exact hs.sl j
 ·exact hs
theorem qA {W:List Nat} {s:SS} {x:Operand} {b:Bool} (h:∀ i,x = .tmp i→ae W i=true) : bM C.sc W s (lu s x b):=by
 unfold lu
 split
 ·rename_i i
  refine ⟨rfl,rfl,fun _ _=>.refl _,fun j hj _=>?_,fun _ _ _ cs h=>⟨cs,h,rfl⟩⟩
  show lkV ((i,.d (.bool b))::s.sl) j = _
  rw [bj,if_neg (fun e=>by rw [e,h i rfl] at hj; cases hj)]
 ·exact .refl _ _
theorem qy {s:SS} {x:Operand} {b:Bool} (h:ed s) : ed (lu s x b):=by unfold lu; split <;> exact h
theorem Ch {s:SS} {p:PS} (hs:cJ s p) (x:Operand) : an s.bx (evX s x) (ev p x):=by
 cases x with
 | tmp i=>exact hs.sl i
 | const v=>exact ru v
 | global g=>exact .junk _
 | func f=>exact .fn f [] [] [] [] rfl (fun j c q h=>by simp at h) rfl (fun j c q h=>by simp at h)
theorem lO {W W':List Nat} {s s0:SS} {ρ : Type} {k:Exit→SS→Option ρ} {kr:aq C.rs→Option ρ} {res : ρ} (hW:∀ i,ae W i=true→ae W' i=true) (hk:bM C.sc W' s0 s) {e:Exit} {p:PS} (h:lw C fn W s k kr res e p) : lw C fn W' s0 k kr res e p:=by
 by_cases he:e = .ret
 ·subst he; exact h
 ·obtain ⟨s',h1,h2,h3⟩:=gU he h
  exact vc he h1 (hk.trans (h2.wide hW)) h3
theorem qq {σ τ : Type} {f : σ→Option (σ⊕τ)} {m:Nat} {st : σ} {out : τ} (h:aN f m st=some out) : ∃ m',m=m' + 1∧((∃ st',f st=some (.inl st')∧aN f m' st' = some out)∨f st=some (.inr out)):=by
 cases m with
 | zero=>cases h
 | succ m =>
  refine ⟨m,rfl,?_⟩
  unfold aN at h
  split at h
  ·cases h
  ·rename_i st' hf; exact .inl ⟨st',hf,h⟩
  ·rename_i r hf; injection h with h; subst h; exact .inr hf
theorem yo {c:Code} {ms:List Mod} {id:Nat} {τ : Type} {inr:dy ms→τ} {ret:aq C.rs→Option τ} {step:dy ms→Option (dy ms⊕τ)} {body:(ρ : Type)→SS→(Exit→SS→Option ρ)→(aq C.rs→Option ρ)→Option ρ} (hb:Aw C fn c (wrC c) body)
  {s0:SS} (hstep:step=fun st=>match dq ms st (aO C.sc (wrC c) ms s0) with
   | none=>none
   | some sh=>body (dy ms⊕τ) sh (fun e s'=>match e with
    | .normal=>Option.bind (gV ms s') fun st'=>some (.inl st')
    | .exit id'=>(match Nat.beq id' id with | true=>Option.bind (gV ms s') fun st'=>some (.inr (inr st')) | false=>none)
    | _=>none) (fun r=>(ret r).map .inr))
  {st0:dy ms} {p:PS} (hs0:cJ s0 p) (hchk:jn C.sc (wrC c) ms s0.pr s0=true) (hpack:jI s0 ms=some st0) {out : τ} (hl:aN step aB st0=some out)
  (hput:∀ st,inr st=out→∃ s2,dq ms st (aO C.sc (wrC c) ms s0)=some s2) {Q:Exit→PS→Prop} (hexit:∀ st s2 p',inr st=out→dq ms st (aO C.sc (wrC c) ms s0)=some s2→cJ s2 p'→bM C.sc (wrC c) (jJ C.sc (wrC c) ms s0) s2→Q (.exit id) p')
  (hret:∀ r p',ret r=some out→yY C fn p' r→Q .ret p') : PWP C.P C.n (.loop c) Q p:=by
 have put_of:∀ {m st out},aN step m st=some out→∃ sh,dq ms st (aO C.sc (wrC c) ms s0)=some sh:=by
  intro m st out h
  obtain ⟨m',_,h⟩:=qq h
  have:∃ r,step st=some r:=by rcases h with ⟨st',h,_⟩ | h <;> exact ⟨_,h⟩
  obtain ⟨r,hr⟩:=this
  rw [hstep] at hr
  simp only at hr
  split at hr
  ·cases hr
  ·rename_i sh hsh; exact ⟨sh,hsh⟩
 refine zl (ks:=[]) (bs:=[]) (fun q m=>∃ st sh,dq ms st (aO C.sc (wrC c) ms s0)=some sh∧cJ sh q∧bM C.sc (wrC c) (jJ C.sc (wrC c) ms s0) sh∧aN step m st=some out) aB ?_ ?_
 ·obtain ⟨sh,hsh⟩:=put_of hl
  obtain ⟨o1,o2,o3⟩:=tS hs0 hchk (.refl _ _) (s':=jJ C.sc (wrC c) ms s0) ⟨hs0.sl,hs0.bx⟩ (show jI (jJ C.sc (wrC c) ms s0) ms=some st0 from (by
   have:∀ (l:List Mod) (s s':SS),s.sl=s'.sl→s.bx=s'.bx→jI s l=jI s' l:=by
    intro l s s' h1 h2
    have cells:∀ (rows:List (Nat×Nat×Nat×Nat×Ty)) (cs:List SV) (j:Nat),cellsOf s rows j cs=cellsOf s' rows j cs:=by
     intro rows cs
     induction cs with
     | nil=>intro j; rfl
     | cons c cs ih=>intro j; simp only [cellsOf,h2,ih]
    have one:∀ m:Mod,nK s m=nK s' m:=by
     intro m
     cases m <;> simp only [nK,h1,h2,cells]
    induction l with
    | nil=>rfl
    | cons m l ih =>
     cases l with
     | nil=>exact one m
     | cons m' l=>simp only [jI,one,ih]
   exact (this ms (jJ C.sc (wrC c) ms s0) s0 rfl rfl).trans hpack)) hsh
  exact ⟨st0,sh,hsh,o1,o2,hl⟩
 ·rintro q m ⟨st,sh,hsh,hq,hk,hlo⟩
  obtain ⟨m',rfl,hcase⟩:=qq hlo
  have hrun:∃ fr,step st=some fr∧((∃ st',fr = .inl st'∧aN step m' st' = some out)∨fr = .inr out):=by
   rcases hcase with ⟨st',h1,h2⟩ | h1
   ·exact ⟨_,h1,.inl ⟨st',rfl,h2⟩⟩
   ·exact ⟨_,h1,.inr rfl⟩
  obtain ⟨fr,hfr,hcase⟩:=hrun
  have hbody:body (dy ms⊕τ) sh (fun e s'=>match e with
    | .normal=>Option.bind (gV ms s') fun st'=>some (.inl st')
    | .exit id'=>(match Nat.beq id' id with | true=>Option.bind (gV ms s') fun st'=>some (.inr (inr st')) | false=>none)
    | _=>none) (fun r=>(ret r).map .inr)=some fr:=by
   rw [hstep] at hfr
   simp only [hsh] at hfr
   exact hfr
  have hprh:ed sh:=hk.prOk (nH ms s0)
  have meet:∀ {s':SS} {p':PS} {st':dy ms} {s2:SS},cJ s' p'→bM C.sc (wrC c) sh s'→gV ms s' = some st'→dq ms st' (aO C.sc (wrC c) ms s0)=some s2→∃ p'',Le p' p''∧cJ s2 p''∧bM C.sc (wrC c) (jJ C.sc (wrC c) ms s0) s2:=by
   intro s' p' st' s2 m1 m2 m3 m4
   unfold gV at m3
   split at m3
   ·rename_i s'' hf
    obtain ⟨p'',n1,n2,n3⟩:=iU (sc:=C.sc) (m2.prOk hprh) m1 hf
    obtain ⟨o1,o2,o3⟩:=tS hs0 hchk ((hk.trans m2).trans (n3 (wrC c))) n2 m3 m4
    exact ⟨p'',n1,o1,o2⟩
   ·cases m3
  refine co (hb _ sh q _ _ fr hprh hq hbody) fun e p' hpost=>?_
  by_cases he:e = .ret
  ·subst he
   obtain ⟨r,h1,h3⟩:=hpost
   rw [zm] at h3
   obtain ⟨v,h4,h5⟩:=h3
   rcases hcase with ⟨st',rfl,_⟩ | rfl
   ·cases h5
   ·injection h5 with h5
    subst h5
    exact ⟨p',.refl _,hret r p' h4 h1⟩
  ·obtain ⟨s',m1,m2,m3⟩:=gU he hpost
   cases e with
   | normal =>
    obtain ⟨st',m4,m5⟩:=a8 m3
    injection m5 with m5
    rcases hcase with ⟨st2,h1,h2⟩ | h1
    ·rw [← m5] at h1
     injection h1 with h1
     subst h1
     obtain ⟨sh',hsh'⟩:=put_of h2
     obtain ⟨p'',n1,n2,n3⟩:=meet m1 m2 m4 hsh'
     exact ⟨p'',n1,p'',fun _ _ _ _ _ h=>h,m',⟨st',sh',hsh',n2,n3,h2⟩,Nat.lt_succ_self _⟩
    ·rw [← m5] at h1; cases h1
   | exit id' =>
    replace m3:(match Nat.beq id' id with | true=>Option.bind (gV ms s') fun st'=>some (.inr (inr st')) | false=>none)=some fr:=m3
    split at m3
    ·rename_i hid
     rw [bk] at hid
     have hid:=zd hid
     subst hid
     obtain ⟨st',m4,m5⟩:=a8 m3
     injection m5 with m5
     rcases hcase with ⟨st2,h1,h2⟩ | h1
     ·rw [← m5] at h1; cases h1
     ·rw [← m5] at h1
      injection h1 with h1
      obtain ⟨s2,hs2⟩:=hput st' h1
      obtain ⟨p'',n1,n2,n3⟩:=meet m1 m2 m4 hs2
      exact ⟨p'',n1,hexit st' s2 p'' h1 hs2 n2 n3⟩
    ·cases m3
   | ret=>exact absurd rfl he
   | _=>cases m3
end
section
variable {C:Cx} {fn:Func}
theorem fU (hT:hZ C.P C.T) (hm:C.P.follows .mixedOrders=true) (hv:fn.results.toList=C.vars) : ∀ (c:Code) (h:jU),Aw C fn c (wrC c) (l7 C c h)
 | .skip,h=>fun ρ s p k kr res hpr hs hx=>A9 ⟨s,hs,.refl _ _,hx⟩
 | .label l,h=>fun ρ s p k kr res hpr hs hx=>zn ⟨s,hs,.refl _ _,hx⟩
 | .exit id,h=>fun ρ s p k kr res hpr hs hx=>Ba ⟨s,hs,.refl _ _,hx⟩
 | .ret,h=>fun ρ s p k kr res hpr hs hx=>by
  obtain ⟨r,h1,h2⟩:=a8 (show Option.bind (oz C s) kr=some res from hx)
  obtain ⟨p',h3,h4⟩:=yq hv (mA hpr) (iH hs) h1
  exact j4 ((nC hs).trans h3) (C0 ⟨r,h4,h2⟩)
 | .region id ops draw,h=>mo (CX hT hm id ops draw)
 | .seq a b,h=>by
  refine mo (c:=.seq a b) (wr:=wrC a++wrC b) fun ρ s p k kr res hpr hs hx=>?_
  refine CZ (co (fU hT hm hv a h.l ρ s p _ _ res hpr hs hx) fun e p' hq=>⟨p',.refl _,?_⟩)
  by_cases he:e = .ret
  ·subst he; exact hq
  ·obtain ⟨s',m1,m2,m3⟩:=gU he hq
   have hk:bM C.sc (wrC a++wrC b) s s':=m2.wide fun i hi=>Dc hi
   cases e with
   | normal =>
    refine co (fU hT hm hv b h.r ρ s' p' k kr res (hk.prOk hpr) m1 m3) fun e p2 hq2=>⟨p2,.refl _,?_⟩
    exact lO (fun i hi=>BD hi) hk hq2
   | ret=>exact absurd rfl he
   | _=>exact ⟨s',m1,hk,m3⟩
 | .cond x a b,h=>by
  have hwA:∀ i,ae (wrC a) i=true→ae (wrC (.cond x a b)) i=true:=fun i hi=>by
   cases x <;> simp only [wrC,ak,bA,hi,Bool.true_or,Bool.or_true]
  have hwB:∀ i,ae (wrC b) i=true→ae (wrC (.cond x a b)) i=true:=fun i hi=>by
   cases x <;> simp only [wrC,ak,bA,hi,Bool.or_true]
  have hwx:∀ i,x = .tmp i→ae (wrC (.cond x a b)) i=true:=fun i hi=>by
   subst hi; simp only [wrC,ak,decide_true,Bool.true_or]
  refine mo (c:=.cond x a b) (wr:=wrC (.cond x a b)) fun ρ s p k kr res hpr hs hx=>?_
  have hx:(match evX s x with | .d (.bool t)=>if t=true then l7 C a h.l ρ (lu s x true) k kr else l7 C b h.r ρ (lu s x false) k kr | _=>none)=some res:=hx
  split at hx
  ·rename_i t ht
   have hq:=Ch hs x
   rw [ht] at hq
   have hb:=dV hq
   cases t
   ·rw [if_neg (by simp)] at hx
    refine u7 false (by rw [hb]; rfl) ?_
    rw [if_neg (by simp)]
    exact co (fU hT hm hv b h.r ρ _ p k kr res (qy hpr) (pT hs ht) hx) fun e p' hq=>⟨p',.refl _,lO hwB (qA hwx) hq⟩
   ·rw [if_pos rfl] at hx
    refine u7 true (by rw [hb]; rfl) ?_
    rw [if_pos rfl]
    exact co (fU hT hm hv a h.l ρ _ p k kr res (qy hpr) (pT hs ht) hx) fun e p' hq=>⟨p',.refl _,lO hwA (qA hwx) hq⟩
  ·cases hx
 | .block id c,h=>by
  refine mo (c:=.block id c) (wr:=wrC c) fun ρ s p k kr res hpr hs hx=>?_
  refine zp (co (fU hT hm hv c h.l ρ s p _ _ res hpr hs hx) fun e p' hq=>⟨p',.refl _,?_⟩)
  by_cases he:e = .ret
  ·subst he; exact hq
  ·obtain ⟨s',m1,m2,m3⟩:=gU he hq
   cases e with
   | exit id' =>
    have m3:(match Nat.beq id' id with | true=>k .normal s' | false=>k (.exit id') s')=some res:=m3
    simp only [qC]
    rw [bk] at m3
    by_cases hid:id' = id
    ·rw [if_pos hid]
     simp only [hid,decide_true] at m3
     exact ⟨s',m1,m2,m3⟩
    ·rw [if_neg hid]
     simp only [hid,decide_false] at m3
     exact ⟨s',m1,m2,m3⟩
   | ret=>exact absurd rfl he
   | _=>exact ⟨s',m1,m2,m3⟩
 | .loop c,h=>fun ρ s p k kr res hpr hs hx=>by
  cases h with
  | lp ms id ret hb =>
   unfold l7 at hx
   cases he:xq (wrC c) ms (clr s) with
   | none=>rw [he] at hx; cases hx
   | some s0 =>
    rw [he] at hx
    obtain ⟨hchk,hx⟩:=aa hx
    refine j4 (nC hs) ?_
    unfold xq at he
    split at he
    ·rename_i s1 hnil
     obtain ⟨p2,k1,k2,k3,k4⟩:=gW (sc:=C.sc) (s:=clr s) rfl (mA hpr) (iH hs) hnil
     refine j4 k1 ?_
     have hk1:bM C.sc (wrC c) s s1:=vA k3
     obtain ⟨p3,n1,n2,n3⟩:=iU (sc:=C.sc) (hk1.prOk hpr) k2.w he
     refine j4 n1 ?_
     have hk0:bM C.sc (wrC c) s s0:=hk1.trans (n3 _)
     have hchk':jn C.sc (wrC c) ms s0.pr s0=true:=by rw [hk0.pr]; exact hchk
     cases hpk:jI s0 ms with
     | none=>rw [hpk] at hx; cases hx
     | some st0 =>
      rw [hpk] at hx
      cases ret with
      | false =>
       obtain ⟨out,h1,h2⟩:=a8 hx
       refine yo (C:=C) (fn:=fn) (c:=c) (ms:=ms) (id:=id) (τ:=dy ms) (inr:=fun st=>st) (ret:=fun _=>none) (body:=l7 C c hb) (fU hT hm hv c hb) rfl n2 hchk' hpk h1 ?_ ?_ ?_
       ·intro st hst
        subst hst
        split at h2
        ·rename_i s2 hs2; exact ⟨s2,hs2⟩
        ·cases h2
       ·intro st s2 p' hst hs2 m1 m2
        subst hst
        rw [hs2] at h2
        exact ⟨⟨s2.sl,s2.bx,s.pr,s.ro,s.oc⟩,⟨m1.sl,m1.bx⟩,lX hk0 (wW hpr hk0 hchk) m2,h2⟩
       ·intro r p' hr; cases hr
      | true =>
       obtain ⟨out,h1,h2⟩:=a8 hx
       refine yo (C:=C) (fn:=fn) (c:=c) (ms:=ms) (id:=id) (τ:=dy ms⊕aq C.rs) (inr:=.inl) (ret:=fun r=>some (.inr r)) (body:=l7 C c hb) (fU hT hm hv c hb) rfl n2 hchk' hpk h1 ?_ ?_ ?_
       ·intro st hst
        subst hst
        have h2:(match dq ms st (aO C.sc (wrC c) ms s0) with | some s2=>k (.exit id) ⟨s2.sl,s2.bx,s.pr,s.ro,s.oc⟩ | none=>none)=some res:=h2
        split at h2
        ·rename_i s2 hs2; exact ⟨s2,hs2⟩
        ·cases h2
       ·intro st s2 p' hst hs2 m1 m2
        subst hst
        have h2:(match dq ms st (aO C.sc (wrC c) ms s0) with | some s2=>k (.exit id) ⟨s2.sl,s2.bx,s.pr,s.ro,s.oc⟩ | none=>none)=some res:=h2
        rw [hs2] at h2
        exact ⟨⟨s2.sl,s2.bx,s.pr,s.ro,s.oc⟩,⟨m1.sl,m1.bx⟩,lX hk0 (wW hpr hk0 hchk) m2,h2⟩
       ·intro r p' hr h3
        injection hr with hr
        subst hr
        exact ⟨r,h3,h2⟩
    ·cases he
  | _=>cases hx
 | .rangeFunc ..,h=>fun ρ s p k kr res hpr hs hx=>by cases hx
 | .scope ..,h=>fun ρ s p k kr res hpr hs hx=>by cases hx
 | .goto ..,h=>fun ρ s p k kr res hpr hs hx=>by cases hx
 | .refuse ..,h=>fun ρ s p k kr res hpr hs hx=>by cases hx
theorem uG:∀ (vs:List SV) (i j:Nat),lkV (n5 i vs) (i + j)=(vs[j]?).getD .junk
 | [],i,j=>by simp [n5,lkV]
 | v::vs,i,0=>by simp [n5,bj]
 | v::vs,i,j + 1=>by
  simp only [n5,bj]
  rw [if_neg (by omega),show i + (j + 1)=i + 1 + j by omega,uG vs (i + 1) j]
  simp
theorem sy:∀ (ps:List PT) (x:bb ps),(iA ps x).length=ps.length
 | [],_=>rfl
 | p::ps,x=>by simp [iA,sy ps]
theorem bh {P:Program} {T:List (Nat×Ent)} {n:Nat} {ps rs:List PT} {vars:List ResultVar} {fz:List (Nat×List Nat)} {sc:List Nat} {fb:List (Nat×List Nat)} {h:jU} {f:FuncId} {fn:Func} {c:Code} (hT:hZ P T) (hm:P.follows .mixedOrders=true) (hf:P.funcs[f]? = some fn) (hb:fn.body=some c) (hcb:bV P f=true) (hn:fn.ntmps=n) (hv:fn.results.toList=vars) (hl:((decide (ps.length≤n)&&j6 ps) && !(fV ps||fV rs))=true)
  {F:bb ps→Option (aq rs)} (hF:∀ x,dw ⟨P,T,n,rs,vars,fz,sc,fb⟩ c h ps x=F x) : aM P f ps rs F:=by
 intro x r hx
 rw [Bool.and_eq_true] at hl
 obtain ⟨hl,hl3⟩:=hl
 refine ⟨fun hnM=>?_,fun h=>by rw [h] at hl3; cases hl3⟩
 have hrs:fV rs=false:=by rw [Bool.or_eq_false_iff] at hnM; exact hnM.2
 rw [← hF] at hx
 rw [Bool.and_eq_true] at hl
 have hlen:=zd hl.1
 subst hn
 refine Bl hf hb hcb (by rw [sy]; exact hlen) ?_
 have hargs:=s6 (B:=[]) ps x hl.2
 have hs:cJ ⟨n5 0 (oJ ps x),[],[],false,[]⟩ ⟨eo (iA ps x),bW⟩:=by
  refine ⟨fun i=>?_,fun t b hb=>by cases hb⟩
  show an [] (lkV (n5 0 (oJ ps x)) i) (eo (iA ps x) i)
  have:=uG (oJ ps x) 0 i
  rw [Nat.zero_add] at this
  rw [this]
  unfold eo
  cases h1:(oJ ps x)[i]? with
  | none=>exact .junk _
  | some v =>
   have hlt:i < (iA ps x).length:=by rw [← hargs.len]; exact (zg.1 h1).1
   rw [zq hlt]
   exact hargs.rep i v _ h1 (zq hlt)
 have hpr:ed ⟨n5 0 (oJ ps x),[],[],false,[]⟩:=fun t ht=>by cases ht
 refine co (fU (C:=⟨P,T,fn.ntmps,rs,vars,fz,sc,fb⟩) (fn:=fn) hT hm hv c h _ _ _ _ _ r hpr hs hx) fun e p' hq=>?_
 by_cases he:e = .ret
 ·subst he
  obtain ⟨r',h1,h3⟩:=hq
  injection h3 with h3
  subst h3
  obtain ⟨q,h1,h2⟩:=h1.1 hrs
  exact ⟨p',.refl _,trivial,q,h1,h2⟩
 ·obtain ⟨s',m1,m2,m3⟩:=gU he hq
  cases e with
  | normal =>
   obtain ⟨q,h1,h2⟩:=vy (C:=⟨P,T,fn.ntmps,rs,vars,fz,sc,fb⟩) hv (iH m1) hrs m3
   exact ⟨me s' p',nC m1,trivial,q,h1,h2⟩
  | ret=>exact absurd rfl he
  | _=>cases m3
end
def BF:List Nat→List Nat→Nat→Nat
 | a::xs,b::bs,t=>if t=a then b else BF xs bs t
 | _,_,t=>t
theorem qo:∀ {xs bs:List Nat},xs.Nodup→xs.length=bs.length→xs.map (BF xs bs)=bs
 | [],[],_,_=>rfl
 | [],_ :: _,_,h=>by cases h
 | _ :: _,[],_,h=>by cases h
 | a::xs,b::bs,hn,hl=>by
  rw [List.nodup_cons] at hn
  have ih:=qo (xs:=xs) (bs:=bs) hn.2 (by simpa using hl)
  simp only [List.map_cons,BF,if_true]
  congr 1
  conv=>rhs; rw [← ih]
  apply List.map_congr_left
  intro t ht
  rw [if_neg (fun (e:t=a)=>hn.1 (by rw [← e]; exact ht))]
theorem nw {f:Nat→Nat} : ∀ {l:List Nat},(l.map f).Nodup→∀ x∈l,∀ y∈l,f x=f y→x=y
 | [],_,x,hx,_,_=>by cases hx
 | a::l,h,x,hx,y,hy=>by
  rw [List.map_cons,List.nodup_cons] at h
  intro e
  have hm:∀ z∈l,f z≠f a:=fun z hz e=>h.1 (by rw [← e]; exact List.mem_map_of_mem hz)
  rcases List.mem_cons.1 hx with h1 | h1
  ·rcases List.mem_cons.1 hy with h2 | h2
   ·rw [h1,h2]
   ·exact absurd (by rw [← e,h1]) (hm y h2)
  ·rcases List.mem_cons.1 hy with h2 | h2
   ·exact absurd (by rw [e,h2]) (hm x h1)
   ·exact nw h.2 x h1 y h2 e
theorem kW {τ : Nat→Nat} : ∀ {xs bs:List (List Nat)},xs.map List.length=bs.map List.length→(aw xs).map τ = aw bs→xs.map (·.map τ)=bs
 | [],[],_,_=>rfl
 | [],_ :: _,h,_=>by cases h
 | _ :: _,[],h,_=>by cases h
 | a::xs,b::bs,hl,h=>by
  simp only [List.map_cons,List.cons.injEq] at hl
  simp only [aw,List.map_append] at h
  obtain ⟨h1,h2⟩:=List.append_inj h (by simpa using hl.1)
  rw [List.map_cons,h1,kW hl.2 h2]
theorem lL:∀ {ps:List PT} {xs bs:List (List Nat)},cY ps xs→cY ps bs→xs.map List.length=bs.map List.length
 | [],[],[],_,_=>rfl
 | [],_ :: _,_,h,_=>h.elim
 | [],[],_ :: _,_,h=>h.elim
 | _ :: _,[],_,h,_=>h.elim
 | _ :: _,_ :: _,[],_,h=>h.elim
 | p::ps,a::xs,b::bs,h1,h2=>by simp only [List.map_cons,h1.1,h2.1,lL h1.2 h2.2]
theorem mu:∀ {ls:List IB} {xs bs:List (List Nat)},dB ls xs→dB ls bs→xs.map List.length=bs.map List.length
 | [],[],[],_,_=>rfl
 | [],_ :: _,_,h,_=>h.elim
 | [],[],_ :: _,_,h=>h.elim
 | _ :: _,[],_,h,_=>h.elim
 | _ :: _,_ :: _,[],_,h=>h.elim
 | p::ps,a::xs,b::bs,h1,h2=>by simp only [List.map_cons,h1.1,h2.1,mu h1.2 h2.2]
theorem iP:∀ {xs bs:List (List Nat)},xs.map List.length=bs.map List.length→(aw xs).length=(aw bs).length
 | [],[],_=>rfl
 | [],_ :: _,h=>by cases h
 | _ :: _,[],h=>by cases h
 | a::xs,b::bs,h=>by
  simp only [List.map_cons,List.cons.injEq] at h
  simp only [aw,List.length_append,h.1,iP h.2]
theorem om:∀ (ps:List PT) (i:Nat),cY ps (au i ps)
 | [],_=>trivial
 | p::ps,i=>⟨by cases p <;> first | rfl | simp [ep,PT.nI],om ps (i + 1)⟩
mutual
theorem dN (τ : Nat→Nat) : ∀ q:PV,clean q=true→em τ q=q∧ao q = []
 | .junk,_=>⟨rfl,rfl⟩
 | .d _,_=>⟨rfl,rfl⟩
 | .fe _,_=>⟨rfl,rfl⟩
 | .ptr _ _,h=>by cases h
 | .row _ _,h=>by cases h
 | .re _ _ _ _,h=>by cases h
 | .vw _ _ _ _,h=>by cases h
 | .ag cs,h=>by simp only [em,ao]; rw [(cr τ cs h).1,(cr τ cs h).2]; exact ⟨rfl,rfl⟩
 | .tup cs,h=>by simp only [em,ao]; rw [(cr τ cs h).1,(cr τ cs h).2]; exact ⟨rfl,rfl⟩
 | .fn f ps qs,h=>by
  have h:(ba ps&&ba qs)=true:=h
  rw [Bool.and_eq_true] at h
  simp only [em,ao]; rw [(cr τ ps h.1).1,(cr τ qs h.2).1,(cr τ ps h.1).2,(cr τ qs h.2).2]; exact ⟨rfl,rfl⟩
theorem cr (τ : Nat→Nat) : ∀ cs:List PV,ba cs=true→ck τ cs=cs∧aC cs = []
 | [],_=>⟨rfl,rfl⟩
 | c::cs,h=>by
  simp only [ba,Bool.and_eq_true] at h
  simp only [ck,aC]; rw [(dN τ c h.1).1,(cr τ cs h.2).1,(dN τ c h.1).2,(cr τ cs h.2).2]; exact ⟨rfl,rfl⟩
end
theorem qN (τ : Nat→Nat) : ∀ (rows:List (Nat×Nat×Nat×Ty)) (is:List Nat) (j:Nat),gr (eh rows (is.map τ)) j=(gr (eh rows is) j).map fun r=>(τ r.1,r.2)
 | [],is,j=>by cases is <;> rfl
 | (j0,e,k,t)::rows,[],j=>rfl
 | (j0,e,k,t)::rows,R::is,j=>by
  simp only [List.map_cons,eh,gr]
  split
  ·rfl
  ·exact qN τ rows is j
theorem tJ (τ : Nat→Nat) (rows:List (Nat×Nat×Nat×Ty)) (is:List Nat) : ∀ (ds:List D) (j:Nat),b5 (eh rows (is.map τ)) j ds=ck τ (b5 (eh rows is) j ds)
 | [],_=>rfl
 | d::ds,j=>by
  simp only [b5,ck,tJ τ rows is ds (j + 1),qN]
  congr 1
  cases gr (eh rows is) j with
  | none=>rfl
  | some r =>
   obtain ⟨R,e,k,t⟩:=r
   cases d <;> rfl
theorem nn (τ : Nat→Nat) (rows:List (Nat×Nat×Nat×Ty)) (is:List Nat) : ∀ (ds:List D) (j:Nat),aQ (eh rows (is.map τ)) j ds=ej τ (aQ (eh rows is) j ds)
 | [],_=>rfl
 | d::ds,j=>by
  simp only [aQ,qN]
  cases gr (eh rows is) j with
  | none=>exact nn τ rows is ds (j + 1)
  | some r =>
   obtain ⟨R,e,k,t⟩:=r
   cases d with
   | v=>exact nn τ rows is ds (j + 1)
   | sl es=>simp only [Option.map_some,ej,nn τ rows is ds (j + 1)]; rfl
theorem j3 (τ : Nat→Nat) : ∀ (a b:BU),ej τ (a++b)=ej τ a++ej τ b
 | [],b=>rfl
 | (t,B)::a,b=>by simp only [List.cons_append,ej,j3 τ a b]
theorem cO:∀ (a b:BU),aJ (a++b)=aJ a++aJ b
 | [],b=>rfl
 | (t,B)::a,b=>by simp only [List.cons_append,aJ,cO a b]
theorem vY (τ : Nat→Nat) : ∀ (a:BU),aJ (ej τ a)=(aJ a).map τ
 | []=>rfl
 | (t,B)::a=>by simp only [ej,aJ,vY τ a,List.map_cons]
theorem tx (τ : Nat→Nat) (p:PT) (is:List Nat) (x:p.den) : toI p (is.map τ) x=(em τ (toI p is x).1,ej τ (toI p is x).2):=by
 cases p with
 | io=>rfl
 | lf t=>simp only [toI]; rw [(dN τ _ (bT (.lf t) x)).1]; rfl
 | ag t=>simp only [toI]; rw [(dN τ _ (bT (.ag t) x)).1]; rfl
 | pl t=>simp only [toI]; rw [(dN τ _ (bT (.pl t) x)).1]; rfl
 | ps t=>simp only [toI]; rw [(dN τ _ (bT (.ps t) x)).1]; rfl
 | fn f a b=>simp only [toI]; rw [(dN τ _ (bT (.fn f a b) x)).1]; rfl
 | own e k t=>match is with
  | []=>rfl
  | [i]=>rfl
  | _ :: _ :: _=>rfl
 | mv e k t=>match is with
  | []=>rfl
  | [i]=>rfl
  | _ :: _ :: _=>rfl
 | bx ty n rows=>match is with
  | []=>rfl
  | i::is=>simp only [toI,List.map_cons,tJ,nn]; rfl
 | agr n rows=>simp only [toI,tJ,nn]; rfl
theorem uQ (τ : Nat→Nat) : ∀ (ps:List PT) (iss:List (List Nat)) (x:bb ps),bQ ps (iss.map (·.map τ)) x=(ck τ (bQ ps iss x).1,ej τ (bQ ps iss x).2)
 | [],iss,x=>by cases iss <;> rfl
 | p::ps,[],x=>rfl
 | p::ps,is::iss,x=>by simp only [List.map_cons,bQ,tx,uQ τ ps iss x.2,ck,j3]
theorem nf (τ : Nat→Nat) : ∀ (rs:List PT) (iss:List (List Nat)) (x:aq rs),be rs (iss.map (·.map τ)) x=(ck τ (be rs iss x).1,ej τ (be rs iss x).2)
 | [],iss,x=>by cases iss <;> rfl
 | [p],[],x=>rfl
 | [p],is::iss,x=>by
  have h:=tx τ p is x
  show ([(toI p (is.map τ) x).1],(toI p (is.map τ) x).2)=([em τ (toI p is x).1],ej τ (toI p is x).2)
  exact congrArg (fun z:PV×BU=>([z.1],z.2)) h
 | p::q::l,[],x=>rfl
 | p::q::l,is::iss,x=>by
  have h1:=tx τ p is x.1
  have h2:=nf τ (q::l) iss x.2
  have h3:((toI p (is.map τ) x.1).1::(be (q::l) (iss.map (·.map τ)) x.2).1,(toI p (is.map τ) x.1).2++(be (q::l) (iss.map (·.map τ)) x.2).2)=(em τ (toI p is x.1).1::ck τ (be (q::l) iss x.2).1,ej τ (toI p is x.1).2++ej τ (be (q::l) iss x.2).2) :=
   congr (f₁:=fun (y:List PV×BU)=>((toI p (is.map τ) x.1).1::y.1,(toI p (is.map τ) x.1).2++y.2)) (f₂:=fun (y:List PV×BU)=>(em τ (toI p is x.1).1::y.1,ej τ (toI p is x.1).2++y.2)) (congrArg (fun (z:PV×BU) (y:List PV×BU)=>(z.1::y.1,z.2++y.2)) h1) h2
  refine h3.trans ?_
  rw [← j3]; rfl
theorem C9 (τ : Nat→Nat) (qs:List PV) : em τ (mF qs)=mF (ck τ qs):=by
 match qs with
 | []=>rfl
 | [q]=>rfl
 | q::q' :: qs=>rfl
theorem uP (τi τ : Nat→Nat) : ∀ (ps:List PT) (ls:List IB) (i:Nat) (iss kss:List (List Nat)) (x:bb ps) (o:mD ls),xa ps ls=true→cY ps iss→dB ls kss→(∀ s∈bF i ls,τ s = τi s)→(au i ps).map (·.map τi)=iss→wD ps ls iss (kss.map (·.map τ)) x o=ej τ (i7 i ls kss o)
 | [],[],i,iss,kss,x,o,_,_,_,_,_=>rfl
 | [],_ :: _,_,_,_,_,_,h,_,_,_,_=>by cases h
 | _ :: _,[],_,_,_,_,_,h,_,_,_,_=>by cases h
 | p::ps,b::ls,i,[],kss,x,o,_,h,_,_,_=>h.elim
 | p::ps,b::ls,i,is::iss,[],x,o,_,_,h,_,_=>h.elim
 | p::ps,b::ls,i,is::iss,js::kss,x,o,hio,hs,hk,hkk,he=>by
  simp only [xa] at hio
  split at hio
  ·rename_i h1
   simp only [au,List.map_cons,List.cons.injEq] at he
   obtain ⟨e1,e2⟩:=he
   have hk2:∀ s∈bF (i + 1) ls,τ s = τi s:=fun s hs=>hkk s (by cases b <;> simp [bF,hs])
   have ih:=uP τi τ ps ls (i + 1) iss kss x.2 o.2 hio hs.2 hk.2 hk2 e2
   simp only [List.map_cons,wD,i7,j3,ih]
   congr 1
   cases p with
   | own e k t=>cases b with
    | own e' k' t' =>
     subst e1
     have:=hkk (jS i) (by simp [bF])
     simp only [toO,ep,List.map_cons,List.map_nil,boI,ej,this]; rfl
    | _=>cases h1
   | bx ty n rows=>cases b with
    | bx ty' n' rows' =>
     subst e1
     have:=hkk (jS i) (by simp [bF])
     simp only [toO,ep,List.map_cons,boI,ej,tJ,nn,this]; rfl
    | _=>cases h1
   | mv=>cases b <;> first | rfl | cases h1
   | lf=>cases b <;> first | rfl | cases h1
   | ag=>cases b <;> first | rfl | cases h1
   | pl=>cases b <;> first | rfl | cases h1
   | ps=>cases b <;> first | rfl | cases h1
   | fn=>cases b <;> first | rfl | cases h1
   | agr=>cases h1
   | io=>cases h1
  ·cases hio
def cI (l:BU) : Prop:=∀ t B,(t,B)∈l→∀ s∈u5 B,s∈aJ l
theorem cI.app {a b:BU} (h:cI a) (h':cI b) : cI (a++b):=fun t B hm s hs=>by
 rw [cO,List.mem_append]
 rcases List.mem_append.1 hm with hm | hm
 ·exact .inl (h t B hm s hs)
 ·exact .inr (h' t B hm s hs)
theorem cI.u {l:BU} (h:cI l) : ut l:=fun t B hl=>h t B (fO hl)
theorem tK {rows:List (Nat×Nat×Nat×Nat×Ty)} : ∀ (ds:List D) (j:Nat),∀ s∈aC (b5 rows j ds),s∈aJ (aQ rows j ds)
 | [],_,s,h=>by cases h
 | d::ds,j,s,h=>by
  simp only [b5,aC,List.mem_append] at h
  simp only [aQ]
  have ih:=tK (rows:=rows) ds (j + 1) s
  cases hf:gr rows j with
  | none =>
   rw [hf] at h
   exact ih (h.resolve_left (by simp [ao]))
  | some r =>
   obtain ⟨R,e,k,t⟩:=r
   rw [hf] at h
   cases d with
   | v=>exact ih (h.resolve_left (by simp [ao]))
   | sl es =>
    simp only [aJ,List.mem_cons]
    rcases h with h | h
    ·simp only [ao,List.mem_cons,List.not_mem_nil,or_false] at h; exact .inl h
    ·exact .inr (ih h)
theorem f5 {rows:List (Nat×Nat×Nat×Nat×Ty)} : ∀ (ds:List D) (j:Nat) t B,(t,B)∈aQ rows j ds→u5 B = []∧∃ e k es,B = .rw e k es
 | [],_,t,B,h=>by cases h
 | d::ds,j,t,B,h=>by
  simp only [aQ] at h
  split at h
  ·split at h
   ·rcases List.mem_cons.1 h with e | h
    ·injection e with _ e; subst e; exact ⟨rfl,_,_,_,rfl⟩
    ·exact f5 ds (j + 1) t B h
   ·exact f5 ds (j + 1) t B h
  ·exact f5 ds (j + 1) t B h
theorem sA {rows:List (Nat×Nat×Nat×Nat×Ty)} (i:Nat) (ty:TypeId) (ds:List D) : cI ((i,.st ty (b5 rows 0 ds))::aQ rows 0 ds):=fun t B hm s hs=>by
 simp only [aJ,List.mem_cons]
 rcases List.mem_cons.1 hm with e | hm
 ·injection e with _ e
  subst e
  exact .inr (tK ds 0 s hs)
 ·rw [(f5 ds 0 t B hm).1] at hs; cases hs
theorem lR (i:Nat) (e k:Nat) (t:Ty) (xs:List t.den) : cI [(i,rwU e k t xs)]:=fun t B hm s hs=>by
 simp only [List.mem_cons,List.not_mem_nil,or_false,Prod.mk.injEq] at hm
 rw [hm.2] at hs
 cases hs
theorem bq:cI []:=fun t B hm=>by cases hm
theorem pK (p:PT) (is:List Nat) (x:p.den) : (∀ s∈ao (toI p is x).1,s∈aJ (toI p is x).2)∧cI (toI p is x).2:=by
 have plain:∀ {q:PV},clean q=true→(∀ s∈ao q,s∈aJ [])∧cI []:=fun hq=>⟨fun s h=>(by rw [(dN id _ hq).2] at h; cases h),bq⟩
 cases p with
 | io=>exact ⟨fun s h=>(by cases h),bq⟩
 | lf t=>exact plain (bT (.lf t) x)
 | ag t=>exact plain (bT (.ag t) x)
 | pl t=>exact plain (bT (.pl t) x)
 | ps t=>exact plain (bT (.ps t) x)
 | fn f a b=>exact plain (bT (.fn f a b) x)
 | own e k t=>match is with
  | []=>exact ⟨fun s h=>(by cases h),bq⟩
  | [i]=>exact ⟨fun s h=>h,lR i e k t x⟩
  | _ :: _ :: _=>exact ⟨fun s h=>(by cases h),bq⟩
 | mv e k t=>match is with
  | []=>exact ⟨fun s h=>(by cases h),bq⟩
  | [i]=>exact ⟨fun s h=>h,lR i e k t x⟩
  | _ :: _ :: _=>exact ⟨fun s h=>(by cases h),bq⟩
 | bx ty n rows=>match is with
  | []=>exact ⟨fun s h=>(by cases h),bq⟩
  | i::is=>exact ⟨fun s h=>by simp only [toI,ao,List.mem_cons,List.not_mem_nil,or_false] at h; simp only [toI,aJ,List.mem_cons]; exact .inl h,sA i ty _⟩
 | agr n rows=>exact ⟨fun s h=>tK _ 0 s h,fun t B hm s hs=>by rw [(f5 _ 0 t B hm).1] at hs; cases hs⟩
theorem sz:∀ (ps:List PT) (iss:List (List Nat)) (x:bb ps),(∀ s∈aC (bQ ps iss x).1,s∈aJ (bQ ps iss x).2)∧cI (bQ ps iss x).2
 | [],iss,x=>⟨fun s h=>(by cases h),bq⟩
 | p::ps,[],x=>⟨fun s h=>(by cases h),bq⟩
 | p::ps,is::iss,x=>by
  obtain ⟨h1,h2⟩:=pK p is x.1
  obtain ⟨h3,h4⟩:=sz ps iss x.2
  refine ⟨fun s h=>?_,h2.app h4⟩
  simp only [bQ,aC,List.mem_append] at h
  simp only [bQ,cO,List.mem_append]
  exact h.imp (h1 s) (h3 s)
theorem pI:∀ (rs:List PT) (iss:List (List Nat)) (x:aq rs),(∀ s∈aC (be rs iss x).1,s∈aJ (be rs iss x).2)∧cI (be rs iss x).2
 | [],iss,x=>⟨fun s h=>(by cases h),bq⟩
 | [p],[],x=>⟨fun s h=>(by cases h),bq⟩
 | [p],is::iss,x=>by
  obtain ⟨h1,h2⟩:=pK p is (show p.den from x)
  refine ⟨fun s h=>?_,h2⟩
  have h:s∈ao (toI p is (show p.den from x)).1 ++ []:=h
  rw [List.append_nil] at h
  exact h1 s h
 | p::q::l,[],x=>⟨fun s h=>(by cases h),bq⟩
 | p::q::l,is::iss,x=>by
  obtain ⟨h1,h2⟩:=pK p is x.1
  obtain ⟨h3,h4⟩:=pI (q::l) iss x.2
  refine ⟨fun s h=>?_,h2.app h4⟩
  have h:s∈ao (toI p is x.1).1++aC (be (q::l) iss x.2).1:=h
  show s∈aJ ((toI p is x.1).2++(be (q::l) iss x.2).2)
  rw [cO,List.mem_append]
  exact (List.mem_append.1 h).imp (h1 s) (h3 s)
theorem Bw (qs:List PV) : ∀ s∈ao (mF qs),s∈aC qs:=by
 match qs with
 | []=>exact fun s h=>by cases h
 | [q]=>exact fun s h=>by simpa [aC,mF] using h
 | q::q' :: qs=>exact fun s h=>h
theorem sw:∀ {rs:List PT} {iss:List (List Nat)} {x:aq rs} {t:Nat},t∈aJ (be rs iss x).2→t∈aw iss
 | [],iss,x,t,h=>by cases h
 | [p],[],x,t,h=>by cases h
 | [p],is::iss,x,t,h=>by
  have h:t∈aJ (toI p is (show p.den from x)).2:=h
  rw [iX,List.mem_append]
  obtain ⟨B,hB⟩:=bc.1 h
  exact .inl (tz (fO hB))
 | p::q::l,[],x,t,h=>by cases h
 | p::q::l,is::iss,x,t,h=>by
  have h:t∈aJ ((toI p is x.1).2++(be (q::l) iss x.2).2):=h
  rw [cO,List.mem_append] at h
  rw [iX,List.mem_append]
  rcases h with h | h
  ·obtain ⟨B,hB⟩:=bc.1 h
   exact .inl (tz (fO hB))
  ·exact .inr (sw h)
theorem DG (i:Nat) (b:IB) (js:List Nat) (o:b.den) : cI (boI i b js o)∧∀ t∈aJ (boI i b js o),t=jS i∧b≠.no∨t∈js:=by
 cases b with
 | no=>exact ⟨bq,fun t h=>by cases h⟩
 | own e k t=>exact ⟨lR _ _ _ _ _,fun t' h=>by simp only [boI,aJ,List.mem_cons,List.not_mem_nil,or_false] at h; exact .inl ⟨h,fun e=>by cases e⟩⟩
 | bx ty n rows =>
  refine ⟨sA _ _ _,fun t h=>?_⟩
  simp only [boI,aJ,List.mem_cons] at h
  rcases h with h | h
  ·exact .inl ⟨h,fun e=>by cases e⟩
  ·obtain ⟨B,hB⟩:=bc.1 h
   exact .inr (lN (fO hB))
theorem ki {i:Nat} {b:IB} {ls:List IB} {s:Nat} : s∈bF i (b::ls)↔(s=jS i∧b≠.no)∨s∈bF (i + 1) ls:=by
 cases b <;> simp [bF]
theorem rF:∀ (ls:List IB) (i:Nat) (kss:List (List Nat)) (o:mD ls),dB ls kss→cI (i7 i ls kss o)∧(∀ t∈aJ (i7 i ls kss o),t∈bF i ls∨t∈aw kss)∧∀ t∈bF i ls,t∈aJ (i7 i ls kss o)
 | [],i,kss,o,_=>⟨bq,fun t h=>(by cases h),fun t h=>by cases h⟩
 | b::ls,i,[],o,h=>h.elim
 | b::ls,i,js::kss,o,h=>by
  obtain ⟨h1,h2⟩:=DG i b js o.1
  obtain ⟨h3,h4,h5⟩:=rF ls (i + 1) kss o.2 h.2
  refine ⟨h1.app h3,fun t ht=>?_,fun t ht=>?_⟩
  ·simp only [i7,cO,List.mem_append] at ht
   rw [ki,iX,List.mem_append]
   rcases ht with ht | ht
   ·rcases h2 t ht with h6 | h6
    ·exact .inl (.inl h6)
    ·exact .inr (.inl h6)
   ·rcases h4 t ht with h6 | h6
    ·exact .inl (.inr h6)
    ·exact .inr (.inr h6)
  ·rw [ki] at ht
   simp only [i7,cO,List.mem_append]
   rcases ht with ⟨rfl,hb⟩ | ht
   ·left
    cases b with
    | no=>exact absurd rfl hb
    | own=>simp [boI,aJ]
    | bx=>simp [boI,aJ]
   ·exact .inr (h5 t ht)
theorem vz:∀ (ls:List IB) (i:Nat),∀ s∈bF i ls,1000000≤s
 | [],i,s,h=>by cases h
 | b::ls,i,s,h=>by
  rw [ki] at h
  rcases h with ⟨rfl,_⟩ | h
  ·unfold jS; omega
  ·exact vz ls (i + 1) s h
theorem oh:∀ (ps:List PT) (ls:List IB) (i:Nat) (x:bb ps),xa ps ls=true →
  (∀ s∈bF i ls,s∈aJ (bQ ps (au i ps) x).2)∧∀ t B,(t,B)∈(bQ ps (au i ps) x).2→t ∉ bF i ls→(∃ e k es,B = .rw e k es)∧t∈fG ps (au i ps)
 | [],[],i,x,_=>⟨fun s h=>(by cases h),fun t B h=>by cases h⟩
 | [],_ :: _,_,_,h=>by cases h
 | _ :: _,[],_,_,h=>by cases h
 | p::ps,b::ls,i,x,hio=>by
  simp only [xa] at hio
  split at hio
  ·rename_i h1
   obtain ⟨k1,k2⟩:=oh ps ls (i + 1) x.2 hio
   have head:(b≠.no→jS i∈aJ (toI p (ep i p) x.1).2)∧∀ t B,(t,B)∈(toI p (ep i p) x.1).2→¬ (t=jS i∧b≠.no)→(∃ e k es,B = .rw e k es)∧t∈qF p (ep i p):=by
    cases p with
    | own e k t=>cases b with
     | own e' k' t' =>
      refine ⟨fun _=>by simp [toI,ep,aJ],fun t B hm hn=>?_⟩
      simp only [toI,ep,List.mem_cons,List.not_mem_nil,or_false,Prod.mk.injEq] at hm
      exact absurd ⟨hm.1,fun e=>by cases e⟩ hn
     | _=>cases h1
    | mv e k t=>cases b with
     | no =>
      refine ⟨fun h=>absurd rfl h,fun t B hm _=>?_⟩
      simp only [toI,ep,List.mem_cons,List.not_mem_nil,or_false,Prod.mk.injEq] at hm
      obtain ⟨rfl,rfl⟩:=hm
      exact ⟨⟨_,_,_,rfl⟩,by simp [qF,ep]⟩
     | _=>cases h1
    | bx ty n rows=>cases b with
     | bx ty' n' rows' =>
      refine ⟨fun _=>by simp [toI,ep,aJ],fun t B hm hn=>?_⟩
      simp only [toI,ep] at hm
      rcases List.mem_cons.1 hm with e | hm
      ·injection e with e _
       exact absurd ⟨e,fun e=>by cases e⟩ hn
      ·exact ⟨(f5 _ 0 t B hm).2,lN hm⟩
     | _=>cases h1
    | lf=>cases b <;> first | exact ⟨fun h=>absurd rfl h,fun t B hm=>by cases hm⟩ | cases h1
    | ag=>cases b <;> first | exact ⟨fun h=>absurd rfl h,fun t B hm=>by cases hm⟩ | cases h1
    | pl=>cases b <;> first | exact ⟨fun h=>absurd rfl h,fun t B hm=>by cases hm⟩ | cases h1
    | ps=>cases b <;> first | exact ⟨fun h=>absurd rfl h,fun t B hm=>by cases hm⟩ | cases h1
    | fn=>cases b <;> first | exact ⟨fun h=>absurd rfl h,fun t B hm=>by cases hm⟩ | cases h1
    | agr=>cases h1
    | io=>cases h1
   refine ⟨fun s hs=>?_,fun t B hm hn=>?_⟩
   ·simp only [au,bQ,cO,List.mem_append]
    rcases ki.1 hs with ⟨rfl,h⟩ | h
    ·exact .inl (head.1 h)
    ·exact .inr (k1 s h)
   ·simp only [au,bQ] at hm
    simp only [au,fG,List.mem_append]
    rw [ki,not_or] at hn
    rcases List.mem_append.1 hm with hm | hm
    ·obtain ⟨q1,q2⟩:=head.2 t B hm hn.1
     exact ⟨q1,.inl q2⟩
    ·obtain ⟨q1,q2⟩:=k2 t B hm hn.2
     exact ⟨q1,.inr q2⟩
  ·cases hio
theorem sN (τ : Nat→Nat) : ∀ (ps:List PT) (iss:List (List Nat)),fG ps (iss.map (·.map τ))=(fG ps iss).map τ
 | [],iss=>by cases iss <;> rfl
 | p::ps,[]=>rfl
 | p::ps,is::iss=>by
  simp only [List.map_cons,fG,sN τ ps iss,List.map_append]
  congr 1
  cases p with
  | bx=>cases is <;> rfl
  | _=>rfl
theorem qD:∀ (ps:List PT) (iss:List (List Nat)),∀ s∈fG ps iss,s∈aw iss
 | [],iss,s,h=>by cases iss <;> cases h
 | p::ps,[],s,h=>by cases h
 | p::ps,is::iss,s,h=>by
  simp only [fG,List.mem_append] at h
  rw [iX,List.mem_append]
  rcases h with h | h
  ·left
   cases p with
   | mv=>exact h
   | bx=>cases is with
    | nil=>cases h
    | cons a is=>exact List.mem_cons_of_mem _ h
   | _=>cases h
  ·exact .inr (qD ps iss s h)
theorem qE (l:BU) : ∀ (is:List Nat) (t:Nat),lkU (oB l is) t=if t∈is then some (match lkU l t with | some B=>DP B | none=>.st 0 []) else none
 | [],t=>rfl
 | a::is,t=>by
  simp only [oB,lkU]
  by_cases h:t=a
  ·subst h; simp only [if_true,List.mem_cons,true_or]; rfl
  ·simp only [h,if_false,List.mem_cons,false_or]; exact qE l is t
theorem tW (a b:BU) (t:Nat) : lkU (a++b) t=match lkU a t with | some B=>some B | none=>lkU b t:=by
 induction a with
 | nil=>rfl
 | cons x a ih =>
  obtain ⟨j,B⟩:=x
  simp only [List.cons_append,lkU]
  split
  ·rfl
  ·exact ih
theorem DE {P:Program} {f:FuncId} {ps rs:List PT} {x:bb ps} {r:aq rs} (hio:xa ps (aX rs)=true) (hlen:vu ps (aX rs) x (dr rs r)) (hn0:(aw (au 0 ps)).Nodup) (hgk:∀ s∈fG ps (au 0 ps),s ∉ bF 0 (aX rs))
  (h:PCm P f (bQ ps (au 0 ps) x).1 (bQ ps (au 0 ps) x).2 (bF 0 (aX rs)) fun q bo=>∃ kss jss,dB (aX rs) kss∧cY (ci rs) jss∧(bF 0 (aX rs)++(aw kss++aw jss)).Nodup∧q=mF (be (ci rs) jss (cZ rs r)).1∧bo=i7 0 (aX rs) kss (dr rs r)++(be (ci rs) jss (cZ rs r)).2) : Fc P f ps rs x r:=by
 refine ⟨hlen,fun iss kss jss hsi hsk hsj hnd hlt hall=>⟨h.1,fun w0 F0 ρ b w F vs args hargs hb hbn hi hv=>?_⟩⟩
 have hK:=oh ps (aX rs) 0 x hio
 have hl0:=lL (om ps 0) hsi
 let τi:=BF (aw (au 0 ps)) (aw iss)
 have e1:(aw (au 0 ps)).map τi=aw iss:=qo hn0 (iP hl0)
 have e2:(au 0 ps).map (·.map τi)=iss:=kW hl0 e1
 obtain ⟨n1,n2,n3⟩:=List.nodup_append.1 hnd
 have hinj:∀ s∈aw (au 0 ps),∀ s'∈aw (au 0 ps),τi s = τi s'→s=s':=nw (by rw [e1]; exact n1)
 have hdom:∀ s∈aJ (bQ ps (au 0 ps) x).2,s∈aw (au 0 ps):=fun s hs=>by
  obtain ⟨B,hB⟩:=bc.1 hs
  exact pJ (fO hB)
 have hren:=uQ τi ps (au 0 ps) x
 rw [e2] at hren
 have hfl:∀ s∈aw (au 0 ps),s∈aJ (bQ ps (au 0 ps) x).2:=fun s hs=>by
  have h1 : τi s∈aw iss:=by rw [← e1]; exact List.mem_map_of_mem hs
  have h2:=hall _ h1
  rw [hren] at h2
  simp only [vY] at h2
  obtain ⟨s',h3,h4⟩:=List.mem_map.1 h2
  rw [← hinj s' (hdom s' h3) s hs h4]
  exact h3
 have hii:∀ s∈aJ (bQ ps (au 0 ps) x).2,∀ s'∈aJ (bQ ps (au 0 ps) x).2,τi s = τi s'→s=s':=fun s h1 s' h2=>hinj s (hdom s h1) s' (hdom s' h2)
 have hcl:=sz ps (au 0 ps) x
 refine Cy (τi:=τi) (N:=aw kss++aw jss) (u:=gm ps rs iss kss jss x r) h hii ?_ hlt hcl.1 (by rw [hargs,hren]) hcl.2.u w0 F0 ρ b w F vs (fun s B hs=>?_) hbn hi hv
 rotate_left
 ·have:=pm (σ:=τi) hii hs
  rw [show ej τi (bQ ps (au 0 ps) x).2=(bQ ps iss x).2 from by rw [hren]] at this
  exact hb _ _ this
 rintro q bo ⟨kss0,jss0,m1,m2,m3,rfl,rfl⟩
 have hl1:=mu m1 hsk
 have hl2:=lL m2 hsj
 have hKf:∀ s∈bF 0 (aX rs),s∈aw (au 0 ps):=fun s hs=>hdom s (hK.1 s hs)
 have ⟨p1,p2,p3⟩:=List.nodup_append.1 m3
 have hKn:((bF 0 (aX rs)).map τi).Nodup:=by
  have:∀ l:List Nat,l.Nodup→(∀ s∈l,s∈aw (au 0 ps))→(l.map τi).Nodup:=fun l=>by
   induction l with
   | nil=>intro _ _; exact List.nodup_nil
   | cons a l ih =>
    intro hn hs
    rw [List.nodup_cons] at hn
    rw [List.map_cons,List.nodup_cons]
    refine ⟨fun hm=>?_,ih hn.2 fun s h=>hs s (List.mem_cons_of_mem _ h)⟩
    obtain ⟨s,h1,h2⟩:=List.mem_map.1 hm
    have:=hinj s (hs s (List.mem_cons_of_mem _ h1)) a (hs a List.mem_cons_self) h2
    rw [this] at h1
    exact hn.1 h1
  exact this _ p1 hKf
 have htg:((bF 0 (aX rs)).map τi++(aw kss++aw jss)).Nodup:=by
  refine List.nodup_append.2 ⟨hKn,n2,fun a ha b' hb'=>?_⟩
  obtain ⟨s,h1,rfl⟩:=List.mem_map.1 ha
  exact n3 _ (by rw [← e1]; exact List.mem_map_of_mem (hKf s h1)) _ hb'
 let τ:=BF (bF 0 (aX rs)++(aw kss0++aw jss0)) ((bF 0 (aX rs)).map τi++(aw kss++aw jss))
 have et:(bF 0 (aX rs)++(aw kss0++aw jss0)).map τ = (bF 0 (aX rs)).map τi++(aw kss++aw jss):=qo m3 (by simp [iP hl1,iP hl2])
 have hinjo:=nw (f:=τ) (l:=bF 0 (aX rs)++(aw kss0++aw jss0)) (by rw [et]; exact htg)
 have et2:=et
 rw [List.map_append,List.map_append] at et2
 obtain ⟨q1,q2⟩:=List.append_inj et2 (by simp)
 obtain ⟨q2,q3⟩:=List.append_inj q2 (by simp [iP hl1])
 have hτK:∀ s∈bF 0 (aX rs),τ s = τi s:=List.map_inj_left.1 q1
 have b1:=kW hl1 q2
 have b2:=kW hl2 q3
 obtain ⟨c1,c2,c3⟩:=rF (aX rs) 0 kss0 (dr rs r) m1
 have hbo:∀ s∈aJ (i7 0 (aX rs) kss0 (dr rs r)++(be (ci rs) jss0 (cZ rs r)).2),s∈bF 0 (aX rs)∨s∈aw kss0++aw jss0:=fun s hs=>by
  rw [cO,List.mem_append] at hs
  rw [List.mem_append]
  rcases hs with hs | hs
  ·rcases c2 s hs with h | h
   ·exact .inl h
   ·exact .inr (.inl h)
  ·exact .inr (.inr (sw hs))
 have hbo':∀ s∈aJ (i7 0 (aX rs) kss0 (dr rs r)++(be (ci rs) jss0 (cZ rs r)).2),s∈bF 0 (aX rs)++(aw kss0++aw jss0):=fun s hs=>List.mem_append.2 (hbo s hs)
 have hnewm:∀ s∈aw kss0++aw jss0,τ s∈aw kss++aw jss:=fun s hs=>by
  rw [← q2,← q3,← List.map_append]
  exact List.mem_map_of_mem hs
 have hoo:∀ s∈aJ (i7 0 (aX rs) kss0 (dr rs r)++(be (ci rs) jss0 (cZ rs r)).2),∀ s'∈aJ (i7 0 (aX rs) kss0 (dr rs r)++(be (ci rs) jss0 (cZ rs r)).2),τ s = τ s'→s=s':=fun s h1 s' h2=>hinjo s (hbo' s h1) s' (hbo' s' h2)
 have hfit:Fb τi τ (bQ ps (au 0 ps) x).2 (i7 0 (aX rs) kss0 (dr rs r)++(be (ci rs) jss0 (cZ rs r)).2) (bF 0 (aX rs)):=by
  refine ⟨hii,hoo,fun s hs s' hs' e=>?_,fun s hs=>⟨hK.1 s hs,by rw [cO,List.mem_append]; exact .inl (c3 s hs),(hτK s hs).symm⟩⟩
  rcases hbo s' hs' with h1 | h1
  ·rw [hτK s' h1] at e
   have:=hii s hs s' (hK.1 s' h1) e
   subst this
   exact ⟨rfl,h1⟩
  ·exact absurd e (n3 _ (by rw [← e1]; exact List.mem_map_of_mem (hdom s hs)) _ (hnewm s' h1))
 have hgo:fG ps iss=(fG ps (au 0 ps)).map τi:=by rw [← sN,e2]
 have hu:gm ps rs iss kss jss x r=ej τ (i7 0 (aX rs) kss0 (dr rs r)++(be (ci rs) jss0 (cZ rs r)).2)++oB (ej τi (bQ ps (au 0 ps) x).2) (fG ps iss):=by
  unfold gm
  rw [hren]
  have h1:=uP τi τ ps (aX rs) 0 iss kss0 x (dr rs r) hio hsi m1 hτK e2
  rw [b1] at h1
  have h2:=nf τ (ci rs) jss0 (cZ rs r)
  rw [b2] at h2
  rw [h1,h2,j3,List.append_assoc]
 refine ⟨τ,hfit,⟨fun s B hs=>?_,fun s B hs hk=>?_,fun i B hB=>?_⟩,?_,fun s hs hk=>?_⟩
 ·rw [hu,tW,pm hoo hs]
 ·have hm:=fO hs
  obtain ⟨⟨e,k,es,rfl⟩,hg⟩:=hK.2 s B hm hk
  have hnone:lkU (ej τ (i7 0 (aX rs) kss0 (dr rs r)++(be (ci rs) jss0 (cZ rs r)).2)) (τi s)=none:=by
   cases hl:lkU (ej τ (i7 0 (aX rs) kss0 (dr rs r)++(be (ci rs) jss0 (cZ rs r)).2)) (τi s) with
   | none=>rfl
   | some C =>
    obtain ⟨s',h1,h2⟩:=kg hl
    exact absurd (hfit.io s (bc.2 ⟨_,hs⟩) s' h1 h2).2 hk
  refine ⟨e,k,es,es ++ [[]],rfl,?_,by simp⟩
  rw [hu,tW,hnone]
  simp only
  rw [qE,if_pos (by rw [hgo]; exact List.mem_map_of_mem hg),pm hii hs]
  rfl
 ·rw [hu,tW] at hB
  split at hB
  ·rename_i C hC
   obtain ⟨s',h1,h2⟩:=kg hC
   exact .inl ⟨s',h1,h2⟩
  ·rw [qE] at hB
   split at hB
   ·rename_i hm
    rw [hgo] at hm
    obtain ⟨s,h1,h2⟩:=List.mem_map.1 hm
    exact .inr ⟨s,hfl s (qD _ _ s h1),hgk s h1,h2.symm⟩
   ·cases hB
 ·have h2:=nf τ (ci rs) jss0 (cZ rs r)
  rw [b2] at h2
  rw [C9,h2]
 ·exact hnewm s ((hbo s hs).resolve_left hk)
theorem yT {P:Program} {T:List (Nat×Ent)} {n:Nat} {ps rs:List PT} {vars:List ResultVar} {fz:List (Nat×List Nat)} {sc:List Nat} {fb:List (Nat×List Nat)} {h:jU} {f:FuncId} {fn:Func} {c:Code} (hT:hZ P T) (hm:P.follows .mixedOrders=true) (hf:P.funcs[f]? = some fn) (hb:fn.body=some c) (hcb:bV P f=true) (hn:fn.ntmps=n) (hv:fn.results.toList=vars)
  (hl:(decide (ps.length≤n)&&(jk ps&&(fV rs&&(xa ps (aX rs)&&(jm (aw (au 0 ps))&&s8 (fG ps (au 0 ps)) (bF 0 (aX rs)))))))=true)
  {F:bb ps→Option (aq rs)} (hlen:∀ x r,F x=some r→vu ps (aX rs) x (dr rs r)) (hF:∀ x,xX ⟨P,T,n,rs,vars,fz,sc,fb⟩ c h ps x=F x) : aM P f ps rs F:=by
 intro x r hx
 simp only [Bool.and_eq_true] at hl
 obtain ⟨hl1,hl2,hl3,hl4,hl5,hl6⟩:=hl
 refine ⟨fun hnM=>(by rw [Bool.or_eq_false_iff,hl3] at hnM; cases hnM.2),fun _=>?_⟩
 have hln:=hlen x r hx
 rw [← hF] at hx
 have hlen:=zd hl1
 subst hn
 unfold xX at hx
 split at hx
 rotate_left
 ·cases hx
 rename_i vs bx hen
 obtain ⟨hnd,hx⟩:=aa hx
 have hseen:lc bx bx:=by have:=pd (l':=[]) (dg hnd); rw [List.append_nil] at this; exact this
 obtain ⟨hal,hargs⟩:=qT (G:=[]) hl2 hen hseen
 have halen:(bQ ps (au 0 ps) x).1.length=ps.length:=by
  have:∀ (ps:List PT) (i:Nat) (x:bb ps),(bQ ps (au i ps) x).1.length=ps.length:=fun ps=>by
   induction ps with
   | nil=>intro i x; rfl
   | cons p ps ih=>intro i x; simp only [au,bQ,List.length_cons,ih]
  exact this ps 0 x
 refine DE hl4 hln (dg hl5) (fun s hs hk=>?_) ?_
 ·have:=jz hl6 s (bU.2 hs)
  rw [mJ] at this
  exact this hk
 refine zx hf hb hcb (by rw [halen]; exact hlen) (vz _ 0) ?_
 have hs:cJ ⟨n5 0 vs,bx,[],false,[]⟩ ⟨eo (bQ ps (au 0 ps) x).1,lkU (bQ ps (au 0 ps) x).2⟩:=by
  refine ⟨fun i=>?_,fun t b hbl=>?_⟩
  ·show an bx (lkV (n5 0 vs) i) (eo (bQ ps (au 0 ps) x).1 i)
   have:=uG vs 0 i
   rw [Nat.zero_add] at this
   rw [this]
   unfold eo
   cases h1:vs[i]? with
   | none=>exact .junk _
   | some v =>
    have hlt:i < (bQ ps (au 0 ps) x).1.length:=by rw [← hargs.len]; exact (zg.1 h1).1
    rw [zq hlt]
    exact hargs.rep i v _ h1 (zq hlt)
  ·show eg bx true (some b) (lkU (bQ ps (au 0 ps) x).2 t)
   have hbl:lkB bx t=some b:=hbl
   rcases AM hal [] t with ⟨_,sb,b',m2,m3,m4,_⟩ | ⟨_,m2,_⟩
   ·rw [List.append_nil,hbl] at m2
    rw [m3]
    exact m4 b m2.symm
   ·rw [List.append_nil,hbl] at m2
    cases m2
 have hpr:ed ⟨n5 0 vs,bx,[],false,[]⟩:=fun t ht=>by cases ht
 have fin:∀ {e:Exit} {p':PS},(match e with | .normal=>True | .ret=>True | _=>False)→yY ⟨P,T,fn.ntmps,rs,vars,fz,sc,fb⟩ fn p' r→E6 P fn (bF 0 (aX rs)) (fun q bo=>∃ kss jss,dB (aX rs) kss∧cY (ci rs) jss∧(bF 0 (aX rs)++(aw kss++aw jss)).Nodup∧q=mF (be (ci rs) jss (cZ rs r)).1∧bo=i7 0 (aX rs) kss (dr rs r)++(be (ci rs) jss (cZ rs r)).2) e p':=fun {e p'} he hr=>by
  obtain ⟨kss,jss,m1,m2,m3,⟨q,m4,m5⟩,m6⟩:=hr.2 hl3
  have m1:dB (aX rs) kss:=m1
  have m2:cY (ci rs) jss:=m2
  have m5:gP q=mF (be (ci rs) jss (cZ rs r)).1:=m5
  obtain ⟨c1,c2,c3⟩:=rF (aX rs) 0 kss (dr rs r) m1
  obtain ⟨d1,d2⟩:=pI (ci rs) jss (cZ rs r)
  refine ⟨he,_,_,⟨kss,jss,m1,m2,m3,rfl,rfl⟩,fun t ht=>by rw [cO,List.mem_append]; exact .inl (c3 t ht),fun s hs=>?_,(c1.app d2).u,⟨q,m4,m5⟩,fun t B ht=>m6 t B (fO ht)⟩
  rw [cO,List.mem_append]
  exact .inr (d1 s (Bw _ s hs))
 refine co (fU (C:=⟨P,T,fn.ntmps,rs,vars,fz,sc,fb⟩) (fn:=fn) hT hm hv c h _ _ _ _ _ r hpr hs hx) fun e p' hq=>?_
 by_cases he:e = .ret
 ·subst he
  obtain ⟨r',h1,h3⟩:=hq
  injection h3 with h3
  subst h3
  exact ⟨p',.refl _,fin trivial h1⟩
 ·obtain ⟨s',m1,m2,m3⟩:=gU he hq
  cases e with
  | normal =>
   obtain ⟨p2,h1,h2⟩:=yq (C:=⟨P,T,fn.ntmps,rs,vars,fz,sc,fb⟩) hv (mA (m2.prOk hpr)) (iH m1) m3
   exact ⟨p2,(nC m1).trans h1,fin trivial h2⟩
  | ret=>exact absurd rfl he
  | _=>cases m3
theorem C5 {w:World} {B e k n:Nat} {v:Value} {xs:List Value} (h:w.ownsRow B e k v n xs) : w.ownsRow 0 e k v n xs∧∀ g,blk v=some g→B≤g:=by
 refine ⟨⟨h.1,?_⟩,fun g hg=>?_⟩
 ·rcases h.2 with hn | ⟨g,cap,cur,rfl,hb,hr⟩
  ·exact .inl hn
  ·exact .inr ⟨g,cap,cur,rfl,Nat.zero_le _,hr⟩
 ·rcases h.2 with ⟨rfl,_⟩ | ⟨g',cap,cur,rfl,hb,hr⟩
  ·cases hg
  ·injection hg with hg; subst hg; exact hb
theorem DD {P:Program} {f:FuncId} {ty:Ty} {e k:Nat} {F:List ty.den→Option (List ty.den)} (hk:tyN ty=k) (hk0 : 0 < k) (hcall:bV P f=true)
  (H:∀ (xs zs:List ty.den) (w:World) (G:Nat→Prop) (v:Value),F xs=some zs→(∀ g,G g→g < w.heap.size)→cw w G v (.sl (xs.map (aA ty)))→Calls P f #[v] w fun en w'=>∃ v' us,en = .returned v'∧w'.ownsRow w.heap.size e k v' zs.length us∧Ext w w'∧us.length=zs.length * k∧∀ (j:Nat) u d,us[j]? = some u→(zs.map (aA ty)).flatten[j]? = some d→cw w G u d) :
  aM P f [.lf (.sl ty)] [.io [.no],.own e k ty] (fun x=>(F x.1).bind fun z=>some (((),()),z)):=by
 rintro ⟨xs,⟨⟩⟩ zz hF
 change List ty.den at xs
 obtain ⟨zs,hz,hF⟩:=a8 hF
 injection hF with hF
 subst hF
 refine ⟨fun h=>(by cases h),fun _=>⟨⟨trivial,trivial⟩,fun iss kss jss h1 h2 h3 h4 h5 h6=>⟨hcall,?_⟩⟩⟩
 match iss,h1 with
 | [is],h1 =>
 match is,h1.1 with
 | [],_ =>
 match kss,h2 with
 | [ks],h2 =>
 match ks,h2.1 with
 | [],_ =>
 match jss,h3 with
 | [js],h3 =>
 match js,h3.1 with
 | [j],_ =>
 intro w0 F0 ρ b w G vs args ha hb0 hb hi hr
 have hj:j < 1000000:=h5 j (by simp [aw])
 have hbj:b j=none:=hb j (by simp [aw])
 have hal:args.length=1:=by rw [← cz args,ha]; rfl
 match args,hal with
 | [a],_ =>
 have ha:gP a = .d (.sl (xs.map (aA ty))):=by
  simp only [bO,bQ,toI,List.cons.injEq] at ha
  exact ha.1
 have hvl:vs.toList.length=1:=hr.len
 obtain ⟨v,hv⟩ : ∃ v,vs = #[v]:=by
  match hv:vs.toList,hvl with
  | [v],_=>exact ⟨v,by apply Array.ext'; simpa using hv⟩
 subst hv
 have hrep:=(hr.rep 0 v a rfl rfl).nrmd
 rw [ha] at hrep
 have hd:cw w G v (.sl (xs.map (aA ty))):=by
  cases hrep with
  | d _ _ h=>exact h
 refine (H xs zs w G v hz hi.flt hd).mono ?_
 rintro en w' ⟨v',us,rfl,ho,hx,hl,hu⟩
 obtain ⟨ho0,hbase⟩:=C5 ho
 have hzl:∀ x∈zs.map (aA ty),x.length=k:=fun x hx=>by
  obtain ⟨y,_,rfl⟩:=List.mem_map.1 hx
  rw [eb,hk]
 have:=ql (P:=P) (t:=j) (e:=e) (k:=k) (es:=zs.map (aA ty)) (xs:=us) (v:=v') (w':=w') hi hj hbj hk0 hx hbase (by rw [List.length_map]; exact ho0) hzl (by rw [hl,aV k _ hzl,List.length_map]) hu
 obtain ⟨v2,w2,ρ',e1,k1,k2,k3⟩:=this
 injection e1 with e1 e2
 subst e1 e2
 have hU:bG b (gm [.lf (.sl ty)] [.io [.no],.own e k ty] [[]] [[]] [[j]] (xs,()) (((),()),zs))=bt b (some (j,.rw e k (zs.map (aA ty)))):=by
  rw [← nZ]; rfl
 rw [hU]
 refine ⟨v',ρ',G,rfl,k1,k2,?_⟩
 rw [List.length_map] at k3
 exact k3
theorem DC {P:Program} {f:FuncId} {F:bb [.lf .str]→Option (aq [.lf .str])} (hcall:bV P f=true)
  (H:∀ (x z:ByteArray) (w:World),F (x,())=some z→Calls P f #[.string x] w fun en w'=>en = .returned (.string z)∧Ext w w') : aM P f [.lf .str] [.lf .str] F:=by
 rintro ⟨x,⟨⟩⟩ z hF
 refine ⟨fun _=>⟨hcall,fun w G vs hG hr=>?_⟩,fun h=>(by cases h)⟩
 have hvl:vs.toList.length=1:=hr.len
 obtain ⟨v,hv⟩ : ∃ v,vs = #[v]:=by
  match hv:vs.toList,hvl with
  | [v],_=>exact ⟨v,by apply Array.ext'; simpa using hv⟩
 subst hv
 obtain ⟨rfl,_⟩:=ah.vv (hr.rep 0 v _ rfl rfl)
 refine (H x z w hF).mono ?_
 rintro en w' ⟨rfl,hx⟩
 exact ⟨_,G,rfl,hx,fun _ h=>h,fun g hg=>Nat.lt_of_lt_of_le (hG g hg) hx.size,fun _ h=>.inl h,.d _ _ (.v _ rfl)⟩
end Go.Proofs.Ytkmpjphbkhpgbaa
