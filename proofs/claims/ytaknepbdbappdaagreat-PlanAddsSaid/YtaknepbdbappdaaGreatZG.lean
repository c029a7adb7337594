/- My texts, in one. -/
import Derived.Test.YtaknepbdbappdaaGreatZF
set_option linter.all false
set_option maxRecDepth 100000
set_option maxHeartbeats 4000000
namespace Go.Proofs.YtaknepbdbappdaaGreat
open Go.RowKit
open IntKind (i64)
open Go.Proofs.Tryz (prog)
theorem kR (s:aa) (e:Int) : dg s e=some (s,⟨e,[],[],[],0⟩):=rfl
theorem OkS.node {M:Nat} {s:aa} (h:OkS M s) {l:List aW} (hl:l.length≤s.aD.length + 1) (hs:kP aW.fId l) (hn:∀ n∈l,(0≤n.cM∧n.cM≤1000000000)∧0≤n.cn) : OkS (M + 1) { s with aD:=l } := by
 obtain ⟨⟨B,h1,h2⟩,h3⟩:=h
 have k:=h1.mono (Nat.le_succ B)
 have k1:=h1.nodes
 exact ⟨⟨B + 1,⟨k.conf,⟨by show l.length≤B + 1; omega,hs,k1.2.2.1,hn⟩,k.apps,k.conts,k.slots,k.plans,k.app⟩,by show B + 1 + s.ac.length≤_; omega⟩,h3⟩
theorem OkS.nodeIn {M:Nat} {s:aa} (h:OkS M s) {n:aW} (hi:tg s n.fId=true) (hn:(0≤n.cM∧n.cM≤1000000000)∧0≤n.cn) : OkS M { s with aD:=dp aW.fId s.aD n } := by
 obtain ⟨⟨B,h1,h2⟩,h3⟩:=h
 have k1:=h1.nodes
 unfold tg at hi
 rw [List.any_eq_true] at hi
 obtain ⟨x,hx,hxe⟩:=hi
 have hlen:=rr aW.fId n s.aD k1.2.1 ⟨x,hx,by simpa using hxe⟩
 exact ⟨⟨B,⟨h1.conf,⟨by show (dp _ _ _).length≤B; omega,g8 _ _ _ k1.2.1,k1.2.2.1,fun y hy=>by rcases pQ hy with rfl | hy; exact hn; exact k1.2.2.2 y hy⟩,h1.apps,h1.conts,h1.slots,h1.plans,h1.app⟩,h2⟩,h3⟩
theorem OkS.small {M:Nat} {s:aa} (h:OkS M s) : s.aD.length≤M∧s.ar.length≤M∧s.ac.length≤M∧s.aZ.length≤M∧s.al.length≤M:=⟨h.sz.nodes.1,h.sz.apps,h.sz.conts,h.sz.slots,h.sz.plans⟩
theorem MA {s:aa} {id:Int} (h:tg s id=true) : (fa s id).fId=id:=by
 unfold tg at h
 rw [List.any_eq_true] at h
 obtain ⟨x,hx,e⟩:=h
 unfold fa
 cases hf:s.aD.find? fun c=>c.fId==id with
 | none=>have:=List.find?_eq_none.1 hf x hx; exact absurd e (by simpa using this)
 | some a=>simpa using List.find?_some hf
theorem Wc {M:Nat} {s:aa} (h:OkS M s) {id:Int} : (0≤(fa s id).cM∧(fa s id).cM≤1000000000)∧0≤(fa s id).cn:=by
 unfold fa
 cases hf:s.aD.find? fun c=>c.fId==id with
 | none=>exact ⟨⟨Int.le_refl _,by decide⟩,Int.le_refl _⟩
 | some a=>exact h.sz.nodes.2.2.2 a (List.mem_of_find?_eq_some hf)
theorem aal {M:Nat} {s:aa} (h:OkS M s) (n:aW) : OkS (M + 1) (YQ s n).1:=by
 unfold YQ
 split
 ·exact h.mono (Nat.le_succ _)
 split
 ·exact h.mono (Nat.le_succ _)
 split
 ·exact h.mono (Nat.le_succ _)
 ·exact h.node (Ee _ _ _) (g8 _ _ _ h.sz.nodes.2.1) (fun y hy=>by rcases pQ hy with rfl | hy; exact ⟨h.sz.nodes.2.2.1,Int.le_refl _⟩; exact h.sz.nodes.2.2.2 y hy)
theorem ZI {M:Nat} {s:aa} (h:OkS M s) (id b:Int) : OkS M (Nn s id b).1:=by
 unfold Nn
 split
 ·exact h
 split
 ·exact h
 split
 ·exact h
 split
 ·exact h
 split
 ·exact h
 ·rename_i hu _ hb _ _
  have hu:tg s id=true:=by simpa using hu
  exact h.nodeIn (n:={ fa s id with cM:=s.cx,cn:=b }) (by show tg s (fa s id).fId=true; rw [MA hu]; exact hu) ⟨h.sz.nodes.2.2.1,by simpa using hb⟩
theorem Zr {M:Nat} {s:aa} (h:OkS M s) (id:Int) : OkS M (S6 s id):=by
 unfold S6
 split
 ·rename_i hu
  exact h.nodeIn (n:={ fa s id with fUp:=false }) (by show tg s (fa s id).fId=true; rw [MA hu]; exact hu) (Wc h)
 ·exact h
theorem OkS.fewer {M:Nat} {s:aa} (h:OkS M s) {c:List an} {l:List bA} (hc:c.length≤s.ac.length) (hl:l.length≤s.aZ.length) : OkS M { s with ac:=c,aZ:=l } := by
 obtain ⟨⟨B,h1,h2⟩,h3⟩:=h
 exact ⟨⟨B,h1.fewer hc hl,by show B + c.length≤M; omega⟩,h3⟩
theorem OkS.put {M:Nat} {s:aa} (h:OkS M s) {a:aC} {k:Nat} (ha:∀ B,SzS B s→SzA (B + k) a) : OkS (M + k + 1) { s with ar:=dp aC.fId s.ar a } := by
 obtain ⟨⟨B,h1,h2⟩,h3⟩:=h
 have k1:=(h1.mono (Nat.le_add_right B k)).put ((ha B h1).mono (Nat.le_succ _))
 exact ⟨⟨B + k + 1,k1,by show B + k + 1 + s.ac.length≤_; omega⟩,g8 _ _ _ h3⟩
theorem OkS.now {M:Nat} {s:aa} (h:OkS M s) {n:Int} (hn : 0≤n∧n≤1000000000) : OkS M { s with cx:=n } := by
 obtain ⟨⟨B,h1,h2⟩,h3⟩:=h
 exact ⟨⟨B,⟨h1.conf,⟨h1.nodes.1,h1.nodes.2.1,hn,h1.nodes.2.2.2⟩,h1.apps,h1.conts,h1.slots,h1.plans,h1.app⟩,h2⟩,h3⟩
theorem OkS.epoch {M:Nat} {s:aa} (h:OkS M s) (n k:Int) : OkS M { s with pY:=n,sw:=k } := by
 obtain ⟨⟨B,h1,h2⟩,h3⟩:=h
 exact ⟨⟨B,⟨h1.conf,h1.nodes,h1.apps,h1.conts,h1.slots,h1.plans,h1.app⟩,h2⟩,h3⟩
theorem OkS.newConf {M:Nat} {s:aa} (h:OkS M s) {c:ay} (hc:AA c) : OkS M { s with bG:=c } := by
 obtain ⟨⟨B,h1,h2⟩,h3⟩:=h
 exact ⟨⟨B,⟨hc,h1.nodes,h1.apps,h1.conts,h1.slots,h1.plans,h1.app⟩,h2⟩,h3⟩
theorem OkS.plans {M:Nat} {s:aa} (h:OkS M s) {l:List ai} (hl:l.length≤s.al.length) : OkS M { s with al:=l } := by
 obtain ⟨⟨B,h1,h2⟩,h3⟩:=h
 exact ⟨⟨B,h1.plan (Nat.le_trans hl h1.plans),h2⟩,h3⟩
theorem OkS.lose {M:Nat} {s:aa} (h:OkS M s) (ids:List Int) (hI:ids.length≤1000000) (hM:M + 1≤1000000) : ∃ r,gU s ids=some r∧OkS M r:=by
 obtain ⟨r,h1,h2,h3,_⟩:=GG h.m h.srt ids hI hM
 exact ⟨r,h1,h2,h3⟩
theorem OkS.r14 {M:Nat} {s:aa} (h:OkS M s) (hM:M + 100≤1000000) (id:Int) : ∃ r,l6 s id=some r∧OkS (M + 40) r.1:=by
 obtain ⟨⟨B,h1,h2⟩,h3⟩:=h
 obtain ⟨r,r1,r2,_⟩:=Oo h1 h3 (by omega) id
 have r4:=Gw r1
 exact ⟨r,r1,⟨B + 24 + 2,r2.1,by omega⟩,r2.2⟩
theorem UB {M:Nat} {s:aa} (h:OkS M s) (hM:M≤1000000) (text:ByteArray) : ∃ r,ng s text=some r∧OkS M r.1:=by
 obtain ⟨p,p1,p2⟩:=NJ text
 have k1:=h.small
 have kc:=h.sz.conf.sz.labels
 unfold ng
 simp only [p1,zb]
 have hchk:∃ e,(if (p.2==0)=true then Option.bind (va p.1) fun c3=>some c3 else some p.2)=some e∧(e=0→AA p.1):=by
  split
  ·obtain ⟨c,c1,c2⟩:=NC p2
   rw [c1]
   exact ⟨c,rfl,fun e=>(c2 e).form⟩
  ·rename_i hne
   exact ⟨_,rfl,fun e=>absurd (by rw [e]; rfl) hne⟩
 obtain ⟨e,e1,e2⟩:=hchk
 rw [e1]
 simp only [zb,kR]
 split
 ·exact ⟨_,rfl,h⟩
 rename_i hz
 have hf:=e2 (by simpa using hz)
 split
 ·exact ⟨_,rfl,h⟩
 rename_i hlab
 have hlab:s.bG.aj.length≤p.1.aj.length:=by have:=of_decide_eq_false (by simpa using hlab:decide ((p.1.aj.length:Int) < (s.bG.aj.length:Int))=false); omega
 rw [wy s p.1 () (by omega)]
 obtain ⟨r,r1,r2⟩:=mM (g:=eL s p.1) (fin:=fun _=>(.inl (s.bG.aj.length:Int))) (fun _ _=>True) (fun r=>∀ m,r = .inr m→OkS M m.1) s.bG.aj 0 () (fun j a x hx _=>by
  have hj:=(zg.1 hx).1
  unfold eL
  simp only [Nat.zero_add,aH (zq (show j < p.1.aj.length by omega)),zb,kR]
  split
  ·exact ⟨_,rfl,fun a' e=>(by cases e),fun r e m em=>(by injection e with e; subst e; injection em with em; subst em; exact h)⟩
  ·exact ⟨_,rfl,fun a' e=>trivial,fun r e=>(by cases e)⟩) (fun b _ m em=>by cases em) trivial
 rw [r1]
 simp only [zb]
 cases r with
 | inr m=>exact ⟨m,rfl,r2 m rfl⟩
 | inl m =>
  dsimp only
  rw [wv s p.1 () (by omega)]
  obtain ⟨q,q1,q2⟩:=a7 (g:=eJ s p.1) (fin:=fun _=>(.inl (s.ar.length:Int))) (fun _ _=>True) (fun r=>∀ m,r = .inr m→OkS M m.1) s.ar 0 () (fun j a x hx _=>by
   unfold eJ
   simp only [fJ,xS _ _ hf.sz,zb,kR,cW]
   split
   ·exact ⟨_,rfl,fun a' e=>(by cases e),fun r e m em=>(by injection e with e; subst e; injection em with em; subst em; exact h)⟩
   ·exact ⟨_,rfl,fun a' e=>trivial,fun r e=>(by cases e)⟩) (fun b _ m em=>by cases em) trivial
  rw [q1]
  simp only [zb]
  cases q with
  | inr m=>exact ⟨m,rfl,q2 m rfl⟩
  | inl m=>exact ⟨_,rfl,h.newConf hf⟩
theorem WJ (s:aa) (n:Int) (hl:s.ac.length≤1000000) : ∃ r,xU s n=some r∧r.length≤s.ac.length:=by
 unfold xU
 dsimp only
 rw [C4 s n [] hl]
 obtain ⟨r,r1,r2⟩:=a7 (g:=jv s n) (fin:=fun b=>(b,(s.ac.length:Int))) (fun k b=>b.length≤k) (fun r=>r.1.length≤s.ac.length) s.ac 0 [] (fun j b x hx hb=>by
  have hj:=(zg.1 hx).1
  unfold jv
  dsimp only
  split
  ·rw [aJ (by simp; omega)]
   exact ⟨_,rfl,fun a' e=>(by injection e with e; subst e; simp; omega),fun r e=>(by cases e)⟩
  ·exact ⟨_,rfl,fun a' e=>(by injection e with e; subst e; omega),fun r e=>(by cases e)⟩) (fun b hb=>(by simpa using hb)) (by simp)
 rw [r1]
 exact ⟨_,rfl,r2⟩
theorem Ew (s:aa) (n:Int) (hl:s.ac.length≤1000000) : ∃ r,og s n=some r:=by
 unfold og
 dsimp only
 rw [ve s n [] hl]
 obtain ⟨r,r1,r2⟩:=a7 (g:=ef s n) (fin:=fun b=>(b,(s.ac.length:Int))) (fun k b=>b.length≤k) (fun _=>True) s.ac 0 [] (fun j b x hx hb=>by
  have hj:=(zg.1 hx).1
  unfold ef
  simp only [cW,zb]
  split
  ·rw [aJ (by simp; omega)]
   exact ⟨_,rfl,fun a' e=>(by injection e with e; subst e; simp; omega),fun r e=>(by cases e)⟩
  ·exact ⟨_,rfl,fun a' e=>(by injection e with e; subst e; omega),fun r e=>(by cases e)⟩) (fun b hb=>trivial) (by simp)
 rw [r1]
 exact ⟨_,rfl⟩
theorem Ni (ids:List Int) (s:aa) (hl:s.ac.length≤1000000) (hi:ids.length≤1000000) : ∃ r,sO s ids=some r:=by
 unfold sO
 dsimp only
 rw [xV ids s [] hi]
 obtain ⟨r,r1,r2⟩:=a7 (g:=fy ids s) (fin:=fun b=>(b,(ids.length:Int))) (fun k b=>b.length≤k) (fun _=>True) ids 0 [] (fun j b x hx hb=>by
  have hj:=(zg.1 hx).1
  unfold fy
  simp only [k9 s x hl,zb]
  split
  ·rw [aJ (by simp; omega)]
   exact ⟨_,rfl,fun a' e=>(by injection e with e; subst e; simp; omega),fun r e=>(by cases e)⟩
  ·exact ⟨_,rfl,fun a' e=>(by injection e with e; subst e; omega),fun r e=>(by cases e)⟩) (fun b hb=>trivial) (by simp)
 rw [r1]
 exact ⟨_,rfl⟩
theorem VX (s:aa) (l more:List aV) (hl:l.length≤100000) (hm:more.length≤1000000) : ∃ r,v7 s l more=some r∧r.1.length≤l.length + 8:=by
 unfold v7
 dsimp only
 rw [xT more s l hm]
 obtain ⟨r,r1,r2⟩:=a7 (g:=fx more s) (fin:=fun b=>(.inl (b,(more.length:Int)))) (fun _ b=>b.length≤l.length + 8∧b.length≤100000) (fun r=>(∀ m,r = .inl m→m.1.length≤l.length + 8)∧∀ m,r = .inr m→m.1.length≤l.length + 8) more 0 l (fun j b x hx hb=>by
  unfold fx
  simp only [Nu,zb]
  split
  ·exact ⟨_,rfl,fun a' e=>(by cases e),fun r e=>(by injection e with e; subst e; exact ⟨fun m em=>(by cases em),fun m em=>(by injection em with em; subst em; exact Nat.zero_le _)⟩)⟩
  obtain ⟨t,t1,t2⟩:=UQ b x hb.2
  simp only [t1,zb]
  split
  ·exact ⟨_,rfl,fun a' e=>(by cases e),fun r e=>(by injection e with e; subst e; exact ⟨fun m em=>(by cases em),fun m em=>(by injection em with em; subst em; exact Nat.zero_le _)⟩)⟩
  ·exact ⟨_,rfl,fun a' e=>(by injection e with e; subst e; exact ⟨by omega,by omega⟩),fun r e=>(by cases e)⟩) (fun b hb=>⟨fun m em=>(by injection em with em; subst em; exact hb.1),fun m em=>(by cases em)⟩) ⟨by omega,hl⟩
 rw [r1]
 simp only [zb]
 cases r with
 | inr m=>exact ⟨_,rfl,r2.2 _ rfl⟩
 | inl m=>exact ⟨_,rfl,r2.1 m rfl⟩
theorem ZF (s:aa) (n:Int) (hl:s.ac.length≤1000000) : ∃ r,vf s n=some r:=by
 unfold vf
 dsimp only
 rw [zE s n () hl]
 obtain ⟨r,r1,r2⟩:=a7 (g:=gy s n) (fin:=fun _=>(.inl (s.ac.length:Int))) (fun _ _=>True) (fun _=>True) s.ac 0 () (fun j b x hx hb=>by
  unfold gy
  simp only [cW,zb]
  split
  ·exact ⟨_,rfl,fun a' e=>trivial,fun r e=>trivial⟩
  ·exact ⟨_,rfl,fun a' e=>trivial,fun r e=>trivial⟩) (fun b hb=>trivial) trivial
 rw [r1]
 simp only [zb]
 cases r <;> exact ⟨_,rfl⟩
theorem Mn {M:Nat} {s:aa} (h:OkS M s) (hM:M + 100≤1000000) (x:aN) (hx:x.gm.length≤1000000) : ∃ r,sP s x=some r∧OkS (M + 40) r.1:=by
 have k1:=h.small
 unfold sP
 simp only [na s _ (show s.aD.length≤1000000 by omega),zb,cW]
 obtain ⟨o,o1,_⟩:=WJ s x.fId (by omega)
 split
 ·rw [o1]
  exact ⟨_,rfl,h.mono (by omega)⟩
 rw [Qp s _ _ (by omega)]
 simp only [zb,kR]
 split
 ·exact ⟨_,rfl,h.mono (by omega)⟩
 have hb:=ZI h x.fId x.cn
 generalize (Nn s x.fId x.cn).1=t at hb
 have k2:=hb.small
 rw [zF x t [] hx]
 obtain ⟨r,r1,r2⟩:=a7 (g:=gz x t) (fin:=fun b=>(b,(x.gm.length:Int))) (fun k b=>b.length≤k) (fun r=>r.1.length≤x.gm.length) x.gm 0 [] (fun j b y hy hb=>by
  have hj:=(zg.1 hy).1
  unfold gz
  simp only [k9 t y (show t.ac.length≤1000000 by omega),zb,cW]
  split
  ·rw [aJ (by simp; omega)]
   exact ⟨_,rfl,fun a' e=>(by injection e with e; subst e; simp; omega),fun r e=>(by cases e)⟩
  ·exact ⟨_,rfl,fun a' e=>(by injection e with e; subst e; omega),fun r e=>(by cases e)⟩) (fun b hb=>(by simpa using hb)) (by simp)
 rw [r1]
 simp only [zb]
 obtain ⟨a,a1,a2⟩:=hb.lose r.1 (by omega) (by omega)
 obtain ⟨c,c1,c2⟩:=a2.r14 (by omega) x.fId
 have k3:=c2.small
 obtain ⟨o,o1,_⟩:=WJ c.1 x.fId (by omega)
 simp only [a1,c1,o1,zb]
 exact ⟨_,rfl,c2⟩
theorem mY {α : Type} (p : α→Bool) (l:List α) : (l.filter p).length≤l.length:=List.length_filter_le _ _
theorem T2 {M:Nat} {s:aa} (h:OkS M s) (hM:M + 100≤100000) (x:aN) (hx:x.gm.length≤1000000) (ha:x.bN.length≤1000000) : ∃ r,nf s x=some r∧OkS (M + 10) r.1:=by
 have k1:=h.small
 unfold nf
 simp only [ep s _ (show s.ar.length≤1000000 by omega),zb,kR]
 have stay:OkS (M + 10) s:=h.mono (by omega)
 split
 ·exact ⟨_,rfl,stay⟩
 split
 ·exact ⟨_,rfl,stay⟩
 split
 ·exact ⟨_,rfl,stay⟩
 have hA:=h.sz.get x.fId
 obtain ⟨n,hn⟩:=Ew s (cj s x.fId).fId (by omega)
 have q1:=hA.told; have q2:=hA.lost; have q3:=hA.asks; have q4:=hA.grants; have q5:=hA.kills
 split
 ·obtain ⟨c,hc⟩:=Ni (cj s x.fId).oT s (by omega) (by omega)
  simp only [hc,hn,zb]
  rw [aJ (by simp; omega)]
  exact ⟨_,rfl,stay⟩
 split
 ·exact ⟨_,rfl,stay⟩
 obtain ⟨w,w1,w2⟩:=VX s (cj s x.fId).bN x.bN (by omega) ha
 simp only [w1,zb]
 split
 ·exact ⟨_,rfl,stay⟩
 rw [wt x (s,cj s x.fId) hx]
 obtain ⟨r,r1,l,g,r2,r3,r4,r5⟩:=a7 (g:=eI x) (fin:=fun b=>(b.1,b.2,(x.gm.length:Int))) (fun _ b=>∃ (l:List an) (g:List Int),b.1 = { s with ac:=l } ∧ l.length≤s.ac.length∧b.2 = { cj s x.fId with cf:=g } ∧ g.length≤(cj s x.fId).cf.length) (fun r=>∃ (l:List an) (g:List Int),r.1 = { s with ac:=l } ∧ l.length≤s.ac.length∧r.2.1 = { cj s x.fId with cf:=g } ∧ g.length≤(cj s x.fId).cf.length) x.gm 0 (s,cj s x.fId) (fun j b y hy ⟨l,g,b1,b2,b3,b4⟩=>by
  obtain ⟨bs,ba⟩:=b
  dsimp only at b1 b3
  subst b1
  subst b3
  unfold eI
  dsimp only
  rw [k9 { s with ac:=l } y (show l.length≤1000000 by omega)]
  simp only [zb,cW]
  split
  ·rw [CM { s with ac:=l } _ (show l.length≤1000000 by omega),vx g _ (by omega)]
   simp only [zb]
   exact ⟨_,rfl,fun a' e=>(by injection e with e; subst e; exact ⟨_,_,rfl,Nat.le_trans (mY _ _) b2,rfl,Nat.le_trans (mY _ _) b4⟩),fun r e=>(by cases e)⟩
  ·exact ⟨_,rfl,fun a' e=>(by injection e with e; subst e; exact ⟨l,g,rfl,b2,rfl,b4⟩),fun r e=>(by cases e)⟩) (fun b hb=>hb) ⟨s.ac,(cj s x.fId).cf,rfl,Nat.le_refl _,rfl,Nat.le_refl _⟩
 rw [r1]
 obtain ⟨rs,ra,ri⟩:=r
 dsimp only at r2 r4
 subst r2
 subst r4
 have ht:OkS M { s with ac:=l } := h.fewer (c:=l) (l:=s.aZ) r3 (Nat.le_refl _)
 simp only [zb]
 obtain ⟨c,hc⟩:=Ni g { s with ac:=l } (show l.length≤1000000 by omega) (by omega)
 obtain ⟨n,hn⟩:=Ew { s with ac:=l } (cj s x.fId).fId (show l.length≤1000000 by omega)
 simp only [hc,hn,zb]
 rw [aJ (by simp; omega)]
 simp only [zb]
 rw [kT { s with ac:=l } _ (by show s.ar.length + 1≤_; omega)]
 refine ⟨_,rfl,OkS.mono (ht.put (k:=8) (fun B hB=>?_)) (by omega)⟩
 have hb:SzA B (cj s x.fId):=hB.get x.fId
 have p1:=hb.asks; have p2:=hb.grants; have p3:=hb.kills
 exact ⟨⟨hb.queue.1,hB.nodes.2.2.1.1,hB.nodes.2.2.1.2,hb.queue.2.2.2⟩,by show w.1.length≤_; omega,Nat.zero_le _,Nat.zero_le _,by show g.length≤_; omega,by show (cj s x.fId).fQ.length≤_; omega⟩
theorem Xu {M:Nat} {s:aa} (h:OkS M s) (hM:M + 100≤100000) (id st:Int) : ∃ r,tH s id st=some r∧OkS (M + 10) r.1:=by
 have k1:=h.small
 unfold tH
 simp only [ep s _ (show s.ar.length≤1000000 by omega),zb,kR,fJ]
 split
 ·exact ⟨_,rfl,h.mono (by omega)⟩
 split
 ·exact ⟨_,rfl,h.mono (by omega)⟩
 unfold Am
 simp only [ep s id (show s.ar.length≤1000000 by omega),zb,fJ,orB]
 split
 ·exact ⟨_,rfl,h.mono (by omega)⟩
 ·rw [kT s _ (by omega)]
  simp only [zb]
  rw [CJ _ _ (by show s.ac.length≤_; omega) (by show s.aZ.length≤_; omega)]
  have ht:=h.put (k:=0) (a:={ cj s id with dG:=st,bN:=[],cf:=[],fQ:=[],oT:=[],pX:=[] }) (fun B hB=>⟨(hB.get id).queue,Nat.zero_le _,Nat.zero_le _,Nat.zero_le _,Nat.zero_le _,Nat.zero_le _⟩)
  exact ⟨_,rfl,(ht.fewer (c:=s.ac.filter fun c=>!(c.bC==id)) (l:=s.aZ.filter fun c=>c.bC != id) (mY _ _) (mY _ _)).mono (by omega)⟩
theorem PP (s:aa) (hl:s.ar.length≤1000000) : ∃ l,nq s=some { s with ar:=l } ∧ l.Sublist s.ar:=by
 unfold nq
 dsimp only
 rw [wE s (false,[]) hl]
 obtain ⟨r,h1,h2⟩:=a7 (g:=eV s) (fin:=fun b=>(b.1,b.2,(s.ar.length:Int))) (fun k b=>b.2.length≤k∧b.2.Sublist (s.ar.take k)) (fun r=>r.2.1.Sublist s.ar) s.ar 0 (false,[]) (fun j b x hx ⟨hb,hm⟩=>by
  have hj:=(zg.1 hx).1
  have hmono:∀ {l:List aC},l.Sublist (s.ar.take (0 + j))→l.Sublist (s.ar.take (0 + j + 1)):=fun hk=>hk.trans (List.take_sublist_take_left (by omega))
  unfold eV
  simp only [fJ,cW,zb]
  split
  ·exact ⟨_,rfl,fun a' e=>(by injection e with e; subst e; exact ⟨by show b.2.length≤_; omega,hmono hm⟩),fun r e=>(by cases e)⟩
  ·rw [aJ (by simp; omega)]
   refine ⟨_,rfl,fun a' e=>?_,fun r e=>(by cases e)⟩
   injection e with e
   subst e
   refine ⟨by simp; omega,?_⟩
   show (b.2 ++ [x]).Sublist _
   rw [List.take_add_one,show s.ar[0 + j]? = some x by rw [Nat.zero_add]; exact hx]
   exact hm.append (List.Sublist.refl _)) (fun b ⟨hb,hm⟩=>by simpa using hm) ⟨by simp,by simp⟩
 rw [h1]
 exact ⟨_,rfl,h2⟩
theorem OkS.apps {M:Nat} {s:aa} (h:OkS M s) {l:List aC} (hl:l.Sublist s.ar) : OkS M { s with ar:=l } := by
 obtain ⟨⟨B,h1,h2⟩,h3⟩:=h
 exact ⟨⟨B,⟨h1.conf,h1.nodes,Nat.le_trans hl.length_le h1.apps,h1.conts,h1.slots,h1.plans,fun x hx=>h1.app x (hl.subset hx)⟩,h2⟩,List.Pairwise.sublist hl h3⟩
theorem Tu {M:Nat} {s:aa} (h:OkS M s) (hM:M + 100≤100000) (a:aC) (hq:a.bQ.size≤1000000∧a.fId < 9000) : ∃ r,nr s a=some r∧OkS (M + 10) r.1:=by
 have k1:=h.small
 have stay:OkS (M + 10) s:=h.mono (by omega)
 unfold nr
 simp only [Oy,orB,zb,ep s _ (show s.ar.length≤1000000 by omega),xS _ _ h.sz.conf.sz]
 split
 ·exact ⟨_,rfl,stay⟩
 split
 ·exact ⟨_,rfl,stay⟩
 rw [wF s 0 (by omega)]
 obtain ⟨r,hr,_⟩:=a7 (g:=eW s) (fin:=fun b=>(b,(s.ar.length:Int))) (fun _ _=>True) (fun _=>True) s.ar 0 0 (fun j b x hx _=>by
  unfold eW
  simp only [fJ,zb,sZ]
  exact ⟨_,rfl,fun _ _=>trivial,fun _ _=>trivial⟩) (fun _ _=>trivial) trivial
 rw [hr]
 simp only [zb]
 split
 ·exact ⟨_,rfl,stay⟩
 split
 ·exact ⟨_,rfl,stay⟩
 obtain ⟨l,hl,hl1⟩:=PP s (by omega)
 have fin:∀ t:aa,OkS M t→∃ r,Option.bind (pE a) (fun c17=>Option.bind (dR t ⟨a.fId,1,a.bQ,a.de,a.bD,a.bI,c17,t.cx,0,[],[],[],[]⟩) fun c18=>some (c18,(0:Int)))=some r∧OkS (M + 10) r.1:=by
  intro t ht
  have h5:=ht.small
  rw [Ah]
  simp only [zb]
  rw [kT t _ (by omega)]
  exact ⟨_,rfl,(ht.put (k:=1) (a:=⟨a.fId,1,a.bQ,a.de,a.bD,a.bI,[⟨0,0,a.bI,1,-1,-1,0⟩],t.cx,0,[],[],[],[]⟩) fun B hB=>⟨⟨hq.1,hB.nodes.2.2.1.1,hB.nodes.2.2.1.2,hq.2⟩,by simp,Nat.zero_le _,Nat.zero_le _,Nat.zero_le _,Nat.zero_le _⟩).mono (by omega)⟩
 split
 ·rw [hl]
  simp only [zb]
  exact fin { s with ar:=l } (h.apps hl1)
 ·exact fin s h
theorem OkS.noSlot {M:Nat} {s:aa} (h:OkS M s) (hM:M≤1000000) (n:Int) : ∃ r,d6 s n=some r∧OkS M r:=by
 have k1:=h.small
 exact ⟨_,wU s n (by omega),h.fewer (c:=s.ac) (Nat.le_refl _) (mY _ _)⟩
theorem YI {M:Nat} {s:aa} (h:OkS M s) (hM:M + 100≤100000) (n:Int) : ∃ r,sN s n=some r∧OkS (M + 10) r.1:=by
 have k1:=h.small
 have stay:OkS (M + 10) s:=h.mono (by omega)
 unfold sN
 simp only [orB,zb,kR]
 split
 ·exact ⟨_,rfl,stay⟩
 split
 ·exact ⟨_,rfl,stay⟩
 rename_i hq1 hq2
 have hq1 : 1≤n∧n≤100:=by
  have h9:(decide (n < 1)||decide (n > 100))=false:=by simpa using hq1
  simp at h9
  omega
 have hnow:=h.sz.nodes.2.2.1
 have hq2:i64.wrap (s.cx + n)=s.cx + n∧s.cx + n≤1000000000:=by
  have e:i64.wrap (s.cx + n)=s.cx + n:=by rw [IntKind.wrap_i64]; omega
  have h9 : ¬ (i64.wrap (s.cx + n) > 1000000000):=fun h=>hq2 (by simpa using h)
  exact ⟨e,by omega⟩
 have h1:=h.now (n:=i64.wrap (s.cx + n)) (by rw [hq2.1]; omega)
 have hconts:({ s with cx:=i64.wrap (s.cx + n) } : aa).ac.length≤M:=h1.small.2.2.1
 generalize ({ s with cx:=i64.wrap (s.cx + n) } : aa)=t at h1
 have k2:=h1.small
 rw [KJ t (by omega)]
 simp only [zb]
 have hl:((t.aD.filter fun b=>b.fUp&&decide (i64.wrap (t.cx - b.cM)≥10)).map aW.fId).length≤1000000:=by
  rw [List.length_map]
  exact Nat.le_trans (mY _ _) (by omega)
 generalize ((t.aD.filter fun b=>b.fUp&&decide (i64.wrap (t.cx - b.cM)≥10)).map aW.fId)=l at hl
 rw [zD l t hl]
 obtain ⟨r,r1,r2⟩:=a7 (g:=gw l) (fin:=fun b=>(b,(l.length:Int))) (fun _ b=>OkS M b) (fun r=>OkS M r.1) l 0 t (fun j b y hy hb=>by
  have k3:=hb.small
  unfold gw
  dsimp only
  rw [Qn b y (by omega)]
  simp only [zb]
  obtain ⟨c,c1,c2⟩:=(Zr hb y).noSlot (by omega) y
  have k4:=c2.small
  obtain ⟨o,o1,o2⟩:=WJ c y (by omega)
  obtain ⟨z,z1,z2⟩:=c2.lose o (by omega) (by omega)
  simp only [c1,o1,z1,zb]
  exact ⟨_,rfl,fun a' e=>(by injection e with e; subst e; exact z2),fun r e=>(by cases e)⟩) (fun b hb=>hb) h1
 rw [r1]
 simp only [zb]
 have k5:=r2.small
 rw [Hx r.1 (by omega)]
 simp only [zb]
 have hl2:((r.1.ar.filter fun b=>b.dG==2&&decide (i64.wrap (r.1.cx - b.cM)≥15)).map aC.fId).length≤1000000:=by
  rw [List.length_map]
  exact Nat.le_trans (mY _ _) (by omega)
 generalize ((r.1.ar.filter fun b=>b.dG==2&&decide (i64.wrap (r.1.cx - b.cM)≥15)).map aC.fId)=l2 at hl2
 rw [zB l2 r.1 hl2]
 obtain ⟨q,q1,q2⟩:=a7 (g:=gu l2) (fin:=fun b=>(b,(l2.length:Int))) (fun _ b=>OkS M b) (fun r=>OkS M r.1) l2 0 r.1 (fun j b y hy hb=>by
  have k3:=hb.small
  unfold gu
  dsimp only
  obtain ⟨c,c1⟩:=ZF b y (by omega)
  obtain ⟨z,z1,z2⟩:=hb.lose [c] (by simp) (by omega)
  simp only [c1,z1,zb]
  exact ⟨_,rfl,fun a' e=>(by injection e with e; subst e; exact z2),fun r e=>(by cases e)⟩) (fun b hb=>hb) r2
 rw [q1]
 simp only [zb]
 have k6:=q2.small
 rw [rb q.1 [] (by omega)]
 obtain ⟨p,p1,p2⟩:=a7 (g:=dw q.1) (fin:=fun b=>(b,(q.1.al.length:Int))) (fun k b=>b.length≤k) (fun r=>r.1.length≤q.1.al.length) q.1.al 0 [] (fun j b y hy hb=>by
  have hj:=(zg.1 hy).1
  unfold dw
  dsimp only
  split
  ·rw [aJ (by simp; omega)]
   exact ⟨_,rfl,fun a' e=>(by injection e with e; subst e; simp; omega),fun r e=>(by cases e)⟩
  ·exact ⟨_,rfl,fun a' e=>(by injection e with e; subst e; omega),fun r e=>(by cases e)⟩) (fun b hb=>(by simpa using hb)) (by simp)
 rw [p1]
 simp only [zb]
 obtain ⟨z,z1,z2,z3⟩:=K5 (q2.plans p2) (by omega)
 have k7:=z2.small
 simp only [z1,zb]
 rw [Cw s z.1 (by omega) (by omega)]
 exact ⟨_,rfl,z2.mono (by omega)⟩
theorem aaQ {M:Nat} {s:aa} (h:OkS M s) (hM:M + 100≤100000) (p:ai) (n:Int) : ∃ r,nQ s p n=some r∧OkS (M + 10) r.1:=by
 obtain ⟨⟨B,h1,h2⟩,h3⟩:=h
 obtain ⟨r,r1,r2,r3,r4⟩:=Ro h1 (by omega) p n
 exact ⟨r,r1,⟨B + 1,r2,by rw [r3]; omega⟩,by rw [r4]; exact h3⟩
theorem Zq {M:Nat} {s:aa} (h:OkS M s) (hM:M + 100≤100000) (id:Int) : ∃ r,kl s id=some r∧OkS (M + 10) r.1:=by
 obtain ⟨⟨B,h1,h2⟩,h3⟩:=h
 obtain ⟨r,r1,r2,r3,r4⟩:=Oa h1 (by omega) id
 exact ⟨r,r1,⟨B,r2,by rw [r3]; omega⟩,by rw [r4]; exact h3⟩
structure InP (x:aN) : Prop where
 ids:x.gm.length≤1000000
 asks:x.bN.length≤1000000
 queue:x.bC.bQ.size≤1000000∧x.bC.fId < 9000
theorem oB {α : Type} {c:Prop} [Decidable c] {a b:Option α} {Q : α→Prop} (h1:∃ r,a=some r∧Q r) (h2:∃ r,b=some r∧Q r) : ∃ r,(if c then a else b)=some r∧Q r:=by
 by_cases h:c
 ·rw [if_pos h]; exact h1
 ·rw [if_neg h]; exact h2
theorem Tj {M:Nat} {s:aa} (h:OkS M s) (hM:M + 100≤100000) {x:aN} (hx:InP x) : ∃ r,oh s x=some r∧OkS (M + 40) r.1:=by
 have k1:=h.small
 have up:∀ {o:Option (aa×bz)},(∃ r,o=some r∧OkS (M + 10) r.1)→∃ r,(Option.bind o fun c=>some c)=some r∧OkS (M + 40) r.1:=fun ⟨r,e,hr⟩=>by
  rw [e]
  exact ⟨r,rfl,hr.mono (by omega)⟩
 unfold oh
 refine oB ?_ ?_
 ·obtain ⟨r,r1,r2⟩:=UB h (by omega) x.MQ
  exact up ⟨r,r1,r2.mono (by omega)⟩
 refine oB ?_ ?_
 ·rw [F4 s _ (by omega)]
  exact ⟨_,rfl,(aal h x.bM).mono (by omega)⟩
 refine oB ?_ ?_
 ·obtain ⟨r,r1,r2⟩:=Mn h (by omega) x hx.ids
  rw [r1]
  exact ⟨_,rfl,r2⟩
 refine oB ?_ ?_
 ·obtain ⟨r,r1,r2⟩:=Tu h hM x.bC hx.queue
  rw [r1]
  exact ⟨_,rfl,r2.mono (by omega)⟩
 refine oB ?_ ?_
 ·exact up (T2 h hM x hx.ids hx.asks)
 refine oB ?_ ?_
 ·exact up (Xu h hM x.fId 3)
 refine oB ?_ ?_
 ·exact up (Xu h hM x.fId 4)
 refine oB ?_ ?_
 ·exact up (YI h hM x.fN)
 refine oB ?_ ?_
 ·obtain ⟨r,r1,r2⟩:=aaQ h hM x.pW x.fN
  rw [r1]
  exact ⟨_,rfl,r2.mono (by omega)⟩
 refine oB ?_ ?_
 ·obtain ⟨r,r1,r2⟩:=Zq h hM x.fId
  rw [r1]
  exact ⟨_,rfl,r2.mono (by omega)⟩
 refine oB ?_ ?_
 ·refine oB ?_ ?_
  ·exact ⟨_,rfl,h.mono (by omega)⟩
  ·exact ⟨_,rfl,(h.epoch (i64.wrap (s.pY + 1)) 0).mono (by omega)⟩
 ·exact ⟨_,rfl,h.mono (by omega)⟩
def Ey:aa:=⟨⟨[⟨#[]⟩],[⟨⟨#[114,111,111,116]⟩,[⟨10000,10000⟩],10000⟩]⟩,[],[],[],[],[],0,0,0⟩
theorem Q5:KU=some Ey:=rfl
theorem YO:zk ⟨#[114,111,111,116]⟩=some [⟨#[114,111,111,116]⟩]:=by kernel_rfl
theorem Sw:OkS 1 Ey:=by
 refine ⟨⟨0,⟨⟨⟨by decide,by decide,?_,?_⟩,?_,?_,⟨by decide,?_⟩,by decide,?_,?_⟩,⟨by decide,List.Pairwise.nil,by decide,fun n hn=>by cases hn⟩,by decide,by decide,by decide,by decide,?_⟩,by decide⟩,List.Pairwise.nil⟩
 ·intro q hq; simp only [Ey,List.mem_singleton] at hq; subst hq; decide
 ·intro q hq; simp only [Ey,List.mem_singleton] at hq; subst hq; decide
 ·intro q hq; simp only [Ey,List.mem_singleton] at hq; subst hq; rfl
 ·intro q hq r hr x hx
  simp only [Ey,List.mem_singleton] at hq
  subst hq
  rw [YO] at hr
  injection hr with hr
  subst hr
  simp only [List.mem_singleton] at hx
  subst hx
  exact Dv (c:=Ey.bG) (q:=⟨⟨#[114,111,111,116]⟩,[⟨10000,10000⟩],10000⟩) (by simp [Ey])
 ·intro q hq; simp only [Ey,List.mem_singleton] at hq; subst hq; show dH 6 _≤4; rw [show dH 6 ⟨#[114,111,111,116]⟩=1 by kernel_rfl]; decide
 ·exact ⟨⟨⟨#[114,111,111,116]⟩,[⟨10000,10000⟩],10000⟩,by simp [Ey],by kernel_rfl⟩
 ·intro x hx; simp only [Ey,List.mem_singleton] at hx; subst hx; decide
 ·intro a ha; cases ha
def fK (v_c:ay) (st:(List ByteArray)) (x_:aE) : Option (((List ByteArray))⊕(((List ByteArray)×Int))) :=
 let v_l:=st
 (kv v_c x_.aO).bind fun c5=>if c5=true then
 (aX v_l [x_.aO]).bind fun b6=>let v_l:(List ByteArray):=b6
 some (.inl v_l)
 else
 some (.inl v_l)
theorem yj (v_c:ay) (a_:(List ByteArray)) (hl:v_c.ae.length≤1000000) : ah (kE v_c) ab (a_,(0))=br (fK v_c) (fun a_=>(a_,((v_c.ae.length:Int)))) a_ v_c.ae :=
 az v_c.ae (S:=(List ByteArray)×Int) (fun a_ k_=>(a_,(k_))) (fK v_c) (fun a_=>(a_,((v_c.ae.length:Int)))) (ao hl) (fun k a x hx=>by
  unfold kE fK; exact bJ)
  (fun a=>by unfold kE; exact cI) a_
def dk (v_s:aa) (v_p:aC) (v_a:aY) (st:aN) (v_i:Int) (x_:an) : Option ((aN)⊕((aN×Int))) :=
 let v_x:=st
 (if (x_.bC==v_p.fId)=true then (bq (i64.wrap (v_a.fD + v_i)) 11).bind fun c23=>some (c23==10) else some false).bind fun q24=>if q24=true then
 (aX v_x.gm [x_.fId]).bind fun b25=>let v_x:aN:={ v_x with gm:=b25 }
 some (.inl v_x)
 else
 some (.inl v_x)
theorem tO (v_s:aa) (v_p:aC) (v_a:aY) (a_:aN) (hl:v_s.ac.length≤1000000) : ah (f6 v_s v_p v_a) ab (a_,(0))=nX (dk v_s v_p v_a) (fun a_=>(a_,((v_s.ac.length:Int)))) a_ 0 v_s.ac :=
 fq v_s.ac (S:=aN×Int) (fun a_ k_=>(a_,(k_))) (dk v_s v_p v_a) (fun a_=>(a_,((v_s.ac.length:Int)))) (ao hl) (fun k a x hx=>by
  unfold f6 dk; exact bJ)
  (fun a=>by unfold f6; exact cI) a_
def dM (v_s:aa) (v_a:aY) (bw:Int) (st:aN) (x_:aW) : Option ((aN)⊕((aN×Int))) :=
 let v_x:=st
 if (x_.fId==bw)=true then
 (bq v_a.fB 8).bind fun c17=>let v_x:aN:={ v_x with cn:=(i64.wrap ((i64.wrap (x_.cn + 1)) - (i64.wrap (Int.tdiv c17 6)))) }
 some (.inl v_x)
 else
 some (.inl v_x)
theorem ul (v_s:aa) (v_a:aY) (bw:Int) (a_:aN) (hl:v_s.aD.length≤1000000) : ah (il v_s v_a bw) ab (a_,(0))=br (dM v_s v_a bw) (fun a_=>(a_,((v_s.aD.length:Int)))) a_ v_s.aD :=
 az v_s.aD (S:=aN×Int) (fun a_ k_=>(a_,(k_))) (dM v_s v_a bw) (fun a_=>(a_,((v_s.aD.length:Int)))) (ao hl) (fun k a x hx=>by
  unfold il dM; exact bJ)
  (fun a=>by unfold il; exact cI) a_
def dL (v_s:aa) (bw:Int) (v_a:aY) (st:aN) (aQ:Int) (x_:an) : Option ((aN)⊕((aN×Int))) :=
 let v_x:=st
 (if (x_.bM==bw)=true then (bq (i64.wrap (v_a.fC + aQ)) 9).bind fun c23=>some (c23==8) else some false).bind fun q24=>if q24=true then
 (aX v_x.gm [x_.fId]).bind fun b25=>let v_x:aN:={ v_x with gm:=b25 }
 some (.inl v_x)
 else
 some (.inl v_x)
theorem uj (v_s:aa) (bw:Int) (v_a:aY) (a_:aN) (hl:v_s.ac.length≤1000000) : ah (ik v_s bw v_a) ab (a_,(0))=nX (dL v_s bw v_a) (fun a_=>(a_,((v_s.ac.length:Int)))) a_ 0 v_s.ac :=
 fq v_s.ac (S:=aN×Int) (fun a_ k_=>(a_,(k_))) (dL v_s bw v_a) (fun a_=>(a_,((v_s.ac.length:Int)))) (ao hl) (fun k a x hx=>by
  unfold ik dL; exact bJ)
  (fun a=>by unfold ik; exact cI) a_
def cV (v_x:aK) (st:aa) (x_:aY) : Option ((aa)⊕((aa×Int))) :=
 let v_s:=st
 (im x_ v_s).bind fun c9=>(oh v_s c9).bind fun c10=>let v_s:aa:=c10.1
 some (.inl v_s)
theorem rP (v_x:aK) (a_:aa) (hl:v_x.mC.length≤1000000) : ah (dj v_x) ab (a_,(0))=br (cV v_x) (fun a_=>(a_,((v_x.mC.length:Int)))) a_ v_x.mC :=
 az v_x.mC (S:=aa×Int) (fun a_ k_=>(a_,(k_))) (cV v_x) (fun a_=>(a_,((v_x.mC.length:Int)))) (ao hl) (fun k a x hx=>by
  unfold dj cV; exact bJ)
  (fun a=>by unfold dj; exact cI) a_
theorem be (a:Int) {n:Int} (h0 : 0 < n) (h1:n≤1000000000) : Ok (bq a n) (fun k=>0≤k∧k < n):=by
 unfold bq CU
 rw [if_neg (by omega)]
 have h:=Jz (a:=a) h0
 simp only [zb]
 refine Ok.bind (P:=fun k=>0≤k∧k < n) (Ok.ite (fun hc=>?_) fun hc=>?_) fun r hr=>Ok.pure hr
 ·have:=zd hc
  refine Ok.pure ?_
  rw [IntKind.wrap_i64]; omega
 ·have:=of_decide_eq_false (by simpa using hc:decide (a.tmod n < 0)=false)
  exact Ok.pure (by omega)
theorem yi (n:Int) : Ok (wd n) (fun _=>True):=by
 unfold wd
 exact Ok.bind (be _ (by omega) (by omega)) fun k hk=>Ok.bind (kt hk.1 hk.2) fun b _=>Ok.pure trivial
theorem Lv {c:ay} (h:AA c) : Ok (we c) (fun l=>0 < l.length∧l.length≤1000∧∀ x∈l,x.size≤1000000):=by
 have hq:=h.sz.queues
 unfold we
 dsimp only
 have e:fK c=fun acc x=>if Cb c x.aO=true then (aX acc [x.aO]).map (fun a=>(.inl a:List ByteArray⊕(List ByteArray×Int))) else some (.inl acc):=by
  funext acc x
  unfold fK
  simp only [xS _ _ h.sz,zb]
  split
  ·cases aX acc [x.aO] <;> rfl
  ·rfl
 rw [yj c [] (by omega),e,cd (fun q:aE=>Cb c q.aO) aE.aO _ c.ae [] (by simp; omega)]
 simp only [zb,List.nil_append]
 refine Ok.pure ⟨?_,?_,fun x hx=>?_⟩
 ·obtain ⟨q,hq,hl⟩:=h.leaf
  rw [List.length_map]
  exact List.length_pos_of_mem (List.mem_filter.2 ⟨hq,hl⟩)
 ·rw [List.length_map]
  exact Nat.le_trans (List.length_filter_le _ _) hq
 ·obtain ⟨q,hq,rfl⟩:=List.mem_map.1 hx
  exact h.sz.paths q (List.mem_filter.1 hq).1
theorem Lu {M:Nat} {s:aa} (h:OkS M s) (hM:M≤100000) (a:aY) : Ok (nT a s) InP:=by
 have k1:=h.small
 have hlab:=h.sz.conf.lab1
 have hlab2:=h.sz.conf.sz.labels
 unfold nT
 dsimp only
 refine Ok.ite (fun _=>Ok.pure ⟨by simp,by simp,by decide⟩) fun hc=>?_
 have hn:(s.ar.length:Int)≠0:=fun e=>hc (by rw [e]; rfl)
 refine Ok.bind (be _ (by omega) (by omega)) fun w hw=>Ok.bind (kt hw.1 hw.2) fun p _=>Ok.bind (be _ (by omega) (by omega)) fun u _=>?_
 refine Ok.bind (P:=fun x:aN=>x.gm = []∧x.bN.length≤1∧(x.bC.bQ.size=0∧x.bC.fId=0)) (Ok.ite (fun _=>?_) fun _=>Ok.pure ⟨rfl,by simp,rfl,rfl⟩) fun x ⟨x1,x2,x3⟩=>?_
 ·refine Ok.bind (be _ (by omega) (by omega)) fun c7 _=>Ok.bind (be _ (by omega) (by omega)) fun c8 _=>Ok.bind (yi _) fun c9 _=>Ok.bind (be _ (by omega) (by omega)) fun c10 _=>?_
  refine Ok.bind (P:=fun j:aV×aN=>j.2.gm = []∧(j.2.bC.bQ.size=0∧j.2.bC.fId=0)) (Ok.ite (fun _=>Ok.bind (be _ (by omega) (by omega)) fun _ _=>Ok.pure ⟨rfl,rfl,rfl⟩) fun _=>Ok.pure ⟨rfl,rfl,rfl⟩) fun j1 ⟨j2,j3⟩=>?_
  refine Ok.bind (P:=fun j:aV×aN=>j.2.gm = []∧(j.2.bC.bQ.size=0∧j.2.bC.fId=0)) (Ok.ite (fun _=>Ok.bind (be _ (by omega) (by omega)) fun _ _=>Ok.bind (be _ (by omega) (by omega)) fun _ _=>Ok.pure ⟨j2,j3⟩) fun _=>Ok.pure ⟨j2,j3⟩) fun j4 ⟨j5,j6⟩=>Ok.pure ⟨j5,by simp,j6⟩
 ·rw [tO s p a x (by omega)]
  refine Ok.bind (uv (g:=dk s p a) (fin:=fun a_=>(a_,((s.ac.length:Int)))) (fun k b=>b.gm.length≤k∧b.bN.length≤1∧(b.bC.bQ.size=0∧b.bC.fId=0)) s.ac x (fun j b y hy ⟨b1,b2,b3⟩=>?_) ⟨by rw [x1]; simp,x2,x3⟩) fun r ⟨q,e,q1,q2,q3⟩=>?_
  ·have hj:=(zg.1 hy).1
   unfold dk
   dsimp only
   refine Ok.bind (P:=fun _=>True) (Ok.ite (fun _=>Ok.bind (be _ (by omega) (by omega)) fun _ _=>Ok.pure trivial) fun _=>Ok.pure trivial) fun t _=>Ok.ite (fun _=>?_) fun _=>Ok.pure ⟨_,rfl,by omega,b2,b3⟩
   rw [aJ (by simp; omega)]
   exact Ok.pure ⟨_,rfl,by simp; omega,b2,b3⟩
  ·subst e
   exact Ok.pure ⟨by dsimp only; omega,by dsimp only; omega,by dsimp only; omega⟩
theorem OI {M:Nat} {s:aa} (h:OkS M s) (hM:M≤100000) (a:aY) : Ok (im a s) InP:=by
 have k1:=h.small
 have hlab:=h.sz.conf.lab1
 have hlab2:=h.sz.conf.sz.labels
 have orOk:∀ {c:Prop} [Decidable c] {d:Bool},Ok (if c then some true else some d) (fun _=>True):=fun {c} _ {d} => Ok.ite (fun _=>Ok.pure trivial) fun _=>Ok.pure trivial
 have hx0:∀ k id b n t nd ap pl,ap.bQ.size≤1000000∧ap.fId < 9000→InP (⟨k,id,b,n,t,nd,ap,[],[],pl⟩ : aN):=fun k id b n t nd ap pl hq=>⟨by simp,by simp,hq⟩
 unfold im
 dsimp only
 refine Ok.bind (be _ (by omega) (by omega)) fun c1 _=>Ok.bind (Lv h.sz.conf) fun lv ⟨l1,l2,l3⟩=>Ok.bind (be _ (by omega) (by omega)) fun c5 _=>Ok.bind (be _ (by omega) (by omega)) fun c6 _=>Ok.bind orOk fun q7 _=>?_
 refine Ok.bind (P:=InP) (Ok.ite (fun _=>?_) fun _=>?_) fun r hr=>Ok.pure hr
 ·exact Ok.bind (be _ (by omega) (by omega)) fun _ _=>Ok.bind (be _ (by omega) (by omega)) fun _ _=>Ok.bind (be _ (by omega) (by omega)) fun _ _=>Ok.bind (be _ (by omega) (by omega)) fun _ _=>Ok.pure (hx0 _ _ _ _ _ _ _ _ (by decide))
 refine Ok.bind (P:=fun _=>True) (Ok.ite (fun _=>Ok.pure trivial) fun _=>Ok.ite (fun _=>Ok.pure trivial) fun _=>orOk) fun q13 _=>Ok.ite (fun _=>?_) fun _=>?_
 ·rw [ul s a c1 _ (by omega)]
  refine Ok.bind (D6 (g:=dM s a c1) (fin:=fun a_=>(a_,((s.aD.length:Int)))) (fun k b=>b.gm = []∧b.bN = []∧(b.bC.bQ.size=0∧b.bC.fId=0)) s.aD _ (fun j b y hy ⟨b1,b2,b3⟩=>?_) ⟨rfl,rfl,rfl,rfl⟩) fun r ⟨q,e,q1,q2,q3⟩=>?_
  ·unfold dM
   dsimp only
   exact Ok.ite (fun _=>Ok.bind (be _ (by omega) (by omega)) fun _ _=>Ok.pure ⟨_,rfl,b1,b2,b3⟩) fun _=>Ok.pure ⟨_,rfl,b1,b2,b3⟩
  subst e
  dsimp only
  rw [uj s c1 a q (by omega)]
  refine Ok.bind (uv (g:=dL s c1 a) (fin:=fun a_=>(a_,((s.ac.length:Int)))) (fun k b=>b.gm.length≤k∧b.bN = []∧(b.bC.bQ.size=0∧b.bC.fId=0)) s.ac q (fun j b y hy ⟨b1,b2,b3⟩=>?_) ⟨by rw [q1]; simp,q2,q3⟩) fun r ⟨q,e,q1,q2,q3⟩=>?_
  ·have hj:=(zg.1 hy).1
   unfold dL
   dsimp only
   refine Ok.bind (P:=fun _=>True) (Ok.ite (fun _=>Ok.bind (be _ (by omega) (by omega)) fun _ _=>Ok.pure trivial) fun _=>Ok.pure trivial) fun t _=>Ok.ite (fun _=>?_) fun _=>Ok.pure ⟨_,rfl,by omega,b2,b3⟩
   rw [aJ (by simp; omega)]
   exact Ok.pure ⟨_,rfl,by simp; omega,b2,b3⟩
  ·subst e
   exact Ok.pure ⟨by dsimp only; omega,by dsimp only; rw [q2]; simp,by dsimp only; omega⟩
 refine Ok.bind orOk fun q24 _=>Ok.ite (fun _=>?_) fun _=>?_
 ·exact Ok.bind (be _ (by omega) (by omega)) fun _ hi0=>Ok.bind (be _ (by omega) (by omega)) fun w hw=>Ok.bind (kt hw.1 hw.2) fun b hb=>Ok.bind (be _ (by omega) (by omega)) fun _ _=>Ok.bind (be _ (by omega) (by omega)) fun _ _=>Ok.bind (yi _) fun _ _=>Ok.pure (hx0 _ _ _ _ _ _ _ _ ⟨l3 b hb,Int.lt_of_lt_of_le hi0.2 (by decide)⟩)
 refine Ok.bind (P:=fun _=>True) (Ok.ite (fun _=>Ok.pure trivial) fun _=>orOk) fun q31 _=>Ok.ite (fun _=>?_) fun _=>?_
 ·exact Ok.bind (Lu h hM a) fun x hx=>Ok.pure hx
 refine Ok.ite (fun _=>?_) fun _=>?_
 ·exact Ok.bind (be _ (by omega) (by omega)) fun w hw=>Ok.bind (kt hw.1 hw.2) fun _ _=>Ok.bind (be _ (by omega) (by omega)) fun _ _=>Ok.pure (hx0 _ _ _ _ _ _ _ _ (by decide))
 refine Ok.bind orOk fun q36 _=>Ok.ite (fun _=>?_) fun _=>?_
 ·exact Ok.bind (be _ (by omega) (by omega)) fun _ _=>Ok.pure (hx0 _ _ _ _ _ _ _ _ (by decide))
 refine Ok.ite (fun _=>?_) fun _=>?_
 ·exact Ok.bind (be _ (by omega) (by omega)) fun w hw=>Ok.bind (kt hw.1 hw.2) fun _ _=>Ok.bind (be _ (by omega) (by omega)) fun _ _=>Ok.bind (be _ (by omega) (by omega)) fun _ _=>Ok.bind (yi _) fun _ _=>Ok.bind (be _ (by omega) (by omega)) fun _ _=>Ok.pure (hx0 _ _ _ _ _ _ _ _ (by decide))
 refine Ok.ite (fun _=>?_) fun _=>?_
 ·refine Ok.bind (be _ (by omega) (by omega)) fun w hw=>Ok.bind (kt hw.1 hw.2) fun _ _=>Ok.bind (GW _ _) fun c hc=>?_
  obtain ⟨t,ht⟩:=Gc hc
  exact Ok.bind (P:=fun _=>True) ⟨t,ht,trivial⟩ fun _ _=>Ok.pure (hx0 _ _ _ _ _ _ _ _ (by decide))
 ·exact Ok.pure (hx0 _ _ _ _ _ _ _ _ (by decide))
theorem X6 (x:aK) (hx:x.mC.length≤80) : Ok (cQ x) (OkS 10000):=by
 unfold cQ
 rw [Q5]
 simp only [zb]
 refine Ok.bind (GW _ _) fun c hc=>?_
 obtain ⟨t,ht⟩:=Gc hc
 refine Ok.bind (P:=fun _=>True) ⟨t,ht,trivial⟩ fun t _=>Ok.bind (P:=fun r:aa×bz=>OkS 41 r.1) (Tj (M:=1) (x:=⟨1,0,0,0,t,aW.zero,aC.zero,[],[],ai.zero⟩) Sw (by omega) ⟨by simp,by simp,Nat.zero_le _,show (0:Int) < 9000 by decide⟩) fun r hr=>?_
 refine Ok.bind (P:=OkS 41) (Ok.ite (fun _=>Ok.pure hr) fun _=>Ok.pure (Sw.mono (by omega))) fun s hs=>?_
 rw [rP x s (by omega)]
 refine Ok.bind (D6 (g:=cV x) (fin:=fun a_=>(a_,((x.mC.length:Int)))) (fun k b=>OkS (41 + 40 * k) b) x.mC s (fun j b y hy hb=>?_) hs) fun r ⟨q,e,hq⟩=>?_
 ·have hj:=(zg.1 hy).1
  unfold cV
  dsimp only
  exact Ok.bind (OI hb (by omega) y) fun i hi=>Ok.bind (Tj hb (by omega) hi) fun r hr=>Ok.pure ⟨_,rfl,hr.mono (by omega)⟩
 ·subst e
  exact Ok.pure (hq.mono (by omega))
theorem aaC (x:aK) : nS x=some (decide ((x.fNs.length:Int)≤30)&&decide ((x.mC.length:Int)≤80)):=by
 unfold nS
 simp only [cW,zb]
theorem YH (s:aa) (k:Int) (hl:s.aD.length≤1000000) : fv s k=some (OU s k):=by
 unfold fv
 dsimp only
 rw [qZ s k _ hl,show du s k=fun v n=>some (.inl (if (n.fUp&&n.aA==k)=true then lI v n.jq else v)) from by
  funext v n
  unfold du
  simp only [cS,zb,cW]
  cases (n.fUp&&n.aA==k) <;> rfl,kJ]
 rfl
theorem Te {s:aa} {p:ai} (h:s.bG.aj.length≤1000000) : ((!AO p.fId 999 || !AO p.aA (i64.wrap ((s.bG.aj.length:Int) - 1)))||(p.a8.bg==0&&p.a8.aI==0))=UF s p:=by
 unfold UF AO
 rw [nU (by omega) (by omega)]
 congr 1
 rw [Bool.eq_iff_iff]
 simp only [Bool.or_eq_true,Bool.not_eq_true',Bool.and_eq_false_iff,decide_eq_true_eq,decide_eq_false_iff_not]
 omega
theorem XZ {s:aa} (p:ai) (n:Int) (h:j7 s) (hI:PlI s.al) (hL:s.bG.aj.length≤1000000) : ∃ r,TY s p n=some r∧nQ s p n=some r∧j7 r.1∧PlI r.1.al:=by
 have hl:=hI.1
 have keep:∀ l:List ai,l.length≤1000000→j7 { s with al:=l } := fun l h9=>⟨h.conf,h.nodes,h.apps,h.conts,h.slots,h9,h.app,h.lab⟩
 rw [X1 hI]
 by_cases hc:Hg s p=0
 ·have hc':=hc
  unfold Hg at hc'
  rw [Te hL] at hc'
  have h1 : ¬ UF s p=true:=fun e=>by rw [if_pos e] at hc'; cases hc'
  rw [if_neg h1] at hc'
  have h2 : ¬ (s.al.any fun x=>x.fId==p.fId)=true:=fun e=>by rw [if_pos e] at hc'; cases hc'
  rw [if_neg h2] at hc'
  have h3 : ¬ decide ((s.al.length:Int)≥12)=true:=fun e=>by rw [if_pos e] at hc'; cases hc'
  rw [if_neg h3] at hc'
  have h4 : ¬ decide (p.aB < s.cx)=true:=fun e=>by rw [if_pos e] at hc'; cases hc'
  rw [if_neg h1,if_neg h2,if_neg h3,if_neg h4,YH s _ h.nodes]
  simp only [zb]
  obtain ⟨c,c1,c2⟩:=Ia s.al (OU s p.aA) p n (PlI.sm hI)
  rw [c1]
  simp only [zb]
  by_cases he:c.2=0
  ·have e:c=(c.1,0):=by rw [← he]
   rw [if_neg (by rw [he]; decide)]
   rw [e] at c2
   have hne:∀ x∈s.al,x.fId≠p.fId:=fun x hx q=>h2 (List.any_eq_true.2 ⟨x,hx,by simpa using q⟩)
   have hlt:s.al.length < 12:=by
    apply Classical.byContradiction
    intro q
    exact h3 (decide_eq_true (by omega))
   exact ⟨_,Y3 h (by omega) hc c2,rfl,keep _ (by rw [L5]; omega),PlI.add hI hlt hne c2⟩
  ·have e0:c.1=0:=by
    rcases c2 with ⟨_,h9⟩ | ⟨_,⟨t,h9,_⟩ | ⟨h9,_⟩⟩
    ·rw [h9]
    ·rw [h9] at he; exact absurd rfl he
    ·rw [h9]
   have e:c=(0,c.2):=by rw [← e0]
   rw [if_pos (by simpa using he)]
   rw [e] at c2
   exact ⟨_,WD h (by omega) hc c2 he,rfl,h,hI⟩
 ·refine ⟨_,WE h hc,?_,h,hI⟩
  have hc':Hg s p≠0:=hc
  unfold Hg at hc' ⊢
  rw [Te hL] at hc' ⊢
  split
  ·rfl
  ·rename_i h1
   rw [if_neg h1] at hc'
   split
   ·rfl
   ·rename_i h2
    rw [if_neg h2] at hc'
    split
    ·rfl
    ·rename_i h3
     rw [if_neg h3] at hc'
     split
     ·rfl
     ·rename_i h4
      rw [if_neg h4] at hc'
      exact absurd rfl hc'
theorem UA {s:aa} (id:Int) (h:j7 s) (hI:PlI s.al) : ∃ r,Mg s id=some r∧kl s id=some r∧j7 r.1:=by
 have hl:=hI.1
 have keep:∀ l:List ai,l.length≤1000000→j7 { s with al:=l } := fun l h9=>⟨h.conf,h.nodes,h.apps,h.conts,h.slots,h9,h.app,h.lab⟩
 rw [S5 hI]
 by_cases hn:∀ x∈s.al,x.fId≠id
 ·have e:(s.al.filter fun c=>c.fId != id)=s.al:=List.filter_eq_self.2 fun x hx=>by
   have:=hn x hx
   simpa using this
  rw [e]
  exact ⟨_,WB h hn,by rw [if_pos (by simp)],h⟩
 ·rcases yH s.al id h.plans with ⟨i,hi,_,h2,h3⟩ | ⟨_,h2⟩
  ·have e:(s.al.filter fun c=>c.fId != id)=s.al.take i++s.al.drop (i + 1):=by
    have hsp:s.al=s.al.take i++s.al[i] :: s.al.drop (i + 1):=by
     rw [← List.drop_eq_getElem_cons hi,List.take_append_drop]
    have ht:(s.al.take i).filter (fun c=>c.fId != id)=s.al.take i:=List.filter_eq_self.2 fun x hx=>by
     obtain ⟨j,hj,rfl⟩:=List.getElem_of_mem hx
     rw [List.length_take] at hj
     rw [List.getElem_take]
     have:=h3 j (by omega)
     simpa using this
    have hd:(s.al.drop (i + 1)).filter (fun c=>c.fId != id)=s.al.drop (i + 1):=List.filter_eq_self.2 fun x hx=>by
     obtain ⟨j,hj,rfl⟩:=List.getElem_of_mem hx
     rw [List.length_drop] at hj
     rw [List.getElem_drop]
     have:=List.pairwise_iff_getElem.1 hI.2.1 i (i + 1 + j) hi (by omega) (by omega)
     have q:s.al[i + 1 + j].fId≠id:=by omega
     simpa using q
    have hx:(s.al[i].fId != id)=false:=by rw [h2]; simp
    conv=>lhs; rw [hsp]
    rw [List.filter_append,List.filter_cons,hx,ht,hd]
    simp
   have hlen:(s.al.take i++s.al.drop (i + 1)).length=s.al.length - 1:=by
    rw [List.length_append,List.length_take,List.length_drop]; omega
   rw [e]
   refine ⟨_,WA h (by omega) hi h2 h3,?_,keep _ (by rw [hlen]; omega)⟩
   rw [if_neg]
   rw [hlen]
   simp
   omega
  ·exact absurd h2 hn
noncomputable def DA (a b:aa) (id:Int) : Option Bool:=Option.bind (Mg a id) fun c=>Option.bind (kl b id) fun d=>Option.bind (if (c.2==d.2)=true then Option.bind (vg c.1 d.1) fun r=>some r else some false) fun q=>some q
noncomputable def Dk (s:aa) (p:ai) (n how:Int) : Option Bool:=Option.bind (TY s p n) fun a=>Option.bind (nQ s p n) fun b=>Option.bind (if (a.2.1 != b.2.1)=true then some true else some (a.2.2 != b.2.2)) fun q=>Option.bind (if q=true then some true else Option.bind (vg a.1 b.1) fun r=>some (!r)) fun q=>if q=true then some false else Option.bind (if decide ((b.1.al.length:Int) > 0)=true then some (how.tmod 2==0) else some false) fun q=>if q=true then Option.bind (ir how (b.1.al.length:Int)) fun i=>Option.bind (aw b.1.al i) fun x=>DA a.1 b.1 x.fId else DA a.1 b.1 p.fId
theorem aaP (x:aK) (p:ai) (long how:Int) : qF (x,(p,(long,(how,()))))=Option.bind J2 fun r=>if (!r)=true then some false else Option.bind (nS x) fun r=>if (!r)=true then some true else Option.bind (cQ x) fun s=>if decide (how.tmod 3 > 0)=true then Option.bind (PI p) fun g=>Option.bind (ir g.aB 8) fun r2=>Option.bind (ir how 9) fun r3=>Option.bind (ir long 20) fun r4=>Dk s ⟨g.fId,g.aA,i64.wrap (i64.wrap (s.cx + r2) - i64.wrap (r3.tdiv 8)),i64.wrap (i64.wrap (i64.wrap (s.cx + r2) - i64.wrap (r3.tdiv 8)) + 30),g.a8⟩ (i64.wrap (1 + r4)) how else Dk s p long how:=by kernel_rfl
theorem HW {s:aa} (p:ai) (n how:Int) (h:j7 s) (hI:PlI s.al) (hL:s.bG.aj.length≤1000000) : Dk s p n how=some true:=by
 obtain ⟨r,r1,r2,r3,r4⟩:=XZ p n h hI hL
 have hb:∀ x:Int,(x != x)=false:=fun x=>by simp
 have hb':∀ x:Int,(x==x)=true:=fun x=>by simp
 have hd:∀ id,DA r.1 r.1 id=some true:=fun id=>by
  obtain ⟨d,d1,d2,d3⟩:=UA id r3 r4
  unfold DA
  rw [d1,d2]
  simp only [zb,hb',if_true,Wd _ d3]
 unfold Dk
 rw [r1,r2]
 simp only [zb,hb,zf,if_false,Wd _ r3,Bool.not_true,hd]
 by_cases h0:(r.1.al.length:Int) > 0
 ·rw [if_pos (decide_eq_true h0)]
  simp only [zb]
  split
  ·have:=r4.1
   obtain ⟨i,i1,i2,i3⟩:=eo (a:=how) h0 (by omega)
   obtain ⟨y,y1,_⟩:=ER i2 i3
   rw [i1]
   simp only [zb,y1]
  ·rfl
 ·rw [if_neg (by simpa using h0)]
  simp only [zb,zf,if_false]
theorem PlanAdds.plain (a0:aK) (_k0:aK.ok a0) (a1:ai) (_k1:ai.ok a1) (a2:Int) (_k2:wfI a2) (a3:Int) (_k3:wfI a3) : qF (a0,(a1,(a2,(a3,()))))=some true:=by
 rw [aaP,PB,aaC]
 simp only [zb,Bool.not_true,zf,if_false]
 cases hf:(decide ((a0.fNs.length:Int)≤30)&&decide ((a0.mC.length:Int)≤80)) with
 | false=>rfl
 | true =>
  simp only [Bool.not_true,zf,if_false]
  rw [Bool.and_eq_true] at hf
  have hacts:a0.mC.length≤80:=by have:=zd hf.2; omega
  obtain ⟨s,h1,h2⟩:=X6 a0 hacts
  have hI:PlI s.al:=Nt a0 s h1
  have hS:j7 s:=h2.sz.short (by decide)
  have hL:s.bG.aj.length≤1000000:=Nat.le_trans hS.conf.labels (by decide)
  rw [h1]
  simp only [zb]
  split
  ·obtain ⟨g,g1,_⟩:=Ud a1
   obtain ⟨w,w1,_⟩:=eo (a:=g.aB) (n:=8) (by omega) (by omega)
   obtain ⟨y,y1,_⟩:=eo (a:=a3) (n:=9) (by omega) (by omega)
   obtain ⟨z,z1,_⟩:=eo (a:=a2) (n:=20) (by omega) (by omega)
   simp only [zb,g1,w1,y1,z1,HW _ _ _ hS hI hL]
   rfl
  ·exact HW _ _ _ hS hI hL
section
set_option maxHeartbeats 0
theorem sV:∀ (w r:List Char),(∀ c∈w,c≠(Char.ofNat 32))→wordsSigns (w++(Char.ofNat 32)::r)=w::wordsSigns r
 | [],r,_=>by simp [wordsSigns]
 | c::w,r,h=>by
  have h1:c≠(Char.ofNat 32):=h c (List.mem_cons_self ..)
  have h2:=sV w r (fun d hd=>h d (List.mem_cons_of_mem _ hd))
  rw [List.cons_append,wordsSigns.eq_3 _ _ (fun e=>h1 e),h2]
theorem FD (R:List (List Char)) : stripLifts liftWords ([(Char.ofNat 99),(Char.ofNat 117),(Char.ofNat 116)] :: R)=([],[(Char.ofNat 99),(Char.ofNat 117),(Char.ofNat 116)] :: R):=by kernel_rfl
theorem WS (P:Program) {R:List (List Char)} (h:behindMainWord (wordsSigns P.initOrder.toList) = [(Char.ofNat 99),(Char.ofNat 117),(Char.ofNat 116)] :: R) : P.make=some .cut:=by
 unfold Program.make
 rw [h]
 rfl
theorem Xa (P:Program) {R:List (List Char)} (h:behindMainWord (wordsSigns P.initOrder.toList) = [(Char.ofNat 99),(Char.ofNat 117),(Char.ofNat 116)] :: R) : P.headLifts = []:=by
 unfold Program.headLifts
 rw [h,FD]
 rfl
theorem T4 (P:Program) {R:List (List Char)} (h:behindMainWord (wordsSigns P.initOrder.toList) = [(Char.ofNat 99),(Char.ofNat 117),(Char.ofNat 116)] :: R) : P.liftsFinal=false:=by
 unfold Program.liftsFinal
 rw [h,Xa P h]
 rfl
theorem Uo (P:Program) {R:List (List Char)} (h:behindMainWord (wordsSigns P.initOrder.toList) = [(Char.ofNat 99),(Char.ofNat 117),(Char.ofNat 116)] :: R) (h1:P.laysLater=false) (h2:P.bearsReflect=false) (h3:P.doorFits [] = true) : P.mayEnter=true:=by
 unfold Program.mayEnter
 rw [h]
 dsimp only
 rw [FD,h1,h2]
 dsimp only
 rw [h3]
 rfl
theorem Zs (P:Program) (h:P.doorRows = []) : P.doorFits [] = true:=by
 unfold Program.doorFits
 rw [h]
 rfl
theorem io:prog.initOrder=(String.ofList [Char.ofNat 104,Char.ofNat 97,Char.ofNat 114,Char.ofNat 110,Char.ofNat 101,Char.ofNat 115,Char.ofNat 115,Char.ofNat 32,Char.ofNat 50,Char.ofNat 53,Char.ofNat 50,Char.ofNat 97,Char.ofNat 100,Char.ofNat 102,Char.ofNat 98,Char.ofNat 50,Char.ofNat 102,Char.ofNat 48,Char.ofNat 100,Char.ofNat 53,Char.ofNat 50,Char.ofNat 55,Char.ofNat 55,Char.ofNat 50,Char.ofNat 98,Char.ofNat 101,Char.ofNat 56,Char.ofNat 52,Char.ofNat 57,Char.ofNat 101,Char.ofNat 49,Char.ofNat 57,Char.ofNat 100,Char.ofNat 49,Char.ofNat 52,Char.ofNat 101,Char.ofNat 100,Char.ofNat 52,Char.ofNat 54,Char.ofNat 48,Char.ofNat 101,Char.ofNat 57,Char.ofNat 49,Char.ofNat 56,Char.ofNat 97,Char.ofNat 48,Char.ofNat 53,Char.ofNat 100,Char.ofNat 48,Char.ofNat 99,Char.ofNat 54,Char.ofNat 50,Char.ofNat 48,Char.ofNat 100,Char.ofNat 50,Char.ofNat 102,Char.ofNat 100,Char.ofNat 102,Char.ofNat 48,Char.ofNat 54,Char.ofNat 97,Char.ofNat 53,Char.ofNat 97,Char.ofNat 102,Char.ofNat 57,Char.ofNat 51,Char.ofNat 57,Char.ofNat 52,Char.ofNat 51,Char.ofNat 51,Char.ofNat 97,Char.ofNat 48,Char.ofNat 32,Char.ofNat 99,Char.ofNat 117,Char.ofNat 116,Char.ofNat 32,Char.ofNat 97,Char.ofNat 116,Char.ofNat 32,Char.ofNat 100,Char.ofNat 105,Char.ofNat 115,Char.ofNat 112,Char.ofNat 97,Char.ofNat 116,Char.ofNat 99,Char.ofNat 104,Char.ofNat 47,Char.ofNat 100,Char.ofNat 105,Char.ofNat 115,Char.ofNat 112,Char.ofNat 97,Char.ofNat 116,Char.ofNat 99,Char.ofNat 104,Char.ofNat 108,Char.ofNat 97,Char.ofNat 119,Char.ofNat 49,Char.ofNat 53,Char.ofNat 46,Char.ofNat 80,Char.ofNat 108,Char.ofNat 97,Char.ofNat 110,Char.ofNat 65,Char.ofNat 100,Char.ofNat 100,Char.ofNat 115,Char.ofNat 32,Char.ofNat 100,Char.ofNat 105,Char.ofNat 115,Char.ofNat 112,Char.ofNat 97,Char.ofNat 116,Char.ofNat 99,Char.ofNat 104,Char.ofNat 47,Char.ofNat 100,Char.ofNat 105,Char.ofNat 115,Char.ofNat 112,Char.ofNat 97,Char.ofNat 116,Char.ofNat 99,Char.ofNat 104,Char.ofNat 108,Char.ofNat 97,Char.ofNat 119,Char.ofNat 56,Char.ofNat 46,Char.ofNat 78,Char.ofNat 111,Char.ofNat 100,Char.ofNat 101,Char.ofNat 115,Char.ofNat 70,Char.ofNat 114,Char.ofNat 101,Char.ofNat 101]):=by kernel_rfl
theorem ioL:prog.initOrder.toList = [(Char.ofNat 104),(Char.ofNat 97),(Char.ofNat 114),(Char.ofNat 110),(Char.ofNat 101),(Char.ofNat 115),(Char.ofNat 115)] ++ (Char.ofNat 32)::([(Char.ofNat 50),(Char.ofNat 53),(Char.ofNat 50),(Char.ofNat 97),(Char.ofNat 100),(Char.ofNat 102),(Char.ofNat 98),(Char.ofNat 50),(Char.ofNat 102),(Char.ofNat 48),(Char.ofNat 100),(Char.ofNat 53),(Char.ofNat 50),(Char.ofNat 55),(Char.ofNat 55),(Char.ofNat 50),(Char.ofNat 98),(Char.ofNat 101),(Char.ofNat 56),(Char.ofNat 52),(Char.ofNat 57),(Char.ofNat 101),(Char.ofNat 49),(Char.ofNat 57),(Char.ofNat 100),(Char.ofNat 49),(Char.ofNat 52),(Char.ofNat 101),(Char.ofNat 100),(Char.ofNat 52),(Char.ofNat 54),(Char.ofNat 48),(Char.ofNat 101),(Char.ofNat 57),(Char.ofNat 49),(Char.ofNat 56),(Char.ofNat 97),(Char.ofNat 48),(Char.ofNat 53),(Char.ofNat 100),(Char.ofNat 48),(Char.ofNat 99),(Char.ofNat 54),(Char.ofNat 50),(Char.ofNat 48),(Char.ofNat 100),(Char.ofNat 50),(Char.ofNat 102),(Char.ofNat 100),(Char.ofNat 102),(Char.ofNat 48),(Char.ofNat 54),(Char.ofNat 97),(Char.ofNat 53),(Char.ofNat 97),(Char.ofNat 102),(Char.ofNat 57),(Char.ofNat 51),(Char.ofNat 57),(Char.ofNat 52),(Char.ofNat 51),(Char.ofNat 51),(Char.ofNat 97),(Char.ofNat 48)] ++ (Char.ofNat 32)::([(Char.ofNat 99),(Char.ofNat 117),(Char.ofNat 116)] ++ (Char.ofNat 32) :: [(Char.ofNat 97),(Char.ofNat 116),(Char.ofNat 32),(Char.ofNat 100),(Char.ofNat 105),(Char.ofNat 115),(Char.ofNat 112),(Char.ofNat 97),(Char.ofNat 116),(Char.ofNat 99),(Char.ofNat 104),(Char.ofNat 47),(Char.ofNat 100),(Char.ofNat 105),(Char.ofNat 115),(Char.ofNat 112),(Char.ofNat 97),(Char.ofNat 116),(Char.ofNat 99),(Char.ofNat 104),(Char.ofNat 108),(Char.ofNat 97),(Char.ofNat 119),(Char.ofNat 49),(Char.ofNat 53),(Char.ofNat 46),(Char.ofNat 80),(Char.ofNat 108),(Char.ofNat 97),(Char.ofNat 110),(Char.ofNat 65),(Char.ofNat 100),(Char.ofNat 100),(Char.ofNat 115),(Char.ofNat 32),(Char.ofNat 100),(Char.ofNat 105),(Char.ofNat 115),(Char.ofNat 112),(Char.ofNat 97),(Char.ofNat 116),(Char.ofNat 99),(Char.ofNat 104),(Char.ofNat 47),(Char.ofNat 100),(Char.ofNat 105),(Char.ofNat 115),(Char.ofNat 112),(Char.ofNat 97),(Char.ofNat 116),(Char.ofNat 99),(Char.ofNat 104),(Char.ofNat 108),(Char.ofNat 97),(Char.ofNat 119),(Char.ofNat 56),(Char.ofNat 46),(Char.ofNat 78),(Char.ofNat 111),(Char.ofNat 100),(Char.ofNat 101),(Char.ofNat 115),(Char.ofNat 70),(Char.ofNat 114),(Char.ofNat 101),(Char.ofNat 101)])):=by rw [io]; exact String.toList_ofList
theorem ioW:∃ R,wordsSigns prog.initOrder.toList = [(Char.ofNat 104),(Char.ofNat 97),(Char.ofNat 114),(Char.ofNat 110),(Char.ofNat 101),(Char.ofNat 115),(Char.ofNat 115)] :: [(Char.ofNat 50),(Char.ofNat 53),(Char.ofNat 50),(Char.ofNat 97),(Char.ofNat 100),(Char.ofNat 102),(Char.ofNat 98),(Char.ofNat 50),(Char.ofNat 102),(Char.ofNat 48),(Char.ofNat 100),(Char.ofNat 53),(Char.ofNat 50),(Char.ofNat 55),(Char.ofNat 55),(Char.ofNat 50),(Char.ofNat 98),(Char.ofNat 101),(Char.ofNat 56),(Char.ofNat 52),(Char.ofNat 57),(Char.ofNat 101),(Char.ofNat 49),(Char.ofNat 57),(Char.ofNat 100),(Char.ofNat 49),(Char.ofNat 52),(Char.ofNat 101),(Char.ofNat 100),(Char.ofNat 52),(Char.ofNat 54),(Char.ofNat 48),(Char.ofNat 101),(Char.ofNat 57),(Char.ofNat 49),(Char.ofNat 56),(Char.ofNat 97),(Char.ofNat 48),(Char.ofNat 53),(Char.ofNat 100),(Char.ofNat 48),(Char.ofNat 99),(Char.ofNat 54),(Char.ofNat 50),(Char.ofNat 48),(Char.ofNat 100),(Char.ofNat 50),(Char.ofNat 102),(Char.ofNat 100),(Char.ofNat 102),(Char.ofNat 48),(Char.ofNat 54),(Char.ofNat 97),(Char.ofNat 53),(Char.ofNat 97),(Char.ofNat 102),(Char.ofNat 57),(Char.ofNat 51),(Char.ofNat 57),(Char.ofNat 52),(Char.ofNat 51),(Char.ofNat 51),(Char.ofNat 97),(Char.ofNat 48)] :: [(Char.ofNat 99),(Char.ofNat 117),(Char.ofNat 116)] :: R:=by
 rw [ioL,sV _ _ (by decide),sV _ _ (by decide),sV _ _ (by decide)]
 exact ⟨_,rfl⟩
theorem ioB:∃ R,behindMainWord (wordsSigns prog.initOrder.toList) = [(Char.ofNat 99),(Char.ofNat 117),(Char.ofNat 116)] :: R:=by
 obtain ⟨R,h⟩:=ioW
 rw [h]
 exact ⟨R,by kernel_rfl⟩
theorem abb:prog.laysLater=false:=by kernel_rfl
theorem abr:prog.bearsReflect=false:=by kernel_rfl
theorem abl:prog.doorRows = []:=by kernel_rfl
theorem aaG:prog.mayEnter=true:=by
 obtain ⟨R,h⟩:=ioB
 exact Uo _ h abb abr (Zs _ abl)
theorem aa9:prog.liftsFinal=false:=by
 obtain ⟨R,h⟩:=ioB
 exact T4 _ h
theorem aa6:prog.make=some .cut:=by
 obtain ⟨R,h⟩:=ioB
 exact WS _ h
end
end Go.Proofs.YtaknepbdbappdaaGreat
