/- My texts, in one. -/
import Derived.Test.YtkmpjphbkhpgbaaZC
set_option linter.all false
set_option maxRecDepth 100000
set_option maxHeartbeats 4000000
namespace Go.Proofs.Ytkmpjphbkhpgbaa
open Go.RowKit
open IntKind (i64)
open Go.Proofs.Try (prog)
theorem wg {P:Program} {f:FuncId} (ty:Ty) {e k:Nat} {F:List ty.den→Option (List ty.den)} (hk:tyN ty=k) (hk0 : 0 < k) (hcall:bV P f=true) (hlen:∀ xs zs,F xs=some zs→zs.length=xs.length∧0 < xs.length)
  (H:∀ (xs zs:List ty.den) (g c:Nat) (us:List Value) (w:World) (G:Nat→Prop),F xs=some zs→w.ownsRow 0 e k (.slice (some ⟨g,0,none⟩) xs.length c) xs.length us→us.length=xs.length * k→(∀ (j:Nat) u d,us[j]? = some u→(xs.map (aA ty)).flatten[j]? = some d→cw w G u d) →
   Calls P f #[.slice (some ⟨g,0,none⟩) xs.length c] w fun en w'=>en = .returned (.tuple #[])∧w.grownBy w' (some g)∧∃ vs:List Value,w'.ownsRow 0 e k (.slice (some ⟨g,0,none⟩) xs.length c) xs.length vs∧vs.length=zs.length * k∧∀ (j:Nat) u d,vs[j]? = some u→(zs.map (aA ty)).flatten[j]? = some d→cw w G u d) :
  aM P f [.own e k ty] [.io [.own e k ty]] (fun x=>(F x.1).bind fun z=>some (z,())):=by
 rintro ⟨xs,⟨⟩⟩ zz hF
 change List ty.den at xs
 obtain ⟨zs,hz,hF⟩:=a8 hF
 injection hF with hF
 subst hF
 obtain ⟨hzl,hx0⟩:=hlen xs zs hz
 refine ⟨fun h=>(by cases h),fun _=>⟨⟨hzl,trivial⟩,fun iss kss jss h1 h2 h3 h4 h5 h6=>⟨hcall,?_⟩⟩⟩
 match iss,h1 with
 | [is0],h1 =>
 match is0,h1.1 with
 | [t],_ =>
 match kss,h2 with
 | [k0],h2 =>
 match k0,h2.1 with
 | [],_ =>
 match jss,h3 with
 | [],h3 =>
 intro w0 F0 ρ b w G vs args ha hb0 hbn hi hr
 have hal:args.length=1:=by rw [← cz args,ha]; rfl
 match args,hal with
 | [a0],_ =>
 simp only [bO,bQ,toI,List.cons.injEq] at ha
 have ha0:=ha.1
 have hvl:vs.toList.length=1:=hr.len
 obtain ⟨v0,hv⟩ : ∃ v0,vs = #[v0]:=by
  match hv:vs.toList,hvl with
  | [v0],_=>exact ⟨v0,by apply Array.ext'; simpa using hv⟩
 subst hv
 have r0:=(hr.rep 0 v0 a0 rfl rfl).nrmd
 rw [ha0] at r0
 obtain ⟨B',hB,hnB⟩:=hb0 t (rwU e k ty xs) (by simp [bQ,toI,lkU])
 have hBe:B' = .rw e k (xs.map (aA ty)):=by
  cases B' with
  | st ty' cs=>cases hnB
  | rw e' k' es'=>exact hnB
 subst hBe
 have hel:(xs.map (aA ty)).length=xs.length:=List.length_map ..
 have hek:∀ y∈xs.map (aA ty),y.length=k:=fun y hy=>by
  obtain ⟨z,_,rfl⟩:=List.mem_map.1 hy
  rw [eb,hk]
 cases r0 with
 | row _ _ A c e2 k2 es2 hb2 hn2 hc2 hA2 hρ2 =>
 rw [hB] at hb2
 injection hb2 with hb2
 injection hb2 with q1 q2 q3
 subst q1 q2 q3
 have hρt:=hρ2 hel
 have hbx:=hi.box t _ hB
 cases hbx with
 | gn _ _ _ hg=>rw [hρt] at hg; cases hg
 | rw _ _ _ us hk1 ho hFt hkt hlt hrt hown =>
 rw [hρt,hel] at ho
 have ho':=ho
 rcases ho'.2 with ⟨h',hn0⟩ | ⟨g,cap,cur,h',_,hgh,_,_⟩
 ·omega
 injection h' with m1 m2 m3
 subst m1 m3
 have hfl:=aV k _ hek
 rw [hel] at hfl
 have hul:us.length=xs.length * k:=by rw [hlt,hfl]
 refine (H xs zs g c us w G hz ho hul hrt).mono ?_
 rintro en w' ⟨rfl,hT,vs',ho2,hvl',hrv⟩
 have hzk:∀ y∈zs.map (aA ty),y.length=k:=fun y hy=>by
  obtain ⟨z,_,rfl⟩:=List.mem_map.1 hy
  rw [eb,hk]
 have hzm:(zs.map (aA ty)).length=xs.length:=by rw [List.length_map,hzl]
 have hfz:=aV k _ hzk
 have hgF : ¬ G g:=hFt g (by rw [hρt]; rfl)
 have hgo:=hown g (by rw [hρt]; rfl)
 have hw:∀ h,h < w.heap.size→blk (ρ t)≠some h→w'.heap[h]? = w.heap[h]? := fun h hh hne=>hT.block h hh (fun e=>hne (by rw [hρt]; exact e.symm))
 have hs:Stp ρ b w G (j1 ρ t (ρ t)) (bt b (some (t,.rw e k (zs.map (aA ty))))) w' G:=by
  rw [a6]
  refine ⟨fun _ h=>h,fun h hh=>hw h (hi.flt h hh) (fun e=>hgF (by rw [hρt] at e; injection e with e; replace e:g=h:=e; rw [e]; exact hh)),fun x ty' cs hx=>?_,fun x e' k' es' hx=>?_⟩
  ·have h2:x≠t:=fun h=>by rw [h,hB] at hx; cases hx
   rw [aW _ _ h2]
   exact ⟨⟨_,_,hx⟩,rfl⟩
  ·by_cases h2:x=t
   ·subst h2
    rw [hB] at hx
    injection hx with hx
    injection hx with q1 q2 q3
    subst q1 q2 q3
    rw [br]
    exact ⟨_,_,rfl,by rw [hzm,hel]; exact Nat.le_refl _,fun _=>rfl⟩
   ·rw [aW _ _ h2]
    exact ⟨e',es',hx,Nat.le_refl _,fun _=>rfl⟩
 have hinv:=Inv.turn (v:=ρ t) hi hB hs
  (hi.ext.step hT.os hT.tape hT.output hT.size (fun p hp hM=>hT.block p (Nat.lt_of_lt_of_le hp hi.ext.size) (fun e=>kP hp hM (by injection e with e; rw [e]; exact hgo))))
  hT.size hw (fun h hh=>.inl hh) (by
   rw [a6]
   refine .rw e k _ vs' hk0 (by rw [hρt,hzm]; exact ho2) (fun h hh=>hFt h hh) hzk (by rw [hvl',hfz,List.length_map]) (fun p u d hu hd=>(hrv p u d hu hd).mono (fun _ h=>h) hs.hw) (fun h hh=>hown h hh))
 rw [a6] at hinv hs
 have hU:bG b (gm [.own e k ty] [.io [.own e k ty]] [[t]] [[]] [] (xs,()) (zs,()))=bt b (some (t,.rw e k (zs.map (aA ty)))):=by
  have hU2:gm [.own e k ty] [.io [.own e k ty]] [[t]] [[]] [] (xs,()) (zs,()) = [(t,.rw e k (zs.map (aA ty)))]:=by
   simp [gm,wD,toO,be,ci,aX,dr,oB,fG,qF,rwU]
  rw [hU2]
  funext x
  simp only [bG,lkU,bt]
  by_cases e2:x=t
  ·subst e2; simp
  ·simp [e2,Ne.symm e2]
 rw [hU]
 exact ⟨_,ρ,G,rfl,hinv,hs,.tup _ _ rfl (fun j x c h _=>by simp at h)⟩
def wL (xs:List Int) : Option (List Int):=if 0 < xs.length∧xs.length≤1000000 then some (xs.mergeSort fun x y=>decide (x≤y)) else none
end Go.Proofs.Ytkmpjphbkhpgbaa
section
namespace Go.Proofs
open Go.Shelf
def Try.laysM316_ren:Go.Shelf.Ren:=⟨fun | 316=>72 | n=>n,fun | 9=>9 | 3=>3 | 4=>4 | 37=>132 | 0=>0 | 127=>133 | 5=>5 | n=>n,fun | n=>n⟩
theorem Try.laysM316:Go.Proofs.LaysM.n316 prog Try.laysM316_ren:={
 mixed:=by kernel_rfl
 f316:=Try.func72.trans (congrArg some (by kernel_rfl))
 t0:=Try.underlying0
 a0:=Try.isAgg0
 z0:=Try.sizeOf0
 v0:=Try.zeroValue0
 t3:=Try.underlying3
 a3:=Try.isAgg3
 z3:=Try.sizeOf3
 v3:=Try.zeroValue3
 t4:=Try.underlying4
 a4:=Try.isAgg4
 z4:=Try.sizeOf4
 v4:=Try.zeroValue4
 t9:=Try.underlying9
 a9:=Try.isAgg9
 z9:=Try.sizeOf9
 v9:=Try.zeroValue9
 t37:=Try.underlying132
 a37:=Try.isAgg132
 z37:=Try.sizeOf132
 v37:=Try.zeroValue132
 t127:=Try.underlying133
 a127:=Try.isAgg133
 z127:=Try.sizeOf133
 v127:=Try.zeroValue133
 t5:=Try.underlying5
 a5:=Try.isAgg5
 z5:=Try.sizeOf5
 v5:=Try.zeroValue5
 i0:=by kernel_rfl
 i3:=by kernel_rfl
 i4:=by kernel_rfl
 i5:=by kernel_rfl
 i9:=by kernel_rfl
 i37:=by kernel_rfl
 i127:=by kernel_rfl }
open Go.RowKit in
theorem Try.stringslite_Clone (s:ByteArray) (w:World) (hlim:s.size≤281474976710656) :
  Calls prog 72 #[.string s] w fun e w'=>e = .returned (.string s)∧Below w.heap.size w w':=Any.stringslite_Clone Try.laysM316 s w hlim
def Try.lays189_ren:Go.Shelf.Ren:=⟨fun | 189=>38 | 125=>52 | 257=>51 | 128=>69 | 129=>70 | 294=>60 | 295=>61 | 296=>62 | 297=>63 | 298=>64 | 299=>65 | 216=>66 | 300=>67 | 301=>68 | 328=>75 | 329=>76 | 330=>77 | 331=>78 | 332=>79 | 215=>80 | 343=>81 | n=>n,fun | 28=>37 | 3=>3 | 46=>103 | 0=>0 | 51=>120 | 53=>122 | 4=>4 | 183=>113 | 182=>112 | 131=>117 | 5=>5 | 9=>9 | 218=>126 | 222=>130 | 228=>134 | 229=>33 | n=>n,fun | n=>n⟩
theorem Try.lays189:Go.Proofs.Lays.n189 prog Try.lays189_ren:={
 mixed:=by kernel_rfl
 f125:=Try.func52.trans (congrArg some (by kernel_rfl))
 f128:=Try.func69.trans (congrArg some (by kernel_rfl))
 f129:=Try.func70.trans (congrArg some (by kernel_rfl))
 f189:=Try.func38.trans (congrArg some (by kernel_rfl))
 f215:=Try.func80.trans (congrArg some (by kernel_rfl))
 f216:=Try.func66.trans (congrArg some (by kernel_rfl))
 f257:=Try.func51.trans (congrArg some (by kernel_rfl))
 f294:=Try.func60.trans (congrArg some (by kernel_rfl))
 f295:=Try.func61.trans (congrArg some (by kernel_rfl))
 f296:=Try.func62.trans (congrArg some (by kernel_rfl))
 f297:=Try.func63.trans (congrArg some (by kernel_rfl))
 f298:=Try.func64.trans (congrArg some (by kernel_rfl))
 f299:=Try.func65.trans (congrArg some (by kernel_rfl))
 f300:=Try.func67.trans (congrArg some (by kernel_rfl))
 f301:=Try.func68.trans (congrArg some (by kernel_rfl))
 f328:=Try.func75.trans (congrArg some (by kernel_rfl))
 f329:=Try.func76.trans (congrArg some (by kernel_rfl))
 f330:=Try.func77.trans (congrArg some (by kernel_rfl))
 f331:=Try.func78.trans (congrArg some (by kernel_rfl))
 f332:=Try.func79.trans (congrArg some (by kernel_rfl))
 f343:=Try.func81.trans (congrArg some (by kernel_rfl))
 t0:=Try.underlying0
 a0:=Try.isAgg0
 z0:=Try.sizeOf0
 v0:=Try.zeroValue0
 t3:=Try.underlying3
 a3:=Try.isAgg3
 z3:=Try.sizeOf3
 v3:=Try.zeroValue3
 t4:=Try.underlying4
 a4:=Try.isAgg4
 z4:=Try.sizeOf4
 v4:=Try.zeroValue4
 t5:=Try.underlying5
 a5:=Try.isAgg5
 z5:=Try.sizeOf5
 v5:=Try.zeroValue5
 t9:=Try.underlying9
 a9:=Try.isAgg9
 z9:=Try.sizeOf9
 v9:=Try.zeroValue9
 t28:=Try.underlying37
 a28:=Try.isAgg37
 z28:=Try.sizeOf37
 v28:=Try.zeroValue37
 t46:=Try.underlying103
 a46:=Try.isAgg103
 z46:=Try.sizeOf103
 v46:=Try.zeroValue103
 t51:=Try.underlying120
 a51:=Try.isAgg120
 z51:=Try.sizeOf120
 v51:=Try.zeroValue120
 t53:=Try.underlying122
 a53:=Try.isAgg122
 z53:=Try.sizeOf122
 v53:=Try.zeroValue122
 t131:=Try.underlying117
 a131:=Try.isAgg117
 z131:=Try.sizeOf117
 v131:=Try.zeroValue117
 t182:=Try.underlying112
 a182:=Try.isAgg112
 z182:=Try.sizeOf112
 v182:=Try.zeroValue112
 t183:=Try.underlying113
 a183:=Try.isAgg113
 z183:=Try.sizeOf113
 v183:=Try.zeroValue113
 t218:=Try.underlying126
 a218:=Try.isAgg126
 z218:=Try.sizeOf126
 v218:=Try.zeroValue126
 t222:=Try.underlying130
 a222:=Try.isAgg130
 z222:=Try.sizeOf130
 v222:=Try.zeroValue130
 t228:=Try.underlying134
 a228:=Try.isAgg134
 z228:=Try.sizeOf134
 v228:=Try.zeroValue134
 t229:=Try.underlying33
 a229:=Try.isAgg33
 z229:=Try.sizeOf33
 v229:=Try.zeroValue33 }
open Go.Sort Go.RowKit in
theorem Try.slices_Sort_int (blk off cap:Nat) (zs:List Int) (w:World) (hH:Holds (Value.int .i64) w blk off zs.toArray) (hblk:blk < w.heap.size) (hsz:zs.length < 4611686018427387904) :
  Calls prog 38 #[.slice (some ⟨blk,off,none⟩) zs.length cap] w fun e w' =>
   e = .returned (.tuple #[])∧∃ n os,w' = grow (putRow (Value.int .i64) (Sort.ahead w n) blk off (zs.mergeSort fun x y=>decide (x≤y)).toArray) os:=Any.slices_Sort_int Try.lays189 blk off cap zs w hH hblk hsz
end Go.Proofs
end
namespace Go.Proofs.Ytkmpjphbkhpgbaa
open Go.RowKit
open IntKind (i64)
open Go.Proofs.Try (prog)
theorem Cb:∀ (xs:List Int),(xs.map (aA (.int .i64))).flatten=xs.map (fun n=>D.v (.int .i64 n))
 | []=>rfl
 | x::l=>by
  show [D.v (Value.int .i64 x)] ++ (List.map (aA (.int .i64)) l).flatten = _
  rw [Cb l]
  rfl
theorem zk {w:World} {G:Nat→Prop} {us:List Value} {xs:List Int} (hl:us.length=xs.length * 1) (hr:∀ (j:Nat) u d,us[j]? = some u→(xs.map (aA (.int .i64))).flatten[j]? = some d→cw w G u d) : us=xs.map (Value.int .i64):=by
 apply List.ext_getElem (by simpa using hl)
 intro j h1 h2
 have h3:j < xs.length:=by simpa using h2
 have:=hr j us[j] (.v (.int .i64 xs[j])) (zq h1) (by rw [Cb,List.getElem?_map,zq h3]; rfl)
 have e:=(ah.vv (ρ:=fun _=>.tuple #[]) (b:=fun _=>none) (ah.d _ _ this)).1
 rw [e]; simp
noncomputable def xO:Ent:=⟨[.own 3 1 (.int .i64)],[.io [.own 3 1 (.int .i64)]],fun x=>(wL x.1).bind fun z=>some (z,())⟩
theorem xN:aM prog 38 [.own 3 1 (.int .i64)] [.io [.own 3 1 (.int .i64)]] (fun x=>(wL x.1).bind fun z=>some (z,())):=by
 refine wg (.int .i64) rfl (by decide) (by kernel_rfl) (fun xs zs h=>?_) (fun xs zs g c us w G h ho hul hr=>?_)
 ·change List Int at xs zs
  unfold wL at h
  split at h
  ·rename_i hc
   injection h with h
   subst h
   exact ⟨List.length_mergeSort xs,hc.1⟩
  ·cases h
 ·change List Int at xs zs
  unfold wL at h
  split at h
  ·rename_i hc
   injection h with h
   have hus:=zk hul hr
   subst hus
   have hzl:zs.length=xs.length:=by rw [← h]; exact List.length_mergeSort xs
   obtain ⟨_,ho2⟩:=ho
   rcases ho2 with ⟨h',hn0⟩ | ⟨g',cap,cur,h',hb,hgh,hnc,hmax,hcs,hct⟩
   ·have hn1:xs.length=0:=hn0
    omega
   injection h' with m1 m2 m3
   injection m1 with m1
   injection m1 with m1
   subst m1 m3
   refine (Try.slices_Sort_int g 0 c xs w (holds_of_blockI hgh (by have h1:=hct; rw [Nat.mul_one] at h1; exact h1)) (Array.getElem?_eq_some_iff.1 hgh).1 (by omega)).mono ?_
   rintro en w' ⟨rfl,n,os,rfl⟩
   rw [h]
   refine ⟨rfl,grownBy_sortedI _,zs.map (Value.int .i64),ownsRow_sortedI hzl (Nat.zero_le _) hgh hnc hmax hcs,(by rw [List.length_map]; exact (Nat.mul_one _).symm),fun j u d hu hd=>?_⟩
   rw [Cb] at hd
   rw [List.getElem?_map] at hu hd
   cases hj:zs[j]? with
   | none=>rw [hj] at hu; cases hu
   | some z =>
    rw [hj] at hu hd
    injection hu with hu
    injection hd with hd
    subst hu hd
    exact .v _ rfl
  ·cases h
noncomputable def ir (x:bb [.ag 0,.ag 0]) : Option (aq [.lf (.bool)]):=dw ⟨prog,[],17,[.lf (.bool)],[.tmp 4],[],[],[]⟩ ((Try.f25).body.getD .skip) (.n) [.ag 0,.ag 0] x
noncomputable def sk:Ent:=⟨[.ag 0,.ag 0],[.lf (.bool)],ir⟩
theorem sj:aM prog 25 [.ag 0,.ag 0] [.lf (.bool)] ir:=bh (n:=17) (.nil) Try.mixed Try.func25 rfl (by kernel_rfl) rfl rfl rfl (fun _=>rfl)
noncomputable def it (x:bb [.ag 0,.ag 0]) : Option (aq [.ag 0]):=dw ⟨prog,[],16,[.ag 0],[.cell 4 24],[],[4],[]⟩ ((Try.f26).body.getD .skip) (.n) [.ag 0,.ag 0] x
noncomputable def lz:Ent:=⟨[.ag 0,.ag 0],[.ag 0],it⟩
theorem ly:aM prog 26 [.ag 0,.ag 0] [.ag 0] it:=bh (n:=16) (.nil) Try.mixed Try.func26 rfl (by kernel_rfl) rfl rfl rfl (fun _=>rfl)
noncomputable def kH (x:bb [.lf (.sl (.st 8)),.lf (.int .i64),.lf (.int .i64)]) : Option (aq [.ag 0]):=dw ⟨prog,[(26,lz)],38,[.ag 0],[.cell 6 24],[],[6],[]⟩ ((Try.f14).body.getD .skip) (.s (.n) (.s (.n) (.s (.s (.n) (.s (.lp [.leaf 12 (.int .i64),.box 7 24 0 []] 0 false (.n)) .n)) (.n)))) [.lf (.sl (.st 8)),.lf (.int .i64),.lf (.int .i64)] x
noncomputable def wt:Ent:=⟨[.lf (.sl (.st 8)),.lf (.int .i64),.lf (.int .i64)],[.ag 0],kH⟩
theorem wq:aM prog 14 [.lf (.sl (.st 8)),.lf (.int .i64),.lf (.int .i64)] [.ag 0] kH:=bh (n:=38) (.cons (ly) (.nil)) Try.mixed Try.func14 rfl (by kernel_rfl) rfl rfl rfl (fun _=>rfl)
noncomputable def eM (x:bb [.lf (.sl (.st 8)),.ag 8]) : Option (aq [.lf (.sl (.int .i64))]):=dw ⟨prog,[(38,xO)],50,[.lf (.sl (.int .i64))],[.tmp 4],[],[],[]⟩ ((Try.f24).body.getD .skip) (.s (.n) (.s (.n) (.s (.s (.n) (.s (.lp [.row 5 12 3 1 (.int .i64),.leaf 15 (.int .i64)] 0 false (.s (.n) (.s (.n) (.s (.s (.s (.n) (.s (.n) (.s (.lp [.row 5 12 3 1 (.int .i64),.leaf 24 (.int .i64)] 2 false (.n)) .n))) .n) (.n))))) .n)) (.n)))) [.lf (.sl (.st 8)),.ag 8] x
noncomputable def od:Ent:=⟨[.lf (.sl (.st 8)),.ag 8],[.lf (.sl (.int .i64))],eM⟩
theorem ob:aM prog 24 [.lf (.sl (.st 8)),.ag 8] [.lf (.sl (.int .i64))] eM:=bh (n:=50) (.cons (xN) (.nil)) Try.mixed Try.func24 rfl (by kernel_rfl) rfl rfl rfl (fun _=>rfl)
noncomputable def fq (x:bb [.lf (.int .i64),.lf (.int .i64)]) : Option (aq [.lf (.bool)]):=dw ⟨prog,[],12,[.lf (.bool)],[.tmp 4],[],[],[]⟩ ((Try.f37).body.getD .skip) (.n) [.lf (.int .i64),.lf (.int .i64)] x
noncomputable def jO:Ent:=⟨[.lf (.int .i64),.lf (.int .i64)],[.lf (.bool)],fq⟩
theorem jN:aM prog 37 [.lf (.int .i64),.lf (.int .i64)] [.lf (.bool)] fq:=bh (n:=12) (.nil) Try.mixed Try.func37 rfl (by kernel_rfl) rfl rfl rfl (fun _=>rfl)
noncomputable def eN (x:bb [.ag 8,.lf (.int .i64)]) : Option (aq [.lf (.bool)]):=dw ⟨prog,[(37,jO)],33,[.lf (.bool)],[.tmp 4],[],[],[]⟩ ((Try.f23).body.getD .skip) (.n) [.ag 8,.lf (.int .i64)] x
noncomputable def og:Ent:=⟨[.ag 8,.lf (.int .i64)],[.lf (.bool)],eN⟩
theorem oe:aM prog 23 [.ag 8,.lf (.int .i64)] [.lf (.bool)] eN:=bh (n:=33) (.cons (jN) (.nil)) Try.mixed Try.func23 rfl (by kernel_rfl) rfl rfl rfl (fun _=>rfl)
noncomputable def gJ (x:bb [.lf (.sl (.st 8)),.ag 0,.ag 8,.lf (.int .i64)]) : Option (aq [.lf (.int .i64),.lf (.int .i64)]):=dw ⟨prog,[(23,og),(24,od),(14,wt),(26,lz),(25,sk)],53,[.lf (.int .i64),.lf (.int .i64)],[.tmp 8,.tmp 9],[],[],[]⟩ ((Try.f12).body.getD .skip) (.s (.n) (.s (.n) (.s (.n) (.s (.s (.n) (.s (.lp [.leaf 8 (.int .i64),.leaf 9 (.int .i64),.leaf 10 (.int .i64),.leaf 26 (.int .i64)] 0 true (.n)) .n)) (.n))))) [.lf (.sl (.st 8)),.ag 0,.ag 8,.lf (.int .i64)] x
noncomputable def kG:Ent:=⟨[.lf (.sl (.st 8)),.ag 0,.ag 8,.lf (.int .i64)],[.lf (.int .i64),.lf (.int .i64)],gJ⟩
theorem kF:aM prog 12 [.lf (.sl (.st 8)),.ag 0,.ag 8,.lf (.int .i64)] [.lf (.int .i64),.lf (.int .i64)] gJ:=bh (n:=53) (.cons (oe) (.cons (ob) (.cons (wq) (.cons (ly) (.cons (sj) (.nil)))))) Try.mixed Try.func12 rfl (by kernel_rfl) rfl rfl rfl (fun _=>rfl)
abbrev EOk (P:Program) (f:FuncId) (e:Ent) : Prop:=aM P f e.ps e.rs e.f
theorem rt {P:Program} {T:List (Nat×Ent)} {e:Ent} {f:FuncId} {fn:Func} (h:jU) (fz:List (Nat×List Nat)) (sc:List Nat) (fb:List (Nat×List Nat)) (hT:hZ P T) (hm:P.follows .mixedOrders=true) (hf:P.funcs[f]? = some fn) (hb:fn.body=some (fn.body.getD .skip):=by kernel_rfl) (hcb:bV P f=true:=by kernel_rfl) (hl:((decide (e.ps.length≤fn.ntmps)&&j6 e.ps) && !(fV e.ps||fV e.rs))=true:=by kernel_rfl)
  (hF:∀ x,dw ⟨P,T,fn.ntmps,e.rs,fn.results.toList,fz,sc,fb⟩ (fn.body.getD .skip) h e.ps x=e.f x:=by intro x; kernel_rfl) : aM P f e.ps e.rs e.f:=bh hT hm hf hb hcb rfl rfl hl hF
def pA (v_a:aF) (v_b:aF) : Option (aF) :=
 some (⟨(i64.wrap (v_a.aY + v_b.aY)),(i64.wrap (v_a.ar + v_b.ar))⟩ : aF)
def eR (v_s:al) (fJ:Int) (st:aF×Int) : Option ((aF×Int)⊕((aF×Int))) :=
 let v_v:=st.1
 let v_i:=st.2
 if (decide (v_i < (v_s.am.length:Int)))=true then
 (bw v_s.am v_i).bind fun b1=>let v_p:ac:=b1
 (if (v_p.av==fJ)=true then some (decide (v_p.af≤v_s.iZ)) else some false).bind fun q2=>(if q2=true then some (decide (v_s.iZ < v_p.aD)) else some false).bind fun q3=>if q3=true then
 (pA v_v v_p.ap).bind fun c4=>let v_v:aF:=c4
 let v_i:Int:=(i64.wrap (v_i + 1))
 some (.inl (v_v,v_i))
 else
 let v_i:Int:=(i64.wrap (v_i + 1))
 some (.inl (v_v,v_i))
 else
 some (.inr (v_v,v_i))
def m9 (v_s:al) (fJ:Int) : Option (aF) :=
 let v_v:aF:=(⟨0,0⟩ : aF)
 let v_i:Int:=0
 (aN (eR v_s fJ) aB (v_v,v_i)).bind fun r5 =>
 let v_v:=r5.1
 let v_i:=r5.2
 some v_v
def Ar:Ent:=⟨[.ag 0,.ag 0],[.ag 0],fun x=>pA x.1 x.2.1⟩
theorem Aq:EOk prog 17 Ar:=rt .n [] [4] [] .nil Try.mixed Try.func17
def tt:Ent:=⟨[.ag 12,.lf (.int .i64)],[.ag 0],fun x=>m9 x.1 x.2.1⟩
theorem An:EOk prog 21 tt:=rt (.s .n (.s .n (.s (.s .n (.s (.lp [.box 5 24 0 [],.leaf 6 (.int .i64)] 0 false .n) .n)) .n))) [] [4] [] (.cons Aq .nil) Try.mixed Try.func21
noncomputable def kJ (x:bb []) : Option (aq [.lf (.bool)]):=dw ⟨prog,[(12,kG)],23,[.lf (.bool)],[.tmp 0],[],[],[]⟩ ((Try.f9).body.getD .skip) (.n) [] x
noncomputable def kK:Ent:=⟨[],[.lf (.bool)],kJ⟩
theorem kI:aM prog 9 [] [.lf (.bool)] kJ:=bh (n:=23) (.cons (kF) (.nil)) Try.mixed Try.func9 rfl (by kernel_rfl) rfl rfl rfl (fun _=>rfl)
noncomputable def jG (x:bb [.lf (.int .i64),.lf (.int .i64)]) : Option (aq [.lf (.int .i64)]):=dw ⟨prog,[],15,[.lf (.int .i64)],[.tmp 4],[],[],[]⟩ ((Try.f11).body.getD .skip) (.n) [.lf (.int .i64),.lf (.int .i64)] x
noncomputable def fX:Ent:=⟨[.lf (.int .i64),.lf (.int .i64)],[.lf (.int .i64)],jG⟩
theorem fW:aM prog 11 [.lf (.int .i64),.lf (.int .i64)] [.lf (.int .i64)] jG:=bh (n:=15) (.nil) Try.mixed Try.func11 rfl (by kernel_rfl) rfl rfl rfl (fun _=>rfl)
noncomputable def mj (x:bb [.ag 8]) : Option (aq [.ag 8]):=dw ⟨prog,[(11,fX)],30,[.ag 8],[.cell 2 26],[],[2],[]⟩ ((Try.f10).body.getD .skip) (.n) [.ag 8] x
noncomputable def xL:Ent:=⟨[.ag 8],[.ag 8],mj⟩
theorem xK:aM prog 10 [.ag 8] [.ag 8] mj:=bh (n:=30) (.cons (fW) (.nil)) Try.mixed Try.func10 rfl (by kernel_rfl) rfl rfl rfl (fun _=>rfl)
def RdK (k:Nat) (w:World) (v:Value) (n:Nat) (xs:List Value) : Prop :=
 ∃ A c,v = .slice A n c∧n≤c∧c≤maxLen∧xs.length=n * k∧(0 < xs.length→∃ a,A=some a∧a.block < w.heap.size∧∀ j u,xs[j]? = some u→w.cell? (a.add j)=some u)
theorem cS {w:World} {B e k n:Nat} {v:Value} {xs:List Value} (h:w.ownsRow B e k v n xs) : ∃ A c,v = .slice A n c∧n≤c∧c≤9223372036854775807:=by
 rcases h.2 with ⟨rfl,h0⟩ | ⟨g,cap,cur,rfl,_,_,hc,hm,_⟩
 ·subst h0; exact ⟨none,0,rfl,Nat.le_refl _,by omega⟩
 ·unfold maxLen at hm; exact ⟨_,cap,rfl,hc,by omega⟩
theorem cp (W:World) (B:Nat) (e:TypeId) (k:Nat) (h:B≤W.heap.size) : (W.alloc (.cells #[] e)).ownsRow B e k (.slice (some ⟨W.heap.size,0,none⟩) 0 0) 0 [] :=
 ⟨by simp,.inr ⟨W.heap.size,0,#[],rfl,h,heap_alloc_new W _,Nat.le_refl _,by simp [maxLen],by simp,by simp⟩⟩
section
section
variable {P:Program} (w:World)
end
end
def cF (k:Nat) (t:TypeId) (n:Nat) (xs:List Value) (w:World) (e:Ending) (w':World) : Prop:=∃ A' c',e = .returned (.slice A' n c')∧w'.ownsRow w.heap.size t k (.slice A' n c') n xs∧Ext w w'
theorem Try.infoClNode:(prog.info? 54).map (fun i=>(i.zero,i.size,i.bytes))=some (some (.agg #[.int .i64 0,.int .i64 0,.int .i64 0,.int .i64 0,.int .i64 0,.int .i64 0,.int .i64 0,.bool false]),8,64):=by kernel_rfl
theorem sg (v:Value) (n:Nat) (xs:List Value) (w:World) (h:RdK 8 w v n xs) (h1:∀ u∈xs,u.oneCell' = true) (h2:n≤1000000) :
  Calls prog 40 #[v] w (cF 8 54 n xs w):=by
 obtain ⟨c0,hc,hcz0,hcz1,hcz2⟩:=info_parts Try.infoClNode
 obtain ⟨A,c,rfl,hc1,hc2,hl,hcell⟩:=h
 have hn:=fun (W:World) (A:Option Addr) (n c n' c':Nat)=>Lib.run_eql_slice_nil (P:=prog) W 46 54 A n c n' c' Try.underlying46
 have HL:=Lib.hid hl
 have H1:=Lib.hid h1
 cases A with
 | none =>
  have hx:xs = []:=by
   rcases xs with _ | ⟨x,xs⟩
   ·rfl
   ·obtain ⟨a,e,_⟩:=hcell (by simp)
    cases e
  subst hx
  have hn0:n=0:=by simp at hl; omega
  subst hn0
  clear hcell hl
  go_enter Try.func40,Try.ntmps40
  go_wp2
  go_ret
  exact ⟨none,0,rfl,World.ownsRow_nil _ _ _ 8,Ext.refl _⟩
 | some a =>
  have HO:=Lib.hid (cp w w.heap.size 54 8 (Nat.le_refl _))
  have HCS:=Lib.hid (show ∀ (j:Nat) (u:Value),xs[j]? = some u→(w.alloc (.cells #[] 54)).cell? (a.add j)=some u from fun j u hu=>by
   obtain ⟨a',e,hb,hcs⟩:=hcell (by have:=(zg.1 hu).1; omega)
   obtain rfl:a=a':=Option.some.inj e
   exact (Below.cell (aP w _) (p:=a.add j) (by rw [bE]; exact hb)).trans (hcs j u hu))
  clear hcell hl h1
  go_enter Try.func40,Try.ntmps40
  go_wp2_with (at_builtin; go_loud (refine wpList_append_own_at _ rfl (.tmp 5) (.tmp 6) 46 rfl w.heap.size 54 c0 _ 8 64 Try.underlying46 hc hcz0 hcz1 hcz2 rfl (by decide) _ 0 [] rfl HO.out a n c xs rfl HL.out HCS.out H1.out ?c3 ?c4 ?c5 ?_))
  case c3=>simp [maxLen]; omega
  case c4=>omega
  case c5=>simp
  intro v' w3 ho3 hg3 _ hat3
  have HE:=Lib.hid ((aP w (.cells #[] 54)).trans' (ca hg3 (by simp) (fun k hk=>by simp [Value.ownBlock] at hk; omega)))
  have HO3:=Lib.hid ho3
  obtain ⟨A3,c3,rfl,_,_⟩:=cS ho3
  clear ho3 hg3 hat3
  go_wp2
  go_ret
  exact ⟨_,_,rfl,HO3.out,HE.out⟩
theorem Try.infoClCont:(prog.info? 81).map (fun i=>(i.zero,i.size,i.bytes))=some (some (.agg #[.int .i64 0,.int .i64 0,.int .i64 0,.int .i64 0,.int .i64 0,.int .i64 0,.int .i64 0,.bool false,.int .i64 0]),9,72):=by kernel_rfl
theorem si (v:Value) (n:Nat) (xs:List Value) (w:World) (h:RdK 9 w v n xs) (h1:∀ u∈xs,u.oneCell' = true) (h2:n≤1000000) :
  Calls prog 43 #[v] w (cF 9 81 n xs w):=by
 obtain ⟨c0,hc,hcz0,hcz1,hcz2⟩:=info_parts Try.infoClCont
 obtain ⟨A,c,rfl,hc1,hc2,hl,hcell⟩:=h
 have hn:=fun (W:World) (A:Option Addr) (n c n' c':Nat)=>Lib.run_eql_slice_nil (P:=prog) W 48 81 A n c n' c' Try.underlying48
 have HL:=Lib.hid hl
 have H1:=Lib.hid h1
 cases A with
 | none =>
  have hx:xs = []:=by
   rcases xs with _ | ⟨x,xs⟩
   ·rfl
   ·obtain ⟨a,e,_⟩:=hcell (by simp)
    cases e
  subst hx
  have hn0:n=0:=by simp at hl; omega
  subst hn0
  clear hcell hl
  go_enter Try.func43,Try.ntmps43
  go_wp2
  go_ret
  exact ⟨none,0,rfl,World.ownsRow_nil _ _ _ 9,Ext.refl _⟩
 | some a =>
  have HO:=Lib.hid (cp w w.heap.size 81 9 (Nat.le_refl _))
  have HCS:=Lib.hid (show ∀ (j:Nat) (u:Value),xs[j]? = some u→(w.alloc (.cells #[] 81)).cell? (a.add j)=some u from fun j u hu=>by
   obtain ⟨a',e,hb,hcs⟩:=hcell (by have:=(zg.1 hu).1; omega)
   obtain rfl:a=a':=Option.some.inj e
   exact (Below.cell (aP w _) (p:=a.add j) (by rw [bE]; exact hb)).trans (hcs j u hu))
  clear hcell hl h1
  go_enter Try.func43,Try.ntmps43
  go_wp2_with (at_builtin; go_loud (refine wpList_append_own_at _ rfl (.tmp 5) (.tmp 6) 48 rfl w.heap.size 81 c0 _ 9 72 Try.underlying48 hc hcz0 hcz1 hcz2 rfl (by decide) _ 0 [] rfl HO.out a n c xs rfl HL.out HCS.out H1.out ?c3 ?c4 ?c5 ?_))
  case c3=>simp [maxLen]; omega
  case c4=>omega
  case c5=>simp
  intro v' w3 ho3 hg3 _ hat3
  have HE:=Lib.hid ((aP w (.cells #[] 81)).trans' (ca hg3 (by simp) (fun k hk=>by simp [Value.ownBlock] at hk; omega)))
  have HO3:=Lib.hid ho3
  obtain ⟨A3,c3,rfl,_,_⟩:=cS ho3
  clear ho3 hg3 hat3
  go_wp2
  go_ret
  exact ⟨_,_,rfl,HO3.out,HE.out⟩
theorem Try.infoClSlot:(prog.info? 83).map (fun i=>(i.zero,i.size,i.bytes))=some (some (.agg #[.int .i64 0,.int .i64 0,.int .i64 0]),3,24):=by kernel_rfl
theorem se (v:Value) (n:Nat) (xs:List Value) (w:World) (h:RdK 3 w v n xs) (h1:∀ u∈xs,u.oneCell' = true) (h2:n≤1000000) :
  Calls prog 44 #[v] w (cF 3 83 n xs w):=by
 obtain ⟨c0,hc,hcz0,hcz1,hcz2⟩:=info_parts Try.infoClSlot
 obtain ⟨A,c,rfl,hc1,hc2,hl,hcell⟩:=h
 have hn:=fun (W:World) (A:Option Addr) (n c n' c':Nat)=>Lib.run_eql_slice_nil (P:=prog) W 49 83 A n c n' c' Try.underlying49
 have HL:=Lib.hid hl
 have H1:=Lib.hid h1
 cases A with
 | none =>
  have hx:xs = []:=by
   rcases xs with _ | ⟨x,xs⟩
   ·rfl
   ·obtain ⟨a,e,_⟩:=hcell (by simp)
    cases e
  subst hx
  have hn0:n=0:=by simp at hl; omega
  subst hn0
  clear hcell hl
  go_enter Try.func44,Try.ntmps44
  go_wp2
  go_ret
  exact ⟨none,0,rfl,World.ownsRow_nil _ _ _ 3,Ext.refl _⟩
 | some a =>
  have HO:=Lib.hid (cp w w.heap.size 83 3 (Nat.le_refl _))
  have HCS:=Lib.hid (show ∀ (j:Nat) (u:Value),xs[j]? = some u→(w.alloc (.cells #[] 83)).cell? (a.add j)=some u from fun j u hu=>by
   obtain ⟨a',e,hb,hcs⟩:=hcell (by have:=(zg.1 hu).1; omega)
   obtain rfl:a=a':=Option.some.inj e
   exact (Below.cell (aP w _) (p:=a.add j) (by rw [bE]; exact hb)).trans (hcs j u hu))
  clear hcell hl h1
  go_enter Try.func44,Try.ntmps44
  go_wp2_with (at_builtin; go_loud (refine wpList_append_own_at _ rfl (.tmp 5) (.tmp 6) 49 rfl w.heap.size 83 c0 _ 3 24 Try.underlying49 hc hcz0 hcz1 hcz2 rfl (by decide) _ 0 [] rfl HO.out a n c xs rfl HL.out HCS.out H1.out ?c3 ?c4 ?c5 ?_))
  case c3=>simp [maxLen]; omega
  case c4=>omega
  case c5=>simp
  intro v' w3 ho3 hg3 _ hat3
  have HE:=Lib.hid ((aP w (.cells #[] 83)).trans' (ca hg3 (by simp) (fun k hk=>by simp [Value.ownBlock] at hk; omega)))
  have HO3:=Lib.hid ho3
  obtain ⟨A3,c3,rfl,_,_⟩:=cS ho3
  clear ho3 hg3 hat3
  go_wp2
  go_ret
  exact ⟨_,_,rfl,HO3.out,HE.out⟩
theorem Try.infoClPlan:(prog.info? 26).map (fun i=>(i.zero,i.size,i.bytes))=some (some (.agg #[.int .i64 0,.int .i64 0,.int .i64 0,.int .i64 0,.int .i64 0,.int .i64 0]),6,48):=by kernel_rfl
theorem sf (v:Value) (n:Nat) (xs:List Value) (w:World) (h:RdK 6 w v n xs) (h1:∀ u∈xs,u.oneCell' = true) (h2:n≤1000000) :
  Calls prog 45 #[v] w (cF 6 26 n xs w):=by
 obtain ⟨c0,hc,hcz0,hcz1,hcz2⟩:=info_parts Try.infoClPlan
 obtain ⟨A,c,rfl,hc1,hc2,hl,hcell⟩:=h
 have hn:=fun (W:World) (A:Option Addr) (n c n' c':Nat)=>Lib.run_eql_slice_nil (P:=prog) W 22 26 A n c n' c' Try.underlying22
 have HL:=Lib.hid hl
 have H1:=Lib.hid h1
 cases A with
 | none =>
  have hx:xs = []:=by
   rcases xs with _ | ⟨x,xs⟩
   ·rfl
   ·obtain ⟨a,e,_⟩:=hcell (by simp)
    cases e
  subst hx
  have hn0:n=0:=by simp at hl; omega
  subst hn0
  clear hcell hl
  go_enter Try.func45,Try.ntmps45
  go_wp2
  go_ret
  exact ⟨none,0,rfl,World.ownsRow_nil _ _ _ 6,Ext.refl _⟩
 | some a =>
  have HO:=Lib.hid (cp w w.heap.size 26 6 (Nat.le_refl _))
  have HCS:=Lib.hid (show ∀ (j:Nat) (u:Value),xs[j]? = some u→(w.alloc (.cells #[] 26)).cell? (a.add j)=some u from fun j u hu=>by
   obtain ⟨a',e,hb,hcs⟩:=hcell (by have:=(zg.1 hu).1; omega)
   obtain rfl:a=a':=Option.some.inj e
   exact (Below.cell (aP w _) (p:=a.add j) (by rw [bE]; exact hb)).trans (hcs j u hu))
  clear hcell hl h1
  go_enter Try.func45,Try.ntmps45
  go_wp2_with (at_builtin; go_loud (refine wpList_append_own_at _ rfl (.tmp 5) (.tmp 6) 22 rfl w.heap.size 26 c0 _ 6 48 Try.underlying22 hc hcz0 hcz1 hcz2 rfl (by decide) _ 0 [] rfl HO.out a n c xs rfl HL.out HCS.out H1.out ?c3 ?c4 ?c5 ?_))
  case c3=>simp [maxLen]; omega
  case c4=>omega
  case c5=>simp
  intro v' w3 ho3 hg3 _ hat3
  have HE:=Lib.hid ((aP w (.cells #[] 26)).trans' (ca hg3 (by simp) (fun k hk=>by simp [Value.ownBlock] at hk; omega)))
  have HO3:=Lib.hid ho3
  obtain ⟨A3,c3,rfl,_,_⟩:=cS ho3
  clear ho3 hg3 hat3
  go_wp2
  go_ret
  exact ⟨_,_,rfl,HO3.out,HE.out⟩
theorem Try.infoClStr:(prog.info? 9).map (fun i=>(i.zero,i.size,i.bytes))=some (some (.string ⟨#[]⟩),1,16):=by kernel_rfl
theorem uv (v:Value) (n:Nat) (xs:List Value) (w:World) (h:RdK 1 w v n xs) (h1:∀ u∈xs,u.oneCell' = true) (h2:n≤1000000) :
  Calls prog 71 #[v] w (cF 1 9 n xs w):=by
 obtain ⟨c0,hc,hcz0,hcz1,hcz2⟩:=info_parts Try.infoClStr
 obtain ⟨A,c,rfl,hc1,hc2,hl,hcell⟩:=h
 have hn:=fun (W:World) (A:Option Addr) (n c n' c':Nat)=>Lib.run_eql_slice_nil (P:=prog) W 42 9 A n c n' c' Try.underlying42
 have HL:=Lib.hid hl
 have H1:=Lib.hid h1
 cases A with
 | none =>
  have hx:xs = []:=by
   rcases xs with _ | ⟨x,xs⟩
   ·rfl
   ·obtain ⟨a,e,_⟩:=hcell (by simp)
    cases e
  subst hx
  have hn0:n=0:=by simp at hl; omega
  subst hn0
  clear hcell hl
  go_enter Try.func71,Try.ntmps71
  go_wp2
  go_ret
  exact ⟨none,0,rfl,World.ownsRow_nil _ _ _ 1,Ext.refl _⟩
 | some a =>
  have HO:=Lib.hid (cp w w.heap.size 9 1 (Nat.le_refl _))
  have HCS:=Lib.hid (show ∀ (j:Nat) (u:Value),xs[j]? = some u→(w.alloc (.cells #[] 9)).cell? (a.add j)=some u from fun j u hu=>by
   obtain ⟨a',e,hb,hcs⟩:=hcell (by have:=(zg.1 hu).1; omega)
   obtain rfl:a=a':=Option.some.inj e
   exact (Below.cell (aP w _) (p:=a.add j) (by rw [bE]; exact hb)).trans (hcs j u hu))
  clear hcell hl h1
  go_enter Try.func71,Try.ntmps71
  go_wp2_with (at_builtin; go_loud (refine wpList_append_own_at _ rfl (.tmp 5) (.tmp 6) 42 rfl w.heap.size 9 c0 _ 1 16 Try.underlying42 hc hcz0 hcz1 hcz2 rfl (by decide) _ 0 [] rfl HO.out a n c xs rfl HL.out HCS.out H1.out ?c3 ?c4 ?c5 ?_))
  case c3=>simp [maxLen]; omega
  case c4=>omega
  case c5=>simp
  intro v' w3 ho3 hg3 _ hat3
  have HE:=Lib.hid ((aP w (.cells #[] 9)).trans' (ca hg3 (by simp) (fun k hk=>by simp [Value.ownBlock] at hk; omega)))
  have HO3:=Lib.hid ho3
  obtain ⟨A3,c3,rfl,_,_⟩:=cS ho3
  clear ho3 hg3 hat3
  go_wp2
  go_ret
  exact ⟨_,_,rfl,HO3.out,HE.out⟩
theorem Try.infoClQueue:(prog.info? 71).map (fun i=>(i.zero,i.size,i.bytes))=some (some (.agg #[.string ⟨#[]⟩,.slice none 0 0,.int .i64 0]),3,48):=by kernel_rfl
theorem rv (v:Value) (n:Nat) (xs:List Value) (w:World) (h:RdK 3 w v n xs) (h1:∀ u∈xs,u.oneCell' = true) (h2:n≤1000000) :
  Calls prog 73 #[v] w (cF 3 71 n xs w):=by
 obtain ⟨c0,hc,hcz0,hcz1,hcz2⟩:=info_parts Try.infoClQueue
 obtain ⟨A,c,rfl,hc1,hc2,hl,hcell⟩:=h
 have hn:=fun (W:World) (A:Option Addr) (n c n' c':Nat)=>Lib.run_eql_slice_nil (P:=prog) W 43 71 A n c n' c' Try.underlying43
 have HL:=Lib.hid hl
 have H1:=Lib.hid h1
 cases A with
 | none =>
  have hx:xs = []:=by
   rcases xs with _ | ⟨x,xs⟩
   ·rfl
   ·obtain ⟨a,e,_⟩:=hcell (by simp)
    cases e
  subst hx
  have hn0:n=0:=by simp at hl; omega
  subst hn0
  clear hcell hl
  go_enter Try.func73,Try.ntmps73
  go_wp2
  go_ret
  exact ⟨none,0,rfl,World.ownsRow_nil _ _ _ 3,Ext.refl _⟩
 | some a =>
  have HO:=Lib.hid (cp w w.heap.size 71 3 (Nat.le_refl _))
  have HCS:=Lib.hid (show ∀ (j:Nat) (u:Value),xs[j]? = some u→(w.alloc (.cells #[] 71)).cell? (a.add j)=some u from fun j u hu=>by
   obtain ⟨a',e,hb,hcs⟩:=hcell (by have:=(zg.1 hu).1; omega)
   obtain rfl:a=a':=Option.some.inj e
   exact (Below.cell (aP w _) (p:=a.add j) (by rw [bE]; exact hb)).trans (hcs j u hu))
  clear hcell hl h1
  go_enter Try.func73,Try.ntmps73
  go_wp2_with (at_builtin; go_loud (refine wpList_append_own_at _ rfl (.tmp 5) (.tmp 6) 43 rfl w.heap.size 71 c0 _ 3 48 Try.underlying43 hc hcz0 hcz1 hcz2 rfl (by decide) _ 0 [] rfl HO.out a n c xs rfl HL.out HCS.out H1.out ?c3 ?c4 ?c5 ?_))
  case c3=>simp [maxLen]; omega
  case c4=>omega
  case c5=>simp
  intro v' w3 ho3 hg3 _ hat3
  have HE:=Lib.hid ((aP w (.cells #[] 71)).trans' (ca hg3 (by simp) (fun k hk=>by simp [Value.ownBlock] at hk; omega)))
  have HO3:=Lib.hid ho3
  obtain ⟨A3,c3,rfl,_,_⟩:=cS ho3
  clear ho3 hg3 hat3
  go_wp2
  go_ret
  exact ⟨_,_,rfl,HO3.out,HE.out⟩
theorem Try.infoClCap:(prog.info? 68).map (fun i=>(i.zero,i.size,i.bytes))=some (some (.agg #[.int .i64 0,.int .i64 0]),2,16):=by kernel_rfl
theorem ux (v:Value) (n:Nat) (xs:List Value) (w:World) (h:RdK 2 w v n xs) (h1:∀ u∈xs,u.oneCell' = true) (h2:n≤1000000) :
  Calls prog 74 #[v] w (cF 2 68 n xs w):=by
 obtain ⟨c0,hc,hcz0,hcz1,hcz2⟩:=info_parts Try.infoClCap
 obtain ⟨A,c,rfl,hc1,hc2,hl,hcell⟩:=h
 have hn:=fun (W:World) (A:Option Addr) (n c n' c':Nat)=>Lib.run_eql_slice_nil (P:=prog) W 69 68 A n c n' c' Try.underlying69
 have HL:=Lib.hid hl
 have H1:=Lib.hid h1
 cases A with
 | none =>
  have hx:xs = []:=by
   rcases xs with _ | ⟨x,xs⟩
   ·rfl
   ·obtain ⟨a,e,_⟩:=hcell (by simp)
    cases e
  subst hx
  have hn0:n=0:=by simp at hl; omega
  subst hn0
  clear hcell hl
  go_enter Try.func74,Try.ntmps74
  go_wp2
  go_ret
  exact ⟨none,0,rfl,World.ownsRow_nil _ _ _ 2,Ext.refl _⟩
 | some a =>
  have HO:=Lib.hid (cp w w.heap.size 68 2 (Nat.le_refl _))
  have HCS:=Lib.hid (show ∀ (j:Nat) (u:Value),xs[j]? = some u→(w.alloc (.cells #[] 68)).cell? (a.add j)=some u from fun j u hu=>by
   obtain ⟨a',e,hb,hcs⟩:=hcell (by have:=(zg.1 hu).1; omega)
   obtain rfl:a=a':=Option.some.inj e
   exact (Below.cell (aP w _) (p:=a.add j) (by rw [bE]; exact hb)).trans (hcs j u hu))
  clear hcell hl h1
  go_enter Try.func74,Try.ntmps74
  go_wp2_with (at_builtin; go_loud (refine wpList_append_own_at _ rfl (.tmp 5) (.tmp 6) 69 rfl w.heap.size 68 c0 _ 2 16 Try.underlying69 hc hcz0 hcz1 hcz2 rfl (by decide) _ 0 [] rfl HO.out a n c xs rfl HL.out HCS.out H1.out ?c3 ?c4 ?c5 ?_))
  case c3=>simp [maxLen]; omega
  case c4=>omega
  case c5=>simp
  intro v' w3 ho3 hg3 _ hat3
  have HE:=Lib.hid ((aP w (.cells #[] 68)).trans' (ca hg3 (by simp) (fun k hk=>by simp [Value.ownBlock] at hk; omega)))
  have HO3:=Lib.hid ho3
  obtain ⟨A3,c3,rfl,_,_⟩:=cS ho3
  clear ho3 hg3 hat3
  go_wp2
  go_ret
  exact ⟨_,_,rfl,HO3.out,HE.out⟩
theorem Try.infoClAsk:(prog.info? 99).map (fun i=>(i.zero,i.size,i.bytes))=some (some (.agg #[.int .i64 0,.int .i64 0,.int .i64 0,.int .i64 0,.int .i64 0,.int .i64 0,.int .i64 0,.int .i64 0]),8,64):=by kernel_rfl
theorem uy (v:Value) (n:Nat) (xs:List Value) (w:World) (h:RdK 8 w v n xs) (h1:∀ u∈xs,u.oneCell' = true) (h2:n≤1000000) :
  Calls prog 58 #[v] w (cF 8 99 n xs w):=by
 obtain ⟨c0,hc,hcz0,hcz1,hcz2⟩:=info_parts Try.infoClAsk
 obtain ⟨A,c,rfl,hc1,hc2,hl,hcell⟩:=h
 have hn:=fun (W:World) (A:Option Addr) (n c n' c':Nat)=>Lib.run_eql_slice_nil (P:=prog) W 77 99 A n c n' c' Try.underlying77
 have HL:=Lib.hid hl
 have H1:=Lib.hid h1
 cases A with
 | none =>
  have hx:xs = []:=by
   rcases xs with _ | ⟨x,xs⟩
   ·rfl
   ·obtain ⟨a,e,_⟩:=hcell (by simp)
    cases e
  subst hx
  have hn0:n=0:=by simp at hl; omega
  subst hn0
  clear hcell hl
  go_enter Try.func58,Try.ntmps58
  go_wp2
  go_ret
  exact ⟨none,0,rfl,World.ownsRow_nil _ _ _ 8,Ext.refl _⟩
 | some a =>
  have HO:=Lib.hid (cp w w.heap.size 99 8 (Nat.le_refl _))
  have HCS:=Lib.hid (show ∀ (j:Nat) (u:Value),xs[j]? = some u→(w.alloc (.cells #[] 99)).cell? (a.add j)=some u from fun j u hu=>by
   obtain ⟨a',e,hb,hcs⟩:=hcell (by have:=(zg.1 hu).1; omega)
   obtain rfl:a=a':=Option.some.inj e
   exact (Below.cell (aP w _) (p:=a.add j) (by rw [bE]; exact hb)).trans (hcs j u hu))
  clear hcell hl h1
  go_enter Try.func58,Try.ntmps58
  go_wp2_with (at_builtin; go_loud (refine wpList_append_own_at _ rfl (.tmp 5) (.tmp 6) 77 rfl w.heap.size 99 c0 _ 8 64 Try.underlying77 hc hcz0 hcz1 hcz2 rfl (by decide) _ 0 [] rfl HO.out a n c xs rfl HL.out HCS.out H1.out ?c3 ?c4 ?c5 ?_))
  case c3=>simp [maxLen]; omega
  case c4=>omega
  case c5=>simp
  intro v' w3 ho3 hg3 _ hat3
  have HE:=Lib.hid ((aP w (.cells #[] 99)).trans' (ca hg3 (by simp) (fun k hk=>by simp [Value.ownBlock] at hk; omega)))
  have HO3:=Lib.hid ho3
  obtain ⟨A3,c3,rfl,_,_⟩:=cS ho3
  clear ho3 hg3 hat3
  go_wp2
  go_ret
  exact ⟨_,_,rfl,HO3.out,HE.out⟩
theorem Try.infoClInt:(prog.info? 3).map (fun i=>(i.zero,i.size,i.bytes))=some (some (.int .i64 0),1,8):=by kernel_rfl
theorem uw (v:Value) (n:Nat) (xs:List Value) (w:World) (h:RdK 1 w v n xs) (h1:∀ u∈xs,u.oneCell' = true) (h2:n≤1000000) :
  Calls prog 59 #[v] w (cF 1 3 n xs w):=by
 obtain ⟨c0,hc,hcz0,hcz1,hcz2⟩:=info_parts Try.infoClInt
 obtain ⟨A,c,rfl,hc1,hc2,hl,hcell⟩:=h
 have hn:=fun (W:World) (A:Option Addr) (n c n' c':Nat)=>Lib.run_eql_slice_nil (P:=prog) W 37 3 A n c n' c' Try.underlying37
 have HL:=Lib.hid hl
 have H1:=Lib.hid h1
 cases A with
 | none =>
  have hx:xs = []:=by
   rcases xs with _ | ⟨x,xs⟩
   ·rfl
   ·obtain ⟨a,e,_⟩:=hcell (by simp)
    cases e
  subst hx
  have hn0:n=0:=by simp at hl; omega
  subst hn0
  clear hcell hl
  go_enter Try.func59,Try.ntmps59
  go_wp2
  go_ret
  exact ⟨none,0,rfl,World.ownsRow_nil _ _ _ 1,Ext.refl _⟩
 | some a =>
  have HO:=Lib.hid (cp w w.heap.size 3 1 (Nat.le_refl _))
  have HCS:=Lib.hid (show ∀ (j:Nat) (u:Value),xs[j]? = some u→(w.alloc (.cells #[] 3)).cell? (a.add j)=some u from fun j u hu=>by
   obtain ⟨a',e,hb,hcs⟩:=hcell (by have:=(zg.1 hu).1; omega)
   obtain rfl:a=a':=Option.some.inj e
   exact (Below.cell (aP w _) (p:=a.add j) (by rw [bE]; exact hb)).trans (hcs j u hu))
  clear hcell hl h1
  go_enter Try.func59,Try.ntmps59
  go_wp2_with (at_builtin; go_loud (refine wpList_append_own_at _ rfl (.tmp 5) (.tmp 6) 37 rfl w.heap.size 3 c0 _ 1 8 Try.underlying37 hc hcz0 hcz1 hcz2 rfl (by decide) _ 0 [] rfl HO.out a n c xs rfl HL.out HCS.out H1.out ?c3 ?c4 ?c5 ?_))
  case c3=>simp [maxLen]; omega
  case c4=>omega
  case c5=>simp
  intro v' w3 ho3 hg3 _ hat3
  have HE:=Lib.hid ((aP w (.cells #[] 3)).trans' (ca hg3 (by simp) (fun k hk=>by simp [Value.ownBlock] at hk; omega)))
  have HO3:=Lib.hid ho3
  obtain ⟨A3,c3,rfl,_,_⟩:=cS ho3
  clear ho3 hg3 hat3
  go_wp2
  go_ret
  exact ⟨_,_,rfl,HO3.out,HE.out⟩
theorem Try.infoClApp:(prog.info? 79).map (fun i=>(i.zero,i.size,i.bytes))=some (some (.agg #[.int .i64 0,.int .i64 0,.string ⟨#[]⟩,.int .i64 0,.int .i64 0,.int .i64 0,.int .i64 0,.slice none 0 0,.int .i64 0,.int .i64 0,.slice none 0 0,.slice none 0 0,.slice none 0 0,.slice none 0 0]),14,200):=by kernel_rfl
theorem uz (v:Value) (n:Nat) (xs:List Value) (w:World) (h:RdK 14 w v n xs) (h1:∀ u∈xs,u.oneCell' = true) (h2:n≤1000000) :
  Calls prog 57 #[v] w (cF 14 79 n xs w):=by
 obtain ⟨c0,hc,hcz0,hcz1,hcz2⟩:=info_parts Try.infoClApp
 obtain ⟨A,c,rfl,hc1,hc2,hl,hcell⟩:=h
 have hn:=fun (W:World) (A:Option Addr) (n c n' c':Nat)=>Lib.run_eql_slice_nil (P:=prog) W 47 79 A n c n' c' Try.underlying47
 have HL:=Lib.hid hl
 have H1:=Lib.hid h1
 cases A with
 | none =>
  have hx:xs = []:=by
   rcases xs with _ | ⟨x,xs⟩
   ·rfl
   ·obtain ⟨a,e,_⟩:=hcell (by simp)
    cases e
  subst hx
  have hn0:n=0:=by simp at hl; omega
  subst hn0
  clear hcell hl
  go_enter Try.func57,Try.ntmps57
  go_wp2
  go_ret
  exact ⟨none,0,rfl,World.ownsRow_nil _ _ _ 14,Ext.refl _⟩
 | some a =>
  have HO:=Lib.hid (cp w w.heap.size 79 14 (Nat.le_refl _))
  have HCS:=Lib.hid (show ∀ (j:Nat) (u:Value),xs[j]? = some u→(w.alloc (.cells #[] 79)).cell? (a.add j)=some u from fun j u hu=>by
   obtain ⟨a',e,hb,hcs⟩:=hcell (by have:=(zg.1 hu).1; omega)
   obtain rfl:a=a':=Option.some.inj e
   exact (Below.cell (aP w _) (p:=a.add j) (by rw [bE]; exact hb)).trans (hcs j u hu))
  clear hcell hl h1
  go_enter Try.func57,Try.ntmps57
  go_wp2_with (at_builtin; go_loud (refine wpList_append_own_at _ rfl (.tmp 5) (.tmp 6) 47 rfl w.heap.size 79 c0 _ 14 200 Try.underlying47 hc hcz0 hcz1 hcz2 rfl (by decide) _ 0 [] rfl HO.out a n c xs rfl HL.out HCS.out H1.out ?c3 ?c4 ?c5 ?_))
  case c3=>simp [maxLen]; omega
  case c4=>omega
  case c5=>simp
  intro v' w3 ho3 hg3 _ hat3
  have HE:=Lib.hid ((aP w (.cells #[] 79)).trans' (ca hg3 (by simp) (fun k hk=>by simp [Value.ownBlock] at hk; omega)))
  have HO3:=Lib.hid ho3
  obtain ⟨A3,c3,rfl,_,_⟩:=cS ho3
  clear ho3 hg3 hat3
  go_wp2
  go_ret
  exact ⟨_,_,rfl,HO3.out,HE.out⟩
theorem tC (S:ByteArray) (w:World) (hs:S.size≤1000000000000) : Calls prog 54 #[.string S] w fun e w'=>e = .returned (.string S)∧Ext w w':=by
 have hcon:=fun W=>Try.stringslite_Clone S W (by omega)
 go_enter Try.func54,Try.ntmps54
 go_wp2_with (go_at_call 72; refine (hcon _).mono ?_; rintro e w' ⟨rfl,hx⟩)
 go_ret
 exact ⟨rfl,hx⟩
def rx {α : Type} (xs:List α) : Option (List α):=if xs.length≤1000000 then some xs else none
def cq (ty:Ty) (e k:Nat) (x:bb [.lf (.sl ty)]) : Option (aq [.io [.no],.own e k ty]):=(rx (show List ty.den from x.1)).bind fun z=>some (((),()),z)
theorem cV {P:Program} {f:FuncId} (ty:Ty) {e k:Nat} (hk:tyN ty=k) (hk0 : 0 < k) (hcall:bV P f=true)
  (hC:∀ (v:Value) (n:Nat) (us:List Value) (w:World),RdK k w v n us→(∀ u∈us,u.oneCell' = true)→n≤1000000→Calls P f #[v] w (cF k e n us w)) :
  aM P f [.lf (.sl ty)] [.io [.no],.own e k ty] (cq ty e k):=by
 refine DD (F:=rx) hk hk0 hcall fun xs zs w G v hF hG hd=>?_
 unfold rx at hF
 split at hF
 ·rename_i hle
  injection hF with hF
  subst hF
  cases hd with
  | sl A n c k0 _ us hn hc hm hkk hA hA0 hcell hrep =>
   have hlen:∀ y∈xs.map (aA ty),y.length=k:=fun y hy=>by
    obtain ⟨z,_,rfl⟩:=List.mem_map.1 hy
    rw [eb,hk]
   have hfl:=aV k (xs.map (aA ty)) hlen
   rw [List.length_map] at hn hfl
   have hul:((List.range (xs.map (aA ty)).flatten.length).map us).length=xs.length * k:=by rw [List.length_map,List.length_range,hfl]
   have hget:∀ (j:Nat) u,((List.range (xs.map (aA ty)).flatten.length).map us)[j]? = some u→j < (xs.map (aA ty)).flatten.length∧u=us j:=fun j u hu=>by
    rw [List.getElem?_map,zm] at hu
    obtain ⟨i,hi,rfl⟩:=hu
    obtain ⟨rfl,hlt⟩:=eU hi
    exact ⟨hlt,rfl⟩
   refine (hC _ n ((List.range (xs.map (aA ty)).flatten.length).map us) w ⟨A,c,rfl,hc,hm,by rw [hul,hn],fun h0=>?_⟩ (fun u hu=>?_) (by omega)).mono ?_
   ·obtain ⟨a, ha, hFa⟩ := hA (by rw [hn]; rcases Nat.eq_zero_or_pos xs.length with e | e
                                  ·rw [hul,e,Nat.zero_mul] at h0; omega
                                  ·exact e)
    refine ⟨a,ha,hG _ hFa,fun j u hu=>?_⟩
    obtain ⟨hlt,rfl⟩:=hget j u hu
    exact hcell a j _ ha (zq hlt)
   ·obtain ⟨j,hj⟩:=List.getElem?_of_mem hu
    obtain ⟨hlt,rfl⟩:=hget j u hj
    exact (hrep j _ (zq hlt)).one
   ·rintro en w' ⟨A',c',rfl,ho,hx⟩
    refine ⟨_,_,rfl,by rw [← hn]; exact ho,hx,hul,fun j u d hu hd=>?_⟩
    obtain ⟨hlt,rfl⟩:=hget j u hu
    exact hrep j d hd
 ·cases hF
noncomputable def AC:Ent:=⟨[.lf (.sl (.st 7))],[.io [.no],.own 54 8 (.st 7)],cq (.st 7) 54 8⟩
theorem AB:aM prog 40 [.lf (.sl (.st 7))] [.io [.no],.own 54 8 (.st 7)] (cq (.st 7) 54 8):=cV (.st 7) (by kernel_rfl) (by decide) (by kernel_rfl) (fun v n us w h1 h2 h3=>sg v n us w h1 h2 h3)
noncomputable def AE:Ent:=⟨[.lf (.sl (.st 6))],[.io [.no],.own 81 9 (.st 6)],cq (.st 6) 81 9⟩
theorem AD:aM prog 43 [.lf (.sl (.st 6))] [.io [.no],.own 81 9 (.st 6)] (cq (.st 6) 81 9):=cV (.st 6) (by kernel_rfl) (by decide) (by kernel_rfl) (fun v n us w h1 h2 h3=>si v n us w h1 h2 h3)
noncomputable def Ay:Ent:=⟨[.lf (.sl (.st 11))],[.io [.no],.own 83 3 (.st 11)],cq (.st 11) 83 3⟩
theorem Ax:aM prog 44 [.lf (.sl (.st 11))] [.io [.no],.own 83 3 (.st 11)] (cq (.st 11) 83 3):=cV (.st 11) (by kernel_rfl) (by decide) (by kernel_rfl) (fun v n us w h1 h2 h3=>se v n us w h1 h2 h3)
noncomputable def AA:Ent:=⟨[.lf (.sl (.st 8))],[.io [.no],.own 26 6 (.st 8)],cq (.st 8) 26 6⟩
theorem Az:aM prog 45 [.lf (.sl (.st 8))] [.io [.no],.own 26 6 (.st 8)] (cq (.st 8) 26 6):=cV (.st 8) (by kernel_rfl) (by decide) (by kernel_rfl) (fun v n us w h1 h2 h3=>sf v n us w h1 h2 h3)
noncomputable def CH:Ent:=⟨[.lf (.sl (.str))],[.io [.no],.own 9 1 (.str)],cq (.str) 9 1⟩
theorem CG:aM prog 71 [.lf (.sl (.str))] [.io [.no],.own 9 1 (.str)] (cq (.str) 9 1):=cV (.str) (by kernel_rfl) (by decide) (by kernel_rfl) (fun v n us w h1 h2 h3=>uv v n us w h1 h2 h3)
noncomputable def xQ:Ent:=⟨[.lf (.sl (.st 4))],[.io [.no],.own 71 3 (.st 4)],cq (.st 4) 71 3⟩
theorem xP:aM prog 73 [.lf (.sl (.st 4))] [.io [.no],.own 71 3 (.st 4)] (cq (.st 4) 71 3):=cV (.st 4) (by kernel_rfl) (by decide) (by kernel_rfl) (fun v n us w h1 h2 h3=>rv v n us w h1 h2 h3)
noncomputable def CL:Ent:=⟨[.lf (.sl (.st 3))],[.io [.no],.own 68 2 (.st 3)],cq (.st 3) 68 2⟩
theorem CK:aM prog 74 [.lf (.sl (.st 3))] [.io [.no],.own 68 2 (.st 3)] (cq (.st 3) 68 2):=cV (.st 3) (by kernel_rfl) (by decide) (by kernel_rfl) (fun v n us w h1 h2 h3=>ux v n us w h1 h2 h3)
noncomputable def CN:Ent:=⟨[.lf (.sl (.st 1))],[.io [.no],.own 99 8 (.st 1)],cq (.st 1) 99 8⟩
theorem CM:aM prog 58 [.lf (.sl (.st 1))] [.io [.no],.own 99 8 (.st 1)] (cq (.st 1) 99 8):=cV (.st 1) (by kernel_rfl) (by decide) (by kernel_rfl) (fun v n us w h1 h2 h3=>uy v n us w h1 h2 h3)
noncomputable def CJ:Ent:=⟨[.lf (.sl (.int .i64))],[.io [.no],.own 3 1 (.int .i64)],cq (.int .i64) 3 1⟩
theorem CI:aM prog 59 [.lf (.sl (.int .i64))] [.io [.no],.own 3 1 (.int .i64)] (cq (.int .i64) 3 1):=cV (.int .i64) (by kernel_rfl) (by decide) (by kernel_rfl) (fun v n us w h1 h2 h3=>uw v n us w h1 h2 h3)
noncomputable def CP:Ent:=⟨[.lf (.sl (.st 2))],[.io [.no],.own 79 14 (.st 2)],cq (.st 2) 79 14⟩
theorem CO:aM prog 57 [.lf (.sl (.st 2))] [.io [.no],.own 79 14 (.st 2)] (cq (.st 2) 79 14):=cV (.st 2) (by kernel_rfl) (by decide) (by kernel_rfl) (fun v n us w h1 h2 h3=>uz v n us w h1 h2 h3)
noncomputable def k7:Ent:=⟨[.lf .str],[.lf .str],fun x=>if (show ByteArray from x.1).size≤1000000000 then some x.1 else none⟩
theorem kZ:aM prog 54 [.lf .str] [.lf .str] (fun x=>if (show ByteArray from x.1).size≤1000000000 then some x.1 else none):=DC (by kernel_rfl) fun x z w hF=>by
 dsimp only at hF
 split at hF
 ·rename_i hle
  injection hF with hF
  subst hF
  exact tC x w (Nat.le_trans hle (by decide))
 ·cases hF
noncomputable def iy (x:bb [.ag 2]) : Option (aq [.ag 2]):=dw ⟨prog,[(54,k7),(58,CN),(59,CJ)],28,[.ag 2],[.cell 2 79],[],[2],[]⟩ ((Try.f42).body.getD .skip) (.n) [.ag 2] x
noncomputable def ss:Ent:=⟨[.ag 2],[.ag 2],iy⟩
theorem sr:aM prog 42 [.ag 2] [.ag 2] iy:=bh (n:=28) (.cons (kZ) (.cons (CM) (.cons (CI) (.nil)))) Try.mixed Try.func42 rfl (by kernel_rfl) rfl rfl rfl (fun _=>rfl)
noncomputable def ft (x:bb [.ag 4]) : Option (aq [.ag 4]):=dw ⟨prog,[(54,k7),(74,CL)],12,[.ag 4],[.cell 2 71],[],[2],[]⟩ ((Try.f56).body.getD .skip) (.n) [.ag 4] x
noncomputable def o0:Ent:=⟨[.ag 4],[.ag 4],ft⟩
theorem oZ:aM prog 56 [.ag 4] [.ag 4] ft:=bh (n:=12) (.cons (kZ) (.cons (CK) (.nil))) Try.mixed Try.func56 rfl (by kernel_rfl) rfl rfl rfl (fun _=>rfl)
noncomputable def fu (x:bb [.lf (.sl .str),.fn 54 [] []]) : Option (aq [.lf (.sl .str)]):=dw ⟨prog,[(71,CH),(54,k7)],24,[.lf (.sl .str)],[.tmp 4],[],[],[]⟩ ((Try.f53).body.getD .skip) (.s (.n) (.s (.n) (.s (.s (.n) (.s (.lp [.row 0 500512 9 1 (.str),.row 9 500512 9 1 (.str),.leaf 11 (.int .i64)] 0 false (.n)) .n)) (.n)))) [.lf (.sl .str),.fn 54 [] []] x
noncomputable def o5:Ent:=⟨[.lf (.sl .str),.fn 54 [] []],[.lf (.sl .str)],fu⟩
theorem o4:aM prog 53 [.lf (.sl .str),.fn 54 [] []] [.lf (.sl .str)] fu:=bh (n:=24) (.cons (CG) (.cons (kZ) (.nil))) Try.mixed Try.func53 rfl (by kernel_rfl) rfl rfl rfl (fun _=>rfl)
noncomputable def fv (x:bb [.lf (.sl (.st 4)),.fn 56 [] []]) : Option (aq [.lf (.sl (.st 4))]):=dw ⟨prog,[(73,xQ),(56,o0)],24,[.lf (.sl (.st 4))],[.tmp 4],[],[],[]⟩ ((Try.f55).body.getD .skip) (.s (.n) (.s (.n) (.s (.s (.n) (.s (.lp [.row 0 500512 71 3 (.st 4),.row 9 500512 71 3 (.st 4),.leaf 11 (.int .i64)] 0 false (.n)) .n)) (.n)))) [.lf (.sl (.st 4)),.fn 56 [] []] x
noncomputable def o7:Ent:=⟨[.lf (.sl (.st 4)),.fn 56 [] []],[.lf (.sl (.st 4))],fv⟩
theorem o6:aM prog 55 [.lf (.sl (.st 4)),.fn 56 [] []] [.lf (.sl (.st 4))] fv:=bh (n:=24) (.cons (xP) (.cons (oZ) (.nil))) Try.mixed Try.func55 rfl (by kernel_rfl) rfl rfl rfl (fun _=>rfl)
noncomputable def fw (x:bb [.lf (.sl (.st 2)),.fn 42 [] []]) : Option (aq [.io [.no,.no],.own 79 14 (.st 2)]):=xX ⟨prog,[(57,CP),(42,ss)],24,[.io [.no,.no],.own 79 14 (.st 2)],[.tmp 4],[],[],[]⟩ ((Try.f41).body.getD .skip) (.s (.n) (.s (.n) (.s (.s (.n) (.s (.lp [.row 0 500512 79 14 (.st 2),.row 9 500512 79 14 (.st 2),.leaf 11 (.int .i64)] 0 false (.n)) .n)) (.n)))) [.lf (.sl (.st 2)),.fn 42 [] []] x
noncomputable def o9:Ent:=⟨[.lf (.sl (.st 2)),.fn 42 [] []],[.io [.no,.no],.own 79 14 (.st 2)],fw⟩
theorem o8:aM prog 41 [.lf (.sl (.st 2)),.fn 42 [] []] [.io [.no,.no],.own 79 14 (.st 2)] fw:=yT (n:=24) (.cons (CO) (.cons (sr) (.nil))) Try.mixed Try.func41 rfl (by kernel_rfl) rfl rfl (by kernel_rfl) (fun _ _ _=>(by first | trivial | exact ⟨trivial,trivial⟩)) (fun _=>rfl)
noncomputable def gK (x:bb [.ag 5]) : Option (aq [.ag 5]):=dw ⟨prog,[(53,o5),(55,o7),(54,k7)],10,[.ag 5],[.cell 2 45],[],[2],[]⟩ ((Try.f39).body.getD .skip) (.n) [.ag 5] x
noncomputable def rP:Ent:=⟨[.ag 5],[.ag 5],gK⟩
theorem rO:aM prog 39 [.ag 5] [.ag 5] gK:=bh (n:=10) (.cons (o4) (.cons (o6) (.cons (kZ) (.nil)))) Try.mixed Try.func39 rfl (by kernel_rfl) rfl rfl rfl (fun _=>rfl)
noncomputable def fx (x:bb [.ag 12]) : Option (aq [.io [.no],.agr 12 [(2,54,8,.st 7),(3,79,14,.st 2),(4,81,9,.st 6),(5,83,3,.st 11),(6,26,6,.st 8)]]):=xX ⟨prog,[(39,rP),(40,AC),(41,o9),(43,AE),(44,Ay),(45,AA)],28,[.io [.no],.agr 12 [(2,54,8,.st 7),(3,79,14,.st 2),(4,81,9,.st 6),(5,83,3,.st 11),(6,26,6,.st 8)]],[.cell 2 51],[],[2],[]⟩ ((Try.f29).body.getD .skip) (.n) [.ag 12] x
noncomputable def jQ:Ent:=⟨[.ag 12],[.io [.no],.agr 12 [(2,54,8,.st 7),(3,79,14,.st 2),(4,81,9,.st 6),(5,83,3,.st 11),(6,26,6,.st 8)]],fx⟩
theorem jP:aM prog 29 [.ag 12] [.io [.no],.agr 12 [(2,54,8,.st 7),(3,79,14,.st 2),(4,81,9,.st 6),(5,83,3,.st 11),(6,26,6,.st 8)]] fx:=yT (n:=28) (.cons (rO) (.cons (AB) (.cons (o8) (.cons (AD) (.cons (Ax) (.cons (Az) (.nil))))))) Try.mixed Try.func29 rfl (by kernel_rfl) rfl rfl (by kernel_rfl) (fun _ _ _=>(by first | trivial | exact ⟨trivial,trivial⟩)) (fun _=>rfl)
noncomputable def kE (x:bb [.ag 8,.pl (.int .i64)]) : Option (aq [.lf (.bool)]):=dw ⟨prog,[],8,[.lf (.bool)],[.tmp 3],[],[],[]⟩ ((Try.f50).body.getD .skip) (.n) [.ag 8,.pl (.int .i64)] x
noncomputable def rN:Ent:=⟨[.ag 8,.pl (.int .i64)],[.lf (.bool)],kE⟩
theorem rM:aM prog 50 [.ag 8,.pl (.int .i64)] [.lf (.bool)] kE:=bh (n:=8) (.nil) Try.mixed Try.func50 rfl (by kernel_rfl) rfl rfl rfl (fun _=>rfl)
noncomputable def oO (x:bb [.lf (.sl (.st 8)),.fn 50 [] [.pl (.int .i64)]]) : Option (aq [.lf (.int .i64)]):=dw ⟨prog,[(50,rN)],19,[.lf (.int .i64)],[.tmp 4],[],[],[]⟩ ((Try.f47).body.getD .skip) (.s (.n) (.s (.s (.n) (.s (.lp [.leaf 4 (.int .i64),.leaf 8 (.int .i64)] 0 true (.n)) .n)) (.n))) [.lf (.sl (.st 8)),.fn 50 [] [.pl (.int .i64)]] x
noncomputable def wx:Ent:=⟨[.lf (.sl (.st 8)),.fn 50 [] [.pl (.int .i64)]],[.lf (.int .i64)],oO⟩
theorem ww:aM prog 47 [.lf (.sl (.st 8)),.fn 50 [] [.pl (.int .i64)]] [.lf (.int .i64)] oO:=bh (n:=19) (.cons (rM) (.nil)) Try.mixed Try.func47 rfl (by kernel_rfl) rfl rfl rfl (fun _=>rfl)
noncomputable def iu (x:bb [.lf (.sl (.st 8)),.lf (.int .i64)]) : Option (aq [.lf (.int .i64)]):=dw ⟨prog,[(47,wx)],8,[.lf (.int .i64)],[.tmp 4],[],[],[(0,[3])]⟩ ((Try.f35).body.getD .skip) (.n) [.lf (.sl (.st 8)),.lf (.int .i64)] x
noncomputable def lB:Ent:=⟨[.lf (.sl (.st 8)),.lf (.int .i64)],[.lf (.int .i64)],iu⟩
theorem lA:aM prog 35 [.lf (.sl (.st 8)),.lf (.int .i64)] [.lf (.int .i64)] iu:=bh (n:=8) (.cons (ww) (.nil)) Try.mixed Try.func35 rfl (by kernel_rfl) rfl rfl rfl (fun _=>rfl)
noncomputable def lx (x:bb [.ag 8,.ps 8]) : Option (aq [.lf (.bool)]):=dw ⟨prog,[],9,[.lf (.bool)],[.tmp 3],[],[],[]⟩ ((Try.f48).body.getD .skip) (.n) [.ag 8,.ps 8] x
noncomputable def so:Ent:=⟨[.ag 8,.ps 8],[.lf (.bool)],lx⟩
theorem sn:aM prog 48 [.ag 8,.ps 8] [.lf (.bool)] lx:=bh (n:=9) (.nil) Try.mixed Try.func48 rfl (by kernel_rfl) rfl rfl rfl (fun _=>rfl)
noncomputable def oN (x:bb [.lf (.sl (.st 8)),.fn 48 [] [.ps 8]]) : Option (aq [.lf (.int .i64)]):=dw ⟨prog,[(48,so)],19,[.lf (.int .i64)],[.tmp 4],[],[],[]⟩ ((Try.f47).body.getD .skip) (.s (.n) (.s (.s (.n) (.s (.lp [.leaf 4 (.int .i64),.leaf 8 (.int .i64)] 0 true (.n)) .n)) (.n))) [.lf (.sl (.st 8)),.fn 48 [] [.ps 8]] x
noncomputable def wv:Ent:=⟨[.lf (.sl (.st 8)),.fn 48 [] [.ps 8]],[.lf (.int .i64)],oN⟩
theorem wu:aM prog 47 [.lf (.sl (.st 8)),.fn 48 [] [.ps 8]] [.lf (.int .i64)] oN:=bh (n:=19) (.cons (sn) (.nil)) Try.mixed Try.func47 rfl (by kernel_rfl) rfl rfl rfl (fun _=>rfl)
noncomputable def jC (x:bb [.lf (.sl (.st 8)),.ag 8]) : Option (aq [.lf (.sl (.st 8))]):=dw ⟨prog,[(47,wv)],36,[.lf (.sl (.st 8))],[.tmp 4],[],[],[(0,[3])]⟩ ((Try.f32).body.getD .skip) (.n) [.lf (.sl (.st 8)),.ag 8] x
noncomputable def uJ:Ent:=⟨[.lf (.sl (.st 8)),.ag 8],[.lf (.sl (.st 8))],jC⟩
theorem uI:aM prog 32 [.lf (.sl (.st 8)),.ag 8] [.lf (.sl (.st 8))] jC:=bh (n:=36) (.cons (wu) (.nil)) Try.mixed Try.func32 rfl (by kernel_rfl) rfl rfl rfl (fun _=>rfl)
noncomputable def eL (x:bb [.lf (.sl (.st 8)),.lf (.int .i64)]) : Option (aq [.lf (.sl (.st 8))]):=dw ⟨prog,[],24,[.lf (.sl (.st 8))],[.tmp 4],[],[],[]⟩ ((Try.f36).body.getD .skip) (.n) [.lf (.sl (.st 8)),.lf (.int .i64)] x
noncomputable def oa:Ent:=⟨[.lf (.sl (.st 8)),.lf (.int .i64)],[.lf (.sl (.st 8))],eL⟩
theorem n9:aM prog 36 [.lf (.sl (.st 8)),.lf (.int .i64)] [.lf (.sl (.st 8))] eL:=bh (n:=24) (.nil) Try.mixed Try.func36 rfl (by kernel_rfl) rfl rfl rfl (fun _=>rfl)
noncomputable def gI (x:bb [.ag 0,.ag 0]) : Option (aq [.ag 0]):=dw ⟨prog,[],16,[.ag 0],[.cell 4 24],[],[4],[]⟩ ((Try.f46).body.getD .skip) (.n) [.ag 0,.ag 0] x
noncomputable def rL:Ent:=⟨[.ag 0,.ag 0],[.ag 0],gI⟩
theorem rK:aM prog 46 [.ag 0,.ag 0] [.ag 0] gI:=bh (n:=16) (.nil) Try.mixed Try.func46 rfl (by kernel_rfl) rfl rfl rfl (fun _=>rfl)
noncomputable def fp (x:bb [.ag 12,.lf (.int .i64)]) : Option (aq [.ag 0]):=dw ⟨prog,[(46,rL)],29,[.ag 0],[.cell 4 24],[],[4],[]⟩ ((Try.f31).body.getD .skip) (.s (.n) (.s (.n) (.s (.s (.n) (.s (.lp [.leaf 11 (.int .i64),.box 5 24 0 []] 0 false (.n)) .n)) (.n)))) [.ag 12,.lf (.int .i64)] x
noncomputable def oY:Ent:=⟨[.ag 12,.lf (.int .i64)],[.ag 0],fp⟩
theorem oX:aM prog 31 [.ag 12,.lf (.int .i64)] [.ag 0] fp:=bh (n:=29) (.cons (rK) (.nil)) Try.mixed Try.func31 rfl (by kernel_rfl) rfl rfl rfl (fun _=>rfl)
noncomputable def ee (x:bb [.ag 12,.ag 8]) : Option (aq [.lf (.int .i64)]):=dw ⟨prog,[(37,jO),(35,lB)],45,[.lf (.int .i64)],[.tmp 4],[],[],[]⟩ ((Try.f30).body.getD .skip) (.n) [.ag 12,.ag 8] x
noncomputable def nd:Ent:=⟨[.ag 12,.ag 8],[.lf (.int .i64)],ee⟩
theorem nc:aM prog 30 [.ag 12,.ag 8] [.lf (.int .i64)] ee:=bh (n:=45) (.cons (jN) (.cons (lA) (.nil))) Try.mixed Try.func30 rfl (by kernel_rfl) rfl rfl rfl (fun _=>rfl)
noncomputable def jE (x:bb [.ag 12,.ag 8,.lf (.int .i64)]) : Option (aq [.ag 12,.lf (.int .i64),.lf (.int .i64)]):=dw ⟨prog,[(29,jQ),(30,nd),(12,kG),(31,oY),(32,uJ)],54,[.ag 12,.lf (.int .i64),.lf (.int .i64)],[.cell 6 51,.tmp 7,.tmp 8],[],[6],[]⟩ ((Try.f19).body.getD .skip) (.n) [.ag 12,.ag 8,.lf (.int .i64)] x
noncomputable def jF:Ent:=⟨[.ag 12,.ag 8,.lf (.int .i64)],[.ag 12,.lf (.int .i64),.lf (.int .i64)],jE⟩
theorem jD:aM prog 19 [.ag 12,.ag 8,.lf (.int .i64)] [.ag 12,.lf (.int .i64),.lf (.int .i64)] jE:=bh (n:=54) (.cons (jP) (.cons (nc) (.cons (kF) (.cons (oX) (.cons (uI) (.nil)))))) Try.mixed Try.func19 rfl (by kernel_rfl) rfl rfl rfl (fun _=>rfl)
noncomputable def iw (x:bb [.ag 12,.lf (.int .i64)]) : Option (aq [.ag 12,.lf (.int .i64)]):=dw ⟨prog,[(29,jQ),(35,lB),(36,oa)],23,[.ag 12,.lf (.int .i64)],[.cell 4 51,.tmp 5],[],[4],[]⟩ ((Try.f22).body.getD .skip) (.n) [.ag 12,.lf (.int .i64)] x
noncomputable def sq:Ent:=⟨[.ag 12,.lf (.int .i64)],[.ag 12,.lf (.int .i64)],iw⟩
theorem sp:aM prog 22 [.ag 12,.lf (.int .i64)] [.ag 12,.lf (.int .i64)] iw:=bh (n:=23) (.cons (jP) (.cons (lA) (.cons (n9) (.nil)))) Try.mixed Try.func22 rfl (by kernel_rfl) rfl rfl rfl (fun _=>rfl)
def ip (v_a:bH) (v_b:bH) (st:Int) : Option ((Int)⊕((Int)⊕(Bool))) :=
 let v_i:=st
 if (decide (v_i < (v_a.bz.length:Int)))=true then
 (bw v_a.bz v_i).bind fun b2=>(bw v_b.bz v_i).bind fun b3=>if (!(b2.toList==b3.toList))=true then
 some (.inr (.inr false))
 else
 let v_i:Int:=(i64.wrap (v_i + 1))
 some (.inl v_i)
 else
 some (.inr (.inl v_i))
def il (v_x:aU) (v_y:aU) (st:Int) : Option ((Int)⊕((Int)⊕(Bool))) :=
 let v_k:=st
 if (decide (v_k < (v_x.jL.length:Int)))=true then
 (bw v_x.jL v_k).bind fun b12=>(bw v_y.jL v_k).bind fun b13=>if (!((b12.t7==b13.t7)&&(b12.yI==b13.yI)))=true then
 some (.inr (.inr false))
 else
 let v_k:Int:=(i64.wrap (v_k + 1))
 some (.inl v_k)
 else
 some (.inr (.inl v_k))
def im (v_a:bH) (v_b:bH) (st:Int) : Option ((Int)⊕((Int)⊕(Bool))) :=
 let ib:=st
 if (decide (ib < (v_a.cf.length:Int)))=true then
 (bw v_a.cf ib).bind fun b6=>(bw v_b.cf ib).bind fun b7=>let t8:aU:=b6
 let t9:aU:=b7
 let v_x:aU:=t8
 let v_y:aU:=t9
 (if (!(v_x.mR.toList==v_y.mR.toList))=true then some true else some (v_x.iY != v_y.iY)).bind fun q10=>(if q10=true then some true else some ((v_x.jL.length:Int) != (v_y.jL.length:Int))).bind fun q11=>if q11=true then
 some (.inr (.inr false))
 else
 let v_k:Int:=0
 (aN (il v_x v_y) aB v_k).bind fun r14=>match r14 with
 | .inr m15=>some (.inr (.inr m15))
 | .inl m15 =>
 let v_k:=m15
 let ib:Int:=(i64.wrap (ib + 1))
 some (.inl ib)
 else
 some (.inr (.inl ib))
def pz (v_a:bH) (v_b:bH) : Option (Bool) :=
 (if ((v_a.bz.length:Int) != (v_b.bz.length:Int))=true then some true else some ((v_a.cf.length:Int) != (v_b.cf.length:Int))).bind fun q1=>if q1=true then
 some false
 else
 let v_i:Int:=0
 (aN (ip v_a v_b) aB v_i).bind fun r4=>match r4 with
 | .inr m5=>some m5
 | .inl m5 =>
 let v_i:=m5
 let ib:Int:=0
 (aN (im v_a v_b) aB ib).bind fun r16=>match r16 with
 | .inr m17=>some m17
 | .inl m17 =>
 let ib:=m17
 some true
def na:Option (al) :=
 some (⟨(⟨([(⟨#[]⟩ : ByteArray)] : (List ByteArray)),([(⟨(⟨#[114,111,111,116]⟩ : ByteArray),([(⟨10000,10000⟩ : fg)] : (List fg)),10000⟩ : aU)] : (List aU))⟩ : bH),[],[],[],[],[],0,0,0⟩ : al)
def gz (v_a:(List Int)) (v_b:(List Int)) (st:Int) : Option ((Int)⊕((Int)⊕(Bool))) :=
 let v_i:=st
 if (decide (v_i < (v_a.length:Int)))=true then
 (bw v_a v_i).bind fun b1=>(bw v_b v_i).bind fun b2=>if (b1 != b2)=true then
 some (.inr (.inr false))
 else
 let v_i:Int:=(i64.wrap (v_i + 1))
 some (.inl v_i)
 else
 some (.inr (.inl v_i))
def gA (v_a:(List Int)) (v_b:(List Int)) : Option (Bool) :=
 if ((v_a.length:Int) != (v_b.length:Int))=true then
 some false
 else
 let v_i:Int:=0
 (aN (gz v_a v_b) aB v_i).bind fun r3=>match r3 with
 | .inr m4=>some m4
 | .inl m4 =>
 let v_i:=m4
 some true
def iq (v_a:cR) (v_b:cR) (st:Int) : Option ((Int)⊕((Int)⊕(Bool))) :=
 let v_i:=st
 if (decide (v_i < (v_a.fa.length:Int)))=true then
 (bw v_a.fa v_i).bind fun b9=>(bw v_b.fa v_i).bind fun b10=>if (!((b9.du==b10.du)&&((b9.av==b10.av)&&((b9.eY.aY==b10.eY.aY)&&((b9.eY.ar==b10.eY.ar)&&((b9.ua==b10.ua)&&((b9.cd==b10.cd)&&((b9.kp==b10.kp)&&(b9.pq==b10.pq)))))))))=true then
 some (.inr (.inr false))
 else
 let v_i:Int:=(i64.wrap (v_i + 1))
 some (.inl v_i)
 else
 some (.inr (.inl v_i))
def pB (v_a:cR) (v_b:cR) : Option (Bool) :=
 (if (v_a.fId != v_b.fId)=true then some true else some (v_a.l6 != v_b.l6)).bind fun q1=>(if q1=true then some true else some (!(v_a.kq.toList==v_b.kq.toList))).bind fun q2=>(if q2=true then some true else some (v_a.iY != v_b.iY)).bind fun q3=>(if q3=true then some true else some (v_a.du != v_b.du)).bind fun q4=>(if q4=true then some true else some (!((v_a.cg.aY==v_b.cg.aY)&&(v_a.cg.ar==v_b.cg.ar)))).bind fun q5=>(if q5=true then some true else some (v_a.gZ != v_b.gZ)).bind fun q6=>(if q6=true then some true else some (v_a.eZ != v_b.eZ)).bind fun q7=>(if q7=true then some true else some ((v_a.fa.length:Int) != (v_b.fa.length:Int))).bind fun q8=>if q8=true then
 some false
 else
 let v_i:Int:=0
 (aN (iq v_a v_b) aB v_i).bind fun r11=>match r11 with
 | .inr m12=>some m12
 | .inl m12 =>
 let v_i:=m12
 (gA v_a.g0 v_b.g0).bind fun c13=>(if c13=true then (gA v_a.kt v_b.kt).bind fun c14=>some c14 else some false).bind fun q15=>(if q15=true then (gA v_a.oE v_b.oE).bind fun c16=>some c16 else some false).bind fun q17=>(if q17=true then (gA v_a.oG v_b.oG).bind fun c18=>some c18 else some false).bind fun q19=>some q19
def gG (v_a:al) (v_b:al) (st:Bool×Int) : Option ((Bool×Int)⊕((Bool×Int))) :=
 let de:=st.1
 let v_i:=st.2
 if (decide (v_i < (v_a.bS.length:Int)))=true then
 (if de=true then (bw v_a.bS v_i).bind fun b10=>(bw v_b.bS v_i).bind fun b11=>some ((b10.fId==b11.fId)&&((b10.av==b11.av)&&((b10.kp==b11.kp)&&((b10.la.aY==b11.la.aY)&&((b10.la.ar==b11.la.ar)&&((b10.gZ==b11.gZ)&&((b10.eZ==b11.eZ)&&(b10.fUp==b11.fUp)))))))) else some false).bind fun q12=>let de:Bool:=q12
 let v_i:Int:=(i64.wrap (v_i + 1))
 some (.inl (de,v_i))
 else
 some (.inr (de,v_i))
def gF (v_a:al) (v_b:al) (st:Bool×Int) : Option ((Bool×Int)⊕((Bool×Int))) :=
 let de:=st.1
 let ib:=st.2
 if (decide (ib < (v_a.jM.length:Int)))=true then
 (if de=true then (bw v_a.jM ib).bind fun b14=>(bw v_b.jM ib).bind fun b15=>(pB b14 b15).bind fun c16=>some c16 else some false).bind fun q17=>let de:Bool:=q17
 let ib:Int:=(i64.wrap (ib + 1))
 some (.inl (de,ib))
 else
 some (.inr (de,ib))
def gD (v_a:al) (v_b:al) (st:Bool×Int) : Option ((Bool×Int)⊕((Bool×Int))) :=
 let de:=st.1
 let rU:=st.2
 if (decide (rU < (v_a.d9.length:Int)))=true then
 (if de=true then (bw v_a.d9 rU).bind fun b19=>(bw v_b.d9 rU).bind fun b20=>some ((b19.fId==b20.fId)&&((b19.cM==b20.cM)&&((b19.cd==b20.cd)&&((b19.eY.aY==b20.eY.aY)&&((b19.eY.ar==b20.eY.ar)&&((b19.du==b20.du)&&((b19.av==b20.av)&&((b19.cg==b20.cg)&&(b19.po==b20.po))))))))) else some false).bind fun q21=>let de:Bool:=q21
 let rU:Int:=(i64.wrap (rU + 1))
 some (.inl (de,rU))
 else
 some (.inr (de,rU))
def gC (v_a:al) (v_b:al) (st:Bool×Int) : Option ((Bool×Int)⊕((Bool×Int))) :=
 let de:=st.1
 let rT:=st.2
 if (decide (rT < (v_a.gu.length:Int)))=true then
 (if de=true then (bw v_a.gu rT).bind fun b23=>(bw v_b.gu rT).bind fun b24=>some ((b23.cd==b24.cd)&&((b23.cM==b24.cM)&&(b23.du==b24.du))) else some false).bind fun q25=>let de:Bool:=q25
 let rT:Int:=(i64.wrap (rT + 1))
 some (.inl (de,rT))
 else
 some (.inr (de,rT))
def gB (v_a:al) (v_b:al) (st:Bool×Int) : Option ((Bool×Int)⊕((Bool×Int))) :=
 let de:=st.1
 let rS:=st.2
 if (decide (rS < (v_a.am.length:Int)))=true then
 (if de=true then (bw v_a.am rS).bind fun b27=>(bw v_b.am rS).bind fun b28=>some ((b27.fId==b28.fId)&&((b27.av==b28.av)&&((b27.af==b28.af)&&((b27.aD==b28.aD)&&((b27.ap.aY==b28.ap.aY)&&(b27.ap.ar==b28.ap.ar)))))) else some false).bind fun q29=>let de:Bool:=q29
 let rS:Int:=(i64.wrap (rS + 1))
 some (.inl (de,rS))
 else
 some (.inr (de,rS))
def gH (v_a:al) (v_b:al) : Option (Bool) :=
 (pz v_a.g7 v_b.g7).bind fun c1=>(if (!c1)=true then some true else some (v_a.iZ != v_b.iZ)).bind fun q2=>(if q2=true then some true else some (v_a.qQ != v_b.qQ)).bind fun q3=>(if q3=true then some true else some (v_a.Cd != v_b.Cd)).bind fun q4=>(if q4=true then some true else some ((v_a.bS.length:Int) != (v_b.bS.length:Int))).bind fun q5=>(if q5=true then some true else some ((v_a.jM.length:Int) != (v_b.jM.length:Int))).bind fun q6=>(if q6=true then some true else some ((v_a.d9.length:Int) != (v_b.d9.length:Int))).bind fun q7=>(if q7=true then some true else some ((v_a.gu.length:Int) != (v_b.gu.length:Int))).bind fun q8=>(if q8=true then some true else some ((v_a.am.length:Int) != (v_b.am.length:Int))).bind fun q9=>if q9=true then
 some false
 else
 let de:Bool:=true
 let v_i:Int:=0
 (aN (gG v_a v_b) aB (de,v_i)).bind fun r13 =>
 let de:=r13.1
 let v_i:=r13.2
 let ib:Int:=0
 (aN (gF v_a v_b) aB (de,ib)).bind fun r18 =>
 let de:=r18.1
 let ib:=r18.2
 let rU:Int:=0
 (aN (gD v_a v_b) aB (de,rU)).bind fun r22 =>
 let de:=r22.1
 let rU:=r22.2
 let rT:Int:=0
 (aN (gC v_a v_b) aB (de,rT)).bind fun r26 =>
 let de:=r26.1
 let rT:=r26.2
 let rS:Int:=0
 (aN (gB v_a v_b) aB (de,rS)).bind fun r30 =>
 let de:=r30.1
 let rS:=r30.2
 some de
def Ap:Ent:=⟨[.ag 5,.ag 5],[.lf (.bool)],fun x=>pz x.1 x.2.1⟩
theorem Ao:EOk prog 33 Ap:=rt (.s .n (.s .n (.s (.s .n (.s (.lp [.leaf 5 (.int .i64)] 0 true .n) .n)) (.s (.s .n (.s (.lp [.leaf 6 (.int .i64)] 2 true (.s .n (.s (.s (.s .n (.s .n (.s .n (.s (.lp [.leaf 9 (.int .i64)] 4 true .n) .n)))) .n) .n))) .n)) .n)))) [] [] [] .nil Try.mixed Try.func33
def kY:Ent:=⟨[],[.ag 12],fun x=>na ⟩
theorem n8:EOk prog 18 kY:=rt .n [] [0] [] .nil Try.mixed Try.func18
def xJ:Ent:=⟨[.lf (.sl (.int .i64)),.lf (.sl (.int .i64))],[.lf (.bool)],fun x=>gA x.1 x.2.1⟩
theorem xI:EOk prog 49 xJ:=rt (.s .n (.s .n (.s (.s .n (.s (.lp [.leaf 5 (.int .i64)] 0 true .n) .n)) .n))) [] [] [] .nil Try.mixed Try.func49
def Av:Ent:=⟨[.ag 2,.ag 2],[.lf (.bool)],fun x=>pB x.1 x.2.1⟩
theorem Au:EOk prog 34 Av:=rt (.s .n (.s .n (.s (.s .n (.s (.lp [.leaf 5 (.int .i64)] 0 true .n) .n)) .n))) [] [] [] (.cons xI .nil) Try.mixed Try.func34
def mi:Ent:=⟨[.ag 12,.ag 12],[.lf (.bool)],fun x=>gH x.1 x.2.1⟩
theorem rI:EOk prog 20 mi:=rt (.s .n (.s .n (.s .n (.s (.s .n (.s (.lp [.leaf 5 (.bool),.leaf 6 (.int .i64)] 0 false .n) .n)) (.s (.s .n (.s (.lp [.leaf 5 (.bool),.leaf 7 (.int .i64)] 2 false .n) .n)) (.s (.s .n (.s (.lp [.leaf 5 (.bool),.leaf 8 (.int .i64)] 4 false .n) .n)) (.s (.s .n (.s (.lp [.leaf 5 (.bool),.leaf 9 (.int .i64)] 6 false .n) .n)) (.s (.s .n (.s (.lp [.leaf 5 (.bool),.leaf 10 (.int .i64)] 8 false .n) .n)) .n)))))))) [] [] [] (.cons Ao (.cons Au .nil)) Try.mixed Try.func20
noncomputable def fy (x:bb [.ag 8,.lf (.int .i64),.lf (.int .i64)]) : Option (aq [.lf (.bool)]):=dw ⟨prog,[(9,kK),(11,fX),(10,xL),(18,kY),(19,jF),(20,mi),(21,tt)],108,[.lf (.bool)],[.tmp 6],[],[],[]⟩ ((Try.f6).body.getD .skip) (.n) [.ag 8,.lf (.int .i64),.lf (.int .i64)] x
theorem pa:aM prog 6 [.ag 8,.lf (.int .i64),.lf (.int .i64)] [.lf (.bool)] fy:=bh (n:=108) (.cons (kI) (.cons (fW) (.cons (xK) (.cons (n8) (.cons (jD) (.cons (rI) (.cons (An) (.nil)))))))) Try.mixed Try.func6 rfl (by kernel_rfl) rfl rfl rfl (fun _=>rfl)
noncomputable def fF (x:bb [.lf (.int .i64),.lf (.int .i64),.lf (.int .i64)]) : Option (aq [.lf (.bool)]):=dw ⟨prog,[(9,kK),(11,fX),(18,kY),(19,jF),(22,sq),(20,mi)],149,[.lf (.bool)],[.tmp 6],[],[],[]⟩ ((Try.f7).body.getD .skip) (.n) [.lf (.int .i64),.lf (.int .i64),.lf (.int .i64)] x
theorem pb:aM prog 7 [.lf (.int .i64),.lf (.int .i64),.lf (.int .i64)] [.lf (.bool)] fF:=bh (n:=149) (.cons (kI) (.cons (fW) (.cons (n8) (.cons (jD) (.cons (sp) (.cons (rI) (.nil))))))) Try.mixed Try.func7 rfl (by kernel_rfl) rfl rfl rfl (fun _=>rfl)
noncomputable def gL (x:bb [.lf (.sl (.int .i64))]) : Option (aq [.lf (.bool)]):=dw ⟨prog,[(9,kK),(11,fX),(18,kY),(19,jF)],96,[.lf (.bool)],[.tmp 2],[],[],[]⟩ ((Try.f8).body.getD .skip) (.s (.n) (.s (.n) (.s (.n) (.s (.n) (.s (.s (.n) (.s (.lp [.leaf 2 (.bool),.leaf 4 (.int .i64),.box 3 51 12 []] 0 true (.s (.n) (.s (.s (.s (.n) (.s (.n) (.s (.s (.n) (.s (.lp [.leaf 6 (.bool),.leaf 7 (.int .i64)] 2 false (.n)) .n)) (.n)))) .n) (.n)))) .n)) (.s (.s (.n) (.s (.lp [.leaf 2 (.bool),.leaf 12 (.int .i64)] 4 true (.n)) .n)) (.n))))))) [.lf (.sl (.int .i64))] x
theorem rQ:aM prog 8 [.lf (.sl (.int .i64))] [.lf (.bool)] gL:=bh (n:=96) (.cons (kI) (.cons (fW) (.cons (n8) (.cons (jD) (.nil))))) Try.mixed Try.func8 rfl (by kernel_rfl) rfl rfl rfl (fun _=>rfl)
section
open Go.ChangeShapes Go.WideShapes Go.ChangeAt Go.RowKit Go.Deep
section
variable {H:Type} {enc:TypeId×Value→H} {P:Program} {w:World} {base:Nat} {spare:Nat→Bool} {held:Bool} {r:Reach} {b0:Nat}
end
end
section
open Go.ChangeShapes Go.WideShapes Go.ChangeAt Go.RowKit Go.Deep
instance :Inhabited D:=⟨.v (.int .i64 0)⟩
inductive Fm where
 | int | str | bool | u8
 | sl (es:List Fm)
inductive Shp:Fm→D→Prop
 | int (z:Int) (h:(Lit.int .i64 z).wf=true) : Shp .int (.v (.int .i64 z))
 | str (s:ByteArray) (h:s.size≤maxLen) : Shp .str (.v (.string s))
 | bool (b:Bool) : Shp .bool (.v (.bool b))
 | u8 (z:Int) (h:(Lit.int .u8 z).wf=true) : Shp .u8 (.v (.int .u8 z))
 | sl (ts:List Fm) (es:List (List D)) (hl:∀ e∈es,e.length=ts.length) (h:∀ (e:List D),e∈es→∀ (j:Nat) (T:Fm) (d:D),ts[j]? = some T→e[j]? = some d→Shp T d) (hm:es.length≤maxLen) : Shp (.sl ts) (.sl es)
def lC (P:Program) (t:TypeId) (ts:List Fm) : Prop :=
 ∀ (H:Type) (enc:TypeId×Value→H) (w:World) (base:Nat) (spare:Nat→Bool) (held:Bool) (fuel:Nat) (cs:List Value) (x:DataW H×List MemPlace),DataW.trod enc P w base spare held fuel t cs=some x →
  cs.length=ts.length∧∀ (j:Nat) (T:Fm),ts[j]? = some T→∃ c d,cs[j]? = some c∧cw w (· < w.heap.size) c d∧Shp T d
theorem eC {P:Program} {t:TypeId} (ht:P.underlying t=some (.int .i64)) : lC P t [.int]:=by
 intro H enc w base spare held fuel cs x h
 obtain ⟨z,rfl,_,hz⟩:=DataW.trod_int ht h
 refine ⟨rfl,fun j T hj=>?_⟩
 match j,hj with
 | 0,hj =>
  cases hj
  exact ⟨_,_,rfl,.v _ rfl,.int z hz⟩
theorem mE {P:Program} {t:TypeId} {fs:Array Field} {ts:List Fm} (ht:P.underlying t=some (.struct fs)) (hk:P.cellsOf t=ts.length)
  (hcov:∀ j T,ts[j]? = some T→∃ (i:Nat) (f:Field) (kf:Nat) (us:List Fm),fs[i]? = some f∧f.offset≤j∧j < f.offset + kf∧P.cellsOf f.type=kf∧lC P f.type us∧us[j - f.offset]? = some T) : lC P t ts:=by
 intro H enc w base spare held fuel cs x h
 obtain ⟨xs,n,_,rfl,hl,hlen,hf⟩:=DataW.trod_struct ht h
 refine ⟨by rw [hl,hk],fun j T hj=>?_⟩
 obtain ⟨i,f,kf,us,hi,h1,h2,h3,h4,h5⟩:=hcov j T hj
 have hfi:=hf i f hi
 have hlt:i < xs.length:=by rw [hlen]; exact (Array.getElem?_eq_some_iff.1 hi).1
 rw [zq hlt,h3] at hfi
 obtain ⟨_,hz⟩:=h4 H enc w base spare held n _ _ hfi
 obtain ⟨c,d,hc,hd,hs⟩:=hz (j - f.offset) T h5
 rw [List.getElem?_take_of_lt (by omega),List.getElem?_drop,show f.offset + (j - f.offset)=j by omega] at hc
 exact ⟨c,d,hc,hd,hs⟩
theorem Dj {α : Type} (k:Nat) (es:List (List α)) (h:∀ e∈es,e.length=k) : es.flatten.length=es.length * k:=by
 induction es with
 | nil=>simp
 | cons e es ih =>
  rw [List.flatten_cons,List.length_append,ih (fun x hx=>h x (List.mem_cons_of_mem _ hx)),h e List.mem_cons_self,List.length_cons,Nat.add_mul]
  omega
theorem vm {P:Program} {t e:TypeId} {ts:List Fm} (ht:P.underlying t=some (.slice e)) (hc:P.cellsOf e=ts.length) (hk : 0 < ts.length) (he:lC P e ts) : lC P t [.sl ts]:=by
 intro H enc w base spare held fuel cs x hf
 rcases open_slice ht hf with ⟨rfl,_⟩ | ⟨a,len,cap,m,n,Dz,Pl,rfl,hb,hl,hm,hmm,_,hx⟩
 ·refine ⟨rfl,fun j T hj=>?_⟩
  match j,hj with
  | 0,hj =>
   cases hj
   exact ⟨_,.sl [],rfl,.sl none 0 0 0 [] (fun _=>.int .i64 0) rfl (Nat.le_refl _) (by simp [maxLen]) (by simp) (fun h=>absurd h (by omega)) (fun _=>rfl) (by simp) (by simp),.sl ts [] (by simp) (by simp) (by simp)⟩
 ·have hlm:len≤m:=by rw [hmm]; split <;> omega
  have each:∀ i,i < m→∃ q:Nat→D,∀ j T,ts[j]? = some T→∃ c,w.cell? (a.add (i * ts.length + j))=some c∧cw w (· < w.heap.size) c (q j)∧Shp T (q j):=by
   intro i hi
   obtain ⟨cs',h1,h2⟩:=hx i hi
   rw [hc] at h1
   obtain ⟨_,hlen,hcell⟩:=World.cells?_some h1
   obtain ⟨_,hz⟩:=he _ _ _ _ _ _ _ _ _ h2
   have:∀ j,j < ts.length→∃ d,∀ T,ts[j]? = some T→∃ c,w.cell? (a.add (i * ts.length + j))=some c∧cw w (· < w.heap.size) c d∧Shp T d:=by
    intro j hj
    obtain ⟨c,d,c1,c2,c3⟩:=hz j ts[j] (zq hj)
    refine ⟨d,fun T hT=>⟨c,?_,c2,?_⟩⟩
    ·have c0:=hcell j hj
     rw [Go.Deep.add_add] at c0
     rw [c0,c1]
    ·rw [zq hj] at hT
     cases hT
     exact c3
   obtain ⟨q,hq⟩:=choose_lt this
   exact ⟨q,fun j T hT=>hq j (by rcases Nat.lt_or_ge j ts.length with h | h; exact h; rw [List.getElem?_eq_none h] at hT; cases hT) T hT⟩
  obtain ⟨q,hq⟩:=choose_lt each
  let row (i:Nat) : List D:=(List.range ts.length).map (q i)
  let es:=(List.range len).map row
  have hrow:∀ x∈es,x.length=ts.length:=by
   intro x hx
   obtain ⟨i,_,rfl⟩:=List.mem_map.1 hx
   simp [row]
  have hcell:∀ j d,es.flatten[j]? = some d→∃ c,w.cell? (a.add j)=some c∧cw w (· < w.heap.size) c d:=by
   intro j d hj
   have hlt:j < len * ts.length:=by
    have:=(zg.1 hj).1
    rw [Dj ts.length es hrow] at this
    simpa [es] using this
   have hi:j / ts.length < len:=(Nat.div_lt_iff_lt_mul hk).2 hlt
   have hmod:=Nat.mod_lt j hk
   have hdm:j / ts.length * ts.length + j % ts.length=j:=by rw [Nat.mul_comm]; exact Nat.div_add_mod j _
   have hfl:=mQ ts.length es hrow (j / ts.length) (row (j / ts.length)) (by simp [es,hi]) (j % ts.length) hmod
   rw [hdm,hj] at hfl
   have hd:d=q (j / ts.length) (j % ts.length):=by simpa [row,hmod] using hfl
   obtain ⟨c,c1,c2,_⟩:=hq (j / ts.length) (by omega) (j % ts.length) _ (zq hmod)
   rw [hdm] at c1
   exact ⟨c,c1,hd ▸ c2⟩
  refine ⟨rfl,fun j T hj=>?_⟩
  match j,hj with
  | 0,hj =>
   cases hj
   refine ⟨_,.sl es,rfl,.sl (some a) len cap ts.length es (fun j=>(w.cell? (a.add j)).getD (.int .i64 0)) (by simp [es]) hl hm hrow (fun hn=>⟨a,rfl,?_⟩) (fun h=>by cases h) (fun a' j d ha hj=>?_) (fun j d hj=>?_),.sl ts es hrow (fun x hx j T d hT hd=>?_) (by simp [es]; omega)⟩
   ·obtain ⟨c,c1,_⟩:=hq 0 (by omega) 0 _ (zq hk)
    have:=World.block_lt_of_cell? w _ c1
    rwa [show (a.add (0 * ts.length + 0)).block=a.block by unfold Addr.add; split <;> rfl] at this
   ·cases ha
    obtain ⟨c,c1,_⟩:=hcell j d hj
    rw [c1]
    rfl
   ·obtain ⟨c,c1,c2⟩:=hcell j d hj
    rw [c1]
    exact c2
   ·obtain ⟨i,hi,rfl⟩:=List.mem_map.1 hx
    have hi:i < len:=List.mem_range.1 hi
    have hjt:j < ts.length:=(zg.1 hT).1
    have hd:d=q i j:=by simpa [row,hjt] using hd.symm
    obtain ⟨c,_,_,c3⟩:=hq i (by omega) j T hT
    exact hd ▸ c3
section
variable {H:Type} {enc:TypeId×Value→H} {P:Program} {w:World} {base:Nat} {spare:Nat→Bool} {held:Bool} {r:Reach} {b0:Nat}
theorem C7 {t:TypeId} {fs:Array Field} {ts:List Fm} {v:Value} {d:DataW H} {ps:List MemPlace} (ht:P.underlying t=some (.struct fs)) (ho:lC P t ts) (hv:Value.okWide P w r b0 t v) (h:DataW.Trod enc P w base spare held t v d ps) :
  ∃ ds:List D,ds.length=ts.length∧(∀ (j:Nat) (T:Fm),ts[j]? = some T→∃ e,ds[j]? = some e∧Shp T e)∧ah ρNone bW w (· < w.heap.size) v (.ag (ds.map .d)):=by
 obtain ⟨cs,rfl,_⟩:=okWide_struct ht hv
 obtain ⟨fuel,hf⟩:=h
 simp only [Value.cells] at hf
 obtain ⟨hl,hz⟩:=ho _ _ _ _ _ _ _ _ _ hf
 have:∀ j,j < ts.length→∃ d,∀ T,ts[j]? = some T→∃ c,cs.toList[j]? = some c∧cw w (· < w.heap.size) c d∧Shp T d:=by
  intro j hj
  obtain ⟨c,d,c1,c2,c3⟩:=hz j ts[j] (zq hj)
  refine ⟨d,fun T hT=>⟨c,c1,c2,?_⟩⟩
  rw [zq hj] at hT
  cases hT
  exact c3
 obtain ⟨q,hq⟩:=choose_lt this
 refine ⟨(List.range ts.length).map q,by simp,fun j T hT=>?_,.ag cs _ (by simp; simpa using hl) (fun x hx=>?_) (fun j x c hx hc=>?_)⟩
 ·have hj:j < ts.length:=(zg.1 hT).1
  obtain ⟨c,_,_,c3⟩:=hq j hj T hT
  exact ⟨q j,by simp [hj],c3⟩
 ·obtain ⟨j,hj,rfl⟩:=List.getElem_of_mem (Array.mem_toList_iff.2 hx)
  have hj':j < ts.length:=by rw [← hl]; exact hj
  obtain ⟨c,c1,c2,_⟩:=hq j hj' _ (zq hj')
  rw [zq hj] at c1
  cases c1
  exact c2.one
 ·have hj:j < ts.length:=by
   have:=(Array.getElem?_eq_some_iff.1 hx).1
   rw [← hl]
   simpa using this
  obtain ⟨c',c1,c2,_⟩:=hq j hj _ (zq hj)
  rw [Array.getElem?_toList,hx] at c1
  cases c1
  have:c = .d (q j):=by simpa [hj] using hc.symm
  subst this
  exact .d _ _ c2
theorem C6 {t e:TypeId} {T:Fm} {v:Value} {d:DataW H} {ps:List MemPlace} (ht:P.underlying t=some (.slice e)) (ho:lC P t [T]) (hv:Value.okWide P w r b0 t v) (h:DataW.Trod enc P w base spare held t v d ps) :
  ∃ d:D,Shp T d∧ah ρNone bW w (· < w.heap.size) v (.d d):=by
 obtain ⟨a0,len0,cap0,rfl⟩:=okWide_slice ht hv
 obtain ⟨fuel,hf⟩:=h
 simp only [Value.cells] at hf
 obtain ⟨hl,hz⟩:=ho _ _ _ _ _ _ _ _ _ hf
 obtain ⟨c,d,c1,c2,c3⟩:=hz 0 T rfl
 cases c1
 exact ⟨d,c3,.d _ _ c2⟩
end
theorem xY {α : Type} {f : α→List D} {Q : α→Prop} : ∀ (es:List (List D)),(∀ e∈es,∃ x,e=f x∧Q x)→∃ l:List α,es=l.map f∧∀ x∈l,Q x
 | [],_=>⟨[],rfl,by simp⟩
 | e::es,h=>by
  obtain ⟨x,rfl,hq⟩:=h e List.mem_cons_self
  obtain ⟨l,rfl,hl⟩:=xY es (fun y hy=>h y (List.mem_cons_of_mem _ hy))
  refine ⟨x::l,rfl,?_⟩
  intro y hy
  rcases List.mem_cons.1 hy with rfl | hy
  ·exact hq
  ·exact hl y hy
theorem tQ {P:Program} {f:FuncId} {args:List PV} {b:Bool} (h:PC P f args (.d (.v (.bool b)))) (w:World) (vs:Array Value) (hr:a7 ρNone bW w (· < w.heap.size) vs.toList args) :
  Calls P f vs w fun e w'=>e = .returned (.bool b)∧Below w.heap.size w w':=by
 refine (h.2 w _ vs (fun _ h=>h) hr).mono ?_
 rintro e w' ⟨v,F',rfl,hx,_,_,_,hp⟩
 refine ⟨?_,hx⟩
 cases hp with
 | d _ _ h=>cases h with
  | v=>rfl
end
section
open Go.ChangeShapes Go.WideShapes Go.ChangeAt Go.RowKit Go.Deep
theorem kM {d:D} (h:Shp .int d) : ∃ z,d = .v (.int .i64 z)∧(Lit.int .i64 z).wf=true:=by
 cases h with
 | int z h=>exact ⟨z,rfl,h⟩
def wfI (z:Int) : Prop:=(Lit.int .i64 z).wf=true
theorem D6 {α : Type} {f : α→List D} {Q : α→Prop} {ts:List Fm} {d:D} (hf:∀ e:List D,e.length=ts.length→(∀ (j:Nat) (T:Fm),ts[j]? = some T→∃ d,e[j]? = some d∧Shp T d)→∃ x,e=f x∧Q x) (h:Shp (.sl ts) d) : ∃ l:List α,d = .sl (l.map f)∧(∀ z∈l,Q z)∧l.length≤maxLen:=by
 cases h with
 | sl _ es hl h hm =>
  obtain ⟨l,rfl,hq⟩:=xY (f:=f) (Q:=Q) es (fun e he=>hf e (hl e he) fun j T hT=>by
   have hj:j < e.length:=by rw [hl e he]; exact (zg.1 hT).1
   exact ⟨e[j],zq hj,h e he j T _ hT (zq hj)⟩)
  exact ⟨l,rfl,hq,by simpa using hm⟩
theorem Ee {e:List D} (hl:e.length=1) (h:∀ (j:Nat) (T:Fm),[Fm.int][j]? = some T→∃ d,e[j]? = some d∧Shp T d) : ∃ x:Int,e = [.v (.int .i64 x)]∧wfI x:=by
 match e,hl with
 | [d],_ =>
  obtain ⟨d',hd,s⟩:=h 0 _ rfl
  cases hd
  cases s with
  | int z hz=>exact ⟨z,rfl,hz⟩
def aF.ok (x:aF) : Prop:=wfI x.aY∧wfI x.ar
theorem qd:lC prog 24 [.int,.int]:=mE Try.underlying24 (by kernel_rfl) fun j T hj=>by
 match j,hj with
 | 0,hj=>exact ⟨0,_,1,[.int],rfl,by decide,by decide,by kernel_rfl,(eC Try.underlying3),hj⟩
 | 1,hj=>exact ⟨1,_,1,[.int],rfl,by decide,by decide,by kernel_rfl,(eC Try.underlying3),hj⟩
def ac.ok (x:ac) : Prop:=wfI x.fId∧wfI x.av∧wfI x.af∧wfI x.aD∧aF.ok x.ap
theorem vn:lC prog 26 [.int,.int,.int,.int,.int,.int]:=mE Try.underlying26 (by kernel_rfl) fun j T hj=>by
 match j,hj with
 | 0,hj=>exact ⟨0,_,1,[.int],rfl,by decide,by decide,by kernel_rfl,(eC Try.underlying3),hj⟩
 | 1,hj=>exact ⟨1,_,1,[.int],rfl,by decide,by decide,by kernel_rfl,(eC Try.underlying3),hj⟩
 | 2,hj=>exact ⟨2,_,1,[.int],rfl,by decide,by decide,by kernel_rfl,(eC Try.underlying3),hj⟩
 | 3,hj=>exact ⟨3,_,1,[.int],rfl,by decide,by decide,by kernel_rfl,(eC Try.underlying3),hj⟩
 | 4,hj=>exact ⟨4,_,2,[.int,.int],rfl,by decide,by decide,by kernel_rfl,qd,hj⟩
 | 5,hj=>exact ⟨4,_,2,[.int,.int],rfl,by decide,by decide,by kernel_rfl,qd,hj⟩
theorem BB {e:List D} (hl:e.length=6) (h:∀ (j:Nat) (T:Fm),([.int,.int,.int,.int,.int,.int] : List Fm)[j]? = some T→∃ d,e[j]? = some d∧Shp T d) : ∃ x:ac,e=ac.d x∧x.ok:=by
 match e,hl with
 | [d0,d1,d2,d3,d4,d5],_ =>
  obtain ⟨_,e0,s0⟩:=h 0 _ rfl
  cases e0
  obtain ⟨_,e1,s1⟩:=h 1 _ rfl
  cases e1
  obtain ⟨_,e2,s2⟩:=h 2 _ rfl
  cases e2
  obtain ⟨_,e3,s3⟩:=h 3 _ rfl
  cases e3
  obtain ⟨_,e4,s4⟩:=h 4 _ rfl
  cases e4
  obtain ⟨_,e5,s5⟩:=h 5 _ rfl
  cases e5
  obtain ⟨z0,rfl,k0⟩:=kM s0
  obtain ⟨z1,rfl,k1⟩:=kM s1
  obtain ⟨z2,rfl,k2⟩:=kM s2
  obtain ⟨z3,rfl,k3⟩:=kM s3
  obtain ⟨z4,rfl,k4⟩:=kM s4
  obtain ⟨z5,rfl,k5⟩:=kM s5
  exact ⟨⟨z0,z1,z2,z3,⟨z4,z5⟩⟩,rfl,⟨k0,k1,k2,k3,⟨k4,k5⟩⟩⟩
theorem w8:lC prog 37 [.sl [.int]]:=vm Try.underlying37 (by kernel_rfl) (by decide) (eC Try.underlying3)
theorem AU {d:D} (h:Shp (.sl [.int]) d) : ∃ l:List Int,d = .sl (l.map iD)∧(∀ z∈l,wfI z)∧l.length≤maxLen:=D6 (ts:=[.int]) (f:=iD) (Q:=fun z=>wfI z) (fun _ hl h=>Ee hl h) h
end
def ff (a b:aF) : aF:=⟨i64.wrap (a.aY + b.aY),i64.wrap (a.ar + b.ar)⟩
def vI (a b:aF) : Bool:=decide (a.aY≤b.aY)&&decide (a.ar≤b.ar)
theorem R1_Plus_is (a b:aF) : pA a b=some (ff a b):=rfl
structure SzC (c:bH) : Prop where
 labels:c.bz.length≤1000
 queues:c.cf.length≤1000
 caps:∀ q∈c.cf,q.jL.length≤1000
 paths:∀ q∈c.cf,q.mR.size≤1000000
def cP (v_s:al) (fJ:Int) (st:aF) (x_:ac) : Option ((aF)⊕((aF×Int))) :=
 let v_v:=st
 let v_p:ac:=x_
 (if (v_p.av==fJ)=true then some (decide (v_p.af≤v_s.iZ)) else some false).bind fun q5=>(if q5=true then some (decide (v_s.iZ < v_p.aD)) else some false).bind fun q6=>if q6=true then
 (pA v_v v_p.ap).bind fun c7=>let v_v:aF:=c7
 some (.inl v_v)
 else
 some (.inl v_v)
theorem n7 (v_s:al) (fJ:Int) (a_:aF) (hl:v_s.am.length≤1000000) : aN (eR v_s fJ) aB (a_,(0))=ln (cP v_s fJ) (fun a_=>(a_,((v_s.am.length:Int)))) a_ v_s.am :=
 eF v_s.am (S:=aF×Int) (fun a_ k_=>(a_,(k_))) (cP v_s fJ) (fun a_=>(a_,((v_s.am.length:Int)))) (dm hl) (fun k a x hx=>by
  unfold eR cP; exact EA)
  (fun a=>by unfold eR; exact EV) a_
def Al {α : Type} (key : α→Int) (l:List α) : Prop:=l.Pairwise fun x y=>key x < key y
theorem xc {α : Type} {key : α→Int} {l:List α} {a x : α} (h:x∈ji key l a) : x=a∨x∈l:=by
 unfold ji at h
 simp only [List.mem_append,List.mem_cons] at h
 rcases h with h | h | h
 ·exact .inr (List.mem_of_mem_take h)
 ·exact .inl h
 ·exact .inr (List.mem_of_mem_drop h)
noncomputable def ve (a b:aF) : Option aF:=it (a,(b,()))
noncomputable def tI (a b:aF) : Option Bool:=ir (a,(b,()))
noncomputable def atP (l:List ac) (k t:Int) : Option aF:=kH (l,(k,(t,())))
noncomputable def chP (l:List ac) (p:ac) : Option (List Int):=eM (l,(p,()))
noncomputable def inP (a b:Int) : Option Bool:=fq (a,(b,()))
noncomputable def xC (p:ac) (n:Int) : Option Bool:=eN (p,(n,()))
noncomputable def p5 (l:List ac) (v:aF) (p:ac) (n:Int) : Option (Int×Int):=gJ (l,(v,(p,(n,()))))
theorem vd (a b:aF) : ve a b=some (ff a b):=by kernel_rfl
theorem A0 (a b:aF) : tI a b=Option.bind (if decide (a.aY≤b.aY)=true then some (decide (a.ar≤b.ar)) else some false) fun q=>some q:=by kernel_rfl
theorem zj (a b:aF) : tI a b=some (vI a b):=by rw [A0]; unfold vI; simp only [wn,zb]
theorem EO (a b:Int) : inP a b=Option.bind (if decide (0≤a)=true then some (decide (a≤b)) else some false) fun q=>some q:=by kernel_rfl
def gN (a b:Int) : Bool:=decide (0≤a)&&decide (a≤b)
theorem BR (a b:Int) : inP a b=some (gN a b):=by rw [EO]; unfold gN; simp only [wn,zb]
theorem CA (p:ac) (n:Int) : xC p n=Option.bind (if decide (1≤n)=true then some (decide (n≤1000)) else some false) fun q=>Option.bind (if q=true then Option.bind (inP p.af 1000000) fun r=>some r else some false) fun q=>Option.bind (if q=true then Option.bind (inP p.aD 1000000) fun r=>some r else some false) fun q=>Option.bind (if q=true then Option.bind (inP p.ap.aY 1073741824) fun r=>some r else some false) fun q=>Option.bind (if q=true then Option.bind (inP p.ap.ar 1073741824) fun r=>some r else some false) fun q=>some q:=by kernel_rfl
def gx (p:ac) (n:Int) : Bool:=decide (1≤n)&&decide (n≤1000)&&gN p.af 1000000&&gN p.aD 1000000&&gN p.ap.aY 1073741824&&gN p.ap.ar 1073741824
theorem Ah (p:ac) (n:Int) : xC p n=some (gx p n):=by rw [CA]; unfold gx; simp only [BR,wn,zb]
def fo (o:ac) (k t:Int) : Bool:=(o.av==k)&&decide (o.af≤t)&&decide (t < o.aD)
def atV (l:List ac) (k t:Int) : aF:=l.foldl (fun v o=>if fo o k t=true then ff v o.ap else v) ⟨0,0⟩
theorem E4 (l:List ac) (k t:Int) : atP l k t=Option.bind (aN (fun st:Int×aF=>if decide (st.1 < (l.length:Int))=true then Option.bind (bw l st.1) fun x=>Option.bind (if (x.av==k)=true then some (decide (x.af≤t)) else some false) fun q=>Option.bind (if q=true then some (decide (t < x.aD)) else some false) fun q=>if q=true then Option.bind (ve st.2 x.ap) fun r=>some (.inl (i64.wrap (st.1 + 1),r)) else some (.inl (i64.wrap (st.1 + 1),st.2)) else some (.inr (st.1,st.2))) aB ((0:Int),(⟨0,0⟩ : aF))) fun st:Int×aF=>some st.2:=by kernel_rfl
theorem Ev (l:List ac) (k t:Int) (hl:l.length≤1000000) : atP l k t=some (atV l k t):=by
 rw [E4]
 have h:=eF l (S:=Int×aF) (τ:=Int×aF) (f:=fun st:Int×aF=>if decide (st.1 < (l.length:Int))=true then Option.bind (bw l st.1) fun x=>Option.bind (if (x.av==k)=true then some (decide (x.af≤t)) else some false) fun q=>Option.bind (if q=true then some (decide (t < x.aD)) else some false) fun q=>if q=true then Option.bind (ve st.2 x.ap) fun r=>some (.inl (i64.wrap (st.1 + 1),r)) else some (.inl (i64.wrap (st.1 + 1),st.2)) else some (.inr (st.1,st.2))) (fun a_ k_=>(k_,a_)) (fun v o=>some (.inl (if fo o k t=true then ff v o.ap else v))) (fun a_=>((l.length:Int),a_)) (dm hl) (fun j a x hx=>by
  have hk:=(zg.1 hx).1
  simp only [dF hx,if_true,bp hx,zb,bN hk hl,wn,vd]
  change (if fo x k t=true then _ else _) = _
  cases fo x k t <;> rfl) (fun a=>by simp only [da,zf,if_false]) (⟨0,0⟩ : aF)
 rw [show ((0:Int),(⟨0,0⟩ : aF))=(fun (a_:aF) (k_:Int)=>(k_,a_)) ⟨0,0⟩ 0 from rfl,h,ez]
 rfl
theorem Ai (l:List ac) (k s u:Int) (h:∀ o∈l,fo o k s=fo o k u) : atV l k s=atV l k u:=by
 unfold atV
 have:∀ (l:List ac) (v:aF),(∀ o∈l,fo o k s=fo o k u)→l.foldl (fun v o=>if fo o k s=true then ff v o.ap else v) v=l.foldl (fun v o=>if fo o k u=true then ff v o.ap else v) v:=by
  intro l
  induction l with
  | nil=>intro v _; rfl
  | cons o l ih =>
   intro v h
   rw [List.foldl_cons,List.foldl_cons,h o List.mem_cons_self]
   exact ih _ (fun o' ho=>h o' (List.mem_cons_of_mem _ ho))
 exact this l _ h
def tu (p:ac) (z:Int) : Bool:=decide (p.af < z)&&decide (z < p.aD)
def chs (p o:ac) : List Int:=[o.af,o.aD].filter (tu p)
theorem E1 (l:List ac) (p:ac) : chP l p=Option.bind (aN (fun st:List Int×Int=>if decide (st.2 < (l.length:Int))=true then Option.bind (bw l st.2) fun o=>Option.bind (aN (fun st':List Int×Int=>if decide (st'.2 < 2)=true then Option.bind (bw [o.af,o.aD] st'.2) fun z=>Option.bind (if decide (p.af < z)=true then some (decide (z < p.aD)) else some false) fun q=>if q=true then Option.bind (m8 st'.1 [z]) fun zs=>some (.inl (zs,i64.wrap (st'.2 + 1))) else some (.inl (st'.1,i64.wrap (st'.2 + 1))) else some (.inr (st'.1,st'.2))) aB (st.1,(0:Int))) fun r:List Int×Int=>some (.inl (r.1,i64.wrap (st.2 + 1))) else some (.inr (st.1,st.2))) aB ([p.af],(0:Int))) fun st:List Int×Int=>Option.bind (Option.bind (wL st.1) fun z=>some (z,())) fun r:List Int×Unit=>Option.bind (m8 r.1 [p.aD]) fun zs=>some zs:=by kernel_rfl
theorem Ct (o p:ac) (acc:List Int) (h:acc.length + 2≤1000000) : aN (fun st':List Int×Int=>if decide (st'.2 < 2)=true then Option.bind (bw [o.af,o.aD] st'.2) fun z=>Option.bind (if decide (p.af < z)=true then some (decide (z < p.aD)) else some false) fun q=>if q=true then Option.bind (m8 st'.1 [z]) fun zs=>some (.inl (zs,i64.wrap (st'.2 + 1))) else some (.inl (st'.1,i64.wrap (st'.2 + 1))) else some (.inr (st'.1,st'.2))) aB (acc,(0:Int))=some (acc++chs p o,(2:Int)):=by
 have h2:=eF [o.af,o.aD] (S:=List Int×Int) (τ:=List Int×Int) (f:=fun st':List Int×Int=>if decide (st'.2 < 2)=true then Option.bind (bw [o.af,o.aD] st'.2) fun z=>Option.bind (if decide (p.af < z)=true then some (decide (z < p.aD)) else some false) fun q=>if q=true then Option.bind (m8 st'.1 [z]) fun zs=>some (.inl (zs,i64.wrap (st'.2 + 1))) else some (.inl (st'.1,i64.wrap (st'.2 + 1))) else some (.inr (st'.1,st'.2))) (fun a_ k_=>(a_,k_)) (fun acc z=>if tu p z=true then (m8 acc [id z]).map (fun a=>(.inl a:List Int⊕(List Int×Int))) else some (.inl acc)) (fun a_=>(a_,(2:Int))) (dm (n:=2) (by omega)) (fun j a x hx=>by
  have hk:j < 2:=(zg.1 hx).1
  have d:decide ((j:Int) < 2)=true:=by simp; omega
  have w:i64.wrap ((j:Int) + 1)=((j + 1:Nat) : Int):=bN hk (by omega)
  simp only [d,if_true,bp hx,zb,w,wn,id]
  change (if tu p x=true then _ else _) = _
  cases tu p x
  ·rfl
  ·cases h9:m8 a [x] <;> simp [h9]) (fun a=>rfl) acc
 rw [show (acc,(0:Int))=(fun (a_:List Int) (k_:Int)=>(a_,k_)) acc 0 from rfl,h2,jf (tu p) id _ [o.af,o.aD] acc (by simpa using h),List.map_id]
 rfl
def wF (l:List ac) (p:ac) : List Int:=(p.af::l.flatMap (chs p)).mergeSort (fun x y=>decide (x≤y)) ++ [p.aD]
theorem uB (l:List ac) (p:ac) : (l.flatMap (chs p)).length≤2 * l.length:=by
 induction l with
 | nil=>simp
 | cons o l ih =>
  rw [List.flatMap_cons,List.length_append,List.length_cons]
  have:(chs p o).length≤2:=List.length_filter_le _ _
  omega
theorem Et (l:List ac) (p:ac) (hl:l.length≤100000) : chP l p=some (wF l p):=by
 rw [E1]
 obtain ⟨r,h1,h2⟩:=eG (f:=fun st:List Int×Int=>if decide (st.2 < (l.length:Int))=true then Option.bind (bw l st.2) fun o=>Option.bind (aN (fun st':List Int×Int=>if decide (st'.2 < 2)=true then Option.bind (bw [o.af,o.aD] st'.2) fun z=>Option.bind (if decide (p.af < z)=true then some (decide (z < p.aD)) else some false) fun q=>if q=true then Option.bind (m8 st'.1 [z]) fun zs=>some (.inl (zs,i64.wrap (st'.2 + 1))) else some (.inl (st'.1,i64.wrap (st'.2 + 1))) else some (.inr (st'.1,st'.2))) aB (st.1,(0:Int))) fun r:List Int×Int=>some (.inl (r.1,i64.wrap (st.2 + 1))) else some (.inr (st.1,st.2)))
  (fun st=>∃ k:Nat,st.2=(k:Int)∧k≤l.length∧st.1=p.af::(l.take k).flatMap (chs p)) (fun st=>l.length - st.2.toNat) (fun r=>r.1=p.af::l.flatMap (chs p)) (fun st ⟨k,e1,e2,e3⟩=>by
   simp only [e1]
   rcases Nat.lt_or_ge k l.length with hlt | hge
   ·have d1:decide ((k:Int) < (l.length:Int))=true:=by simpa using hlt
    have hc:=uB (l.take k) p
    rw [List.length_take] at hc
    rw [if_pos d1,bp (zq hlt)]
    simp only [zb]
    rw [Ct _ p st.1 (by rw [e3,List.length_cons]; omega)]
    simp only [zb]
    rw [bN hlt (Nat.le_trans hl (by decide))]
    refine .inl ⟨_,rfl,⟨k + 1,rfl,hlt,?_⟩,by simp only [zt]; omega⟩
    rw [e3,List.take_succ_eq_append_getElem hlt,List.flatMap_append]
    simp
   ·have d1:decide ((k:Int) < (l.length:Int))=false:=by simp; omega
    rw [if_neg (by rw [d1]; decide)]
    refine .inr ⟨_,rfl,?_⟩
    show st.1 = _
    rw [e3,List.take_of_length_le hge]) aB ([p.af],0) ⟨0,rfl,Nat.zero_le _,rfl⟩ (by have:=dm (Nat.le_trans hl (by decide)); show l.length - (0:Int).toNat < aB; omega)
 rw [h1]
 have hc:=uB l p
 have hs:wL r.1=some ((p.af::l.flatMap (chs p)).mergeSort fun x y=>decide (x≤y)):=by
  unfold wL
  rw [h2,if_pos ⟨by simp,by rw [List.length_cons]; omega⟩]
 simp only [zb,hs]
 rw [yW (by rw [List.length_mergeSort,List.length_cons]; simp only [List.length_cons,List.length_nil]; omega)]
 rfl
def lm (fr:Int→Bool) (n:Int) : Int→List Int→Int→Option Int
 | _,[],_=>none
 | c,x::r,s=>if (!fr c)=true then lm fr n x r x else if decide (x - s≥n)=true then some s else lm fr n x r s
def OkT (fr:Int→Bool) (a b n t:Int) : Prop:=a≤t∧t + n≤b∧∀ u,t≤u→u < t + n→fr u=true
def Swp (fr:Int→Bool) (a b n:Int) (o:Option Int) : Prop:=match o with
 | some t=>OkT fr a b n t∧∀ t',OkT fr a b n t'→t≤t'
 | none=>∀ t',¬ OkT fr a b n t'
theorem lH (fr:Int→Bool) (a b n:Int) (hn : 1≤n) : ∀ (r:List Int) (c s:Int),(∀ x∈r,c≤x)→r.Pairwise (· ≤ ·)→(∀ y∈c::r,y≤b)→b∈c::r →
  (∀ c'∈c::r,∀ u,c'≤u→u < b→(∀ y∈c::r,c' < y→u < y)→fr u=fr c')→a≤s→s≤c→(∀ u,s≤u→u < c→fr u=true)→(∀ t,OkT fr a b n t→s≤t)→c - s < n→Swp fr a b n (lm fr n c r s)
 | [],c,s,_,_,_,hm,_,_,_,_,h3,h4=>by
  have hc:b=c:=by simpa using hm
  intro t' ht
  have:=h3 t' ht
  have:=ht.2.1
  omega
 | x::r,c,s,h0,hp,hb,hm,hK,h1,hsc,h2,h3,h4=>by
  have hcx:=h0 x List.mem_cons_self
  have hxb:=hb x (List.mem_cons_of_mem _ List.mem_cons_self)
  have hp':=List.pairwise_cons.1 hp
  have hm':b∈x::r:=by
   rcases List.mem_cons.1 hm with e | e
   ·have:x=b:=by omega
    rw [this]; exact List.mem_cons_self
   ·exact e
  have hK':∀ c'∈x::r,∀ u,c'≤u→u < b→(∀ y∈x::r,c' < y→u < y)→fr u=fr c':=fun c' hc' u q1 q2 q3=>hK c' (List.mem_cons_of_mem _ hc') u q1 q2 fun y hy hlt=>by
   rcases List.mem_cons.1 hy with e | e
   ·have:=h0 c' hc'
    omega
   ·exact q3 y e hlt
  have hb':∀ y∈x::r,y≤b:=fun y hy=>hb y (List.mem_cons_of_mem _ hy)
  have hge:∀ y∈x::r,x≤y:=fun y hy=>by
   rcases List.mem_cons.1 hy with e | e
   ·omega
   ·exact hp'.1 y e
  have hcst:∀ u,c≤u→u < x→fr u=fr c:=fun u q1 q2=>hK c List.mem_cons_self u q1 (by omega) fun y hy hlt=>by
   rcases List.mem_cons.1 hy with e | e
   ·omega
   ·have:=hge y e
    omega
  unfold lm
  cases hf:fr c with
  | false =>
   rw [if_pos (by rfl)]
   refine lH fr a b n hn r x x hp'.1 hp'.2 hb' hm' hK' (by omega) (Int.le_refl _) (fun u q1 q2=>by omega) (fun t ht=>?_) (by omega)
   rcases Int.lt_or_le t x with hlt | hle
   ·exfalso
    have hst:=h3 t ht
    have hfu:=ht.2.2
    rcases Int.lt_or_le t c with q | q
    ·have:=hfu c (by omega) (by omega)
     rw [hf] at this
     cases this
    ·have e1:=hcst t q hlt
     have e2:=hfu t (Int.le_refl _) (by omega)
     rw [e1,hf] at e2
     cases e2
   ·exact hle
  | true =>
   rw [if_neg (by decide)]
   have h2':∀ u,s≤u→u < x→fr u=true:=fun u q1 q2=>by
    rcases Int.lt_or_le u c with q | q
    ·exact h2 u q1 q
    ·rw [hcst u q q2,hf]
   split
   ·rename_i hd
    have hd:x - s≥n:=zd hd
    exact ⟨⟨h1,by omega,fun u q1 q2=>h2' u q1 (by omega)⟩,h3⟩
   ·rename_i hd
    have hd : ¬ x - s≥n:=fun e=>hd (decide_eq_true e)
    exact lH fr a b n hn r x s hp'.1 hp'.2 hb' hm' hK' h1 (by omega) h2' h3 (by omega)
def frV (l:List ac) (v:aF) (p:ac) (t:Int) : Bool:=vI (ff (atV l p.av t) p.ap) v
theorem wE (l:List ac) (p:ac) : ∃ S,(p.af::l.flatMap (chs p)).mergeSort (fun x y=>decide (x≤y))=p.af::S∧(∀ x∈S,p.af≤x)∧S.Pairwise (· ≤ ·)∧(∀ x,x∈p.af::S↔x∈p.af::l.flatMap (chs p)):=by
 have hs:((p.af::l.flatMap (chs p)).mergeSort (fun x y=>decide (x≤y))).Pairwise (fun x y=>decide (x≤y)=true):=List.pairwise_mergeSort (fun a b c h1 h2=>by simp only [decide_eq_true_eq] at h1 h2 ⊢; omega) (fun a b=>by simp only [Bool.or_eq_true,decide_eq_true_eq]; omega) _
 have hmem:∀ x,x∈(p.af::l.flatMap (chs p)).mergeSort (fun x y=>decide (x≤y))↔x∈p.af::l.flatMap (chs p):=fun x=>List.mem_mergeSort
 have hge:∀ x∈p.af::l.flatMap (chs p),p.af≤x:=fun x hx=>by
  rcases List.mem_cons.1 hx with e | e
  ·omega
  ·obtain ⟨o,_,h2⟩:=List.mem_flatMap.1 e
   have:=(List.mem_filter.1 h2).2
   unfold tu at this
   simp only [Bool.and_eq_true,decide_eq_true_eq] at this
   omega
 match hS:(p.af::l.flatMap (chs p)).mergeSort (fun x y=>decide (x≤y)) with
 | []=>have:=(hmem p.af).2 List.mem_cons_self; rw [hS] at this; cases this
 | c::S =>
  rw [hS] at hs hmem
  have hs':=List.pairwise_cons.1 hs
  have h1:=hge c ((hmem c).1 List.mem_cons_self)
  have h2:c≤p.af:=by
   rcases List.mem_cons.1 ((hmem p.af).2 List.mem_cons_self) with e | e
   ·omega
   ·have:=hs'.1 _ e
    simpa using this
  obtain rfl:c=p.af:=by omega
  exact ⟨S,rfl,fun x hx=>by simpa using hs'.1 x hx,hs'.2.imp (fun h=>by simpa using h),hmem⟩
theorem vf (l:List ac) (v:aF) (p:ac) (n:Int) (hn : 1≤n) (S:List Int) (h1:∀ x∈S,p.af≤x) (h2:S.Pairwise (· ≤ ·)) (hm:∀ x,x∈p.af::S↔x∈p.af::l.flatMap (chs p)) : Swp (frV l v p) p.af p.aD n (lm (frV l v p) n p.af (S ++ [p.aD]) p.af):=by
 have hC:∀ x∈p.af::S,x=p.af∨(p.af < x∧x < p.aD):=fun x hx=>by
  rcases List.mem_cons.1 ((hm x).1 hx) with e | e
  ·exact .inl e
  ·obtain ⟨o,_,h2⟩:=List.mem_flatMap.1 e
   have:=(List.mem_filter.1 h2).2
   unfold tu at this
   simp only [Bool.and_eq_true,decide_eq_true_eq] at this
   exact .inr this
 rcases Int.lt_or_le p.aD p.af with hlt | hle
 ·have hS:∀ x∈S,x=p.af:=fun x hx=>by
   rcases hC x (List.mem_cons_of_mem _ hx) with e | e
   ·exact e
   ·omega
  have:∀ (S:List Int),(∀ x∈S,x=p.af)→lm (frV l v p) n p.af (S ++ [p.aD]) p.af=none:=by
   intro S
   induction S with
   | nil =>
    intro _
    show (if _ then _ else _)=none
    split
    ·rfl
    ·rw [if_neg (by simp; omega)]; rfl
   | cons x S ih =>
    intro hS
    obtain rfl:=hS x List.mem_cons_self
    show (if _ then _ else _)=none
    split
    ·exact ih (fun y hy=>hS y (List.mem_cons_of_mem _ hy))
    ·rw [if_neg (by simp; omega)]; exact ih (fun y hy=>hS y (List.mem_cons_of_mem _ hy))
  rw [this S hS]
  intro t ht
  have:=ht.1; have:=ht.2.1
  omega
 ·refine lH _ _ _ _ hn _ _ _ (fun x hx=>?_) ?_ (fun y hy=>?_) (by simp) (fun c' hc' u q1 q2 q3=>?_) (Int.le_refl _) (Int.le_refl _) (fun u q1 q2=>by omega) (fun t ht=>ht.1) (by omega)
  ·rcases List.mem_append.1 hx with e | e
   ·exact h1 x e
   ·rw [List.mem_singleton.1 e]; exact hle
  ·refine List.pairwise_append.2 ⟨h2,List.pairwise_singleton _ _,fun x hx y hy=>?_⟩
   rw [List.mem_singleton.1 hy]
   rcases hC x (List.mem_cons_of_mem _ hx) with e | e <;> omega
  ·rcases List.mem_cons.1 hy with e | e
   ·omega
   ·rcases List.mem_append.1 e with e | e
    ·rcases hC y (List.mem_cons_of_mem _ e) with e | e <;> omega
    ·rw [List.mem_singleton.1 e]; exact Int.le_refl _
  ·unfold frV
   rw [Ai l p.av u c' (fun o ho=>?_)]
   have hac:p.af≤c':=by
    rcases List.mem_cons.1 hc' with e | e
    ·omega
    ·rcases List.mem_append.1 e with e | e
     ·exact h1 _ e
     ·rw [List.mem_singleton.1 e]; exact hle
   have key:∀ z∈[o.af,o.aD],c' < z→u < z:=fun z hz hcz=>by
    rcases Int.lt_or_le u z with q | q
    ·exact q
    ·refine q3 z ?_ hcz
     have:z∈p.af::l.flatMap (chs p):=List.mem_cons_of_mem _ (List.mem_flatMap.2 ⟨o,ho,List.mem_filter.2 ⟨hz,by unfold tu; simp only [Bool.and_eq_true,decide_eq_true_eq]; omega⟩⟩)
     rcases List.mem_cons.1 ((hm z).2 this) with e | e
     ·rw [e]; exact List.mem_cons_self
     ·exact List.mem_cons_of_mem _ (List.mem_append_left _ e)
   have k1:=key o.af (by simp)
   have k2:=key o.aD (by simp)
   unfold fo
   have e1:decide (o.af≤u)=decide (o.af≤c'):=by
    apply decide_eq_decide.2
    constructor
    ·intro h
     rcases Int.lt_or_le c' o.af with q | q
     ·have:=k1 q; omega
     ·exact q
    ·intro h; omega
   have e2:decide (u < o.aD)=decide (c' < o.aD):=by
    apply decide_eq_decide.2
    constructor
    ·intro h; omega
    ·exact k2
   rw [e1,e2]
theorem Bg (l:List ac) (v:aF) (p:ac) (n:Int) : p5 l v p n=Option.bind (xC p n) fun r=>if (!r)=true then some (0,1) else Option.bind (chP l p) fun r=>Option.bind (loO r 1) fun z=>Option.bind (aN (fun st:Int×Int×Int×Int=>if decide (st.2.2.2 < (z.length:Int))=true then Option.bind (bw z st.2.2.2) fun x1=>Option.bind (bw r st.2.2.2) fun x2=>Option.bind (atP l p.av x2) fun a=>Option.bind (ve a p.ap) fun b=>Option.bind (tI b v) fun c=>if (!c)=true then some (.inl (st.1,st.2.1,x1,i64.wrap (st.2.2.2 + 1))) else if decide (i64.wrap (x1 - st.2.2.1)≥n)=true then some (.inr (.inr (st.2.2.1,0))) else some (.inl (st.1,st.2.1,st.2.2.1,i64.wrap (st.2.2.2 + 1))) else some (.inr (.inl (st.1,st.2.1,st.2.2.1,st.2.2.2)))) aB ((0:Int),(0:Int),p.af,(0:Int))) fun o:(Int×Int×Int×Int)⊕(Int×Int)=>match o with | .inl _=>some (0,16) | .inr v=>some v:=by kernel_rfl
def PlQ (W:Option Int) (r:(Int×Int×Int×Int)⊕(Int×Int)) : Prop:=match W with | some t=>r = .inr (t,0) | none=>∃ q,r = .inl q
def PlS (l:List ac) (v:aF) (p:ac) (n:Int) (r:Int×Int) : Prop:=(gx p n=false∧r=(0,1))∨(gx p n=true∧((∃ t,r=(t,0)∧OkT (frV l v p) p.af p.aD n t∧∀ t',OkT (frV l v p) p.af p.aD n t'→t≤t')∨(r=(0,16)∧∀ t',¬ OkT (frV l v p) p.af p.aD n t')))
theorem PlS.unique {l:List ac} {v:aF} {p:ac} {n:Int} {r r':Int×Int} (h:PlS l v p n r) (h':PlS l v p n r') : r=r':=by
 rcases h with ⟨b,rfl⟩ | ⟨b,h⟩ <;> rcases h' with ⟨b',rfl⟩ | ⟨b',h'⟩
 ·rfl
 ·rw [b] at b'; cases b'
 ·rw [b] at b'; cases b'
 ·rcases h with ⟨t,rfl,h1,h2⟩ | ⟨rfl,h1⟩ <;> rcases h' with ⟨t',rfl,h1',h2'⟩ | ⟨rfl,h1'⟩
  ·have:=h2 t' h1'; have:=h2' t h1
   rw [show t=t' by omega]
  ·exact absurd h1 (h1' t)
  ·exact absurd h1' (h1 t')
  ·rfl
theorem wk {p:ac} {n:Int} (h:gx p n=true) : 1≤n∧n≤1000∧0≤p.af∧p.af≤1000000∧0≤p.aD∧p.aD≤1000000∧0≤p.ap.aY∧p.ap.aY≤1073741824∧0≤p.ap.ar∧p.ap.ar≤1073741824:=by
 unfold gx gN at h
 simp only [Bool.and_eq_true,decide_eq_true_eq] at h
 omega
theorem nr (l:List ac) (v:aF) (p:ac) (n:Int) (hl:l.length≤100000) : ∃ r,p5 l v p n=some r∧PlS l v p n r:=by
 rw [Bg,Ah]
 simp only [zb]
 cases hb:gx p n with
 | false=>exact ⟨_,rfl,.inl ⟨hb,rfl⟩⟩
 | true =>
  obtain ⟨n1,n2,f1,f2,u1,u2,_⟩:=wk hb
  rw [if_neg (by decide),Et l p hl]
  obtain ⟨S,e1,h1,h2,hm⟩:=wE l p
  have hT:wF l p=p.af::(S ++ [p.aD]):=by unfold wF; rw [e1]; rfl
  have hW:=vf l v p n n1 S h1 h2 hm
  obtain ⟨z,hz⟩ : ∃ z,z=S ++ [p.aD]:=⟨_,rfl⟩
  have hbz:∀ x∈z,0≤x∧x≤1000000:=fun x hx=>by
   rw [hz] at hx
   rcases List.mem_append.1 hx with e | e
   ·rcases List.mem_cons.1 ((hm x).1 (List.mem_cons_of_mem _ e)) with e | e
    ·omega
    ·obtain ⟨o,_,h2⟩:=List.mem_flatMap.1 e
     have:=(List.mem_filter.1 h2).2
     unfold tu at this
     simp only [Bool.and_eq_true,decide_eq_true_eq] at this
     omega
   ·rw [List.mem_singleton.1 e]; omega
  have hzl:z.length≤1000000:=by
   have e2:(p.af::S).length=(p.af::l.flatMap (chs p)).length:=by rw [← e1,List.length_mergeSort]
   have:=uB l p
   rw [hz,List.length_append,List.length_singleton]
   simp only [List.length_cons] at e2
   omega
  rw [hT,← hz]
  rw [← hz] at hW
  simp only [zb]
  have h9:loO (p.af::z) 1=some z:=xd (l:=p.af::z) (k:=1) (by simp)
  rw [h9]
  simp only [zb]
  obtain ⟨W,hW2⟩ : ∃ W,W=lm (frV l v p) n p.af z p.af:=⟨_,rfl⟩
  obtain ⟨r,k1,k2⟩:=eG (f:=fun st:Int×Int×Int×Int=>if decide (st.2.2.2 < (z.length:Int))=true then Option.bind (bw z st.2.2.2) fun x1=>Option.bind (bw (p.af::z) st.2.2.2) fun x2=>Option.bind (atP l p.av x2) fun a=>Option.bind (ve a p.ap) fun b=>Option.bind (tI b v) fun c=>if (!c)=true then some (.inl (st.1,st.2.1,x1,i64.wrap (st.2.2.2 + 1))) else if decide (i64.wrap (x1 - st.2.2.1)≥n)=true then some (.inr (.inr (st.2.2.1,0))) else some (.inl (st.1,st.2.1,st.2.2.1,i64.wrap (st.2.2.2 + 1))) else some (.inr (.inl (st.1,st.2.1,st.2.2.1,st.2.2.2))))
   (fun st=>∃ (k:Nat) (c:Int),st.2.2.2=(k:Int)∧k≤z.length∧(p.af::z)[k]? = some c∧lm (frV l v p) n c (z.drop k) st.2.2.1=W∧0≤st.2.2.1∧st.2.2.1≤1000000) (fun st=>z.length - st.2.2.2.toNat) (PlQ W) (fun st ⟨k,c,g1,g2,g3,g4,g5,g6⟩=>by
    simp only [g1]
    rcases Nat.lt_or_ge k z.length with hlt | hge
    ·have d1:decide ((k:Int) < (z.length:Int))=true:=by simpa using hlt
     have hx:=hbz _ (List.getElem_mem hlt)
     rw [if_pos d1,bp (zq hlt)]
     simp only [zb]
     rw [bp g3]
     simp only [zb,Ev l _ _ (Nat.le_trans hl (by decide)),vd,zj]
     rw [List.drop_eq_getElem_cons hlt] at g4
     unfold lm at g4
     rw [bN hlt hzl,dU (show -9223372036854775808≤z[k] - st.2.2.1 by omega) (show z[k] - st.2.2.1≤9223372036854775807 by omega)]
     have hmu:z.length - (((k + 1:Nat) : Int)).toNat < z.length - ((k:Nat) : Int).toNat:=by simp only [zt]; omega
     change (if (!vI (ff (atV l p.av c) p.ap) v)=true then _ else _)=W at g4
     cases hf:vI (ff (atV l p.av c) p.ap) v with
     | false =>
      rw [hf,if_pos (by rfl)] at g4
      rw [if_pos (by rfl)]
      exact .inl ⟨_,rfl,⟨k + 1,z[k],rfl,hlt,by rw [List.getElem?_cons_succ]; exact zq hlt,g4,hx.1,hx.2⟩,hmu⟩
     | true =>
      rw [hf,if_neg (by decide)] at g4
      rw [if_neg (by decide)]
      split
      ·rename_i hd
       rw [if_pos hd] at g4
       subst g4
       exact .inr ⟨_,rfl,rfl⟩
      ·rename_i hd
       rw [if_neg hd] at g4
       exact .inl ⟨_,rfl,⟨k + 1,z[k],rfl,hlt,by rw [List.getElem?_cons_succ]; exact zq hlt,g4,g5,g6⟩,hmu⟩
    ·have d1:decide ((k:Int) < (z.length:Int))=false:=by simp; omega
     rw [if_neg (by rw [d1]; decide)]
     rw [List.drop_of_length_le hge] at g4
     unfold lm at g4
     subst g4
     exact .inr ⟨_,rfl,_,rfl⟩) aB (0,0,p.af,0) ⟨0,p.af,rfl,Nat.zero_le _,rfl,hW2.symm,f1,f2⟩ (by have:=dm hzl; show z.length - (0:Int).toNat < aB; omega)
  rw [k1]
  rw [← hW2] at hW
  cases W with
  | some t =>
   have k2:r = .inr (t,0):=k2
   subst k2
   exact ⟨_,rfl,.inr ⟨hb,.inl ⟨t,rfl,hW.1,hW.2⟩⟩⟩
  | none =>
   obtain ⟨q,rfl⟩ : ∃ q,r = .inl q:=k2
   exact ⟨_,rfl,.inr ⟨hb,.inr ⟨rfl,hW⟩⟩⟩
noncomputable def cj (a n:Int) : Option Int:=jG (a,(n,()))
noncomputable def xi (p:ac) : Option ac:=mj (p,())
noncomputable def mN:Option Bool:=kJ ()
theorem wz (a n:Int) : cj a n=Option.bind (CW a n) fun q=>if decide (q < 0)=true then some (i64.wrap (q + n)) else some q:=by kernel_rfl
theorem bv {a n:Int} (h0 : 0 < n) (h1:n≤1000000) : ∃ r:Int,cj a n=some r∧0≤r∧r < n:=by
 have hlt:=Int.tmod_lt_of_pos a h0
 have hgt:=Int.lt_tmod_of_pos a h0
 rw [wz]
 unfold CW
 rw [if_neg (by omega)]
 simp only [zb]
 split
 ·rename_i h
  have h:=zd h
  exact ⟨_,rfl,by rw [IntKind.wrap_i64]; omega,by rw [IntKind.wrap_i64]; omega⟩
 ·rename_i h
  have h : ¬ Int.tmod a n < 0:=fun e=>h (by simpa using e)
  exact ⟨_,rfl,by omega,by omega⟩
theorem BZ (p:ac) : xi p=Option.bind (cj p.fId 20) fun r=>Option.bind (cj p.av 2) fun r1=>Option.bind (cj p.af 40) fun r2=>Option.bind (cj p.aD 60) fun r3=>Option.bind (cj p.ap.aY 6) fun r4=>Option.bind (cj p.ap.ar 6) fun r5=>some ⟨r,r1,r2,r3,⟨r4,r5⟩⟩:=by kernel_rfl
def Fa (q:ac) : Prop:=0≤q.fId∧q.fId < 20∧0≤q.av∧q.av < 2∧0≤q.af∧q.af < 40∧0≤q.aD∧q.aD < 60∧0≤q.ap.aY∧q.ap.aY < 6∧0≤q.ap.ar∧q.ap.ar < 6
theorem zK (p:ac) : ∃ q,xi p=some q∧Fa q:=by
 obtain ⟨a,a1,a2,a3⟩:=bv (a:=p.fId) (n:=20) (by omega) (by omega)
 obtain ⟨b,b1,b2,b3⟩:=bv (a:=p.av) (n:=2) (by omega) (by omega)
 obtain ⟨c,c1,c2,c3⟩:=bv (a:=p.af) (n:=40) (by omega) (by omega)
 obtain ⟨d,d1,d2,d3⟩:=bv (a:=p.aD) (n:=60) (by omega) (by omega)
 obtain ⟨e,e1,e2,e3⟩:=bv (a:=p.ap.aY) (n:=6) (by omega) (by omega)
 obtain ⟨f,f1,f2,f3⟩:=bv (a:=p.ap.ar) (n:=6) (by omega) (by omega)
 rw [BZ,a1,b1,c1,d1,e1,f1]
 exact ⟨_,rfl,a2,a3,b2,b3,c2,c3,d2,d3,e2,e3,f2,f3⟩
theorem zw {l:List ac} {v:aF} {p:ac} {n:Int} {r:Int×Int} (hl:l.length≤100000) (h:PlS l v p n r) : p5 l v p n=some r:=by
 obtain ⟨r',h1,h2⟩:=nr l v p n hl
 rw [h1,PlS.unique h2 h]
theorem zH:mN=Option.bind (p5 [⟨0,0,0,7,⟨4,4⟩⟩] ⟨4,4⟩ ⟨0,0,0,100,⟨4,4⟩⟩ 5) fun r=>Option.bind (if (r.2==0)=true then some (r.1==7) else some false) fun q=>some q:=by kernel_rfl
theorem lW:mN=some true:=by
 have hf:∀ u,frV [⟨0,0,0,7,⟨4,4⟩⟩] ⟨4,4⟩ ⟨0,0,0,100,⟨4,4⟩⟩ u = !(decide (0≤u)&&decide (u < 7)):=fun u=>by
  unfold frV atV fo
  simp only [List.foldl_cons,List.foldl_nil]
  cases decide (0≤u) <;> cases decide (u < 7) <;> rfl
 rw [zH,zw (r:=(7,0)) (by simp) (.inr ⟨by decide,.inl ⟨7,rfl,⟨by decide,by decide,fun u h1 h2=>?_⟩,fun t ht=>?_⟩⟩)]
 ·rfl
 ·rw [hf]
  have:decide (u < 7)=false:=by simp; omega
  rw [this,Bool.and_false]; rfl
 ·have h1 : 0≤t:=ht.1
  have:=ht.2.2 t (Int.le_refl _) (by omega)
  rw [hf] at this
  simp only [Bool.not_eq_true',Bool.and_eq_false_iff,decide_eq_false_iff_not] at this
  omega
theorem va {α : Type} (key : α→Int) (x : α) (l:List α) (a : α) : ji key (x::l) a=if key x < key a then x::ji key l a else if key x=key a then a::l else a::x::l:=by
 unfold ji
 by_cases h:key x < key a
 ·rw [if_pos h]
  have hd:decide (key x < key a)=true:=by simpa using h
  simp only [List.takeWhile_cons,hd,if_true,List.length_cons,List.take_succ_cons,List.getElem?_cons_succ,List.cons_append]
  generalize (l.takeWhile fun x=>decide (key x < key a)).length=K
  cases l[K]? with
  | none=>rfl
  | some y =>
   dsimp only
   split <;> rfl
 ·rw [if_neg h]
  have hd:decide (key x < key a)=false:=by simpa using h
  simp only [List.takeWhile_cons,hd,zf,if_false,List.length_nil,List.take_zero,List.nil_append,List.getElem?_cons_zero,Nat.zero_add]
  by_cases he:key x=key a
  ·rw [if_pos he]
   have hb:(key x==key a)=true:=by simpa using he
   simp [hb]
  ·rw [if_neg he]
   have hb:(key x==key a)=false:=by simpa using he
   simp [hb]
theorem pZ {α : Type} (key : α→Int) (a : α) : ∀ l:List α,Al key l→Al key (ji key l a)
 | [],_=>List.pairwise_singleton _ _
 | y::l,hs=>by
  have hs':=List.pairwise_cons.1 hs
  rw [va]
  split
  ·rename_i h
   refine List.pairwise_cons.2 ⟨fun x hx=>?_,pZ key a l hs'.2⟩
   rcases xc hx with rfl | hx
   ·exact h
   ·exact hs'.1 x hx
  ·split
   ·rename_i h1 h2
    exact List.pairwise_cons.2 ⟨fun x hx=>by have:=hs'.1 x hx; omega,hs'.2⟩
   ·rename_i h1 h2
    refine List.pairwise_cons.2 ⟨fun x hx=>?_,hs⟩
    rcases List.mem_cons.1 hx with rfl | hx
    ·omega
    ·have:=hs'.1 x hx; omega
theorem cA {α S τ : Type} (l:List α) (mk:Int→S) {f:S→Option (S⊕τ)} {r : τ} (hl:l.length≤1000000)
  (hstep:∀ (k:Nat) (x : α),l[k]? = some x→k < l.length→x∈l→f (mk (k:Int))=some (.inl (mk ((k + 1:Nat) : Int)))) (hend:f (mk (l.length:Int))=some (.inr r)) : aN f aB (mk 0)=some r:=by
 rw [eF l (σ:=Unit) (fun _ k=>mk k) (fun _ _=>some (.inl ())) (fun _=>r) (dm hl) (fun k _ x hx=>by rw [hstep k x hx (zg.1 hx).1 (List.mem_of_getElem? hx)]; rfl) (fun _=>hend) ()]
 rw [ez (fun _ _=>())]
theorem gX (l:List Int) (hl:l.length≤1000000) : gA l l=some true:=by
 unfold gA
 simp only [bne_self_eq_false,zf,if_false]
 rw [cA l (fun k=>k) (r:=.inl (l.length:Int)) hl (fun k x hx hk _=>by
  unfold gz
  simp only [dF hx,if_true,bp hx,zb,bne_self_eq_false,zf,if_false,bN hk hl]) (by unfold gz; simp only [da,zf,if_false])]
 rfl
structure SzL (a:cR) : Prop where
 queue:a.kq.size≤1000000
 asks:a.fa.length≤1000000
 grants:a.g0.length≤1000000
 kills:a.kt.length≤1000000
 told:a.oE.length≤1000000
 lost:a.oG.length≤1000000
theorem xH (a:cR) (h:SzL a) : pB a a=some true:=by
 unfold pB
 have h1:a.fa.length≤1000000:=h.asks
 simp only [bne_self_eq_false,BEq.rfl,Bool.and_self,Bool.not_true,zf,if_false,zb]
 rw [cA a.fa (fun k=>k) (r:=.inl (a.fa.length:Int)) h1 (fun k x hx hk _=>by
  unfold iq
  simp only [dF hx,if_true,bp hx,zb,BEq.rfl,Bool.and_self,Bool.not_true,zf,if_false,bN hk h1]) (by unfold iq; simp only [da,zf,if_false])]
 simp only [zb,gX _ h.grants,gX _ h.kills,gX _ h.told,gX _ h.lost,if_true]
theorem xA (c:bH) (h:SzC c) : pz c c=some true:=by
 unfold pz
 have h1:c.bz.length≤1000000:=Nat.le_trans h.labels (by decide)
 have h2:c.cf.length≤1000000:=Nat.le_trans h.queues (by decide)
 simp only [bne_self_eq_false,zf,if_false,zb]
 rw [cA c.bz (fun k=>k) (r:=.inl (c.bz.length:Int)) h1 (fun k x hx hk _=>by
  unfold ip
  simp only [dF hx,if_true,bp hx,zb,BEq.rfl,Bool.not_true,zf,if_false,bN hk h1]) (by unfold ip; simp only [da,zf,if_false])]
 simp only [zb]
 rw [cA c.cf (fun k=>k) (r:=.inl (c.cf.length:Int)) h2 (fun k x hx hk hm=>by
  have h3:x.jL.length≤1000000:=Nat.le_trans (h.caps x hm) (by decide)
  unfold im
  simp only [dF hx,if_true,bp hx,zb,BEq.rfl,bne_self_eq_false,Bool.not_true,zf,if_false,bN hk h2]
  rw [cA x.jL (fun k=>k) (r:=.inl (x.jL.length:Int)) h3 (fun k y hy hk _=>by
   unfold il
   simp only [dF hy,if_true,bp hy,zb,BEq.rfl,Bool.and_self,Bool.not_true,zf,if_false,bN hk h3]) (by unfold il; simp only [da,zf,if_false])]
  rfl) (by unfold im; simp only [da,zf,if_false])]
 rfl
structure kD (s:al) : Prop where
 conf:SzC s.g7
 nodes:s.bS.length≤1000000
 apps:s.jM.length≤1000000
 conts:s.d9.length≤1000000
 slots:s.gu.length≤1000000
 plans:s.am.length≤1000000
 app:∀ a∈s.jM,SzL a
 lab:∀ x∈s.g7.bz,x.size≤1000000
theorem AV (s:al) (h:kD s) : gH s s=some true:=by
 unfold gH
 simp only [xA _ h.conf,zb,bne_self_eq_false,Bool.not_true,zf,if_false]
 rw [cA s.bS (fun k=>(true,k)) (r:=(true,(s.bS.length:Int))) h.nodes (fun k x hx hk _=>by
  unfold gG
  simp only [dF hx,if_true,bp hx,zb,BEq.rfl,Bool.and_self,bN hk h.nodes]) (by unfold gG; simp only [da,zf,if_false])]
 simp only [zb]
 rw [cA s.jM (fun k=>(true,k)) (r:=(true,(s.jM.length:Int))) h.apps (fun k x hx hk hm=>by
  unfold gF
  simp only [dF hx,if_true,bp hx,zb,xH x (h.app x hm),bN hk h.apps]) (by unfold gF; simp only [da,zf,if_false])]
 simp only [zb]
 rw [cA s.d9 (fun k=>(true,k)) (r:=(true,(s.d9.length:Int))) h.conts (fun k x hx hk _=>by
  unfold gD
  simp only [dF hx,if_true,bp hx,zb,BEq.rfl,Bool.and_self,bN hk h.conts]) (by unfold gD; simp only [da,zf,if_false])]
 simp only [zb]
 rw [cA s.gu (fun k=>(true,k)) (r:=(true,(s.gu.length:Int))) h.slots (fun k x hx hk _=>by
  unfold gC
  simp only [dF hx,if_true,bp hx,zb,BEq.rfl,Bool.and_self,bN hk h.slots]) (by unfold gC; simp only [da,zf,if_false])]
 simp only [zb]
 rw [cA s.am (fun k=>(true,k)) (r:=(true,(s.am.length:Int))) h.plans (fun k x hx hk _=>by
  unfold gB
  simp only [dF hx,if_true,bp hx,zb,BEq.rfl,Bool.and_self,bN hk h.plans]) (by unfold gB; simp only [da,zf,if_false])]
 rfl
theorem Fi {α : Type} (lo hi:List α) (z n : α) (hl:lo.length + hi.length≤900000) :
  (Option.bind (mkO z (i64.wrap (i64.wrap ((lo.length:Int) + 1) + (hi.length:Int)))) fun xs=>Option.bind (fI xs 0 xs.length lo) fun zs=>Option.bind (bw zs (lo.length:Int)) fun _=>Option.bind (vwO (zs.set ((lo.length:Int)).toNat n).length (i64.wrap ((lo.length:Int) + 1)) ((zs.set ((lo.length:Int)).toNat n).length:Int)) fun _=>Option.bind (fI (zs.set ((lo.length:Int)).toNat n) (i64.wrap ((lo.length:Int) + 1)).toNat (((zs.set ((lo.length:Int)).toNat n).length:Int)).toNat hi) fun r=>some r)=some (lo++n::hi):=by
 have e1:i64.wrap ((lo.length:Int) + 1)=((lo.length + 1:Nat) : Int):=by rw [IntKind.wrap_i64]; omega
 have e2:i64.wrap (((lo.length + 1:Nat) : Int) + (hi.length:Int))=((lo.length + 1 + hi.length:Nat) : Int):=by rw [IntKind.wrap_i64]; omega
 rw [e1,e2]
 have e3:mkO z ((lo.length + 1 + hi.length:Nat) : Int)=some (List.replicate (lo.length + 1 + hi.length) z):=by
  unfold mkO
  rw [if_pos ⟨by omega,by omega⟩,zt]
 rw [e3]
 simp only [zb]
 have e4:fI (List.replicate (lo.length + 1 + hi.length) z) 0 (List.replicate (lo.length + 1 + hi.length) z).length lo=some (lo++List.replicate (1 + hi.length) z):=by
  unfold fI
  rw [if_pos ⟨by omega,Nat.le_refl _⟩]
  unfold dx
  simp only [List.length_replicate,Nat.sub_zero]
  rw [List.take_of_length_le (show lo.length≤lo.length + 1 + hi.length by omega)]
  simp only [List.take_zero,List.nil_append,Nat.zero_add,List.drop_replicate]
  rw [show lo.length + 1 + hi.length - lo.length=1 + hi.length by omega]
 rw [e4]
 simp only [zb]
 have e5:(lo++List.replicate (1 + hi.length) z)[lo.length]? = some z:=by
  rw [List.getElem?_append_right (Nat.le_refl _),Nat.sub_self,Nat.add_comm 1]
  rfl
 rw [bp e5]
 simp only [zb,zt]
 have e6:(lo++List.replicate (1 + hi.length) z).set lo.length n=lo++n::List.replicate hi.length z:=by
  rw [List.set_append_right _ _ (Nat.le_refl _),Nat.sub_self,Nat.add_comm 1]
  rfl
 rw [e6]
 have e7:(lo++n::List.replicate hi.length z).length=lo.length + 1 + hi.length:=by simp; omega
 rw [e7]
 have e8:vwO (lo.length + 1 + hi.length) ((lo.length + 1:Nat) : Int) ((lo.length + 1 + hi.length:Nat) : Int)=some ():=by
  unfold vwO
  rw [if_pos ⟨by omega,by omega,by omega,by omega⟩]
 rw [e8]
 simp only [zb]
 unfold fI
 rw [if_pos ⟨by omega,by rw [e7]; exact Nat.le_refl _⟩]
 unfold dx
 have h1:(lo++n::List.replicate hi.length z).take (lo.length + 1)=lo ++ [n]:=by
  rw [List.take_append,List.take_of_length_le (Nat.le_succ _)]
  simp
 have h2:lo.length + 1 + hi.length - (lo.length + 1)=hi.length:=by omega
 rw [h1,h2,List.take_of_length_le (Nat.le_refl _)]
 have h3:(lo++n::List.replicate hi.length z).drop (lo.length + 1 + hi.length) = []:=List.drop_of_length_le (by rw [e7]; exact Nat.le_refl _)
 rw [h3]
 simp
theorem mt {α : Type} (p : α→Bool) : ∀ (l:List α) (i:Nat) (h:i < l.length),(∀ j (hj:j < i),p l[j] = true)→p l[i] = false→(l.takeWhile p).length=i
 | [],i,h,_,_=>absurd h (Nat.not_lt_zero _)
 | x::l,0,h,_,h2=>by
  have h2:p x=false:=h2
  rw [List.takeWhile_cons,h2]
  rfl
 | x::l,i + 1,h,h1,h2=>by
  have h0:p x=true:=h1 0 (Nat.succ_pos _)
  rw [List.takeWhile_cons,h0]
  simp only [if_true,List.length_cons]
  rw [mt p l i (by simpa using h) (fun j hj=>by have:=h1 (j + 1) (Nat.succ_lt_succ hj); simpa using this) (by simpa using h2)]
theorem lj {α : Type} (p : α→Bool) : ∀ (l:List α),(∀ x∈l,p x=true)→(l.takeWhile p).length=l.length
 | [],_=>rfl
 | x::l,h=>by
  rw [List.takeWhile_cons,h x List.mem_cons_self]
  simp only [if_true,List.length_cons]
  rw [lj p l fun y hy=>h y (List.mem_cons_of_mem _ hy)]
theorem Ad {α : Type} (l:List α) (f : α→Option α) (hf:∀ x∈l,f x=some x) (hl:l.length≤1000000) :
  aN (fun st:List α×List α×Int=>if decide (st.2.2 < (l.length:Int))=true then Option.bind (bw st.1 st.2.2) fun x=>Option.bind (f x) fun y=>Option.bind (bw st.1 st.2.2) fun _=>some (.inl (st.1.set st.2.2.toNat y,st.1.set st.2.2.toNat y,i64.wrap (st.2.2 + 1))) else some (.inr (st.1,st.1,st.2.2))) aB (l,l,0)=some (l,l,(l.length:Int)):=by
 rw [cA l (fun k=>(l,l,k)) (r:=(l,l,(l.length:Int))) hl (fun k x hx hk hm=>by
  have e:l.set k x=l:=by
   obtain ⟨h1,h2⟩:=zg.1 hx
   rw [← h2]
   exact List.set_getElem_self h1
  simp only [dF hx,if_true,bp hx,zb,hf x hm,zt,e,bN hk hl]) (by simp only [da,zf,if_false])]
def AO (x:ByteArray) : Option ByteArray:=if x.size≤1000000000 then some x else none
theorem tB {x:ByteArray} (h:x.size≤1000000) : AO x=some x:=by unfold AO; rw [if_pos (by omega)]
def dI {α : Type} (xs:List α) : Option ((Unit×Unit)×List α):=Option.bind (rx xs) fun z=>some (((),()),z)
theorem cb {α : Type} {xs:List α} (h:xs.length≤1000000) : dI xs=some (((),()),xs):=by unfold dI rx; rw [if_pos h]; rfl
noncomputable def xn (a:cR) : Option cR:=iy (a,())
theorem B8 (a:cR) : xn a=Option.bind (AO a.kq) fun q=>Option.bind (dI a.fa) fun r1=>Option.bind (dI a.g0) fun r2=>Option.bind (dI a.kt) fun r3=>Option.bind (dI a.oE) fun r4=>Option.bind (dI a.oG) fun r5=>some ⟨a.fId,a.l6,q,a.iY,a.du,a.cg,r1.2,a.gZ,a.eZ,r2.2,r3.2,r4.2,r5.2⟩:=by kernel_rfl
theorem zS {a:cR} (h:SzL a) : xn a=some a:=by
 rw [B8,tB h.queue,cb h.asks,cb h.grants,cb h.kills,cb h.told,cb h.lost]
 rfl
def yN {α : Type} (f : α→Option α) (l:List α) (st:List α×List α×Int) : Option ((List α×List α×Int)⊕(List α×List α×Int)):=if decide (st.2.2 < (l.length:Int))=true then Option.bind (bw st.1 st.2.2) fun x=>Option.bind (f x) fun y=>Option.bind (bw st.1 st.2.2) fun _=>some (.inl (st.1.set st.2.2.toNat y,st.1.set st.2.2.toNat y,i64.wrap (st.2.2 + 1))) else some (.inr (st.1,st.1,st.2.2))
theorem rj {α : Type} {f : α→Option α} {l:List α} (hf:∀ x∈l,f x=some x) (hl:l.length≤1000000) : aN (yN f l) aB (l,l,0)=some (l,l,(l.length:Int)):=Ad l f hf hl
noncomputable def tZ (l:List cR) : Option ((Unit×Unit×Unit)×List cR):=fw (l,(((),()),()))
theorem zQ (l:List cR) : tZ l=Option.bind (dI l) fun r=>Option.bind (aN (yN xn r.2) aB (r.2,r.2,0)) fun st=>some (((),(),()),st.1):=by kernel_rfl
theorem xl {l:List cR} (hl:l.length≤1000000) (h:∀ a∈l,SzL a) : tZ l=some (((),(),()),l):=by
 rw [zQ,cb hl]
 simp only [zb]
 rw [rj (fun a ha=>zS (h a ha)) hl]
 rfl
noncomputable def yA (l:List ByteArray) : Option (List ByteArray):=fu (l,(((),()),()))
theorem zO (l:List ByteArray) : yA l=Option.bind (dI l) fun r=>Option.bind (aN (yN AO r.2) aB (r.2,r.2,0)) fun st=>some st.1:=by kernel_rfl
noncomputable def xk (q:aU) : Option aU:=ft (q,())
theorem B6 (q:aU) : xk q=Option.bind (AO q.mR) fun p=>Option.bind (dI q.jL) fun r=>some ⟨p,r.2,q.iY⟩:=by kernel_rfl
noncomputable def yB (l:List aU) : Option (List aU):=fv (l,(((),()),()))
theorem zP (l:List aU) : yB l=Option.bind (dI l) fun r=>Option.bind (aN (yN xk r.2) aB (r.2,r.2,0)) fun st=>some st.1:=by kernel_rfl
noncomputable def xm (c:bH) : Option bH:=gK (c,())
theorem B7 (c:bH) : xm c=Option.bind (yA c.bz) fun l=>Option.bind (yB c.cf) fun q=>some ⟨l,q⟩:=by kernel_rfl
theorem zR {c:bH} (h:SzC c) (hl:∀ x∈c.bz,x.size≤1000000) : xm c=some c:=by
 have h1:c.bz.length≤1000000:=Nat.le_trans h.labels (by decide)
 have h2:c.cf.length≤1000000:=Nat.le_trans h.queues (by decide)
 have hq:∀ q∈c.cf,xk q=some q:=fun q hq=>by
  rw [B6,tB (h.paths q hq),cb (Nat.le_trans (h.caps q hq) (by decide))]
  rfl
 rw [B7,zO,zP,cb h1,cb h2]
 simp only [zb]
 rw [rj (fun x hx=>tB (hl x hx)) h1]
 simp only [zb]
 rw [rj hq h2]
 rfl
noncomputable def tY (s:al) : Option ((Unit×Unit)×al):=fx (s,())
theorem B5 (s:al) : tY s=Option.bind (xm s.g7) fun c=>Option.bind (dI s.bS) fun r1=>Option.bind (tZ s.jM) fun r2=>Option.bind (dI s.d9) fun r3=>Option.bind (dI s.gu) fun r4=>Option.bind (dI s.am) fun r5=>some (((),()),⟨c,r1.2,r2.2,r3.2,r4.2,r5.2,s.iZ,s.qQ,s.Cd⟩):=by kernel_rfl
theorem iW {s:al} (h:kD s) : tY s=some (((),()),s):=by
 rw [B5,zR h.conf h.lab,cb h.nodes,xl h.apps h.app,cb h.conts,cb h.slots,cb h.plans]
 rfl
def BS {α : Type} (p : α→Bool) (l:List α) : Option Int:=Option.bind (aN (fun st:Int×Int=>if decide (st.2 < (l.length:Int))=true then Option.bind (bw l st.2) fun x=>if p x=true then some (.inr (.inr st.2)) else some (.inl (st.1,i64.wrap (st.2 + 1))) else some (.inr (.inl (st.1,st.2)))) aB ((0:Int),(0:Int))) fun o:(Int×Int)⊕Int=>match o with | .inl _=>some (-1) | .inr v=>some v
theorem yu {α : Type} (p : α→Bool) (l:List α) (hl:l.length≤1000000) : (∃ i,∃ h:i < l.length,BS p l=some (i:Int)∧p l[i] = true∧∀ j (hj:j < i),p l[j] = false)∨(BS p l=some (-1)∧∀ x∈l,p x=false):=by
 have hp:∃ r,aN (fun st:Int×Int=>if decide (st.2 < (l.length:Int))=true then Option.bind (bw l st.2) fun x=>if p x=true then some (.inr (.inr st.2)) else some (.inl (st.1,i64.wrap (st.2 + 1))) else some (.inr (.inl (st.1,st.2)))) aB ((0:Int),(0:Int))=some r∧((∃ i,∃ h:i < l.length,(r:(Int×Int)⊕Int) = .inr (i:Int)∧p l[i] = true∧∀ j (hj:j < i),p l[j] = false)∨((∃ q,r = .inl q)∧∀ x∈l,p x=false)):=by
  refine eG (fun st=>∃ k:Nat,st.2=(k:Int)∧k≤l.length∧∀ j (hj:j < l.length),j < k→p l[j] = false) (fun st=>l.length - st.2.toNat) _ (fun st ⟨k,h1,h2,h3⟩=>?_) aB _ ⟨0,rfl,Nat.zero_le _,fun j _ h=>by omega⟩ (by have:=dm hl; show l.length - (0:Int).toNat < aB; omega)
  simp only [h1]
  rcases Nat.lt_or_ge k l.length with hlt | hge
  ·have d1:decide ((k:Int) < (l.length:Int))=true:=by simpa using hlt
   rw [if_pos d1,bp (zq hlt)]
   simp only [zb]
   cases hpk:p l[k] with
   | true =>
    rw [if_pos rfl]
    exact .inr ⟨_,rfl,.inl ⟨k,hlt,rfl,hpk,fun j hj=>h3 j (by omega) hj⟩⟩
   | false =>
    rw [if_neg (by decide),bN hlt hl]
    refine .inl ⟨_,rfl,⟨k + 1,rfl,hlt,fun j hj hjk=>?_⟩,by simp only [zt]; omega⟩
    rcases Nat.lt_or_ge j k with h | h
    ·exact h3 j hj h
    ·obtain rfl:j=k:=by omega
     exact hpk
  ·have d1:decide ((k:Int) < (l.length:Int))=false:=by simp; omega
   rw [if_neg (by rw [d1]; decide)]
   refine .inr ⟨_,rfl,.inr ⟨⟨_,rfl⟩,fun x hx=>?_⟩⟩
   obtain ⟨j,hj,rfl⟩:=List.getElem_of_mem hx
   exact h3 j hj (by omega)
 obtain ⟨r,h1,h2⟩:=hp
 unfold BS
 rw [h1]
 rcases h2 with ⟨i,h,rfl,h3,h4⟩ | ⟨⟨q,rfl⟩,h3⟩
 ·exact .inl ⟨i,h,rfl,h3,h4⟩
 ·exact .inr ⟨rfl,h3⟩
theorem EN {α : Type} (l:List α) (z a : α) (k:Nat) (hk:k≤l.length) (hl:l.length≤900000) :
  (Option.bind (mkO z (i64.wrap ((l.length:Int) + 1))) fun xs=>Option.bind (hiO l (k:Int)) fun lo=>Option.bind (fI xs 0 xs.length lo) fun zs=>Option.bind (bw zs (k:Int)) fun _=>Option.bind (vwO (zs.set ((k:Int)).toNat a).length (i64.wrap ((k:Int) + 1)) ((zs.set ((k:Int)).toNat a).length:Int)) fun _=>Option.bind (loO l (k:Int)) fun hi=>Option.bind (fI (zs.set ((k:Int)).toNat a) (i64.wrap ((k:Int) + 1)).toNat (((zs.set ((k:Int)).toNat a).length:Int)).toNat hi) fun r=>some r)=some (l.take k++a::l.drop k):=by
 have h:=Fi (l.take k) (l.drop k) z a (by simp; omega)
 have e0:(l.take k).length=k:=by simp; omega
 have e1:(l.drop k).length=l.length - k:=by simp
 rw [e0,e1] at h
 have e2:i64.wrap (i64.wrap ((k:Int) + 1) + ((l.length - k:Nat) : Int))=i64.wrap ((l.length:Int) + 1):=by rw [IntKind.wrap_i64,IntKind.wrap_i64,IntKind.wrap_i64]; omega
 rw [e2] at h
 rw [BT hk,xd hk]
 exact h
theorem wU {α : Type} (key : α→Int) (l:List α) (a : α) (h:∀ x∈l,key x≠key a) : l.take (l.takeWhile fun x=>decide (key x < key a)).length++a::l.drop (l.takeWhile fun x=>decide (key x < key a)).length=ji key l a:=by
 unfold ji
 cases hq:l[(l.takeWhile fun x=>decide (key x < key a)).length]? with
 | none=>rfl
 | some x =>
  have d:(key x==key a)=false:=by
   have:=h x (List.mem_of_getElem? hq)
   simpa using this
  simp only [d,zf,if_false]
noncomputable def vj (l:List ac) (id:Int) : Option Int:=iu (l,(id,()))
noncomputable def Eb (l:List ac) (p:ac) : Option (List ac):=jC (l,(p,()))
noncomputable def p9 (l:List ac) (i:Int) : Option (List ac):=eL (l,(i,()))
noncomputable def w4 (s:al) (k:Int) : Option aF:=fp (s,(k,()))
noncomputable def AY (a b:aF) : Option aF:=gI (a,(b,()))
noncomputable def w5 (s:al) (p:ac) : Option Int:=ee (s,(p,()))
noncomputable def j7 (s:al) (p:ac) (n:Int) : Option (al×Int×Int):=jE (s,(p,(n,())))
noncomputable def qc (s:al) (id:Int) : Option (al×Int):=iw (s,(id,()))
theorem AX (a b:aF) : AY a b=some (ff a b):=by kernel_rfl
theorem C4 (l:List ac) (id:Int) : vj l id=Option.bind (BS (fun x:ac=>x.fId==id) l) fun r=>some r:=by kernel_rfl
theorem qa (l:List ac) (id:Int) (hl:l.length≤1000000) : (∃ i,∃ h:i < l.length,vj l id=some (i:Int)∧l[i].fId=id∧∀ j (hj:j < i),l[j].fId≠id)∨(vj l id=some (-1)∧∀ x∈l,x.fId≠id):=by
 rw [C4]
 rcases yu (fun x:ac=>x.fId==id) l hl with ⟨i,h,h1,h2,h3⟩ | ⟨h1,h2⟩
 ·rw [h1]
  exact .inl ⟨i,h,rfl,by simpa using h2,fun j hj=>by simpa using h3 j hj⟩
 ·rw [h1]
  exact .inr ⟨rfl,fun x hx=>by simpa using h2 x hx⟩
noncomputable def tN (l:List ac) (p:ac) (k:Int) : Option (List ac):=Option.bind (mkO (⟨0,0,0,0,⟨0,0⟩⟩ : ac) (i64.wrap ((l.length:Int) + 1))) fun xs=>Option.bind (hiO l k) fun lo=>Option.bind (fI xs 0 xs.length lo) fun zs=>Option.bind (bw zs k) fun _=>Option.bind (vwO (zs.set k.toNat p).length (i64.wrap (k + 1)) ((zs.set k.toNat p).length:Int)) fun _=>Option.bind (loO l k) fun hi=>Option.bind (fI (zs.set k.toNat p) (i64.wrap (k + 1)).toNat (((zs.set k.toNat p).length:Int)).toNat hi) fun r=>some r
theorem Ea (l:List ac) (p:ac) : Eb l p=Option.bind (BS (fun x:ac=>decide (x.fId > p.fId)) l) fun r=>if decide (r < 0)=true then tN l p (l.length:Int) else tN l p r:=by kernel_rfl
def oS (l:List ac) (p:ac) : List ac:=l.take (l.takeWhile fun x=>!decide (x.fId > p.fId)).length++p::l.drop (l.takeWhile fun x=>!decide (x.fId > p.fId)).length
theorem C3 (l:List ac) (p:ac) (hl:l.length≤900000) : Eb l p=some (oS l p):=by
 rw [Ea]
 unfold oS
 have hr:∀ k:Nat,k≤l.length→tN l p (k:Int)=some (l.take k++p::l.drop k):=fun k hk=>EN l _ p k hk hl
 rcases yu (fun x:ac=>decide (x.fId > p.fId)) l (by omega) with ⟨i,h,h1,h2,h3⟩ | ⟨h1,h2⟩
 ·rw [h1,mt _ l i h (fun j hj=>by simp only [h3 j hj,Bool.not_false]) (by simp only [h2,Bool.not_true])]
  simp only [zb]
  rw [if_neg (by simp),hr i (by omega)]
 ·rw [h1,lj _ l (fun x hx=>by simp only [h2 x hx,Bool.not_false])]
  simp only [zb]
  rw [if_pos (by decide),hr l.length (Nat.le_refl _)]
theorem wZ (l:List ac) (i:Int) : p9 l i=Option.bind (mkO (⟨0,0,0,0,⟨0,0⟩⟩ : ac) (i64.wrap ((l.length:Int) - 1))) fun xs=>Option.bind (hiO l i) fun lo=>Option.bind (fI xs 0 xs.length lo) fun zs=>Option.bind (vwO zs.length i (zs.length:Int)) fun _=>Option.bind (loO l (i64.wrap (i + 1))) fun hi=>Option.bind (fI zs i.toNat ((zs.length:Int)).toNat hi) fun r=>some r:=by kernel_rfl
theorem vi (l:List ac) (i:Nat) (h:i < l.length) (hl:l.length≤900000) : p9 l (i:Int)=some (l.take i++l.drop (i + 1)):=by
 rw [wZ]
 have e1:i64.wrap ((l.length:Int) - 1)=((l.length - 1:Nat) : Int):=by rw [IntKind.wrap_i64]; omega
 have e2:i64.wrap ((i:Int) + 1)=((i + 1:Nat) : Int):=by rw [IntKind.wrap_i64]; omega
 have e3:mkO (⟨0,0,0,0,⟨0,0⟩⟩ : ac) ((l.length - 1:Nat) : Int)=some (List.replicate (l.length - 1) ⟨0,0,0,0,⟨0,0⟩⟩):=by
  unfold mkO
  rw [if_pos ⟨by omega,by omega⟩,zt]
 rw [e1,e2,e3,BT (by omega),xd (by omega)]
 simp only [zb]
 have ti:(l.take i).length=i:=by rw [List.length_take]; omega
 have e4:fI (List.replicate (l.length - 1) (⟨0,0,0,0,⟨0,0⟩⟩ : ac)) 0 (List.replicate (l.length - 1) (⟨0,0,0,0,⟨0,0⟩⟩ : ac)).length (l.take i)=some (l.take i++List.replicate (l.length - 1 - i) ⟨0,0,0,0,⟨0,0⟩⟩):=by
  unfold fI
  rw [if_pos ⟨by omega,Nat.le_refl _⟩]
  unfold dx
  simp only [List.length_replicate,Nat.sub_zero,List.take_zero,List.nil_append,Nat.zero_add,List.drop_replicate]
  rw [List.take_of_length_le (show (l.take i).length≤l.length - 1 by omega),ti]
 rw [e4]
 simp only [zb]
 have e7:(l.take i++List.replicate (l.length - 1 - i) (⟨0,0,0,0,⟨0,0⟩⟩ : ac)).length=l.length - 1:=by rw [List.length_append,ti,List.length_replicate]; omega
 rw [e7]
 have e8:vwO (l.length - 1) (i:Int) ((l.length - 1:Nat) : Int)=some ():=by
  unfold vwO
  rw [if_pos ⟨by omega,by omega,by omega,by omega⟩]
 rw [e8]
 simp only [zb,zt]
 unfold fI
 rw [if_pos ⟨by omega,by rw [e7]; exact Nat.le_refl _⟩]
 unfold dx
 have dl:(l.drop (i + 1)).length=l.length - 1 - i:=by rw [List.length_drop]; omega
 have h3:(l.take i++List.replicate (l.length - 1 - i) (⟨0,0,0,0,⟨0,0⟩⟩ : ac)).drop (i + (l.drop (i + 1)).length) = []:=List.drop_of_length_le (by rw [e7,dl]; omega)
 have h4:(l.take i++List.replicate (l.length - 1 - i) (⟨0,0,0,0,⟨0,0⟩⟩ : ac)).take i=l.take i:=by
  rw [List.take_append,List.take_of_length_le (show (l.take i).length≤i by omega),ti,Nat.sub_self,List.take_zero,List.append_nil]
 rw [List.take_of_length_le (show (l.drop (i + 1)).length≤l.length - 1 - i by omega),h3,h4,List.append_nil]
 rfl
def mq (s:al) (k:Int) : aF:=s.bS.foldl (fun v n=>if (n.fUp&&n.av==k)=true then ff v n.la else v) ⟨0,0⟩
theorem Bp (s:al) (k:Int) : w4 s k=Option.bind (aN (fun st:Int×aF=>if decide (st.1 < (s.bS.length:Int))=true then Option.bind (bw s.bS st.1) fun x=>Option.bind (if x.fUp=true then some (x.av==k) else some false) fun q=>if q=true then Option.bind (AY st.2 x.la) fun r=>some (.inl (i64.wrap (st.1 + 1),r)) else some (.inl (i64.wrap (st.1 + 1),st.2)) else some (.inr (st.1,st.2))) aB ((0:Int),(⟨0,0⟩ : aF))) fun st:Int×aF=>some st.2:=by kernel_rfl
theorem sG (s:al) (k:Int) (hl:s.bS.length≤1000000) : w4 s k=some (mq s k):=by
 rw [Bp]
 have h:=eF s.bS (S:=Int×aF) (τ:=Int×aF) (f:=fun st:Int×aF=>if decide (st.1 < (s.bS.length:Int))=true then Option.bind (bw s.bS st.1) fun x=>Option.bind (if x.fUp=true then some (x.av==k) else some false) fun q=>if q=true then Option.bind (AY st.2 x.la) fun r=>some (.inl (i64.wrap (st.1 + 1),r)) else some (.inl (i64.wrap (st.1 + 1),st.2)) else some (.inr (st.1,st.2))) (fun a_ k_=>(k_,a_)) (fun v n=>some (.inl (if (n.fUp&&n.av==k)=true then ff v n.la else v))) (fun a_=>((s.bS.length:Int),a_)) (dm hl) (fun j a x hx=>by
  have hk:=(zg.1 hx).1
  simp only [dF hx,if_true,bp hx,zb,bN hk hl,wn,AX]
  cases (x.fUp&&x.av==k) <;> rfl) (fun a=>by simp only [da,zf,if_false]) (⟨0,0⟩ : aF)
 rw [show ((0:Int),(⟨0,0⟩ : aF))=(fun (a_:aF) (k_:Int)=>(k_,a_)) ⟨0,0⟩ 0 from rfl,h,ez]
 rfl
def jT (s:al) (p:ac) : Int:=if ((!gN p.fId 999 || !gN p.av (i64.wrap ((s.g7.bz.length:Int) - 1)))||(p.ap.aY==0&&p.ap.ar==0))=true then 1 else if (s.am.any fun x=>x.fId==p.fId)=true then 7 else if decide ((s.am.length:Int)≥12)=true then 4 else if decide (p.af < s.iZ)=true then 15 else 0
theorem Bs (s:al) (p:ac) : w5 s p=Option.bind (inP p.fId 999) fun r=>Option.bind (if (!r)=true then some true else Option.bind (inP p.av (i64.wrap ((s.g7.bz.length:Int) - 1))) fun r=>some (!r)) fun q=>Option.bind (if q=true then some true else some (p.ap.aY==0&&p.ap.ar==0)) fun q=>if q=true then some 1 else Option.bind (vj s.am p.fId) fun r=>if decide (r≥0)=true then some 7 else if decide ((s.am.length:Int)≥12)=true then some 4 else if decide (p.af < s.iZ)=true then some 15 else some 0:=by kernel_rfl
theorem nv (s:al) (p:ac) (hl:s.am.length≤1000000) : w5 s p=some (jT s p):=by
 rw [Bs]
 unfold jT
 simp only [BR,zb,orB]
 split
 ·rfl
 rcases qa s.am p.fId hl with ⟨i,h,h1,h2,_⟩ | ⟨h1,h2⟩
 ·rw [h1]
  simp only [zb]
  rw [if_pos (by simp),if_pos (List.any_eq_true.2 ⟨_,List.getElem_mem h,by rw [h2]; simp⟩)]
 ·rw [h1]
  simp only [zb]
  have h3:(s.am.any fun x=>x.fId==p.fId)=false:=by
   rw [List.any_eq_false]
   intro x hx
   have:=h2 x hx
   simpa using this
  rw [if_neg (show ¬ decide ((-1:Int)≥0)=true by decide),h3]
  simp only [zf,if_false]
  cases decide ((s.am.length:Int)≥12) with
  | true=>rfl
  | false=>cases decide (p.af < s.iZ) <;> rfl
theorem w6 (s:al) (p:ac) (n:Int) : j7 s p n=Option.bind (tY s) fun r=>Option.bind (w5 s p) fun e=>if (e != 0)=true then some (r.2,0,e) else Option.bind (w4 s p.av) fun v=>Option.bind (p5 s.am v p n) fun r3=>if (r3.2==0)=true then Option.bind (Eb s.am ⟨p.fId,p.av,r3.1,i64.wrap (r3.1 + n),p.ap⟩) fun l=>some ({ r.2 with am:=l },r3.1,r3.2) else some (r.2,r3.1,r3.2):=by kernel_rfl
theorem yh (s:al) (id:Int) : qc s id=Option.bind (tY s) fun r=>Option.bind (vj s.am id) fun i=>if decide (i < 0)=true then some (r.2,2) else Option.bind (p9 s.am i) fun l=>some ({ r.2 with am:=l },0):=by kernel_rfl
theorem mC {s:al} {p:ac} {n:Int} (h:kD s) (hc:jT s p≠0) : j7 s p n=some (s,0,jT s p):=by
 rw [w6,iW h,nv s p h.plans]
 simp only [zb]
 rw [if_pos (by simpa using hc)]
theorem Bt {s:al} {p:ac} {n e:Int} (h:kD s) (hl:s.am.length≤100000) (hc:jT s p=0) (hp:PlS s.am (mq s p.av) p n (0,e)) (he:e≠0) : j7 s p n=some (s,0,e):=by
 obtain ⟨r,r1,r2⟩:=nr s.am (mq s p.av) p n hl
 obtain rfl:=PlS.unique r2 hp
 rw [w6,iW h,nv s p h.plans,hc,sG s _ h.nodes]
 simp only [zb,r1]
 have d0:((0:Int) != 0)=false:=rfl
 rw [if_neg (by rw [d0]; decide),if_neg (by simpa using he)]
theorem pj {s:al} {p:ac} {n t:Int} (h:kD s) (hl:s.am.length≤100000) (hc:jT s p=0) (hp:PlS s.am (mq s p.av) p n (t,0)) : j7 s p n=some ({ s with am:=oS s.am ⟨p.fId,p.av,t,i64.wrap (t + n),p.ap⟩ },t,0):=by
 obtain ⟨r,r1,r2⟩:=nr s.am (mq s p.av) p n hl
 obtain rfl:=PlS.unique r2 hp
 rw [w6,iW h,nv s p h.plans,hc,sG s _ h.nodes]
 simp only [zb,r1]
 have d0:((0:Int) != 0)=false:=rfl
 rw [if_neg (by rw [d0]; decide),if_pos (show ((0:Int)==0)=true from rfl),C3 _ _ (by omega)]
 rfl
theorem Bq {s:al} {id:Int} {i:Nat} (h:kD s) (hl:s.am.length≤100000) (hi:i < s.am.length) (he:s.am[i].fId=id) (hj:∀ j (hj:j < i),s.am[j].fId≠id) : qc s id=some ({ s with am:=s.am.take i++s.am.drop (i + 1) },0):=by
 rw [yh,iW h]
 simp only [zb]
 rcases qa s.am id h.plans with ⟨k,hk,h1,h2,h3⟩ | ⟨h1,h2⟩
 ·have:k=i:=by
   rcases Nat.lt_trichotomy k i with q | q | q
   ·exact absurd h2 (hj k q)
   ·exact q
   ·exact absurd he (h3 i q)
  subst this
  rw [h1]
  simp only [zb]
  rw [if_neg (by simp),vi _ _ hk (by omega)]
  rfl
 ·exact absurd he (h2 _ (List.getElem_mem hi))
theorem Br {s:al} {id:Int} (h:kD s) (hn:∀ x∈s.am,x.fId≠id) : qc s id=some (s,2):=by
 rw [yh,iW h]
 simp only [zb]
 rcases qa s.am id h.plans with ⟨k,hk,h1,h2,h3⟩ | ⟨h1,h2⟩
 ·exact absurd h2 (hn _ (List.getElem_mem hk))
 ·rw [h1]
  rfl
def zB:bH:=⟨[⟨#[]⟩],[⟨⟨#[114,111,111,116]⟩,[⟨10000,10000⟩],10000⟩]⟩
def bg (c:aF) (pl:List ac) (t:Int) : al:=⟨zB,[⟨1,0,0,c,0,0,true⟩],[],[],[],pl,t,0,0⟩
theorem jl (c:aF) (pl:List ac) (t:Int) (h:pl.length≤1000000) : kD (bg c pl t):=⟨⟨(by show 1≤1000; decide),(by show 1≤1000; decide),fun q hq=>by
  have:q=⟨⟨#[114,111,111,116]⟩,[⟨10000,10000⟩],10000⟩:=by simpa [bg,zB] using hq
  rw [this]; simp,fun q hq=>by
  have:q=⟨⟨#[114,111,111,116]⟩,[⟨10000,10000⟩],10000⟩:=by simpa [bg,zB] using hq
  rw [this]; decide⟩,by show 1≤1000000; decide,by show 0≤1000000; decide,by show 0≤1000000; decide,by show 0≤1000000; decide,h,fun a ha=>(by cases ha),fun x hx=>by
  have:x=⟨#[]⟩:=by simpa [bg,zB] using hx
  rw [this]; decide⟩
theorem qf (m c:Int) (hm : 0≤m) (hm2:m≤1000) (hc : 0≤c) (hc2:c≤1000) (pl:List ac) (t:Int) : mq (bg ⟨m,c⟩ pl t) 0=⟨m,c⟩:=by
 show ff ⟨0,0⟩ ⟨m,c⟩ = _
 unfold ff
 simp only [Int.zero_add]
 rw [dU (by omega) (by omega),dU (by omega) (by omega)]
theorem qm:na=some (⟨zB,[],[],[],[],[],0,0,0⟩ : al):=rfl
theorem BN (s:al) (k:Int) (hl:s.am.length≤1000000) : m9 s k=some (atV s.am k s.iZ):=by
 unfold m9
 dsimp only
 rw [n7 s k _ hl,show cP s k=fun v o=>some (.inl (if fo o k s.iZ=true then ff v o.ap else v)) from by
  funext v o
  unfold cP
  simp only [R1_Plus_is,zb,wn]
  change (if fo o k s.iZ=true then _ else _) = _
  cases fo o k s.iZ <;> rfl,ez]
 rfl
theorem Dg (p:ac) (long at':Int) : fy (p,(long,(at',())))=Option.bind mN fun r=>if (!r)=true then some false else Option.bind na fun r=>Option.bind (xi p) fun r1=>Option.bind (cj long 20) fun r2=>Option.bind (j7 { r with bS:=[⟨1,0,0,⟨6,6⟩,0,0,true⟩] } ⟨r1.fId,0,r1.af,i64.wrap (r1.af + 30),r1.ap⟩ (i64.wrap (1 + r2))) fun r3=>if (r1.ap.aY==0&&r1.ap.ar==0)=true then Option.bind (if (r3.2.2==1)=true then Option.bind (gH { r with bS:=[⟨1,0,0,⟨6,6⟩,0,0,true⟩] } r3.1) fun r=>some r else some false) fun q=>some q else Option.bind (cj at' 70) fun t=>Option.bind (m9 { r3.1 with iZ:=t } 0) fun r4=>Option.bind (if (r3.2.2==0)=true then some (r3.2.1==r1.af) else some false) fun q=>Option.bind (if q=true then some ((r3.1.am.length:Int)==1) else some false) fun q=>Option.bind (if q=true then Option.bind (bw r3.1.am 0) fun x=>some (x.aD==i64.wrap (r3.2.1 + i64.wrap (1 + r2))) else some false) fun q=>Option.bind (if q=true then Option.bind (if decide (t≥r3.2.1)=true then some (decide (t < i64.wrap (r3.2.1 + i64.wrap (1 + r2)))) else some false) fun q=>some ((r4.aY==r1.ap.aY&&r4.ar==r1.ap.ar)==q) else some false) fun q=>Option.bind (if q=true then Option.bind (if (r4.aY==r1.ap.aY&&r4.ar==r1.ap.ar)=true then some true else some (r4.aY==0&&r4.ar==0)) fun q=>some q else some false) fun q=>some q:=by kernel_rfl
theorem yC {v:aF} {p:ac} {u:Int} (h1 : 0≤p.ap.aY∧p.ap.aY≤v.aY) (h2 : 0≤p.ap.ar∧p.ap.ar≤v.ar) (hv:v.aY≤1000∧v.ar≤1000) : frV [] v p u=true:=by
 unfold frV atV ff vI
 simp only [List.foldl_nil,Int.zero_add,Bool.and_eq_true,decide_eq_true_eq]
 rw [dU (by omega) (by omega),dU (by omega) (by omega)]
 exact ⟨h1.2,h2.2⟩
theorem rB {s:al} {p:ac} (h1 : 0≤p.fId∧p.fId≤999) (h2:p.av=0) (h3:s.g7.bz.length=1) (h4:(p.ap.aY==0&&p.ap.ar==0)=false) (h5:∀ x∈s.am,x.fId≠p.fId) (h6:s.am.length < 12) (h7:s.iZ≤p.af) : jT s p=0:=by
 unfold jT
 have e1:gN p.fId 999=true:=by unfold gN; simp only [Bool.and_eq_true,decide_eq_true_eq]; exact h1
 have e2:gN p.av (i64.wrap ((s.g7.bz.length:Int) - 1))=true:=by rw [h2,h3]; decide
 have e3:(s.am.any fun x=>x.fId==p.fId)=false:=by
  rw [List.any_eq_false]
  intro x hx
  have:=h5 x hx
  simpa using this
 have e4:decide ((s.am.length:Int)≥12)=false:=by simp; omega
 have e5:decide (p.af < s.iZ)=false:=by simp; omega
 rw [e1,e2,h4,e3,e4,e5]
 rfl
theorem PlanKeeps.plain (a0:ac) (_k0:ac.ok a0) (a1:Int) (_k1:wfI a1) (a2:Int) (_k2:wfI a2) : fy (a0,(a1,(a2,())))=some true:=by
 rw [Dg,lW,qm]
 obtain ⟨g,q1,gi1,gi2,gl1,gl2,gf1,gf2,gu1,gu2,gn1,gn2,gn3,gn4⟩:=zK a0
 obtain ⟨w,w1,w2,w3⟩:=bv (a:=a1) (n:=20) (by omega) (by omega)
 obtain ⟨y,y1,y2,y3⟩:=bv (a:=a2) (n:=70) (by omega) (by omega)
 have ew:i64.wrap (1 + w)=1 + w:=dU (by omega) (by omega)
 have eu:i64.wrap (g.af + 30)=g.af + 30:=dU (by omega) (by omega)
 have et:i64.wrap (g.af + (1 + w))=g.af + (1 + w):=dU (by omega) (by omega)
 simp only [zb,Bool.not_true,zf,if_false,q1,w1,ew,eu]
 obtain ⟨p,hp⟩ : ∃ p:ac,p=⟨g.fId,0,g.af,g.af + 30,g.ap⟩:=⟨_,rfl⟩
 have sh:=jl ⟨6,6⟩ [] 0 (by simp)
 change Option.bind (j7 (bg ⟨6,6⟩ [] 0) ⟨g.fId,0,g.af,g.af + 30,g.ap⟩ (1 + w)) _ = _
 rw [← hp]
 cases hz:(g.ap.aY==0&&g.ap.ar==0) with
 | true =>
  have hc:jT (bg ⟨6,6⟩ [] 0) p=1:=by
   unfold jT
   rw [if_pos (by rw [hp]; simp only []; rw [hz,Bool.or_true])]
  rw [mC sh (by rw [hc]; decide),hc]
  have b1:((1:Int)==1)=true:=rfl
  change Option.bind (if ((1:Int)==1)=true then Option.bind (gH (bg ⟨6,6⟩ [] 0) (bg ⟨6,6⟩ [] 0)) fun r=>some r else some false) (fun q=>some q) = _
  rw [AV _ sh]
  rfl
 | false =>
  have hc:jT (bg ⟨6,6⟩ [] 0) p=0:=rB (by rw [hp]; show 0≤g.fId∧g.fId≤999; omega) (by rw [hp]) rfl (by rw [hp]; exact hz) (fun x hx=>by cases hx) (by show 0 < 12; omega) (by rw [hp]; exact gf1)
  have hfr:∀ u,frV [] ⟨6,6⟩ p u=true:=fun u=>yC (by rw [hp]; show 0≤g.ap.aY∧g.ap.aY≤6; omega) (by rw [hp]; show 0≤g.ap.ar∧g.ap.ar≤6; omega) (by decide)
  have hpl:PlS (bg ⟨6,6⟩ [] 0).am (mq (bg ⟨6,6⟩ [] 0) p.av) p (1 + w) (g.af,0):=by
   rw [show p.av=0 by rw [hp],qf 6 6 (by decide) (by decide) (by decide) (by decide)]
   refine .inr ⟨?_,.inl ⟨g.af,rfl,⟨by rw [hp]; exact Int.le_refl _,by rw [hp]; show g.af + (1 + w)≤g.af + 30; omega,fun u _ _=>hfr u⟩,fun t ht=>by have:=ht.1; rw [hp] at this; exact this⟩⟩
   unfold gx gN
   rw [hp]
   simp only [Bool.and_eq_true,decide_eq_true_eq]
   omega
  rw [pj sh (by show 0≤100000; omega) hc hpl]
  have e9:({ bg ⟨6,6⟩ [] 0 with am:=oS (bg ⟨6,6⟩ [] 0).am ⟨p.fId,p.av,g.af,i64.wrap (g.af + (1 + w)),p.ap⟩ } : al)=bg ⟨6,6⟩ [⟨g.fId,0,g.af,g.af + (1 + w),g.ap⟩] 0:=by rw [et,hp]; rfl
  rw [e9]
  simp only [zb,zf,if_false,y1]
  change Option.bind (m9 (bg ⟨6,6⟩ [⟨g.fId,0,g.af,g.af + (1 + w),g.ap⟩] y) 0) _ = _
  rw [BN _ _ (by show 1≤1000000; omega)]
  have ha:atV (bg ⟨6,6⟩ [⟨g.fId,0,g.af,g.af + (1 + w),g.ap⟩] y).am 0 (bg ⟨6,6⟩ [⟨g.fId,0,g.af,g.af + (1 + w),g.ap⟩] y).iZ=if (decide (g.af≤y)&&decide (y < g.af + (1 + w)))=true then g.ap else ⟨0,0⟩:=by
   show (if fo ⟨g.fId,0,g.af,g.af + (1 + w),g.ap⟩ 0 y=true then ff ⟨0,0⟩ g.ap else ⟨0,0⟩) = _
   have:fo ⟨g.fId,0,g.af,g.af + (1 + w),g.ap⟩ 0 y=(decide (g.af≤y)&&decide (y < g.af + (1 + w))):=by
    unfold fo
    simp
   rw [this]
   have e0:ff ⟨0,0⟩ g.ap=g.ap:=by
    unfold ff
    simp only [Int.zero_add]
    rw [dU (by omega) (by omega),dU (by omega) (by omega)]
   rw [e0]
  rw [ha]
  have b0:((0:Int)==0)=true:=rfl
  have bf:(g.af==g.af)=true:=by simp
  have bl:((((bg ⟨6,6⟩ [⟨g.fId,0,g.af,g.af + (1 + w),g.ap⟩] 0).am.length:Nat) : Int)==1)=true:=rfl
  have bi:bw (bg ⟨6,6⟩ [⟨g.fId,0,g.af,g.af + (1 + w),g.ap⟩] 0).am 0=some ⟨g.fId,0,g.af,g.af + (1 + w),g.ap⟩:=rfl
  have bu:(g.af + (1 + w)==g.af + (1 + w))=true:=by simp
  have bm:∀ x:Int,(x==x)=true:=fun x=>by simp
  have hz':((0:Int)==g.ap.aY&&(0:Int)==g.ap.ar)=false:=by
   rw [← hz,BEq.comm (a:=(0:Int)),BEq.comm (a:=(0:Int)) (b:=g.ap.ar)]
  have dge:decide (y≥g.af)=decide (g.af≤y):=rfl
  simp only [zb,b0,bf,bl,bi,bu,et,if_true,wn,dge]
  cases decide (g.af≤y) <;> cases decide (y < g.af + (1 + w)) <;> simp only [Bool.and_self,Bool.and_false,Bool.false_and,Bool.and_true,zf,if_true,if_false,bm,hz'] <;> rfl
theorem Dq (id other long:Int) : fF (id,(other,(long,())))=Option.bind mN fun r=>if (!r)=true then some false else Option.bind (cj id 1000) fun r=>Option.bind (cj other 1000) fun r1=>Option.bind (cj long 50) fun r2=>Option.bind na fun r3=>Option.bind (j7 { r3 with bS:=[⟨1,0,0,⟨2,2⟩,0,0,true⟩] } ⟨r,0,0,100,⟨2,2⟩⟩ (i64.wrap (1 + r2))) fun r4=>Option.bind (j7 r4.1 ⟨r,0,0,100,⟨2,2⟩⟩ (i64.wrap (1 + r2))) fun r5=>Option.bind (j7 r4.1 ⟨(i64.wrap (r + 1)).tmod 1000,0,0,i64.wrap (1 + r2),⟨2,2⟩⟩ (i64.wrap (1 + r2))) fun r6=>Option.bind (qc r4.1 r) fun r7=>Option.bind (j7 r7.1 ⟨(i64.wrap (r + 1)).tmod 1000,0,0,i64.wrap (1 + r2),⟨2,2⟩⟩ (i64.wrap (1 + r2))) fun r8=>Option.bind (qc r4.1 r1) fun r9=>Option.bind (if (r4.2.2==0)=true then some (r4.2.1==0) else some false) fun q=>Option.bind (if q=true then some (r5.2.2==7) else some false) fun q=>Option.bind (if q=true then some (r6.2.2==16) else some false) fun q=>Option.bind (if q=true then some (r6.2.1==0) else some false) fun q=>Option.bind (if q=true then some (r7.2==0) else some false) fun q=>Option.bind (if q=true then Option.bind (gH r7.1 { r3 with bS:=[⟨1,0,0,⟨2,2⟩,0,0,true⟩] }) fun r=>some r else some false) fun q=>Option.bind (if q=true then some (r8.2.2==0) else some false) fun q=>Option.bind (if q=true then some (r8.2.1==0) else some false) fun q=>Option.bind (if q=true then some ((r9.2==0)==(r1==r)) else some false) fun q=>Option.bind (if q=true then Option.bind (if (r9.2==0)=true then some true else some (r9.2==2)) fun q=>some q else some false) fun q=>some q:=by kernel_rfl
theorem PlanDrops.plain (a0:Int) (_k0:wfI a0) (a1:Int) (_k1:wfI a1) (a2:Int) (_k2:wfI a2) : fF (a0,(a1,(a2,())))=some true:=by
 rw [Dq,lW,qm]
 obtain ⟨d,d1,d2,d3⟩:=bv (a:=a0) (n:=1000) (by omega) (by omega)
 obtain ⟨o,o1,o2,o3⟩:=bv (a:=a1) (n:=1000) (by omega) (by omega)
 obtain ⟨w,w1,w2,w3⟩:=bv (a:=a2) (n:=50) (by omega) (by omega)
 have ew:i64.wrap (1 + w)=1 + w:=dU (by omega) (by omega)
 obtain ⟨n,hn⟩ : ∃ n,n=1 + w:=⟨_,rfl⟩
 obtain ⟨x,hx⟩ : ∃ x,x=(i64.wrap (d + 1)).tmod 1000:=⟨_,rfl⟩
 have hxb : 0≤x∧x≤999∧x≠d:=by
  rw [hx,dU (by omega) (by omega),Int.tmod_eq_emod_of_nonneg (by omega)]
  omega
 simp only [zb,Bool.not_true,zf,if_false,d1,o1,w1,ew]
 rw [← hn,← hx]
 have sh:=jl ⟨2,2⟩ [] 0 (by simp)
 obtain ⟨P,hP⟩ : ∃ P:ac,P=⟨d,0,0,n,⟨2,2⟩⟩:=⟨_,rfl⟩
 have sh1:=jl ⟨2,2⟩ [P] 0 (by simp)
 have tot:∀ pl,mq (bg ⟨2,2⟩ pl 0) 0=⟨2,2⟩:=fun pl=>qf 2 2 (by decide) (by decide) (by decide) (by decide) pl 0
 have en:i64.wrap (0 + n)=n:=by rw [Int.zero_add]; exact dU (by omega) (by omega)
 have nz:(((2:Int)==0)&&((2:Int)==0))=false:=rfl
 have free:∀ (i b:Int) (u:Int),frV [] ⟨2,2⟩ ⟨i,0,0,b,⟨2,2⟩⟩ u=true:=fun i b u=>yC (show 0≤(2:Int)∧(2:Int)≤2 by decide) (show 0≤(2:Int)∧(2:Int)≤2 by decide) (by decide)
 have A1:j7 (bg ⟨2,2⟩ [] 0) ⟨d,0,0,100,⟨2,2⟩⟩ n=some (bg ⟨2,2⟩ [P] 0,0,0):=by
  rw [pj (t:=0) sh (by show 0≤100000; omega) (rB (by show 0≤d∧d≤999; omega) rfl rfl nz (fun y hy=>by cases hy) (by show 0 < 12; omega) (Int.le_refl _)) (by
   rw [show mq (bg ⟨2,2⟩ [] 0) (ac.av ⟨d,0,0,100,⟨2,2⟩⟩)=⟨2,2⟩ from tot []]
   refine .inr ⟨?_,.inl ⟨0,rfl,⟨Int.le_refl _,by show 0 + n≤100; omega,fun u _ _=>free d 100 u⟩,fun t ht=>ht.1⟩⟩
   unfold gx gN
   simp only [Bool.and_eq_true,decide_eq_true_eq]
   omega)]
  rw [en,hP]
  rfl
 have A2:j7 (bg ⟨2,2⟩ [P] 0) ⟨d,0,0,100,⟨2,2⟩⟩ n=some (bg ⟨2,2⟩ [P] 0,0,7):=by
  have hc:jT (bg ⟨2,2⟩ [P] 0) ⟨d,0,0,100,⟨2,2⟩⟩=7:=by
   unfold jT
   have e1:gN d 999=true:=by unfold gN; simp only [Bool.and_eq_true,decide_eq_true_eq]; omega
   have e2:((bg ⟨2,2⟩ [P] 0).am.any fun x=>x.fId==d)=true:=by rw [hP]; simp [bg]
   simp only [e1,e2]
   rfl
  rw [mC sh1 (by rw [hc]; decide),hc]
 have full:∀ u,0≤u→u < n→frV [P] ⟨2,2⟩ ⟨x,0,0,n,⟨2,2⟩⟩ u=false:=fun u u1 u2=>by
  unfold frV
  have:atV [P] 0 u=⟨2,2⟩:=by
   show (if fo P 0 u=true then ff ⟨0,0⟩ P.ap else ⟨0,0⟩) = _
   have:fo P 0 u=true:=by rw [hP]; unfold fo; simp only [BEq.rfl,Bool.true_and,Bool.and_eq_true,decide_eq_true_eq]; exact ⟨u1,u2⟩
   rw [if_pos this,hP]
   rfl
  show vI (ff (atV [P] 0 u) ⟨2,2⟩) ⟨2,2⟩=false
  rw [this]
  rfl
 have A3:j7 (bg ⟨2,2⟩ [P] 0) ⟨x,0,0,n,⟨2,2⟩⟩ n=some (bg ⟨2,2⟩ [P] 0,0,16):=by
  refine Bt (e:=16) sh1 (by show 1≤100000; omega) (rB (by show 0≤x∧x≤999; omega) rfl rfl nz (fun y hy=>by
   have:y=P:=by simpa [bg] using hy
   rw [this,hP]
   exact fun e=>hxb.2.2 e.symm) (by show 1 < 12; omega) (Int.le_refl _)) ?_ (by decide)
  rw [show mq (bg ⟨2,2⟩ [P] 0) (ac.av ⟨x,0,0,n,⟨2,2⟩⟩)=⟨2,2⟩ from tot [P]]
  refine .inr ⟨?_,.inr ⟨rfl,fun t ht=>?_⟩⟩
  ·unfold gx gN
   simp only [Bool.and_eq_true,decide_eq_true_eq]
   omega
  ·have h1 : 0≤t:=ht.1
   have h2:t + n≤n:=ht.2.1
   have:=ht.2.2 t (Int.le_refl _) (by omega)
   rw [show (bg ⟨2,2⟩ [P] 0).am = [P] from rfl,full t h1 (by omega)] at this
   cases this
 have A4:qc (bg ⟨2,2⟩ [P] 0) d=some (bg ⟨2,2⟩ [] 0,0):=by
  rw [Bq (i:=0) sh1 (by show 1≤100000; omega) (by show 0 < 1; omega) (by show P.fId=d; rw [hP]) (fun j hj=>by omega)]
  rfl
 have A5:j7 (bg ⟨2,2⟩ [] 0) ⟨x,0,0,n,⟨2,2⟩⟩ n=some (bg ⟨2,2⟩ [⟨x,0,0,n,⟨2,2⟩⟩] 0,0,0):=by
  rw [pj (t:=0) sh (by show 0≤100000; omega) (rB (by show 0≤x∧x≤999; omega) rfl rfl nz (fun y hy=>by cases hy) (by show 0 < 12; omega) (Int.le_refl _)) (by
   rw [show mq (bg ⟨2,2⟩ [] 0) (ac.av ⟨x,0,0,n,⟨2,2⟩⟩)=⟨2,2⟩ from tot []]
   refine .inr ⟨?_,.inl ⟨0,rfl,⟨Int.le_refl _,by show 0 + n≤n; omega,fun u _ _=>free x n u⟩,fun t ht=>ht.1⟩⟩
   unfold gx gN
   simp only [Bool.and_eq_true,decide_eq_true_eq]
   omega)]
  rw [en]
  rfl
 have A6:∃ s' e,qc (bg ⟨2,2⟩ [P] 0) o=some (s',e)∧((e=0∧o=d)∨(e=2∧o≠d)):=by
  by_cases h:o=d
  ·exact ⟨_,_,by rw [h]; exact A4,.inl ⟨rfl,h⟩⟩
  ·exact ⟨_,_,Br sh1 (fun y hy=>by
    have:y=P:=by simpa [bg] using hy
    rw [this,hP]
    exact fun e=>h e.symm),.inr ⟨rfl,h⟩⟩
 obtain ⟨s',e,A6,he⟩:=A6
 change Option.bind (j7 (bg ⟨2,2⟩ [] 0) ⟨d,0,0,100,⟨2,2⟩⟩ n) _ = _
 rw [A1]
 simp only [zb]
 rw [A2,A3,A4]
 simp only [zb]
 rw [A5,A6]
 simp only [zb]
 change Option.bind (if ((0:Int)==0)=true then some ((0:Int)==0) else some false) _ = _
 have b0:((0:Int)==0)=true:=rfl
 have b7:((7:Int)==7)=true:=rfl
 have b16:((16:Int)==16)=true:=rfl
 have hs:gH (bg ⟨2,2⟩ [] 0) { (⟨zB,[],[],[],[],[],0,0,0⟩ : al) with bS:=[⟨1,0,0,⟨2,2⟩,0,0,true⟩] } = some true:=AV _ sh
 simp only [b0,b7,b16,if_true,zb,hs]
 rcases he with ⟨rfl,rfl⟩ | ⟨rfl,h⟩
 ·simp
 ·have:(o==d)=false:=by simpa using h
  simp [this]
section
set_option maxHeartbeats 0
theorem jb:∀ (w r:List Char),(∀ c∈w,c≠(Char.ofNat 32))→wordsSigns (w++(Char.ofNat 32)::r)=w::wordsSigns r
 | [],r,_=>by simp [wordsSigns]
 | c::w,r,h=>by
  have h1:c≠(Char.ofNat 32):=h c (List.mem_cons_self ..)
  have h2:=jb w r (fun d hd=>h d (List.mem_cons_of_mem _ hd))
  rw [List.cons_append,wordsSigns.eq_3 _ _ (fun e=>h1 e),h2]
theorem rq (R:List (List Char)) : stripLifts liftWords ([(Char.ofNat 99),(Char.ofNat 117),(Char.ofNat 116)] :: R)=([],[(Char.ofNat 99),(Char.ofNat 117),(Char.ofNat 116)] :: R):=by kernel_rfl
theorem BH (P:Program) {R:List (List Char)} (h:behindMainWord (wordsSigns P.initOrder.toList) = [(Char.ofNat 99),(Char.ofNat 117),(Char.ofNat 116)] :: R) : P.make=some .cut:=by
 unfold Program.make
 rw [h]
 rfl
theorem BV (P:Program) {R:List (List Char)} (h:behindMainWord (wordsSigns P.initOrder.toList) = [(Char.ofNat 99),(Char.ofNat 117),(Char.ofNat 116)] :: R) : P.headLifts = []:=by
 unfold Program.headLifts
 rw [h,rq]
 rfl
theorem zE (P:Program) {R:List (List Char)} (h:behindMainWord (wordsSigns P.initOrder.toList) = [(Char.ofNat 99),(Char.ofNat 117),(Char.ofNat 116)] :: R) : P.liftsFinal=false:=by
 unfold Program.liftsFinal
 rw [h,BV P h]
 rfl
theorem zV (P:Program) {R:List (List Char)} (h:behindMainWord (wordsSigns P.initOrder.toList) = [(Char.ofNat 99),(Char.ofNat 117),(Char.ofNat 116)] :: R) (h1:P.laysLater=false) (h2:P.bearsReflect=false) (h3:P.doorFits [] = true) : P.mayEnter=true:=by
 unfold Program.mayEnter
 rw [h]
 dsimp only
 rw [rq,h1,h2]
 dsimp only
 rw [h3]
 rfl
theorem Dr (P:Program) (h:P.doorRows = []) : P.doorFits [] = true:=by
 unfold Program.doorFits
 rw [h]
 rfl
theorem io:prog.initOrder=(String.ofList [Char.ofNat 104,Char.ofNat 97,Char.ofNat 114,Char.ofNat 110,Char.ofNat 101,Char.ofNat 115,Char.ofNat 115,Char.ofNat 32,Char.ofNat 56,Char.ofNat 102,Char.ofNat 56,Char.ofNat 97,Char.ofNat 54,Char.ofNat 54,Char.ofNat 52,Char.ofNat 99,Char.ofNat 99,Char.ofNat 57,Char.ofNat 57,Char.ofNat 98,Char.ofNat 97,Char.ofNat 54,Char.ofNat 102,Char.ofNat 97,Char.ofNat 48,Char.ofNat 53,Char.ofNat 101,Char.ofNat 53,Char.ofNat 56,Char.ofNat 97,Char.ofNat 97,Char.ofNat 48,Char.ofNat 56,Char.ofNat 54,Char.ofNat 99,Char.ofNat 49,Char.ofNat 55,Char.ofNat 98,Char.ofNat 97,Char.ofNat 52,Char.ofNat 101,Char.ofNat 53,Char.ofNat 51,Char.ofNat 48,Char.ofNat 100,Char.ofNat 51,Char.ofNat 50,Char.ofNat 102,Char.ofNat 49,Char.ofNat 99,Char.ofNat 57,Char.ofNat 55,Char.ofNat 48,Char.ofNat 51,Char.ofNat 50,Char.ofNat 54,Char.ofNat 102,Char.ofNat 51,Char.ofNat 99,Char.ofNat 49,Char.ofNat 54,Char.ofNat 54,Char.ofNat 98,Char.ofNat 51,Char.ofNat 98,Char.ofNat 99,Char.ofNat 48,Char.ofNat 97,Char.ofNat 99,Char.ofNat 55,Char.ofNat 56,Char.ofNat 52,Char.ofNat 32,Char.ofNat 99,Char.ofNat 117,Char.ofNat 116,Char.ofNat 32,Char.ofNat 97,Char.ofNat 116,Char.ofNat 32,Char.ofNat 100,Char.ofNat 105,Char.ofNat 115,Char.ofNat 112,Char.ofNat 97,Char.ofNat 116,Char.ofNat 99,Char.ofNat 104,Char.ofNat 47,Char.ofNat 100,Char.ofNat 105,Char.ofNat 115,Char.ofNat 112,Char.ofNat 97,Char.ofNat 116,Char.ofNat 99,Char.ofNat 104,Char.ofNat 108,Char.ofNat 97,Char.ofNat 119,Char.ofNat 49,Char.ofNat 53,Char.ofNat 46,Char.ofNat 80,Char.ofNat 108,Char.ofNat 97,Char.ofNat 110,Char.ofNat 80,Char.ofNat 108,Char.ofNat 97,Char.ofNat 99,Char.ofNat 101,Char.ofNat 115,Char.ofNat 32,Char.ofNat 100,Char.ofNat 105,Char.ofNat 115,Char.ofNat 112,Char.ofNat 97,Char.ofNat 116,Char.ofNat 99,Char.ofNat 104,Char.ofNat 47,Char.ofNat 100,Char.ofNat 105,Char.ofNat 115,Char.ofNat 112,Char.ofNat 97,Char.ofNat 116,Char.ofNat 99,Char.ofNat 104,Char.ofNat 108,Char.ofNat 97,Char.ofNat 119,Char.ofNat 49,Char.ofNat 53,Char.ofNat 46,Char.ofNat 80,Char.ofNat 108,Char.ofNat 97,Char.ofNat 110,Char.ofNat 70,Char.ofNat 105,Char.ofNat 116,Char.ofNat 115,Char.ofNat 32,Char.ofNat 100,Char.ofNat 105,Char.ofNat 115,Char.ofNat 112,Char.ofNat 97,Char.ofNat 116,Char.ofNat 99,Char.ofNat 104,Char.ofNat 47,Char.ofNat 100,Char.ofNat 105,Char.ofNat 115,Char.ofNat 112,Char.ofNat 97,Char.ofNat 116,Char.ofNat 99,Char.ofNat 104,Char.ofNat 108,Char.ofNat 97,Char.ofNat 119,Char.ofNat 49,Char.ofNat 53,Char.ofNat 46,Char.ofNat 80,Char.ofNat 108,Char.ofNat 97,Char.ofNat 110,Char.ofNat 71,Char.ofNat 97,Char.ofNat 112,Char.ofNat 115,Char.ofNat 32,Char.ofNat 100,Char.ofNat 105,Char.ofNat 115,Char.ofNat 112,Char.ofNat 97,Char.ofNat 116,Char.ofNat 99,Char.ofNat 104,Char.ofNat 47,Char.ofNat 100,Char.ofNat 105,Char.ofNat 115,Char.ofNat 112,Char.ofNat 97,Char.ofNat 116,Char.ofNat 99,Char.ofNat 104,Char.ofNat 108,Char.ofNat 97,Char.ofNat 119,Char.ofNat 49,Char.ofNat 53,Char.ofNat 46,Char.ofNat 80,Char.ofNat 108,Char.ofNat 97,Char.ofNat 110,Char.ofNat 75,Char.ofNat 101,Char.ofNat 101,Char.ofNat 112,Char.ofNat 115,Char.ofNat 32,Char.ofNat 100,Char.ofNat 105,Char.ofNat 115,Char.ofNat 112,Char.ofNat 97,Char.ofNat 116,Char.ofNat 99,Char.ofNat 104,Char.ofNat 47,Char.ofNat 100,Char.ofNat 105,Char.ofNat 115,Char.ofNat 112,Char.ofNat 97,Char.ofNat 116,Char.ofNat 99,Char.ofNat 104,Char.ofNat 108,Char.ofNat 97,Char.ofNat 119,Char.ofNat 49,Char.ofNat 53,Char.ofNat 46,Char.ofNat 80,Char.ofNat 108,Char.ofNat 97,Char.ofNat 110,Char.ofNat 68,Char.ofNat 114,Char.ofNat 111,Char.ofNat 112,Char.ofNat 115,Char.ofNat 32,Char.ofNat 100,Char.ofNat 105,Char.ofNat 115,Char.ofNat 112,Char.ofNat 97,Char.ofNat 116,Char.ofNat 99,Char.ofNat 104,Char.ofNat 47,Char.ofNat 100,Char.ofNat 105,Char.ofNat 115,Char.ofNat 112,Char.ofNat 97,Char.ofNat 116,Char.ofNat 99,Char.ofNat 104,Char.ofNat 108,Char.ofNat 97,Char.ofNat 119,Char.ofNat 49,Char.ofNat 53,Char.ofNat 46,Char.ofNat 80,Char.ofNat 108,Char.ofNat 97,Char.ofNat 110,Char.ofNat 77,Char.ofNat 97,Char.ofNat 110,Char.ofNat 121]):=by kernel_rfl
theorem ioL:prog.initOrder.toList = [(Char.ofNat 104),(Char.ofNat 97),(Char.ofNat 114),(Char.ofNat 110),(Char.ofNat 101),(Char.ofNat 115),(Char.ofNat 115)] ++ (Char.ofNat 32)::([(Char.ofNat 56),(Char.ofNat 102),(Char.ofNat 56),(Char.ofNat 97),(Char.ofNat 54),(Char.ofNat 54),(Char.ofNat 52),(Char.ofNat 99),(Char.ofNat 99),(Char.ofNat 57),(Char.ofNat 57),(Char.ofNat 98),(Char.ofNat 97),(Char.ofNat 54),(Char.ofNat 102),(Char.ofNat 97),(Char.ofNat 48),(Char.ofNat 53),(Char.ofNat 101),(Char.ofNat 53),(Char.ofNat 56),(Char.ofNat 97),(Char.ofNat 97),(Char.ofNat 48),(Char.ofNat 56),(Char.ofNat 54),(Char.ofNat 99),(Char.ofNat 49),(Char.ofNat 55),(Char.ofNat 98),(Char.ofNat 97),(Char.ofNat 52),(Char.ofNat 101),(Char.ofNat 53),(Char.ofNat 51),(Char.ofNat 48),(Char.ofNat 100),(Char.ofNat 51),(Char.ofNat 50),(Char.ofNat 102),(Char.ofNat 49),(Char.ofNat 99),(Char.ofNat 57),(Char.ofNat 55),(Char.ofNat 48),(Char.ofNat 51),(Char.ofNat 50),(Char.ofNat 54),(Char.ofNat 102),(Char.ofNat 51),(Char.ofNat 99),(Char.ofNat 49),(Char.ofNat 54),(Char.ofNat 54),(Char.ofNat 98),(Char.ofNat 51),(Char.ofNat 98),(Char.ofNat 99),(Char.ofNat 48),(Char.ofNat 97),(Char.ofNat 99),(Char.ofNat 55),(Char.ofNat 56),(Char.ofNat 52)] ++ (Char.ofNat 32)::([(Char.ofNat 99),(Char.ofNat 117),(Char.ofNat 116)] ++ (Char.ofNat 32) :: [(Char.ofNat 97),(Char.ofNat 116),(Char.ofNat 32),(Char.ofNat 100),(Char.ofNat 105),(Char.ofNat 115),(Char.ofNat 112),(Char.ofNat 97),(Char.ofNat 116),(Char.ofNat 99),(Char.ofNat 104),(Char.ofNat 47),(Char.ofNat 100),(Char.ofNat 105),(Char.ofNat 115),(Char.ofNat 112),(Char.ofNat 97),(Char.ofNat 116),(Char.ofNat 99),(Char.ofNat 104),(Char.ofNat 108),(Char.ofNat 97),(Char.ofNat 119),(Char.ofNat 49),(Char.ofNat 53),(Char.ofNat 46),(Char.ofNat 80),(Char.ofNat 108),(Char.ofNat 97),(Char.ofNat 110),(Char.ofNat 80),(Char.ofNat 108),(Char.ofNat 97),(Char.ofNat 99),(Char.ofNat 101),(Char.ofNat 115),(Char.ofNat 32),(Char.ofNat 100),(Char.ofNat 105),(Char.ofNat 115),(Char.ofNat 112),(Char.ofNat 97),(Char.ofNat 116),(Char.ofNat 99),(Char.ofNat 104),(Char.ofNat 47),(Char.ofNat 100),(Char.ofNat 105),(Char.ofNat 115),(Char.ofNat 112),(Char.ofNat 97),(Char.ofNat 116),(Char.ofNat 99),(Char.ofNat 104),(Char.ofNat 108),(Char.ofNat 97),(Char.ofNat 119),(Char.ofNat 49),(Char.ofNat 53),(Char.ofNat 46),(Char.ofNat 80),(Char.ofNat 108),(Char.ofNat 97),(Char.ofNat 110),(Char.ofNat 70),(Char.ofNat 105),(Char.ofNat 116),(Char.ofNat 115),(Char.ofNat 32),(Char.ofNat 100),(Char.ofNat 105),(Char.ofNat 115),(Char.ofNat 112),(Char.ofNat 97),(Char.ofNat 116),(Char.ofNat 99),(Char.ofNat 104),(Char.ofNat 47),(Char.ofNat 100),(Char.ofNat 105),(Char.ofNat 115),(Char.ofNat 112),(Char.ofNat 97),(Char.ofNat 116),(Char.ofNat 99),(Char.ofNat 104),(Char.ofNat 108),(Char.ofNat 97),(Char.ofNat 119),(Char.ofNat 49),(Char.ofNat 53),(Char.ofNat 46),(Char.ofNat 80),(Char.ofNat 108),(Char.ofNat 97),(Char.ofNat 110),(Char.ofNat 71),(Char.ofNat 97),(Char.ofNat 112),(Char.ofNat 115),(Char.ofNat 32),(Char.ofNat 100),(Char.ofNat 105),(Char.ofNat 115),(Char.ofNat 112),(Char.ofNat 97),(Char.ofNat 116),(Char.ofNat 99),(Char.ofNat 104),(Char.ofNat 47),(Char.ofNat 100),(Char.ofNat 105),(Char.ofNat 115),(Char.ofNat 112),(Char.ofNat 97),(Char.ofNat 116),(Char.ofNat 99),(Char.ofNat 104),(Char.ofNat 108),(Char.ofNat 97),(Char.ofNat 119),(Char.ofNat 49),(Char.ofNat 53),(Char.ofNat 46),(Char.ofNat 80),(Char.ofNat 108),(Char.ofNat 97),(Char.ofNat 110),(Char.ofNat 75),(Char.ofNat 101),(Char.ofNat 101),(Char.ofNat 112),(Char.ofNat 115),(Char.ofNat 32),(Char.ofNat 100),(Char.ofNat 105),(Char.ofNat 115),(Char.ofNat 112),(Char.ofNat 97),(Char.ofNat 116),(Char.ofNat 99),(Char.ofNat 104),(Char.ofNat 47),(Char.ofNat 100),(Char.ofNat 105),(Char.ofNat 115),(Char.ofNat 112),(Char.ofNat 97),(Char.ofNat 116),(Char.ofNat 99),(Char.ofNat 104),(Char.ofNat 108),(Char.ofNat 97),(Char.ofNat 119),(Char.ofNat 49),(Char.ofNat 53),(Char.ofNat 46),(Char.ofNat 80),(Char.ofNat 108),(Char.ofNat 97),(Char.ofNat 110),(Char.ofNat 68),(Char.ofNat 114),(Char.ofNat 111),(Char.ofNat 112),(Char.ofNat 115),(Char.ofNat 32),(Char.ofNat 100),(Char.ofNat 105),(Char.ofNat 115),(Char.ofNat 112),(Char.ofNat 97),(Char.ofNat 116),(Char.ofNat 99),(Char.ofNat 104),(Char.ofNat 47),(Char.ofNat 100),(Char.ofNat 105),(Char.ofNat 115),(Char.ofNat 112),(Char.ofNat 97),(Char.ofNat 116),(Char.ofNat 99),(Char.ofNat 104),(Char.ofNat 108),(Char.ofNat 97),(Char.ofNat 119),(Char.ofNat 49),(Char.ofNat 53),(Char.ofNat 46),(Char.ofNat 80),(Char.ofNat 108),(Char.ofNat 97),(Char.ofNat 110),(Char.ofNat 77),(Char.ofNat 97),(Char.ofNat 110),(Char.ofNat 121)])):=by rw [io]; exact String.toList_ofList
theorem ioW:∃ R,wordsSigns prog.initOrder.toList = [(Char.ofNat 104),(Char.ofNat 97),(Char.ofNat 114),(Char.ofNat 110),(Char.ofNat 101),(Char.ofNat 115),(Char.ofNat 115)] :: [(Char.ofNat 56),(Char.ofNat 102),(Char.ofNat 56),(Char.ofNat 97),(Char.ofNat 54),(Char.ofNat 54),(Char.ofNat 52),(Char.ofNat 99),(Char.ofNat 99),(Char.ofNat 57),(Char.ofNat 57),(Char.ofNat 98),(Char.ofNat 97),(Char.ofNat 54),(Char.ofNat 102),(Char.ofNat 97),(Char.ofNat 48),(Char.ofNat 53),(Char.ofNat 101),(Char.ofNat 53),(Char.ofNat 56),(Char.ofNat 97),(Char.ofNat 97),(Char.ofNat 48),(Char.ofNat 56),(Char.ofNat 54),(Char.ofNat 99),(Char.ofNat 49),(Char.ofNat 55),(Char.ofNat 98),(Char.ofNat 97),(Char.ofNat 52),(Char.ofNat 101),(Char.ofNat 53),(Char.ofNat 51),(Char.ofNat 48),(Char.ofNat 100),(Char.ofNat 51),(Char.ofNat 50),(Char.ofNat 102),(Char.ofNat 49),(Char.ofNat 99),(Char.ofNat 57),(Char.ofNat 55),(Char.ofNat 48),(Char.ofNat 51),(Char.ofNat 50),(Char.ofNat 54),(Char.ofNat 102),(Char.ofNat 51),(Char.ofNat 99),(Char.ofNat 49),(Char.ofNat 54),(Char.ofNat 54),(Char.ofNat 98),(Char.ofNat 51),(Char.ofNat 98),(Char.ofNat 99),(Char.ofNat 48),(Char.ofNat 97),(Char.ofNat 99),(Char.ofNat 55),(Char.ofNat 56),(Char.ofNat 52)] :: [(Char.ofNat 99),(Char.ofNat 117),(Char.ofNat 116)] :: R:=by
 rw [ioL,jb _ _ (by decide),jb _ _ (by decide),jb _ _ (by decide)]
 exact ⟨_,rfl⟩
theorem ioB:∃ R,behindMainWord (wordsSigns prog.initOrder.toList) = [(Char.ofNat 99),(Char.ofNat 117),(Char.ofNat 116)] :: R:=by
 obtain ⟨R,h⟩:=ioW
 rw [h]
 exact ⟨R,by kernel_rfl⟩
theorem EL:prog.laysLater=false:=by kernel_rfl
theorem E3:prog.bearsReflect=false:=by kernel_rfl
theorem EY:prog.doorRows = []:=by kernel_rfl
theorem xp:prog.mayEnter=true:=by
 obtain ⟨R,h⟩:=ioB
 exact zV _ h EL E3 (Dr _ EY)
theorem BL:prog.liftsFinal=false:=by
 obtain ⟨R,h⟩:=ioB
 exact zE _ h
theorem BG:prog.make=some .cut:=by
 obtain ⟨R,h⟩:=ioB
 exact BH _ h
end
noncomputable def isF (pl:List ac) (r:Int) (s1:Bool×Int) : Option ((Bool×Int)⊕(Bool×Int)):=if decide (s1.2 < (pl.length:Int))=true then Option.bind (if s1.1=true then some true else Option.bind (bw pl s1.2) fun x=>some (x.fId==r)) fun q=>some (.inl (q,i64.wrap (s1.2 + 1))) else some (.inr (s1.1,s1.2))
noncomputable def mnF (ids:List Int) (st:Bool×Int×al) : Option ((Bool×Int×al)⊕((Bool×Int×al)⊕Bool)):=Option.bind (if decide (st.2.1 < (ids.length:Int))=true then some (decide (st.2.1 < 30)) else some false) fun q=>if q=true then Option.bind (bw ids st.2.1) fun x=>Option.bind (cj x 25) fun r=>Option.bind (aN (isF st.2.2.am r) aB (false,(0:Int))) fun s1=>Option.bind (j7 st.2.2 ⟨r,0,0,50,⟨1,0⟩⟩ 5) fun a=>if s1.1=true then (if (a.2.2 != 7)=true then some (.inr (.inr false)) else some (.inl (st.1,i64.wrap (st.2.1 + 1),a.1))) else if decide ((st.2.2.am.length:Int)≥12)=true then (if (a.2.2 != 4)=true then some (.inr (.inr false)) else some (.inl (st.1,i64.wrap (st.2.1 + 1),a.1))) else (if (a.2.2 != 0)=true then some (.inr (.inr false)) else some (.inl (st.1,i64.wrap (st.2.1 + 1),a.1))) else some (.inr (.inl (st.1,st.2.1,st.2.2)))
noncomputable def srF (pl:List ac) (st:Bool×Int) : Option ((Bool×Int)⊕((Bool×Int)⊕Bool)):=if decide (st.2 < (pl.length:Int))=true then Option.bind (bw pl (i64.wrap (st.2 - 1))) fun x=>Option.bind (bw pl st.2) fun x1=>if decide (x.fId≥x1.fId)=true then some (.inr (.inr false)) else some (.inl (st.1,i64.wrap (st.2 + 1))) else some (.inr (.inl (st.1,st.2)))
theorem Ei (ids:List Int) : gL (ids,())=Option.bind mN fun r=>if (!r)=true then some false else Option.bind na fun r=>Option.bind (aN (mnF ids) aB (false,(0:Int),{ r with bS:=[⟨1,0,0,⟨50,50⟩,0,0,true⟩] })) fun o=>match o with | .inl val=>Option.bind (aN (srF val.2.2.am) aB (val.1,(1:Int))) fun o=>(match o with | .inl _=>some (decide ((val.2.2.am.length:Int)≤12)) | .inr v=>some v) | .inr v=>some v:=by kernel_rfl
theorem yF {α : Type} (p : α→Bool) : ∀ (l:List α) (b:Bool),l.foldl (fun b x=>if b=true then true else p x) b=(b||l.any p)
 | [],b=>by simp
 | x::l,b=>by
  rw [List.foldl_cons,yF p l,List.any_cons]
  cases b <;> simp
theorem Em (pl:List ac) (r:Int) (hl:pl.length≤1000000) : aN (isF pl r) aB (false,(0:Int))=some (pl.any fun x=>x.fId==r,(pl.length:Int)):=by
 have h:=eF pl (S:=Bool×Int) (τ:=Bool×Int) (f:=isF pl r) (fun a_ k_=>(a_,k_)) (fun b x=>some (.inl (if b=true then true else x.fId==r))) (fun a_=>(a_,(pl.length:Int))) (dm hl) (fun j a x hx=>by
  have hk:=(zg.1 hx).1
  unfold isF
  simp only [dF hx,if_true,bp hx,zb,bN hk hl]
  cases a <;> rfl) (fun a=>by unfold isF; exact EV) false
 rw [show (false,(0:Int))=(fun (a_:Bool) (k_:Int)=>(a_,k_)) false 0 from rfl,h,ez,yF]
 rfl
theorem uE (k u:Int) : ∀ (l:List ac) (v:aF) (m:Int),(∀ q∈l,q.ap=⟨1,0⟩)→0≤v.aY→v.aY≤m→v.ar=0→m + l.length≤1000→0≤(l.foldl (fun v o=>if fo o k u=true then ff v o.ap else v) v).aY∧(l.foldl (fun v o=>if fo o k u=true then ff v o.ap else v) v).aY≤m + l.length∧(l.foldl (fun v o=>if fo o k u=true then ff v o.ap else v) v).ar=0
 | [],v,m,_,h1,h2,h3,_=>by
  simp only [List.foldl_nil,List.length_nil]
  omega
 | q::l,v,m,hq,h1,h2,h3,h4=>by
  rw [List.length_cons] at h4 ⊢
  simp only [List.foldl_cons]
  have e:=hq q List.mem_cons_self
  cases fo q k u with
  | true =>
   simp only [if_true]
   have:=uE k u l (ff v q.ap) (m + 1) (fun q hq'=>hq q (List.mem_cons_of_mem _ hq')) (by rw [e]; show 0≤i64.wrap (v.aY + 1); rw [dU (by omega) (by omega)]; omega) (by rw [e]; show i64.wrap (v.aY + 1)≤_; rw [dU (by omega) (by omega)]; omega) (by rw [e]; show i64.wrap (v.ar + 0)=0; rw [h3]; rfl) (by omega)
   omega
  | false =>
   simp only [zf,if_false]
   have:=uE k u l v m (fun q hq'=>hq q (List.mem_cons_of_mem _ hq')) h1 h2 h3 (by omega)
   omega
theorem Bf {l:List ac} {p:ac} (h:∀ x∈l,x.fId≠p.fId) : oS l p=ji ac.fId l p:=by
 have e:∀ (l:List ac),(∀ x∈l,x.fId≠p.fId)→(l.takeWhile fun x=>!decide (x.fId > p.fId))=l.takeWhile fun x=>decide (x.fId < p.fId):=by
  intro l
  induction l with
  | nil=>intro _; rfl
  | cons x l ih =>
   intro h
   have hx:=h x List.mem_cons_self
   have:(!decide (x.fId > p.fId))=decide (x.fId < p.fId):=by
    by_cases q:x.fId < p.fId
    ·rw [decide_eq_true q,decide_eq_false (show ¬ x.fId > p.fId by omega)]; rfl
    ·rw [decide_eq_false q,decide_eq_true (show x.fId > p.fId by omega)]; rfl
   rw [List.takeWhile_cons,List.takeWhile_cons,this,ih (fun y hy=>h y (List.mem_cons_of_mem _ hy))]
 unfold oS
 rw [e l h,wU ac.fId l p h]
theorem Bc {l:List ac} {p q:ac} (h:q∈oS l p) : q∈l∨q=p:=by
 unfold oS at h
 rcases List.mem_append.1 h with h | h
 ·exact .inl (List.mem_of_mem_take h)
 ·rcases List.mem_cons.1 h with h | h
  ·exact .inr h
  ·exact .inl (List.mem_of_mem_drop h)
theorem Be (l:List ac) (p:ac) : (oS l p).length=l.length + 1:=by
 have:=tA (fun x:ac=>!decide (x.fId > p.fId)) l
 unfold oS
 rw [List.length_append,List.length_cons,List.length_take,List.length_drop]
 omega
theorem D4 (pl:List ac) (hs:Al ac.fId pl) (hl:pl.length≤12) (b:Bool) : ∃ q,aN (srF pl) aB (b,(1:Int))=some (.inl q):=by
 obtain ⟨r,e1,q,rfl⟩:=eG (f:=srF pl) (fun st=>∃ k:Nat,st.2=((k + 1:Nat) : Int)∧k≤12) (fun st=>20 - st.2.toNat) (fun r=>∃ q,r = .inl q) (fun st ⟨k,g1,g2⟩=>by
  unfold srF
  simp only [g1]
  by_cases hlt:k + 1 < pl.length
  ·have d:decide (((k + 1:Nat) : Int) < (pl.length:Int))=true:=decide_eq_true (by omega)
   have e0:i64.wrap (((k + 1:Nat) : Int) - 1)=(k:Int):=by rw [dU (by omega) (by omega)]; omega
   have hk:k < pl.length:=by omega
   have hlt2:pl[k].fId < pl[k + 1].fId:=List.pairwise_iff_getElem.1 hs k (k + 1) hk hlt (Nat.lt_succ_self _)
   rw [if_pos d,e0,bp (zq hk)]
   simp only [zb]
   rw [bp (zq hlt)]
   simp only [zb]
   rw [if_neg (by simp; omega),dU (by omega) (by omega)]
   exact .inl ⟨_,rfl,⟨k + 1,by show ((k + 1:Nat) : Int) + 1 = _; omega,by omega⟩,by show 20 - (((k + 1:Nat) : Int) + 1).toNat < 20 - ((k + 1:Nat) : Int).toNat; omega⟩
  ·have d:decide (((k + 1:Nat) : Int) < (pl.length:Int))=false:=decide_eq_false (by omega)
   rw [if_neg (by rw [d]; decide)]
   exact .inr ⟨_,rfl,_,rfl⟩) aB (b,1) ⟨0,rfl,by omega⟩ (by show 20 - (1:Int).toNat < aB; unfold aB; omega)
 exact ⟨q,e1⟩
theorem PlanMany.plain (a0:(List Int)) (_k0:(∀ z∈a0,wfI z)∧a0.length≤maxLen) : gL (a0,())=some true:=by
 rw [Ei,lW,qm]
 simp only [zb,Bool.not_true,zf,if_false]
 have tot:∀ pl,mq (bg ⟨50,50⟩ pl 0) 0=⟨50,50⟩:=fun pl=>qf 50 50 (by decide) (by decide) (by decide) (by decide) pl 0
 obtain ⟨r,e1,e2⟩:=eG (f:=mnF a0) (fun st=>∃ (k:Nat) (pl:List ac),st.2.1=(k:Int)∧k≤30∧st.2.2=bg ⟨50,50⟩ pl 0∧pl.length≤12∧Al ac.fId pl∧∀ q∈pl,q.ap=⟨1,0⟩) (fun st=>30 - st.2.1.toNat) (fun r=>∃ val:Bool×Int×al,r = .inl val∧∃ pl,val.2.2=bg ⟨50,50⟩ pl 0∧pl.length≤12∧Al ac.fId pl) (fun st ⟨k,pl,g1,g2,g3,g4,g5,g6⟩=>by
  unfold mnF
  rw [g3]
  simp only [g1]
  have fin:∃ r,(some (.inr (.inl (st.1,(k:Int),bg ⟨50,50⟩ pl 0))) : Option ((Bool×Int×al)⊕((Bool×Int×al)⊕Bool)))=some (.inr r)∧∃ val:Bool×Int×al,r = .inl val∧∃ pl,val.2.2=bg ⟨50,50⟩ pl 0∧pl.length≤12∧Al ac.fId pl:=⟨_,rfl,_,rfl,pl,rfl,g4,g5⟩
  by_cases hk0:(k:Int) < (a0.length:Int)
  ·by_cases hk2:(k:Int) < 30
   ·have h0:k < a0.length:=by omega
    have hkk:k < 30:=by omega
    obtain ⟨d,d1,d2,d3⟩:=bv (a:=a0[k]) (n:=25) (by omega) (by omega)
    have ek:i64.wrap ((k:Int) + 1)=((k + 1:Nat) : Int):=bN hkk (by omega)
    have sh:=jl ⟨50,50⟩ pl 0 (by omega)
    have hmu : 30 - (((k + 1:Nat) : Int)).toNat < 30 - ((k:Nat) : Int).toNat:=by simp only [zt]; omega
    simp only [decide_eq_true hk0,decide_eq_true hk2,if_true,zb,bp (zq h0),d1,ek]
    rw [show (bg ⟨50,50⟩ pl 0).am=pl from rfl,Em pl d (by omega)]
    simp only [zb]
    have r1:gN d 999=true:=by unfold gN; simp only [Bool.and_eq_true,decide_eq_true_eq]; omega
    have r2:gN 0 (i64.wrap (((bg ⟨50,50⟩ pl 0).g7.bz.length:Int) - 1))=true:=by
     show gN 0 (i64.wrap (((1:Nat) : Int) - 1))=true
     decide
    have r3:(((1:Int)==0)&&((0:Int)==0))=false:=rfl
    cases hany:(pl.any fun x=>x.fId==d) with
    | true =>
     have hc:jT (bg ⟨50,50⟩ pl 0) ⟨d,0,0,50,⟨1,0⟩⟩=7:=by
      unfold jT
      simp only [r1,r2,r3,show (bg ⟨50,50⟩ pl 0).am=pl from rfl,hany]
      rfl
     rw [mC sh (by rw [hc]; decide),hc]
     exact .inl ⟨_,rfl,⟨k + 1,pl,rfl,by omega,rfl,g4,g5,g6⟩,hmu⟩
    | false =>
     by_cases h12:pl.length≥12
     ·have d12:decide ((pl.length:Int)≥12)=true:=decide_eq_true (by omega)
      have hc:jT (bg ⟨50,50⟩ pl 0) ⟨d,0,0,50,⟨1,0⟩⟩=4:=by
       unfold jT
       simp only [r1,r2,r3,show (bg ⟨50,50⟩ pl 0).am=pl from rfl,hany,d12]
       rfl
      rw [mC sh (by rw [hc]; decide),hc]
      simp only [zb,zf,if_false,d12,if_true]
      exact .inl ⟨_,rfl,⟨k + 1,pl,rfl,by omega,rfl,g4,g5,g6⟩,hmu⟩
     ·have d12:decide ((pl.length:Int)≥12)=false:=decide_eq_false (by omega)
      have hne:∀ x∈pl,x.fId≠d:=fun x hx=>by
       have:=(List.any_eq_false.1 hany) x hx
       simpa using this
      have hfr:∀ u,frV pl ⟨50,50⟩ ⟨d,0,0,50,⟨1,0⟩⟩ u=true:=fun u=>by
       have:=uE 0 u pl ⟨0,0⟩ 0 g6 (Int.le_refl _) (Int.le_refl _) rfl (by omega)
       change 0≤(atV pl 0 u).aY∧(atV pl 0 u).aY≤0 + (pl.length:Int)∧(atV pl 0 u).ar=0 at this
       unfold frV vI ff
       simp only [Bool.and_eq_true,decide_eq_true_eq]
       rw [this.2.2,dU (by omega) (by omega)]
       exact ⟨by omega,by decide⟩
      have A:j7 (bg ⟨50,50⟩ pl 0) ⟨d,0,0,50,⟨1,0⟩⟩ 5=some (bg ⟨50,50⟩ (oS pl ⟨d,0,0,5,⟨1,0⟩⟩) 0,0,0):=by
       have hpl:PlS (bg ⟨50,50⟩ pl 0).am (mq (bg ⟨50,50⟩ pl 0) (ac.av ⟨d,0,0,50,⟨1,0⟩⟩)) ⟨d,0,0,50,⟨1,0⟩⟩ 5 (0,0):=by
        rw [show mq (bg ⟨50,50⟩ pl 0) (ac.av ⟨d,0,0,50,⟨1,0⟩⟩)=⟨50,50⟩ from tot pl]
        exact .inr ⟨rfl,.inl ⟨0,rfl,⟨Int.le_refl _,by show (0:Int) + 5≤50; omega,fun u _ _=>hfr u⟩,fun t ht=>ht.1⟩⟩
       have hck:jT (bg ⟨50,50⟩ pl 0) ⟨d,0,0,50,⟨1,0⟩⟩=0:=rB (p:=⟨d,0,0,50,⟨1,0⟩⟩) (by show 0≤d∧d≤999; omega) rfl rfl r3 hne (by show pl.length < 12; omega) (Int.le_refl _)
       rw [pj (t:=0) sh (by show pl.length≤100000; omega) hck hpl]
       rfl
      rw [A]
      simp only [zb,zf,if_false,d12]
      refine .inl ⟨_,rfl,⟨k + 1,oS pl ⟨d,0,0,5,⟨1,0⟩⟩,rfl,by omega,rfl,by rw [Be]; omega,by rw [Bf hne]; exact pZ _ _ _ g5,fun q hq=>?_⟩,hmu⟩
      rcases Bc hq with h | h
      ·exact g6 q h
      ·rw [h]
   ·simp only [decide_eq_true hk0,decide_eq_false hk2,if_true,zb,zf,if_false]
    exact .inr fin
  ·simp only [decide_eq_false hk0,zb,zf,if_false]
   exact .inr fin) aB (false,0,bg ⟨50,50⟩ [] 0) ⟨0,[],rfl,by omega,rfl,by simp,List.Pairwise.nil,fun q h=>by cases h⟩ (by show 30 - (0:Int).toNat < aB; unfold aB; omega)
 change Option.bind (aN (mnF a0) aB (false,(0:Int),bg ⟨50,50⟩ [] 0)) _ = _
 rw [e1]
 obtain ⟨val,rfl,pl,v1,v2,v3⟩:=e2
 simp only [zb]
 rw [v1,show (bg ⟨50,50⟩ pl 0).am=pl from rfl]
 obtain ⟨q,hq⟩:=D4 pl v3 v2 val.1
 rw [hq]
 simp only [zb]
 rw [decide_eq_true (show (pl.length:Int)≤12 by omega)]
end Go.Proofs.Ytkmpjphbkhpgbaa
