/- My texts, in one. -/
import Derived.Test.YtaknepbdbappdaaGreatZC
set_option linter.all false
set_option maxRecDepth 100000
set_option maxHeartbeats 4000000
namespace Go.Proofs.YtaknepbdbappdaaGreat
open Go.RowKit
open IntKind (i64)
open Go.Proofs.Tryz (prog)
theorem Nh {P:Program} {f:FuncId} (ty:Ty) {e k:Nat} {F:List ty.den→Option (List ty.den)} (hk:tyN ty=k) (hk0 : 0 < k) (hcall:d9 P f=true) (hlen:∀ xs zs,F xs=some zs→zs.length=xs.length∧0 < xs.length)
  (H:∀ (xs zs:List ty.den) (g c:Nat) (us:List Value) (w:World) (G:Nat→Prop),F xs=some zs→w.ownsRow 0 e k (.slice (some ⟨g,0,none⟩) xs.length c) xs.length us→us.length=xs.length * k→(∀ (j:Nat) u d,us[j]? = some u→(xs.map (bH ty)).flatten[j]? = some d→d7 w G u d) →
   Calls P f #[.slice (some ⟨g,0,none⟩) xs.length c] w fun en w'=>en = .returned (.tuple #[])∧w.grownBy w' (some g)∧∃ vs:List Value,w'.ownsRow 0 e k (.slice (some ⟨g,0,none⟩) xs.length c) xs.length vs∧vs.length=zs.length * k∧∀ (j:Nat) u d,vs[j]? = some u→(zs.map (bH ty)).flatten[j]? = some d→d7 w G u d) :
  bR P f [.own e k ty] [.io [.own e k ty]] (fun x=>(F x.1).bind fun z=>some (z,())):=by
 rintro ⟨xs,⟨⟩⟩ zz hF
 change List ty.den at xs
 obtain ⟨zs,hz,hF⟩:=bindS hF
 injection hF with hF
 subst hF
 obtain ⟨hzl,hx0⟩:=hlen xs zs hz
 refine ⟨fun h=>(by cases h),fun _=>⟨⟨hzl,trivial⟩,fun iss kss jss h1 h2 h3 h4 h5 h6=>⟨hcall,?_⟩⟩⟩
 match iss,h1 with
 | [is0],h1 =>
 match is0,h1.1 with
 | [t],_ =>
 match kss,h2 with
 | [k0],h2 =>
 match k0,h2.1 with
 | [],_ =>
 match jss,h3 with
 | [],h3 =>
 intro w0 F0 ρ b w G vs args ha hb0 hbn hi hr
 have hal:args.length=1:=by rw [← gg args,ha]; rfl
 match args,hal with
 | [a0],_ =>
 simp only [dP,dS,toI,List.cons.injEq] at ha
 have ha0:=ha.1
 have hvl:vs.toList.length=1:=hr.len
 obtain ⟨v0,hv⟩ : ∃ v0,vs = #[v0]:=by
  match hv:vs.toList,hvl with
  | [v0],_=>exact ⟨v0,by apply Array.ext'; simpa using hv⟩
 subst hv
 have r0:=(hr.rep 0 v0 a0 rfl rfl).nrmd
 rw [ha0] at r0
 obtain ⟨B',hB,hnB⟩:=hb0 t (rwU e k ty xs) (by simp [dS,toI,lkU])
 have hBe:B' = .rw e k (xs.map (bH ty)):=by
  cases B' with
  | st ty' cs=>cases hnB
  | rw e' k' es'=>exact hnB
 subst hBe
 have hel:(xs.map (bH ty)).length=xs.length:=List.length_map ..
 have hek:∀ y∈xs.map (bH ty),y.length=k:=fun y hy=>by
  obtain ⟨z,_,rfl⟩:=List.mem_map.1 hy
  rw [lG,hk]
 cases r0 with
 | row _ _ A c e2 k2 es2 hb2 hn2 hc2 hA2 hρ2 =>
 rw [hB] at hb2
 injection hb2 with hb2
 injection hb2 with q1 q2 q3
 subst q1 q2 q3
 have hρt:=hρ2 hel
 have hbx:=hi.box t _ hB
 cases hbx with
 | gn _ _ _ hg=>rw [hρt] at hg; cases hg
 | rw _ _ _ us hk1 ho hFt hkt hlt hrt hown =>
 rw [hρt,hel] at ho
 have ho':=ho
 rcases ho'.2 with ⟨h',hn0⟩ | ⟨g,cap,cur,h',_,hgh,_,_⟩
 ·omega
 injection h' with m1 m2 m3
 subst m1 m3
 have hfl:=cr k _ hek
 rw [hel] at hfl
 have hul:us.length=xs.length * k:=by rw [hlt,hfl]
 refine (H xs zs g c us w G hz ho hul hrt).mono ?_
 rintro en w' ⟨rfl,hT,vs',ho2,hvl',hrv⟩
 have hzk:∀ y∈zs.map (bH ty),y.length=k:=fun y hy=>by
  obtain ⟨z,_,rfl⟩:=List.mem_map.1 hy
  rw [lG,hk]
 have hzm:(zs.map (bH ty)).length=xs.length:=by rw [List.length_map,hzl]
 have hfz:=cr k _ hzk
 have hgF : ¬ G g:=hFt g (by rw [hρt]; rfl)
 have hgo:=hown g (by rw [hρt]; rfl)
 have hw:∀ h,h < w.heap.size→blk (ρ t)≠some h→w'.heap[h]? = w.heap[h]? := fun h hh hne=>hT.block h hh (fun e=>hne (by rw [hρt]; exact e.symm))
 have hs:Stp ρ b w G (ux ρ t (ρ t)) (dc b (some (t,.rw e k (zs.map (bH ty))))) w' G:=by
  rw [cC]
  refine ⟨fun _ h=>h,fun h hh=>hw h (hi.flt h hh) (fun e=>hgF (by rw [hρt] at e; injection e with e; replace e:g=h:=e; rw [e]; exact hh)),fun x ty' cs hx=>?_,fun x e' k' es' hx=>?_⟩
  ·have h2:x≠t:=fun h=>by rw [h,hB] at hx; cases hx
   rw [ct _ _ h2]
   exact ⟨⟨_,_,hx⟩,rfl⟩
  ·by_cases h2:x=t
   ·subst h2
    rw [hB] at hx
    injection hx with hx
    injection hx with q1 q2 q3
    subst q1 q2 q3
    rw [cZ]
    exact ⟨_,_,rfl,by rw [hzm,hel]; exact Nat.le_refl _,fun _=>rfl⟩
   ·rw [ct _ _ h2]
    exact ⟨e',es',hx,Nat.le_refl _,fun _=>rfl⟩
 have hinv:=Inv.turn (v:=ρ t) hi hB hs
  (hi.ext.step hT.os hT.tape hT.output hT.size (fun p hp hM=>hT.block p (Nat.lt_of_lt_of_le hp hi.ext.size) (fun e=>vI hp hM (by injection e with e; rw [e]; exact hgo))))
  hT.size hw (fun h hh=>.inl hh) (by
   rw [cC]
   refine .rw e k _ vs' hk0 (by rw [hρt,hzm]; exact ho2) (fun h hh=>hFt h hh) hzk (by rw [hvl',hfz,List.length_map]) (fun p u d hu hd=>(hrv p u d hu hd).mono (fun _ h=>h) hs.hw) (fun h hh=>hown h hh))
 rw [cC] at hinv hs
 have hU:dB b (pR [.own e k ty] [.io [.own e k ty]] [[t]] [[]] [] (xs,()) (zs,()))=dc b (some (t,.rw e k (zs.map (bH ty)))):=by
  have hU2:pR [.own e k ty] [.io [.own e k ty]] [[t]] [[]] [] (xs,()) (zs,()) = [(t,.rw e k (zs.map (bH ty)))]:=by
   simp [pR,OV,toO,cR,ff,cw,jX,Cf,oS,EV,rwU]
  rw [hU2]
  funext x
  simp only [dB,lkU,dc]
  by_cases e2:x=t
  ·subst e2; simp
  ·simp [e2,Ne.symm e2]
 rw [hU]
 exact ⟨_,ρ,G,rfl,hinv,hs,.tup _ _ rfl (fun j x c h _=>by simp at h)⟩
def O4 (xs:List Int) : Option (List Int):=if 0 < xs.length∧xs.length≤1000000 then some (xs.mergeSort fun x y=>decide (x≤y)) else none
end Go.Proofs.YtaknepbdbappdaaGreat
section
namespace Go.Proofs
open Go.Shelf
def Tryz.laysM316_ren:Go.Shelf.Ren:=⟨fun | 316=>139 | n=>n,fun | 9=>9 | 3=>3 | 4=>4 | 37=>164 | 0=>0 | 127=>225 | 5=>5 | n=>n,fun | n=>n⟩
theorem Tryz.laysM316:Go.Proofs.LaysM.n316 prog Tryz.laysM316_ren:={
 mixed:=by kernel_rfl
 f316:=Tryz.func139.trans (congrArg some (by kernel_rfl))
 t0:=Tryz.underlying0
 a0:=Tryz.isAgg0
 z0:=Tryz.sizeOf0
 v0:=Tryz.zeroValue0
 t3:=Tryz.underlying3
 a3:=Tryz.isAgg3
 z3:=Tryz.sizeOf3
 v3:=Tryz.zeroValue3
 t4:=Tryz.underlying4
 a4:=Tryz.isAgg4
 z4:=Tryz.sizeOf4
 v4:=Tryz.zeroValue4
 t9:=Tryz.underlying9
 a9:=Tryz.isAgg9
 z9:=Tryz.sizeOf9
 v9:=Tryz.zeroValue9
 t37:=Tryz.underlying164
 a37:=Tryz.isAgg164
 z37:=Tryz.sizeOf164
 v37:=Tryz.zeroValue164
 t127:=Tryz.underlying225
 a127:=Tryz.isAgg225
 z127:=Tryz.sizeOf225
 v127:=Tryz.zeroValue225
 t5:=Tryz.underlying5
 a5:=Tryz.isAgg5
 z5:=Tryz.sizeOf5
 v5:=Tryz.zeroValue5
 i0:=by kernel_rfl
 i3:=by kernel_rfl
 i4:=by kernel_rfl
 i5:=by kernel_rfl
 i9:=by kernel_rfl
 i37:=by kernel_rfl
 i127:=by kernel_rfl }
open Go.RowKit in
theorem Tryz.stringslite_Clone (s:ByteArray) (w:World) (hlim:s.size≤281474976710656) :
  Calls prog 139 #[.string s] w fun e w'=>e = .returned (.string s)∧Below w.heap.size w w':=Any.stringslite_Clone Tryz.laysM316 s w hlim
def Tryz.lays189_ren:Go.Shelf.Ren:=⟨fun | 189=>77 | 125=>123 | 257=>122 | 128=>152 | 129=>153 | 294=>143 | 295=>144 | 296=>145 | 297=>146 | 298=>147 | 299=>148 | 216=>149 | 300=>150 | 301=>151 | 328=>170 | 329=>171 | 330=>172 | 331=>173 | 332=>174 | 215=>175 | 343=>191 | n=>n,fun | 28=>22 | 3=>3 | 46=>176 | 0=>0 | 51=>202 | 53=>204 | 4=>4 | 183=>195 | 182=>194 | 131=>199 | 5=>5 | 9=>9 | 218=>226 | 222=>230 | 228=>246 | 229=>80 | n=>n,fun | n=>n⟩
theorem Tryz.lays189:Go.Proofs.Lays.n189 prog Tryz.lays189_ren:={
 mixed:=by kernel_rfl
 f125:=Tryz.func123.trans (congrArg some (by kernel_rfl))
 f128:=Tryz.func152.trans (congrArg some (by kernel_rfl))
 f129:=Tryz.func153.trans (congrArg some (by kernel_rfl))
 f189:=Tryz.func77.trans (congrArg some (by kernel_rfl))
 f215:=Tryz.func175.trans (congrArg some (by kernel_rfl))
 f216:=Tryz.func149.trans (congrArg some (by kernel_rfl))
 f257:=Tryz.func122.trans (congrArg some (by kernel_rfl))
 f294:=Tryz.func143.trans (congrArg some (by kernel_rfl))
 f295:=Tryz.func144.trans (congrArg some (by kernel_rfl))
 f296:=Tryz.func145.trans (congrArg some (by kernel_rfl))
 f297:=Tryz.func146.trans (congrArg some (by kernel_rfl))
 f298:=Tryz.func147.trans (congrArg some (by kernel_rfl))
 f299:=Tryz.func148.trans (congrArg some (by kernel_rfl))
 f300:=Tryz.func150.trans (congrArg some (by kernel_rfl))
 f301:=Tryz.func151.trans (congrArg some (by kernel_rfl))
 f328:=Tryz.func170.trans (congrArg some (by kernel_rfl))
 f329:=Tryz.func171.trans (congrArg some (by kernel_rfl))
 f330:=Tryz.func172.trans (congrArg some (by kernel_rfl))
 f331:=Tryz.func173.trans (congrArg some (by kernel_rfl))
 f332:=Tryz.func174.trans (congrArg some (by kernel_rfl))
 f343:=Tryz.func191.trans (congrArg some (by kernel_rfl))
 t0:=Tryz.underlying0
 a0:=Tryz.isAgg0
 z0:=Tryz.sizeOf0
 v0:=Tryz.zeroValue0
 t3:=Tryz.underlying3
 a3:=Tryz.isAgg3
 z3:=Tryz.sizeOf3
 v3:=Tryz.zeroValue3
 t4:=Tryz.underlying4
 a4:=Tryz.isAgg4
 z4:=Tryz.sizeOf4
 v4:=Tryz.zeroValue4
 t5:=Tryz.underlying5
 a5:=Tryz.isAgg5
 z5:=Tryz.sizeOf5
 v5:=Tryz.zeroValue5
 t9:=Tryz.underlying9
 a9:=Tryz.isAgg9
 z9:=Tryz.sizeOf9
 v9:=Tryz.zeroValue9
 t28:=Tryz.underlying22
 a28:=Tryz.isAgg22
 z28:=Tryz.sizeOf22
 v28:=Tryz.zeroValue22
 t46:=Tryz.underlying176
 a46:=Tryz.isAgg176
 z46:=Tryz.sizeOf176
 v46:=Tryz.zeroValue176
 t51:=Tryz.underlying202
 a51:=Tryz.isAgg202
 z51:=Tryz.sizeOf202
 v51:=Tryz.zeroValue202
 t53:=Tryz.underlying204
 a53:=Tryz.isAgg204
 z53:=Tryz.sizeOf204
 v53:=Tryz.zeroValue204
 t131:=Tryz.underlying199
 a131:=Tryz.isAgg199
 z131:=Tryz.sizeOf199
 v131:=Tryz.zeroValue199
 t182:=Tryz.underlying194
 a182:=Tryz.isAgg194
 z182:=Tryz.sizeOf194
 v182:=Tryz.zeroValue194
 t183:=Tryz.underlying195
 a183:=Tryz.isAgg195
 z183:=Tryz.sizeOf195
 v183:=Tryz.zeroValue195
 t218:=Tryz.underlying226
 a218:=Tryz.isAgg226
 z218:=Tryz.sizeOf226
 v218:=Tryz.zeroValue226
 t222:=Tryz.underlying230
 a222:=Tryz.isAgg230
 z222:=Tryz.sizeOf230
 v222:=Tryz.zeroValue230
 t228:=Tryz.underlying246
 a228:=Tryz.isAgg246
 z228:=Tryz.sizeOf246
 v228:=Tryz.zeroValue246
 t229:=Tryz.underlying80
 a229:=Tryz.isAgg80
 z229:=Tryz.sizeOf80
 v229:=Tryz.zeroValue80 }
open Go.Sort Go.RowKit in
theorem Tryz.slices_Sort_int (blk off cap:Nat) (zs:List Int) (w:World) (hH:Holds (Value.int .i64) w blk off zs.toArray) (hblk:blk < w.heap.size) (hsz:zs.length < 4611686018427387904) :
  Calls prog 77 #[.slice (some ⟨blk,off,none⟩) zs.length cap] w fun e w' =>
   e = .returned (.tuple #[])∧∃ n os,w' = grow (putRow (Value.int .i64) (Sort.ahead w n) blk off (zs.mergeSort fun x y=>decide (x≤y)).toArray) os:=Any.slices_Sort_int Tryz.lays189 blk off cap zs w hH hblk hsz
end Go.Proofs
end
namespace Go.Proofs.YtaknepbdbappdaaGreat
open Go.RowKit
open IntKind (i64)
open Go.Proofs.Tryz (prog)
theorem Xp:∀ (xs:List Int),(xs.map (bH (.int .i64))).flatten=xs.map (fun n=>D.v (.int .i64 n))
 | []=>rfl
 | x::l=>by
  show [D.v (Value.int .i64 x)] ++ (List.map (bH (.int .i64)) l).flatten = _
  rw [Xp l]
  rfl
theorem TM {w:World} {G:Nat→Prop} {us:List Value} {xs:List Int} (hl:us.length=xs.length * 1) (hr:∀ (j:Nat) u d,us[j]? = some u→(xs.map (bH (.int .i64))).flatten[j]? = some d→d7 w G u d) : us=xs.map (Value.int .i64):=by
 apply List.ext_getElem (by simpa using hl)
 intro j h1 h2
 have h3:j < xs.length:=by simpa using h2
 have:=hr j us[j] (.v (.int .i64 xs[j])) (zq h1) (by rw [Xp,List.getElem?_map,zq h3]; rfl)
 have e:=(aR.vv (ρ:=fun _=>.tuple #[]) (b:=fun _=>none) (aR.d _ _ this)).1
 rw [e]; simp
noncomputable def RZ:Ent:=⟨[.own 3 1 (.int .i64)],[.io [.own 3 1 (.int .i64)]],fun x=>(O4 x.1).bind fun z=>some (z,())⟩
theorem RY:bR prog 77 [.own 3 1 (.int .i64)] [.io [.own 3 1 (.int .i64)]] (fun x=>(O4 x.1).bind fun z=>some (z,())):=by
 refine Nh (.int .i64) rfl (by decide) (by kernel_rfl) (fun xs zs h=>?_) (fun xs zs g c us w G h ho hul hr=>?_)
 ·change List Int at xs zs
  unfold O4 at h
  split at h
  ·rename_i hc
   injection h with h
   subst h
   exact ⟨List.length_mergeSort xs,hc.1⟩
  ·cases h
 ·change List Int at xs zs
  unfold O4 at h
  split at h
  ·rename_i hc
   injection h with h
   have hus:=TM hul hr
   subst hus
   have hzl:zs.length=xs.length:=by rw [← h]; exact List.length_mergeSort xs
   obtain ⟨_,ho2⟩:=ho
   rcases ho2 with ⟨h',hn0⟩ | ⟨g',cap,cur,h',hb,hgh,hnc,hmax,hcs,hct⟩
   ·have hn1:xs.length=0:=hn0
    omega
   injection h' with m1 m2 m3
   injection m1 with m1
   injection m1 with m1
   subst m1 m3
   refine (Tryz.slices_Sort_int g 0 c xs w (holds_of_blockI hgh (by have h1:=hct; rw [Nat.mul_one] at h1; exact h1)) (Array.getElem?_eq_some_iff.1 hgh).1 (by omega)).mono ?_
   rintro en w' ⟨rfl,n,os,rfl⟩
   rw [h]
   refine ⟨rfl,grownBy_sortedI _,zs.map (Value.int .i64),ownsRow_sortedI hzl (Nat.zero_le _) hgh hnc hmax hcs,(by rw [List.length_map]; exact (Nat.mul_one _).symm),fun j u d hu hd=>?_⟩
   rw [Xp] at hd
   rw [List.getElem?_map] at hu hd
   cases hj:zs[j]? with
   | none=>rw [hj] at hu; cases hu
   | some z =>
    rw [hj] at hu hd
    injection hu with hu
    injection hd with hd
    subst hu hd
    exact .v _ rfl
  ·cases h
noncomputable def rK (x:cE [.ag 0,.ag 0]) : Option (bl [.lf (.bool)]):=jm ⟨prog,[],17,[.lf (.bool)],[.tmp 4],[],[],[]⟩ ((Tryz.f39).body.getD .skip) (.n) [.ag 0,.ag 0] x
noncomputable def Hz:Ent:=⟨[.ag 0,.ag 0],[.lf (.bool)],rK⟩
theorem Hy:bR prog 39 [.ag 0,.ag 0] [.lf (.bool)] rK:=cF (n:=17) (.nil) Tryz.mixed Tryz.func39 rfl (by kernel_rfl) rfl rfl rfl (fun _=>rfl)
noncomputable def rL (x:cE [.ag 0,.ag 0]) : Option (bl [.ag 0]):=jm ⟨prog,[],16,[.ag 0],[.cell 4 27],[],[4],[]⟩ ((Tryz.f40).body.getD .skip) (.n) [.ag 0,.ag 0] x
noncomputable def w9:Ent:=⟨[.ag 0,.ag 0],[.ag 0],rL⟩
theorem w8:bR prog 40 [.ag 0,.ag 0] [.ag 0] rL:=cF (n:=16) (.nil) Tryz.mixed Tryz.func40 rfl (by kernel_rfl) rfl rfl rfl (fun _=>rfl)
noncomputable def vC (x:cE [.lf (.sl (.st 8)),.lf (.int .i64),.lf (.int .i64)]) : Option (bl [.ag 0]):=jm ⟨prog,[(40,w9)],38,[.ag 0],[.cell 6 27],[],[6],[]⟩ ((Tryz.f41).body.getD .skip) (.s (.n) (.s (.n) (.s (.s (.n) (.s (.lp [.leaf 12 (.int .i64),.box 7 27 0 []] 0 false (.n)) .n)) (.n)))) [.lf (.sl (.st 8)),.lf (.int .i64),.lf (.int .i64)] x
noncomputable def OB:Ent:=⟨[.lf (.sl (.st 8)),.lf (.int .i64),.lf (.int .i64)],[.ag 0],vC⟩
theorem OA:bR prog 41 [.lf (.sl (.st 8)),.lf (.int .i64),.lf (.int .i64)] [.ag 0] vC:=cF (n:=38) (.cons (w8) (.nil)) Tryz.mixed Tryz.func41 rfl (by kernel_rfl) rfl rfl rfl (fun _=>rfl)
noncomputable def ny (x:cE [.lf (.sl (.st 8)),.ag 8]) : Option (bl [.lf (.sl (.int .i64))]):=jm ⟨prog,[(77,RZ)],50,[.lf (.sl (.int .i64))],[.tmp 4],[],[],[]⟩ ((Tryz.f38).body.getD .skip) (.s (.n) (.s (.n) (.s (.s (.n) (.s (.lp [.row 5 12 3 1 (.int .i64),.leaf 15 (.int .i64)] 0 false (.s (.n) (.s (.n) (.s (.s (.s (.n) (.s (.n) (.s (.lp [.row 5 12 3 1 (.int .i64),.leaf 24 (.int .i64)] 2 false (.n)) .n))) .n) (.n))))) .n)) (.n)))) [.lf (.sl (.st 8)),.ag 8] x
noncomputable def BN:Ent:=⟨[.lf (.sl (.st 8)),.ag 8],[.lf (.sl (.int .i64))],ny⟩
theorem BM:bR prog 38 [.lf (.sl (.st 8)),.ag 8] [.lf (.sl (.int .i64))] ny:=cF (n:=50) (.cons (RY) (.nil)) Tryz.mixed Tryz.func38 rfl (by kernel_rfl) rfl rfl rfl (fun _=>rfl)
noncomputable def oL (x:cE [.lf (.int .i64),.lf (.int .i64)]) : Option (bl [.lf (.bool)]):=jm ⟨prog,[],12,[.lf (.bool)],[.tmp 4],[],[],[]⟩ ((Tryz.f65).body.getD .skip) (.n) [.lf (.int .i64),.lf (.int .i64)] x
noncomputable def tZ:Ent:=⟨[.lf (.int .i64),.lf (.int .i64)],[.lf (.bool)],oL⟩
theorem tY:bR prog 65 [.lf (.int .i64),.lf (.int .i64)] [.lf (.bool)] oL:=cF (n:=12) (.nil) Tryz.mixed Tryz.func65 rfl (by kernel_rfl) rfl rfl rfl (fun _=>rfl)
noncomputable def nz (x:cE [.ag 8,.lf (.int .i64)]) : Option (bl [.lf (.bool)]):=jm ⟨prog,[(65,tZ)],33,[.lf (.bool)],[.tmp 4],[],[],[]⟩ ((Tryz.f37).body.getD .skip) (.n) [.ag 8,.lf (.int .i64)] x
noncomputable def BP:Ent:=⟨[.ag 8,.lf (.int .i64)],[.lf (.bool)],nz⟩
theorem BO:bR prog 37 [.ag 8,.lf (.int .i64)] [.lf (.bool)] nz:=cF (n:=33) (.cons (tY) (.nil)) Tryz.mixed Tryz.func37 rfl (by kernel_rfl) rfl rfl rfl (fun _=>rfl)
noncomputable def qD (x:cE [.lf (.sl (.st 8)),.ag 0,.ag 8,.lf (.int .i64)]) : Option (bl [.lf (.int .i64),.lf (.int .i64)]):=jm ⟨prog,[(37,BP),(38,BN),(41,OB),(40,w9),(39,Hz)],53,[.lf (.int .i64),.lf (.int .i64)],[.tmp 8,.tmp 9],[],[],[]⟩ ((Tryz.f19).body.getD .skip) (.s (.n) (.s (.n) (.s (.n) (.s (.s (.n) (.s (.lp [.leaf 8 (.int .i64),.leaf 9 (.int .i64),.leaf 10 (.int .i64),.leaf 26 (.int .i64)] 0 true (.n)) .n)) (.n))))) [.lf (.sl (.st 8)),.ag 0,.ag 8,.lf (.int .i64)] x
noncomputable def vB:Ent:=⟨[.lf (.sl (.st 8)),.ag 0,.ag 8,.lf (.int .i64)],[.lf (.int .i64),.lf (.int .i64)],qD⟩
theorem vA:bR prog 19 [.lf (.sl (.st 8)),.ag 0,.ag 8,.lf (.int .i64)] [.lf (.int .i64),.lf (.int .i64)] qD:=cF (n:=53) (.cons (BO) (.cons (BM) (.cons (OA) (.cons (w8) (.cons (Hy) (.nil)))))) Tryz.mixed Tryz.func19 rfl (by kernel_rfl) rfl rfl rfl (fun _=>rfl)
abbrev EOk (P:Program) (f:FuncId) (e:Ent) : Prop:=bR P f e.ps e.rs e.f
theorem aL {P:Program} {T:List (Nat×Ent)} {e:Ent} {f:FuncId} {fn:Func} (h:um) (fz:List (Nat×List Nat)) (sc:List Nat) (fb:List (Nat×List Nat)) (hT:qY P T) (hm:P.follows .mixedOrders=true) (hf:P.funcs[f]? = some fn) (hb:fn.body=some (fn.body.getD .skip):=by kernel_rfl) (hcb:d9 P f=true:=by kernel_rfl) (hl:((decide (e.ps.length≤fn.ntmps)&&uE e.ps) && !(pd e.ps||pd e.rs))=true:=by kernel_rfl)
  (hF:∀ x,jm ⟨P,T,fn.ntmps,e.rs,fn.results.toList,fz,sc,fb⟩ (fn.body.getD .skip) h e.ps x=e.f x:=by intro x; kernel_rfl) : bR P f e.ps e.rs e.f:=cF hT hm hf hb hcb rfl rfl hl hF
def zw (v_n:Int) : Option (Bool) :=
 (if (decide (v_n≥0))=true then some (decide (v_n≤1125899906842624)) else some false).bind fun q1=>some q1
def tG (v_a:au) : Option (Bool) :=
 (zw v_a.bg).bind fun c1=>(if c1=true then (zw v_a.aI).bind fun c2=>some c2 else some false).bind fun q3=>some q3
def f4 (v_a:au) (v_b:au) : Option (Bool) :=
 (if (decide (v_a.bg≤v_b.bg))=true then some (decide (v_a.aI≤v_b.aI)) else some false).bind fun q1=>some q1
def v6 (v_a:au) (v_b:au) : Option (au) :=
 some (⟨(if 0 > (i64.wrap (v_a.bg - v_b.bg)) then 0 else (i64.wrap (v_a.bg - v_b.bg))),(if 0 > (i64.wrap (v_a.aI - v_b.aI)) then 0 else (i64.wrap (v_a.aI - v_b.aI)))⟩ : au)
def df (v_a:au) (v_b:au) : Option (au) :=
 some (⟨(i64.wrap (v_a.bg + v_b.bg)),(i64.wrap (v_a.aI + v_b.aI))⟩ : au)
def vb (v_n:Int) (AD:Int) : Option (Int) :=
 some (i64.wrap ((i64.wrap ((i64.wrap (Int.tdiv v_n 10000)) * AD)) + (i64.wrap (Int.tdiv (i64.wrap ((Int.tmod v_n 10000) * AD)) 10000))))
def vd (v_a:au) (AD:Int) : Option (au×Int) :=
 (tG v_a).bind fun c1=>(if (!c1)=true then some true else some (decide (AD < 0))).bind fun q2=>(if q2=true then some true else some (decide (AD > 1000000))).bind fun q3=>if q3=true then
 some ((⟨0,0⟩ : au),1)
 else
 (vb v_a.bg AD).bind fun c4=>(vb v_a.aI AD).bind fun c5=>let v_c:au:=(⟨c4,c5⟩ : au)
 (tG v_c).bind fun c6=>if (!c6)=true then
 some ((⟨0,0⟩ : au),11)
 else
 some (v_c,0)
def zv (v_a:Int) (v_b:Int) : Option (Int×Int) :=
 let t1:Int:=(Int.fdiv v_a (2 ^ (min (Int.toNat 25) (IntKind.i64.bits))))
 let t2:Int:=(bits .and .i64 v_a 33554431)
 let t3:Int:=(Int.fdiv v_b (2 ^ (min (Int.toNat 25) (IntKind.i64.bits))))
 let t4:Int:=(bits .and .i64 v_b 33554431)
 let Tr:Int:=t1
 let V0:Int:=t2
 let Tq:Int:=t3
 let VZ:Int:=t4
 let ZO:Int:=(i64.wrap ((i64.wrap (Tr * VZ)) + (i64.wrap (V0 * Tq))))
 let ZQ:Int:=(i64.wrap ((i64.wrap (V0 * VZ)) + (i64.wrap ((bits .and .i64 ZO 33554431) * 2 ^ (min (Int.toNat 25) (IntKind.i64.bits))))))
 let aab:Int:=(i64.wrap ((i64.wrap ((i64.wrap (Tr * Tq)) + (Int.fdiv ZO (2 ^ (min (Int.toNat 25) (IntKind.i64.bits)))))) + (Int.fdiv ZQ (2 ^ (min (Int.toNat 50) (IntKind.i64.bits))))))
 some (aab,(bits .and .i64 ZQ 1125899906842623))
def qk (v_x:bh) (v_y:bh) : Option (Int) :=
 (if (v_x.fA==0)=true then
 let v_x:bh:={ v_x with fP:=1 }
 some v_x
 else
 some v_x).bind fun j1=>let v_x:=j1
 (if (v_y.fA==0)=true then
 let v_y:bh:={ v_y with fP:=1 }
 some v_y
 else
 some v_y).bind fun j2=>let v_y:=j2
 (if (v_x.fP==0)=true then some true else some (v_y.fP==0)).bind fun q3=>if q3=true then
 (if (v_x.fP==0)=true then some (v_y.fP==0) else some false).bind fun q4=>if q4=true then
 some 0
 else
 if (v_x.fP==0)=true then
 some 1
 else
 some (-1)
 else
 (zv v_x.fA v_y.fP).bind fun c5=>let Tr:Int:=c5.1
 let V0:Int:=c5.2
 (zv v_y.fA v_x.fP).bind fun c6=>let Tq:Int:=c6.1
 let VZ:Int:=c6.2
 (if (decide (Tr < Tq))=true then some true else (if (Tr==Tq)=true then some (decide (V0 < VZ)) else some false).bind fun q7=>some q7).bind fun q8=>if q8=true then
 some (-1)
 else
 (if (Tr==Tq)=true then some (V0==VZ) else some false).bind fun q9=>if q9=true then
 some 0
 else
 some 1
def zx (v_a:au) (v_p:au) : Option (bh) :=
 let t1:bh:=(⟨v_a.bg,v_p.bg⟩ : bh)
 let t2:bh:=(⟨v_a.aI,v_p.aI⟩ : bh)
 let v_x:bh:=t1
 let v_y:bh:=t2
 (qk v_x v_y).bind fun c3=>if (decide (c3 < 0))=true then
 some v_y
 else
 some v_x
def zy (v_a:au) (v_p:au) (v_b:au) (v_q:au) : Option (Int) :=
 (tG v_a).bind fun c1=>(if (!c1)=true then some true else (tG v_p).bind fun c2=>some (!c2)).bind fun q3=>(if q3=true then some true else (tG v_b).bind fun c4=>some (!c4)).bind fun q5=>(if q5=true then some true else (tG v_q).bind fun c6=>some (!c6)).bind fun q7=>if q7=true then
 some 0
 else
 (zx v_a v_p).bind fun c8=>(zx v_b v_q).bind fun c9=>(qk c8 c9).bind fun c10=>some c10
def rz (v_s:ByteArray) (st:Int) : Option ((Int)⊕((Int)⊕(Bool))) :=
 let v_i:=st
 if (decide (v_i < (v_s.size:Int)))=true then
 (lu v_s v_i).bind fun b2=>let v_c:Int:=b2
 (if (decide (v_c < 97))=true then some true else some (decide (v_c > 122))).bind fun q3=>(if q3=true then (if (decide (v_c < 48))=true then some true else some (decide (v_c > 57))).bind fun q4=>some q4 else some false).bind fun q5=>(if q5=true then some (v_c != 45) else some false).bind fun q6=>if q6=true then
 some (.inr (.inr false))
 else
 let v_i:Int:=(i64.wrap (v_i + 1))
 some (.inl v_i)
 else
 some (.inr (.inl v_i))
def vY (v_s:ByteArray) : Option (Bool) :=
 (if (decide ((v_s.size:Int) < 1))=true then some true else some (decide ((v_s.size:Int) > 12))).bind fun q1=>if q1=true then
 some false
 else
 let v_i:Int:=0
 (ah (rz v_s) ab v_i).bind fun r7=>match r7 with
 | .inr m8=>some m8
 | .inl m8 =>
 let v_i:=m8
 some true
def jt (ax:ByteArray) (st:Int) : Option ((Int)⊕((Int))) :=
 let v_k:=st
 (if (decide (v_k≥0))=true then (lu ax v_k).bind fun b1=>some (b1 != 46) else some false).bind fun q2=>if q2=true then
 let v_k:Int:=(i64.wrap (v_k - 1))
 some (.inl v_k)
 else
 some (.inr v_k)
def ed (ax:ByteArray) : Option (ByteArray) :=
 let v_k:Int:=(i64.wrap ((ax.size:Int) - 1))
 (ah (jt ax) ab v_k).bind fun r3 =>
 let v_k:=r3
 if (decide (v_k < 0))=true then
 some (⟨#[]⟩ : ByteArray)
 else
 (Pa ax v_k).bind fun b4=>some b4
def oe (st:(List ByteArray)×ByteArray) : Option (((List ByteArray)×ByteArray)⊕(((List ByteArray)×ByteArray))) :=
 let v_l:=st.1
 let ax:=st.2
 if (!(ax.toList==(⟨#[]⟩ : ByteArray).toList))=true then
 (aX v_l [ax]).bind fun b1=>let v_l:(List ByteArray):=b1
 (ed ax).bind fun c2=>let ax:ByteArray:=c2
 some (.inl (v_l,ax))
 else
 some (.inr (v_l,ax))
def zk (ax:ByteArray) : Option ((List ByteArray)) :=
 let v_l:(List ByteArray):=[]
 (ah (oe) ab (v_l,ax)).bind fun r3 =>
 let v_l:=r3.1
 let ax:=r3.2
 some v_l
def oG (v_s:ByteArray) (st:Int×Int×Int) : Option ((Int×Int×Int)⊕((Int×Int×Int)⊕(Bool))) :=
 let oZ:=st.1
 let v_n:=st.2.1
 let v_i:=st.2.2
 if (decide (v_i≤(v_s.size:Int)))=true then
 (if (decide (v_i < (v_s.size:Int)))=true then (lu v_s v_i).bind fun b3=>some (b3 != 46) else some false).bind fun q4=>if q4=true then
 let v_i:Int:=(i64.wrap (v_i + 1))
 some (.inl (oZ,v_n,v_i))
 else
 (JG v_s oZ v_i).bind fun b5=>(vY b5).bind fun c6=>(if (!c6)=true then some true else (if (v_n==0)=true then (JG v_s oZ v_i).bind fun b7=>some (!(b7.toList==(⟨#[114,111,111,116]⟩ : ByteArray).toList)) else some false).bind fun q8=>some q8).bind fun q9=>if q9=true then
 some (.inr (.inr false))
 else
 let oZ:Int:=(i64.wrap (v_i + 1))
 let v_n:Int:=(i64.wrap (v_n + 1))
 let v_i:Int:=(i64.wrap (v_i + 1))
 some (.inl (oZ,v_n,v_i))
 else
 some (.inr (.inl (oZ,v_n,v_i)))
def vX (v_s:ByteArray) : Option (Bool) :=
 let t1:Int:=0
 let t2:Int:=0
 let oZ:Int:=t1
 let v_n:Int:=t2
 let v_i:Int:=0
 (ah (oG v_s) ab (oZ,v_n,v_i)).bind fun r10=>match r10 with
 | .inr m11=>some m11
 | .inl m11 =>
 let oZ:=m11.1
 let v_n:=m11.2.1
 let v_i:=m11.2.2
 some (decide (v_n≤4))
def nN (v_c:ay) (ax:ByteArray) (st:Int) : Option ((Int)⊕((Int)⊕(aE×Bool))) :=
 let v_i:=st
 if (decide (v_i < (v_c.ae.length:Int)))=true then
 (aw v_c.ae v_i).bind fun b1=>if (b1.aO.toList==ax.toList)=true then
 (aw v_c.ae v_i).bind fun b2=>let v_q:aE:=b2
 (aX ([] : (List eE)) v_q.bt).bind fun b3=>let v_q:aE:={ v_q with bt:=b3 }
 some (.inr (.inr (v_q,true)))
 else
 let v_i:Int:=(i64.wrap (v_i + 1))
 some (.inl v_i)
 else
 some (.inr (.inl v_i))
def jJ (v_c:ay) (ax:ByteArray) : Option (aE×Bool) :=
 let v_i:Int:=0
 (ah (nN v_c ax) ab v_i).bind fun r4=>match r4 with
 | .inr m5=>some m5
 | .inl m5 =>
 let v_i:=m5
 some ((⟨⟨#[]⟩,[],0⟩ : aE),false)
def nM (v_c:ay) (ax:ByteArray) (st:(List ByteArray)×Int) : Option (((List ByteArray)×Int)⊕(((List ByteArray)×Int))) :=
 let v_l:=st.1
 let v_i:=st.2
 if (decide (v_i < (v_c.ae.length:Int)))=true then
 (if (!(ax.toList==(⟨#[]⟩ : ByteArray).toList))=true then (aw v_c.ae v_i).bind fun b1=>(ed b1.aO).bind fun c2=>some (c2.toList==ax.toList) else some false).bind fun q3=>if q3=true then
 (aw v_c.ae v_i).bind fun b4=>(aX v_l [b4.aO]).bind fun b5=>let v_l:(List ByteArray):=b5
 let v_i:Int:=(i64.wrap (v_i + 1))
 some (.inl (v_l,v_i))
 else
 let v_i:Int:=(i64.wrap (v_i + 1))
 some (.inl (v_l,v_i))
 else
 some (.inr (v_l,v_i))
def fw (v_c:ay) (ax:ByteArray) : Option ((List ByteArray)) :=
 let v_l:(List ByteArray):=[]
 let v_i:Int:=0
 (ah (nM v_c ax) ab (v_l,v_i)).bind fun r6 =>
 let v_l:=r6.1
 let v_i:=r6.2
 some v_l
def kv (v_c:ay) (ax:ByteArray) : Option (Bool) :=
 (jJ v_c ax).bind fun c1=>let bV:Bool:=c1.2
 (if bV=true then (fw v_c ax).bind fun c2=>some ((c2.length:Int)==0) else some false).bind fun q3=>some q3
def oE (v_c:ay) (st:Int) : Option ((Int)⊕((Int)⊕(Int))) :=
 let v_i:=st
 if (decide (v_i < (v_c.aj.length:Int)))=true then
 (aw v_c.aj v_i).bind fun b4=>(vY b4).bind fun c5=>if (!c5)=true then
 some (.inr (.inr 12))
 else
 let v_i:Int:=(i64.wrap (v_i + 1))
 some (.inl v_i)
 else
 some (.inr (.inl v_i))
def oC (aQ:Int) (v_c:ay) (st:Int) : Option ((Int)⊕((Int)⊕(Int))) :=
 let v_k:=st
 if (decide (v_k < aQ))=true then
 (aw v_c.aj aQ).bind fun b8=>(aw v_c.aj v_k).bind fun b9=>if (b8.toList==b9.toList)=true then
 some (.inr (.inr 7))
 else
 let v_k:Int:=(i64.wrap (v_k + 1))
 some (.inl v_k)
 else
 some (.inr (.inl v_k))
def oD (v_c:ay) (st:Int) : Option ((Int)⊕((Int)⊕(Int))) :=
 let aQ:=st
 if (decide (aQ < (v_c.aj.length:Int)))=true then
 let v_k:Int:=1
 (ah (oC aQ v_c) ab v_k).bind fun r10=>match r10 with
 | .inr m11=>some (.inr (.inr m11))
 | .inl m11 =>
 let v_k:=m11
 let aQ:Int:=(i64.wrap (aQ + 1))
 some (.inl aQ)
 else
 some (.inr (.inl aQ))
def sJ (v_c:ay) : Option (Int) :=
 (if (decide ((v_c.aj.length:Int) < 1))=true then some true else some (decide ((v_c.aj.length:Int) > 3))).bind fun q1=>(if q1=true then some true else some (decide ((v_c.ae.length:Int) > 16))).bind fun q2=>if q2=true then
 some 4
 else
 (aw v_c.aj 0).bind fun b3=>if (!(b3.toList==(⟨#[]⟩ : ByteArray).toList))=true then
 some 12
 else
 let v_i:Int:=1
 (ah (oE v_c) ab v_i).bind fun r6=>match r6 with
 | .inr m7=>some m7
 | .inl m7 =>
 let v_i:=m7
 let aQ:Int:=1
 (ah (oD v_c) ab aQ).bind fun r12=>match r12 with
 | .inr m13=>some m13
 | .inl m13 =>
 let aQ:=m13
 some 0
def lM (v_q:aE) (st:Int) : Option ((Int)⊕((Int)⊕(Int))) :=
 let v_k:=st
 if (decide (v_k < (v_q.bt.length:Int)))=true then
 (aw v_q.bt v_k).bind fun b10=>let v_x:eE:=b10
 (if (decide (v_x.kM < 0))=true then some true else some (decide (v_x.kM > 10000))).bind fun q11=>(if q11=true then some true else some (decide (v_x.sy < 0))).bind fun q12=>(if q12=true then some true else some (decide (v_x.sy > 10000))).bind fun q13=>(if q13=true then some true else some (decide (v_x.kM > v_x.sy))).bind fun q14=>if q14=true then
 some (.inr (.inr 1))
 else
 let v_k:Int:=(i64.wrap (v_k + 1))
 some (.inl v_k)
 else
 some (.inr (.inl v_k))
def u7 (v_c:ay) (v_i:Int) : Option (Int) :=
 (aw v_c.ae v_i).bind fun b1=>let v_q:aE:=b1
 (vX v_q.aO).bind fun c2=>if (!c2)=true then
 some 12
 else
 (if (decide (v_i > 0))=true then (aw v_c.ae (i64.wrap (v_i - 1))).bind fun b3=>some (Op.bytesLess v_q.aO.toList b3.aO.toList||(v_q.aO.toList==b3.aO.toList)) else some false).bind fun q4=>if q4=true then
 some 7
 else
 (ed v_q.aO).bind fun c5=>(jJ v_c c5).bind fun c6=>let bV:Bool:=c6.2
 (if (decide (v_i > 0))=true then some (!bV) else some false).bind fun q7=>if q7=true then
 some 12
 else
 (if (decide (v_q.de < 1))=true then some true else some (decide (v_q.de > 1000000))).bind fun q8=>(if q8=true then some true else some ((v_q.bt.length:Int) != (v_c.aj.length:Int))).bind fun q9=>if q9=true then
 some 1
 else
 let v_k:Int:=0
 (ah (lM v_q) ab v_k).bind fun r15=>match r15 with
 | .inr m16=>some m16
 | .inl m16 =>
 let v_k:=m16
 some 0
def ki (bE:(List ByteArray)) (v_c:ay) (v_k:Int) (st:Int×Int) : Option ((Int×Int)⊕((Int×Int))) :=
 let v_n:=st.1
 let v_j:=st.2
 if (decide (v_j < (bE.length:Int)))=true then
 (aw bE v_j).bind fun b4=>(jJ v_c b4).bind fun c5=>let v_q:aE:=c5.1
 (aw v_q.bt v_k).bind fun b6=>let v_n:Int:=(i64.wrap (v_n + b6.kM))
 let v_j:Int:=(i64.wrap (v_j + 1))
 some (.inl (v_n,v_j))
 else
 some (.inr (v_n,v_j))
def nK (v_c:ay) (bE:(List ByteArray)) (st:Int) : Option ((Int)⊕((Int)⊕(Bool))) :=
 let v_k:=st
 (if (decide (v_k < (v_c.aj.length:Int)))=true then some (decide ((bE.length:Int) > 0)) else some false).bind fun q3=>if q3=true then
 let v_n:Int:=0
 let v_j:Int:=0
 (ah (ki bE v_c v_k) ab (v_n,v_j)).bind fun r7 =>
 let v_n:=r7.1
 let v_j:=r7.2
 if (v_n != 10000)=true then
 some (.inr (.inr false))
 else
 let v_k:Int:=(i64.wrap (v_k + 1))
 some (.inl v_k)
 else
 some (.inr (.inl v_k))
def nL (v_c:ay) (st:Int) : Option ((Int)⊕((Int)⊕(Bool))) :=
 let v_i:=st
 if (decide (v_i < (v_c.ae.length:Int)))=true then
 (aw v_c.ae v_i).bind fun b1=>(fw v_c b1.aO).bind fun c2=>let bE:(List ByteArray):=c2
 let v_k:Int:=0
 (ah (nK v_c bE) ab v_k).bind fun r8=>match r8 with
 | .inr m9=>some (.inr (.inr m9))
 | .inl m9 =>
 let v_k:=m9
 let v_i:Int:=(i64.wrap (v_i + 1))
 some (.inl v_i)
 else
 some (.inr (.inl v_i))
def DH (v_c:ay) : Option (Bool) :=
 let v_i:Int:=0
 (ah (nL v_c) ab v_i).bind fun r10=>match r10 with
 | .inr m11=>some m11
 | .inl m11 =>
 let v_i:=m11
 some true
def qc (v_c:ay) (st:Int) : Option ((Int)⊕((Int)⊕(Int))) :=
 let v_i:=st
 if (decide (v_i < (v_c.ae.length:Int)))=true then
 (u7 v_c v_i).bind fun c5=>if (c5 != 0)=true then
 (u7 v_c v_i).bind fun c6=>some (.inr (.inr c6))
 else
 let v_i:Int:=(i64.wrap (v_i + 1))
 some (.inl v_i)
 else
 some (.inr (.inl v_i))
def qa (v_c:ay) (st:Int) : Option ((Int)⊕((Int)⊕(Int))) :=
 let v_k:=st
 if (decide (v_k < (v_c.aj.length:Int)))=true then
 (aw v_c.ae 0).bind fun b9=>(aw b9.bt v_k).bind fun b10=>if (!((b10.kM==(⟨10000,10000⟩ : eE).kM)&&(b10.sy==(⟨10000,10000⟩ : eE).sy)))=true then
 some (.inr (.inr 13))
 else
 let v_k:Int:=(i64.wrap (v_k + 1))
 some (.inl v_k)
 else
 some (.inr (.inl v_k))
def va (v_c:ay) : Option (Int) :=
 (sJ v_c).bind fun c1=>if (c1 != 0)=true then
 (sJ v_c).bind fun c2=>some c2
 else
 (if ((v_c.ae.length:Int)==0)=true then some true else (aw v_c.ae 0).bind fun b3=>some (!(b3.aO.toList==(⟨#[114,111,111,116]⟩ : ByteArray).toList))).bind fun q4=>if q4=true then
 some 12
 else
 let v_i:Int:=0
 (ah (qc v_c) ab v_i).bind fun r7=>match r7 with
 | .inr m8=>some m8
 | .inl m8 =>
 let v_i:=m8
 let v_k:Int:=0
 (ah (qa v_c) ab v_k).bind fun r11=>match r11 with
 | .inr m12=>some m12
 | .inl m12 =>
 let v_k:=m12
 (DH v_c).bind fun c13=>if (!c13)=true then
 some 13
 else
 some 0
def lK (v_s:aa) (af:Int) (st:au×Int) : Option ((au×Int)⊕((au×Int))) :=
 let v_v:=st.1
 let v_i:=st.2
 if (decide (v_i < (v_s.aD.length:Int)))=true then
 (aw v_s.aD v_i).bind fun b1=>(if b1.fUp=true then (aw v_s.aD v_i).bind fun b2=>some (b2.aA==af) else some false).bind fun q3=>if q3=true then
 (aw v_s.aD v_i).bind fun b4=>(df v_v b4.jq).bind fun c5=>let v_v:au:=c5
 let v_i:Int:=(i64.wrap (v_i + 1))
 some (.inl (v_v,v_i))
 else
 let v_i:Int:=(i64.wrap (v_i + 1))
 some (.inl (v_v,v_i))
 else
 some (.inr (v_v,v_i))
def fv (v_s:aa) (af:Int) : Option (au) :=
 let v_v:au:=(⟨0,0⟩ : au)
 let v_i:Int:=0
 (ah (lK v_s af) ab (v_v,v_i)).bind fun r6 =>
 let v_v:=r6.1
 let v_i:=r6.2
 some v_v
def nH (v_s:aa) (af:Int) (st:au×Int) : Option ((au×Int)⊕((au×Int))) :=
 let v_v:=st.1
 let v_i:=st.2
 if (decide (v_i < (v_s.al.length:Int)))=true then
 (aw v_s.al v_i).bind fun b1=>let v_p:ai:=b1
 (if (v_p.aA==af)=true then some (decide (v_p.aB≤v_s.cx)) else some false).bind fun q2=>(if q2=true then some (decide (v_s.cx < v_p.aP)) else some false).bind fun q3=>if q3=true then
 (df v_v v_p.a8).bind fun c4=>let v_v:au:=c4
 let v_i:Int:=(i64.wrap (v_i + 1))
 some (.inl (v_v,v_i))
 else
 let v_i:Int:=(i64.wrap (v_i + 1))
 some (.inl (v_v,v_i))
 else
 some (.inr (v_v,v_i))
def tC (v_s:aa) (af:Int) : Option (au) :=
 let v_v:au:=(⟨0,0⟩ : au)
 let v_i:Int:=0
 (ah (nH v_s af) ab (v_v,v_i)).bind fun r5 =>
 let v_v:=r5.1
 let v_i:=r5.2
 some v_v
def ry (v_s:aa) (jk:(List ByteArray)) (af:Int) (ca:Bool) (st:au×Int) : Option ((au×Int)⊕((au×Int))) :=
 let v_v:=st.1
 let v_i:=st.2
 if (decide (v_i≥0))=true then
 (aw jk v_i).bind fun b6=>(jJ v_s.bG b6).bind fun c7=>let v_q:aE:=c7.1
 (aw v_q.bt af).bind fun b8=>let AD:Int:=b8.sy
 (if ca=true then
 (aw v_q.bt af).bind fun b10=>let AD:Int:=b10.kM
 some AD
 else
 some AD).bind fun j9=>let AD:=j9
 (vd v_v AD).bind fun c11=>let v_v:au:=c11.1
 let v_i:Int:=(i64.wrap (v_i - 1))
 some (.inl (v_v,v_i))
 else
 some (.inr (v_v,v_i))
def tB (v_s:aa) (ax:ByteArray) (af:Int) (ca:Bool) : Option (au) :=
 (jJ v_s.bG ax).bind fun c1=>let bV:Bool:=c1.2
 (if (!bV)=true then some true else some (decide (af < 0))).bind fun q2=>(if q2=true then some true else some (decide (af≥(v_s.bG.aj.length:Int)))).bind fun q3=>if q3=true then
 some (⟨0,0⟩ : au)
 else
 (fv v_s af).bind fun c4=>let v_v:au:=c4
 (zk ax).bind fun c5=>let jk:(List ByteArray):=c5
 let v_i:Int:=(i64.wrap ((jk.length:Int) - 2))
 (ah (ry v_s jk af ca) ab (v_v,v_i)).bind fun r12 =>
 let v_v:=r12.1
 let v_i:=r12.2
 some v_v
def lL (v_s:aa) (ax:ByteArray) (af:Int) : Option (au) :=
 (tB v_s ax af true).bind fun c1=>some c1
def vV (v_s:aa) (ax:ByteArray) (af:Int) : Option (au) :=
 (tB v_s ax af false).bind fun c1=>some c1
def DG (v_s:aa) (ax:ByteArray) (af:Int) : Option (au) :=
 (jJ v_s.bG ax).bind fun c1=>let v_q:aE:=c1.1
 let bV:Bool:=c1.2
 if (!bV)=true then
 some (⟨0,0⟩ : au)
 else
 (lL v_s ax af).bind fun c2=>(vd c2 v_q.de).bind fun c3=>let v_v:au:=c3.1
 some v_v
def pk (v_l:(List ai)) (af:Int) (v_t:Int) (st:au×Int) : Option ((au×Int)⊕((au×Int))) :=
 let v_v:=st.1
 let v_i:=st.2
 if (decide (v_i < (v_l.length:Int)))=true then
 (aw v_l v_i).bind fun b1=>(if (b1.aA==af)=true then (aw v_l v_i).bind fun b2=>some (decide (b2.aB≤v_t)) else some false).bind fun q3=>(if q3=true then (aw v_l v_i).bind fun b4=>some (decide (v_t < b4.aP)) else some false).bind fun q5=>if q5=true then
 (aw v_l v_i).bind fun b6=>(df v_v b6.a8).bind fun c7=>let v_v:au:=c7
 let v_i:Int:=(i64.wrap (v_i + 1))
 some (.inl (v_v,v_i))
 else
 let v_i:Int:=(i64.wrap (v_i + 1))
 some (.inl (v_v,v_i))
 else
 some (.inr (v_v,v_i))
def rJ (v_l:(List ai)) (af:Int) (v_t:Int) : Option (au) :=
 let v_v:au:=(⟨0,0⟩ : au)
 let v_i:Int:=0
 (ah (pk v_l af v_t) ab (v_v,v_i)).bind fun r8 =>
 let v_v:=r8.1
 let v_i:=r8.2
 some v_v
def vk (v_n:Int) : Option (Bool) :=
 (if (decide (v_n≥0))=true then some (decide (v_n≤1073741824)) else some false).bind fun q1=>some q1
def lX (v_l:(List ai)) (v_t:Int) (gZ:Int) (v_p:ai) (fY:au) (st:Int) : Option ((Int)⊕((Int)⊕(Bool))) :=
 let v_i:=st
 if (decide (v_i < (v_l.length:Int)))=true then
 (aw v_l v_i).bind fun b4=>let v_u:Int:=b4.aB
 (if (decide (v_u > v_t))=true then some (decide ((i64.wrap (v_u - v_t)) < gZ)) else some false).bind fun q5=>(if q5=true then (rJ v_l v_p.aA v_u).bind fun c6=>(df c6 v_p.a8).bind fun c7=>(f4 c7 fY).bind fun c8=>some (!c8) else some false).bind fun q9=>if q9=true then
 some (.inr (.inr false))
 else
 let v_i:Int:=(i64.wrap (v_i + 1))
 some (.inl v_i)
 else
 some (.inr (.inl v_i))
def ol (v_l:(List ai)) (fY:au) (v_p:ai) (v_t:Int) (gZ:Int) : Option (Bool) :=
 (rJ v_l v_p.aA v_t).bind fun c1=>(df c1 v_p.a8).bind fun c2=>(f4 c2 fY).bind fun c3=>if (!c3)=true then
 some false
 else
 let v_i:Int:=0
 (ah (lX v_l v_t gZ v_p fY) ab v_i).bind fun r10=>match r10 with
 | .inr m11=>some m11
 | .inl m11 =>
 let v_i:=m11
 some true
def iJ (v_l:(List ai)) (v_p:ai) (gZ:Int) (fY:au) (st:Int×Int) : Option ((Int×Int)⊕((Int×Int))) :=
 let cN:=st.1
 let v_i:=st.2
 if (decide (v_i < (v_l.length:Int)))=true then
 let v_t:Int:=v_p.aB
 (if (decide (v_i≥0))=true then
 (aw v_l v_i).bind fun b11=>let v_t:Int:=b11.aP
 some v_t
 else
 some v_t).bind fun j10=>let v_t:=j10
 (if (decide (v_t≥v_p.aB))=true then some (decide (v_t≤1000000)) else some false).bind fun q12=>(if q12=true then some (decide ((i64.wrap (v_t + gZ))≤v_p.aP)) else some false).bind fun q13=>(if q13=true then (if (decide (cN < 0))=true then some true else some (decide (v_t < cN))).bind fun q14=>some q14 else some false).bind fun q15=>(if q15=true then (ol v_l fY v_p v_t gZ).bind fun c16=>some c16 else some false).bind fun q17=>if q17=true then
 let cN:Int:=v_t
 let v_i:Int:=(i64.wrap (v_i + 1))
 some (.inl (cN,v_i))
 else
 let v_i:Int:=(i64.wrap (v_i + 1))
 some (.inl (cN,v_i))
 else
 some (.inr (cN,v_i))
def nj (v_l:(List ai)) (fY:au) (v_p:ai) (gZ:Int) : Option (Int×Int) :=
 (if (decide (gZ < 1))=true then some true else some (decide (gZ > 1000))).bind fun q1=>(if q1=true then some true else some (decide (v_p.aB < 0))).bind fun q2=>(if q2=true then some true else some (decide (v_p.aB > 1000000))).bind fun q3=>(if q3=true then some true else some (decide (v_p.aP < 0))).bind fun q4=>(if q4=true then some true else some (decide (v_p.aP > 1000000))).bind fun q5=>(if q5=true then some true else (vk v_p.a8.bg).bind fun c6=>some (!c6)).bind fun q7=>(if q7=true then some true else (vk v_p.a8.aI).bind fun c8=>some (!c8)).bind fun q9=>if q9=true then
 some (0,1)
 else
 let cN:Int:=(-1)
 let v_i:Int:=(-1)
 (ah (iJ v_l v_p gZ fY) ab (cN,v_i)).bind fun r18 =>
 let cN:=r18.1
 let v_i:=r18.2
 if (decide (cN < 0))=true then
 some (0,16)
 else
 some (cN,0)
def fV (v_s:aa) (v_p:ai) (st:Int×Int) : Option ((Int×Int)⊕((Int×Int)⊕(aa×Int×Int))) :=
 let v_k:=st.1
 let v_i:=st.2
 if (decide (v_i < (v_s.al.length:Int)))=true then
 (aw v_s.al v_i).bind fun b5=>if (b5.fId==v_p.fId)=true then
 some (.inr (.inr (v_s,0,7)))
 else
 (aw v_s.al v_i).bind fun b6=>if (decide (b6.fId < v_p.fId))=true then
 let v_k:Int:=(i64.wrap (v_i + 1))
 let v_i:Int:=(i64.wrap (v_i + 1))
 some (.inl (v_k,v_i))
 else
 let v_i:Int:=(i64.wrap (v_i + 1))
 some (.inl (v_k,v_i))
 else
 some (.inr (.inl (v_k,v_i)))
def nQ (v_s:aa) (v_p:ai) (gZ:Int) : Option (aa×Int×Int) :=
 (if (decide (v_p.fId < 0))=true then some true else some (decide (v_p.fId > 999))).bind fun q1=>(if q1=true then some true else some (decide (v_p.aA < 0))).bind fun q2=>(if q2=true then some true else some (decide (v_p.aA≥(v_s.bG.aj.length:Int)))).bind fun q3=>(if q3=true then some true else some ((v_p.a8.bg==(⟨0,0⟩ : au).bg)&&(v_p.a8.aI==(⟨0,0⟩ : au).aI))).bind fun q4=>if q4=true then
 some (v_s,0,1)
 else
 let v_k:Int:=0
 let v_i:Int:=0
 (ah (fV v_s v_p) ab (v_k,v_i)).bind fun r7=>match r7 with
 | .inr m8=>some m8
 | .inl m8 =>
 let v_k:=m8.1
 let v_i:=m8.2
 if (decide ((v_s.al.length:Int)≥12))=true then
 some (v_s,0,4)
 else
 if (decide (v_p.aB < v_s.cx))=true then
 some (v_s,0,15)
 else
 (fv v_s v_p.aA).bind fun c9=>(nj v_s.al c9 v_p gZ).bind fun c10=>let v_t:Int:=c10.1
 let v_e:Int:=c10.2
 if (v_e != 0)=true then
 some (v_s,0,v_e)
 else
 (hiO v_s.al v_k).bind fun b11=>(aX ([] : (List ai)) b11).bind fun b12=>let v_l:(List ai):=b12
 (aX v_l [(⟨v_p.fId,v_p.aA,v_t,(i64.wrap (v_t + gZ)),v_p.a8⟩ : ai)]).bind fun b13=>let v_l:(List ai):=b13
 (loO v_s.al v_k).bind fun b14=>(aX v_l b14).bind fun b15=>let v_s:aa:={ v_s with al:=b15 }
 some (v_s,v_t,0)
def lY (v_s:aa) (bw:Int) (st:(List ai)×Int) : Option (((List ai)×Int)⊕(((List ai)×Int))) :=
 let v_l:=st.1
 let v_i:=st.2
 if (decide (v_i < (v_s.al.length:Int)))=true then
 (aw v_s.al v_i).bind fun b1=>if (b1.fId != bw)=true then
 (aw v_s.al v_i).bind fun b2=>(aX v_l [b2]).bind fun b3=>let v_l:(List ai):=b3
 let v_i:Int:=(i64.wrap (v_i + 1))
 some (.inl (v_l,v_i))
 else
 let v_i:Int:=(i64.wrap (v_i + 1))
 some (.inl (v_l,v_i))
 else
 some (.inr (v_l,v_i))
def kl (v_s:aa) (bw:Int) : Option (aa×Int) :=
 let v_l:(List ai):=[]
 let v_i:Int:=0
 (ah (lY v_s bw) ab (v_l,v_i)).bind fun r4 =>
 let v_l:=r4.1
 let v_i:=r4.2
 if ((v_l.length:Int)==(v_s.al.length:Int))=true then
 some (v_s,2)
 else
 let v_s:aa:={ v_s with al:=v_l }
 some (v_s,0)
def Vk:Ent:=⟨[.lf (.int .i64)],[.lf (.bool)],fun x=>zw x.1⟩
theorem Vj:EOk prog 215 Vk:=aL .n [] [] [] .nil Tryz.mixed Tryz.func215
def Yd:Ent:=⟨[.ag 0],[.lf (.bool)],fun x=>tG x.1⟩
theorem NL:EOk prog 212 Yd:=aL .n [] [] [] (.cons Vj .nil) Tryz.mixed Tryz.func212
def Vp:Ent:=⟨[.ag 0,.ag 0],[.lf (.bool)],fun x=>f4 x.1 x.2.1⟩
theorem pB:EOk prog 116 Vp:=aL .n [] [] [] .nil Tryz.mixed Tryz.func116
def Vo:Ent:=⟨[.ag 0,.ag 0],[.ag 0],fun x=>v6 x.1 x.2.1⟩
theorem Ji:EOk prog 195 Vo:=aL .n [] [4] [] .nil Tryz.mixed Tryz.func195
def Vi:Ent:=⟨[.lf (.int .i64),.lf (.int .i64)],[.lf (.int .i64),.lf (.int .i64)],fun x=>zv x.1 x.2.1⟩
theorem Vh:EOk prog 219 Vi:=aL .n [] [] [] .nil Tryz.mixed Tryz.func219
def QP:Ent:=⟨[.ag 17,.ag 17],[.lf (.int .i64)],fun x=>qk x.1 x.2.1⟩
theorem Gf:EOk prog 217 QP:=aL (.s .n (.s (.s .n (.j [.box 2 268 17 []] .n)) (.s (.s .n (.j [.box 3 268 17 []] .n)) .n))) [] [] [] (.cons Vh .nil) Tryz.mixed Tryz.func217
def Vm:Ent:=⟨[.ag 0,.ag 0],[.ag 17],fun x=>zx x.1 x.2.1⟩
theorem Vl:EOk prog 218 Vm:=aL .n [] [4] [] (.cons Gf .nil) Tryz.mixed Tryz.func218
def QT:Ent:=⟨[.ag 0,.ag 0,.ag 0,.ag 0],[.lf (.int .i64)],fun x=>zy x.1 x.2.1 x.2.2.1 x.2.2.2.1⟩
theorem QS:EOk prog 216 QT:=aL .n [] [] [] (.cons NL (.cons Vl (.cons Gf .nil))) Tryz.mixed Tryz.func216
def Vn:Ent:=⟨[.ag 0,.ag 0],[.ag 0],fun x=>df x.1 x.2.1⟩
theorem iX:EOk prog 18 Vn:=aL .n [] [4] [] .nil Tryz.mixed Tryz.func18
def QN:Ent:=⟨[.lf (.int .i64),.lf (.int .i64)],[.lf (.int .i64)],fun x=>vb x.1 x.2.1⟩
theorem QM:EOk prog 213 QN:=aL .n [] [] [] .nil Tryz.mixed Tryz.func213
def QR:Ent:=⟨[.ag 0,.lf (.int .i64)],[.ag 0,.lf (.int .i64)],fun x=>vd x.1 x.2.1⟩
theorem Gg:EOk prog 209 QR:=aL .n [] [4] [] (.cons NL (.cons QM .nil)) Tryz.mixed Tryz.func209
def Vb:Ent:=⟨[.lf (.str)],[.lf (.bool)],fun x=>vY x.1⟩
theorem Jd:EOk prog 156 Vb:=aL (.s .n (.s .n (.s (.s .n (.s (.lp [.leaf 3 (.int .i64)] 0 true .n) .n)) .n))) [] [] [] .nil Tryz.mixed Tryz.func156
def Nz:Ent:=⟨[.ag 5],[.lf (.int .i64)],fun x=>sJ x.1⟩
theorem Ny:EOk prog 127 Nz:=aL (.s .n (.s .n (.s .n (.s (.s .n (.s (.lp [.leaf 3 (.int .i64)] 0 true .n) .n)) (.s (.s .n (.s (.lp [.leaf 4 (.int .i64)] 2 true (.s .n (.s (.s (.s .n (.s (.lp [.leaf 5 (.int .i64)] 4 true .n) .n)) .n) .n))) .n)) .n))))) [] [] [] (.cons Jd .nil) Tryz.mixed Tryz.func127
def NB:Ent:=⟨[.lf (.str)],[.lf (.bool)],fun x=>vX x.1⟩
theorem NA:EOk prog 157 NB:=aL (.s .n (.s .n (.s (.s .n (.s (.lp [.leaf 3 (.int .i64),.leaf 4 (.int .i64),.leaf 5 (.int .i64)] 0 true .n) .n)) .n))) [] [] [] (.cons Jd .nil) Tryz.mixed Tryz.func157
def Qx:Ent:=⟨[.lf (.str)],[.lf (.str)],fun x=>ed x.1⟩
theorem xR:EOk prog 108 Qx:=aL (.s .n (.s .n (.s (.s (.lp [.leaf 3 (.int .i64)] 0 false .n) .n) .n))) [] [] [] .nil Tryz.mixed Tryz.func108
def Ve:Ent:=⟨[.ag 5,.lf (.str)],[.ag 4,.lf (.bool)],fun x=>jJ x.1 x.2.1⟩
theorem sM:EOk prog 130 Ve:=aL (.s .n (.s (.s .n (.s (.lp [.leaf 6 (.int .i64)] 0 true .n) .n)) .n)) [] [4] [] .nil Tryz.mixed Tryz.func130
def Qw:Ent:=⟨[.ag 5,.lf (.int .i64)],[.lf (.int .i64)],fun x=>u7 x.1 x.2.1⟩
theorem Qv:EOk prog 128 Qw:=aL (.s .n (.s .n (.s .n (.s .n (.s .n (.s .n (.s .n (.s (.s .n (.s (.lp [.leaf 8 (.int .i64)] 0 true .n) .n)) .n)))))))) [] [] [] (.cons NA (.cons xR (.cons sM .nil))) Tryz.mixed Tryz.func128
def Je:Ent:=⟨[.ag 5,.lf (.str)],[.lf (.sl (.str))],fun x=>fw x.1 x.2.1⟩
theorem vZ:EOk prog 52 Je:=aL (.s .n (.s .n (.s (.s .n (.s (.lp [.row 5 5 9 1 (.str),.leaf 6 (.int .i64)] 0 false .n) .n)) .n))) [] [] [] (.cons xR .nil) Tryz.mixed Tryz.func52
def Va:Ent:=⟨[.ag 5],[.lf (.bool)],fun x=>DH x.1⟩
theorem U9:EOk prog 129 Va:=aL (.s .n (.s (.s .n (.s (.lp [.leaf 3 (.int .i64)] 0 true (.s .n (.s (.s (.s .n (.s .n (.s (.lp [.leaf 5 (.int .i64)] 2 true (.s .n (.s (.s (.s .n (.s (.s .n (.s (.lp [.leaf 6 (.int .i64),.leaf 7 (.int .i64)] 4 false .n) .n)) .n)) .n) .n))) .n))) .n) .n))) .n)) .n)) [] [] [] (.cons vZ (.cons sM .nil)) Tryz.mixed Tryz.func129
def Qz:Ent:=⟨[.ag 5],[.lf (.int .i64)],fun x=>va x.1⟩
theorem Qy:EOk prog 79 Qz:=aL (.s .n (.s .n (.s .n (.s (.s .n (.s (.lp [.leaf 3 (.int .i64)] 0 true .n) .n)) (.s (.s .n (.s (.lp [.leaf 4 (.int .i64)] 2 true .n) .n)) .n))))) [] [] [] (.cons Ny (.cons Qv (.cons U9 .nil))) Tryz.mixed Tryz.func79
def Vc:Ent:=⟨[.ag 5,.lf (.str)],[.lf (.bool)],fun x=>kv x.1 x.2.1⟩
theorem BG:EOk prog 81 Vc:=aL .n [] [] [] (.cons sM (.cons vZ .nil)) Tryz.mixed Tryz.func81
def ZK:Ent:=⟨[.lf (.str)],[.lf (.sl (.str))],fun x=>zk x.1⟩
theorem KM:EOk prog 197 ZK:=aL (.s .n (.s .n (.s (.s (.lp [.row 3 3 9 1 (.str),.leaf 0 (.str)] 0 false .n) .n) .n))) [] [] [] (.cons xR .nil) Tryz.mixed Tryz.func197
def U8:Ent:=⟨[.ag 12,.lf (.int .i64)],[.ag 0],fun x=>tC x.1 x.2.1⟩
theorem U7:EOk prog 199 U8:=aL (.s .n (.s .n (.s (.s .n (.s (.lp [.box 5 27 0 [],.leaf 6 (.int .i64)] 0 false .n) .n)) .n))) [] [4] [] (.cons iX .nil) Tryz.mixed Tryz.func199
def Qr:Ent:=⟨[.ag 12,.lf (.int .i64)],[.ag 0],fun x=>fv x.1 x.2.1⟩
theorem p8:EOk prog 30 Qr:=aL (.s .n (.s .n (.s (.s .n (.s (.lp [.box 5 27 0 [],.leaf 6 (.int .i64)] 0 false .n) .n)) .n))) [] [4] [] (.cons iX .nil) Tryz.mixed Tryz.func30
def U4:Ent:=⟨[.ag 12,.lf (.str),.lf (.int .i64),.lf (.bool)],[.ag 0],fun x=>tB x.1 x.2.1 x.2.2.1 x.2.2.2.1⟩
theorem Ja:EOk prog 207 U4:=aL (.s .n (.s .n (.s .n (.s .n (.s .n (.s (.s .n (.s (.lp [.box 11 27 0 [],.leaf 13 (.int .i64)] 0 false (.s .n (.s (.s (.s .n (.s .n (.s (.s .n (.j [.leaf 16 (.int .i64)] .n)) .n))) .n) .n))) .n)) .n)))))) [] [8] [] (.cons sM (.cons p8 (.cons KM (.cons Gg .nil)))) Tryz.mixed Tryz.func207
def F8:Ent:=⟨[.ag 12,.lf (.str),.lf (.int .i64)],[.ag 0],fun x=>lL x.1 x.2.1 x.2.2.1⟩
theorem p9:EOk prog 188 F8:=aL .n [] [6] [] (.cons Ja .nil) Tryz.mixed Tryz.func188
def Jc:Ent:=⟨[.ag 12,.lf (.str),.lf (.int .i64)],[.ag 0],fun x=>vV x.1 x.2.1 x.2.2.1⟩
theorem Jb:EOk prog 198 Jc:=aL .n [] [6] [] (.cons Ja .nil) Tryz.mixed Tryz.func198
def U6:Ent:=⟨[.ag 12,.lf (.str),.lf (.int .i64)],[.ag 0],fun x=>DG x.1 x.2.1 x.2.2.1⟩
theorem U5:EOk prog 194 U6:=aL .n [] [6] [] (.cons sM (.cons p9 (.cons Gg .nil))) Tryz.mixed Tryz.func194
def Rk:Ent:=⟨[.lf (.int .i64)],[.lf (.bool)],fun x=>vk x.1⟩
theorem Rj:EOk prog 69 Rk:=aL .n [] [] [] .nil Tryz.mixed Tryz.func69
def Yh:Ent:=⟨[.lf (.sl (.st 8)),.lf (.int .i64),.lf (.int .i64)],[.ag 0],fun x=>rJ x.1 x.2.1 x.2.2.1⟩
theorem Yg:EOk prog 117 Yh:=aL (.s .n (.s .n (.s (.s .n (.s (.lp [.box 7 27 0 [],.leaf 8 (.int .i64)] 0 false .n) .n)) .n))) [] [6] [] (.cons iX .nil) Tryz.mixed Tryz.func117
def Rm:Ent:=⟨[.lf (.sl (.st 8)),.ag 0,.ag 8,.lf (.int .i64),.lf (.int .i64)],[.lf (.bool)],fun x=>ol x.1 x.2.1 x.2.2.1 x.2.2.2.1 x.2.2.2.2.1⟩
theorem Rl:EOk prog 70 Rm:=aL (.s .n (.s .n (.s (.s .n (.s (.lp [.leaf 11 (.int .i64)] 0 true .n) .n)) .n))) [] [] [] (.cons Yg (.cons iX (.cons pB .nil))) Tryz.mixed Tryz.func70
def N8:Ent:=⟨[.lf (.sl (.st 8)),.ag 0,.ag 8,.lf (.int .i64)],[.lf (.int .i64),.lf (.int .i64)],fun x=>nj x.1 x.2.1 x.2.2.1 x.2.2.2.1⟩
theorem N7:EOk prog 29 N8:=aL (.s .n (.s .n (.s .n (.s (.s .n (.s (.lp [.leaf 10 (.int .i64),.leaf 11 (.int .i64)] 0 false (.s .n (.s (.s (.s .n (.s (.s .n (.j [.leaf 12 (.int .i64)] .n)) .n)) .n) .n))) .n)) .n)))) [] [] [] (.cons Rj (.cons Rl .nil)) Tryz.mixed Tryz.func29
def Jn:Ent:=⟨[.ag 12,.ag 8,.lf (.int .i64)],[.ag 12,.lf (.int .i64),.lf (.int .i64)],fun x=>nQ x.1 x.2.1 x.2.2.1⟩
theorem Jm:EOk prog 11 Jn:=aL (.s .n (.s .n (.s .n (.s (.s .n (.s (.lp [.leaf 9 (.int .i64),.leaf 10 (.int .i64)] 0 true .n) .n)) .n)))) [] [6] [] (.cons p8 (.cons N7 .nil)) Tryz.mixed Tryz.func11
def Gp:Ent:=⟨[.ag 12,.lf (.int .i64)],[.ag 12,.lf (.int .i64)],fun x=>kl x.1 x.2.1⟩
theorem Gn:EOk prog 14 Gp:=aL (.s .n (.s .n (.s (.s .n (.s (.lp [.row 6 6 29 6 (.st 8),.leaf 7 (.int .i64)] 0 false .n) .n)) .n))) [] [4] [] .nil Tryz.mixed Tryz.func14
noncomputable def vE (x:cE []) : Option (bl [.lf (.bool)]):=jm ⟨prog,[(19,vB)],23,[.lf (.bool)],[.tmp 0],[],[],[]⟩ ((Tryz.f5).body.getD .skip) (.n) [] x
noncomputable def OK:Ent:=⟨[],[.lf (.bool)],vE⟩
theorem OJ:bR prog 5 [] [.lf (.bool)] vE:=cF (n:=23) (.cons (vA) (.nil)) Tryz.mixed Tryz.func5 rfl (by kernel_rfl) rfl rfl rfl (fun _=>rfl)
noncomputable def tR (x:cE [.lf (.int .i64),.lf (.int .i64)]) : Option (bl [.lf (.int .i64)]):=jm ⟨prog,[],15,[.lf (.int .i64)],[.tmp 4],[],[],[]⟩ ((Tryz.f9).body.getD .skip) (.n) [.lf (.int .i64),.lf (.int .i64)] x
noncomputable def Ay:Ent:=⟨[.lf (.int .i64),.lf (.int .i64)],[.lf (.int .i64)],tR⟩
theorem Ax:bR prog 9 [.lf (.int .i64),.lf (.int .i64)] [.lf (.int .i64)] tR:=cF (n:=15) (.nil) Tryz.mixed Tryz.func9 rfl (by kernel_rfl) rfl rfl rfl (fun _=>rfl)
noncomputable def yk (x:cE [.ag 8]) : Option (bl [.ag 8]):=jm ⟨prog,[(9,Ay)],30,[.ag 8],[.cell 2 29],[],[2],[]⟩ ((Tryz.f8).body.getD .skip) (.n) [.ag 8] x
noncomputable def RT:Ent:=⟨[.ag 8],[.ag 8],yk⟩
theorem RS:bR prog 8 [.ag 8] [.ag 8] yk:=cF (n:=30) (.cons (Ax) (.nil)) Tryz.mixed Tryz.func8 rfl (by kernel_rfl) rfl rfl rfl (fun _=>rfl)
theorem lx {w w':World} {base:Nat} {e:TypeId} {k:Nat} {v:Value} {n:Nat} {xs:List Value} (h:w.ownsRow base e k v n xs) (x:Ext w w') : w'.ownsRow base e k v n xs:=by
 refine ⟨h.1,?_⟩
 rcases h.2 with hn | ⟨g,cap,cur,rfl,hb,hg,hr⟩
 ·exact .inl hn
 ·exact .inr ⟨g,cap,cur,rfl,hb,(x.block g (Array.getElem?_eq_some_iff.1 hg).1).trans hg,hr⟩
def RdK (k:Nat) (w:World) (v:Value) (n:Nat) (xs:List Value) : Prop :=
 ∃ A c,v = .slice A n c∧n≤c∧c≤maxLen∧xs.length=n * k∧(0 < xs.length→∃ a,A=some a∧a.block < w.heap.size∧∀ j u,xs[j]? = some u→w.cell? (a.add j)=some u)
theorem RdK.of_own {k:Nat} {w:World} {base:Nat} {e:TypeId} {v:Value} {n:Nat} {xs:List Value} (h:w.ownsRow base e k v n xs) : RdK k w v n xs:=by
 have hl:=h.1
 rcases h.2 with ⟨rfl,h0⟩ | ⟨g,cap,cur,rfl,_,hg,hc,hm,_⟩
 ·subst h0; exact ⟨none,0,rfl,Nat.le_refl _,by simp [maxLen],hl,fun hn=>by omega⟩
 ·exact ⟨_,cap,rfl,hc,hm,hl,fun hn=>⟨⟨g,0,none⟩,rfl,(Array.getElem?_eq_some_iff.1 hg).1,h.cells (g:=g) rfl⟩⟩
theorem cD {w:World} {B e k n:Nat} {v:Value} {xs:List Value} (h:w.ownsRow B e k v n xs) : ∃ A c,v = .slice A n c∧n≤c∧c≤9223372036854775807:=by
 rcases h.2 with ⟨rfl,h0⟩ | ⟨g,cap,cur,rfl,_,_,hc,hm,_⟩
 ·subst h0; exact ⟨none,0,rfl,Nat.le_refl _,by omega⟩
 ·unfold maxLen at hm; exact ⟨_,cap,rfl,hc,by omega⟩
theorem FP (w:World) (x y z:Value) (t:TypeId) : ∀ j u,[x,y,z][j]? = some u→(w.alloc (.cells #[x,y,z] t)).cell? ((⟨w.heap.size,0,none⟩ : Addr).add j)=some u:=by
 intro j u hu
 have hadd:(⟨w.heap.size,0,none⟩ : Addr).add j=⟨w.heap.size,j,none⟩:=by unfold Addr.add; split <;> simp_all
 rw [hadd,cell_of_row _ w.heap.size j _ t (0,0) (heap_alloc_new w _),← Array.getElem?_toList]
 exact hu
theorem aap {w:World} {B B' e e' k k' n n':Nat} {v v':Value} {xs xs':List Value} (h:w.ownsRow B e k v n xs) (h':w.ownsRow B' e' k' v' n' xs') (he:e≠e') : v.ownBlock=none∨v.ownBlock≠v'.ownBlock:=by
 rcases h.2 with ⟨rfl,_⟩ | ⟨g,cap,cur,rfl,_,hg,_⟩
 ·exact .inl rfl
 ·refine .inr fun e1=>?_
  rcases h'.2 with ⟨rfl,_⟩ | ⟨g',cap',cur',rfl,_,hg',_⟩
  ·cases e1
  ·simp [Value.ownBlock] at e1
   subst e1
   rw [hg] at hg'
   injection hg' with hg'
   injection hg' with _ h2
   exact he h2
theorem fO (W:World) (B:Nat) (e:TypeId) (k:Nat) (h:B≤W.heap.size) : (W.alloc (.cells #[] e)).ownsRow B e k (.slice (some ⟨W.heap.size,0,none⟩) 0 0) 0 [] :=
 ⟨by simp,.inr ⟨W.heap.size,0,#[],rfl,h,heap_alloc_new W _,Nat.le_refl _,by simp [maxLen],by simp,by simp⟩⟩
section
section
variable {P:Program} (w:World)
end
end
def gW (k:Nat) (t:TypeId) (n:Nat) (xs:List Value) (w:World) (e:Ending) (w':World) : Prop:=∃ A' c',e = .returned (.slice A' n c')∧w'.ownsRow w.heap.size t k (.slice A' n c') n xs∧Ext w w'
theorem Tryz.infoClNode:(prog.info? 57).map (fun i=>(i.zero,i.size,i.bytes))=some (some (.agg #[.int .i64 0,.int .i64 0,.int .i64 0,.int .i64 0,.int .i64 0,.int .i64 0,.int .i64 0,.bool false]),8,64):=by kernel_rfl
theorem He (v:Value) (n:Nat) (xs:List Value) (w:World) (h:RdK 8 w v n xs) (h1:∀ u∈xs,u.oneCell' = true) (h2:n≤1000000) :
  Calls prog 59 #[v] w (gW 8 57 n xs w):=by
 obtain ⟨c0,hc,hcz0,hcz1,hcz2⟩:=info_parts Tryz.infoClNode
 obtain ⟨A,c,rfl,hc1,hc2,hl,hcell⟩:=h
 have hn:=fun (W:World) (A:Option Addr) (n c n' c':Nat)=>Lib.run_eql_slice_nil (P:=prog) W 35 57 A n c n' c' Tryz.underlying35
 have HL:=Lib.hid hl
 have H1:=Lib.hid h1
 cases A with
 | none =>
  have hx:xs = []:=by
   rcases xs with _ | ⟨x,xs⟩
   ·rfl
   ·obtain ⟨a,e,_⟩:=hcell (by simp)
    cases e
  subst hx
  have hn0:n=0:=by simp at hl; omega
  subst hn0
  clear hcell hl
  go_enter Tryz.func59,Tryz.ntmps59
  go_wp2
  go_ret
  exact ⟨none,0,rfl,World.ownsRow_nil _ _ _ 8,Ext.refl _⟩
 | some a =>
  have HO:=Lib.hid (fO w w.heap.size 57 8 (Nat.le_refl _))
  have HCS:=Lib.hid (show ∀ (j:Nat) (u:Value),xs[j]? = some u→(w.alloc (.cells #[] 57)).cell? (a.add j)=some u from fun j u hu=>by
   obtain ⟨a',e,hb,hcs⟩:=hcell (by have:=(zg.1 hu).1; omega)
   obtain rfl:a=a':=Option.some.inj e
   exact (Below.cell (aU w _) (p:=a.add j) (by rw [da]; exact hb)).trans (hcs j u hu))
  clear hcell hl h1
  go_enter Tryz.func59,Tryz.ntmps59
  go_wp2_with (at_builtin; go_loud (refine wpList_append_own_at _ rfl (.tmp 5) (.tmp 6) 35 rfl w.heap.size 57 c0 _ 8 64 Tryz.underlying35 hc hcz0 hcz1 hcz2 rfl (by decide) _ 0 [] rfl HO.out a n c xs rfl HL.out HCS.out H1.out ?c3 ?c4 ?c5 ?_))
  case c3=>simp [maxLen]; omega
  case c4=>omega
  case c5=>simp
  intro v' w3 ho3 hg3 _ hat3
  have HE:=Lib.hid ((aU w (.cells #[] 57)).trans' (cL hg3 (by simp) (fun k hk=>by simp [Value.ownBlock] at hk; omega)))
  have HO3:=Lib.hid ho3
  obtain ⟨A3,c3,rfl,_,_⟩:=cD ho3
  clear ho3 hg3 hat3
  go_wp2
  go_ret
  exact ⟨_,_,rfl,HO3.out,HE.out⟩
theorem Tryz.infoClCont:(prog.info? 85).map (fun i=>(i.zero,i.size,i.bytes))=some (some (.agg #[.int .i64 0,.int .i64 0,.int .i64 0,.int .i64 0,.int .i64 0,.int .i64 0,.int .i64 0,.bool false,.int .i64 0]),9,72):=by kernel_rfl
theorem Hf (v:Value) (n:Nat) (xs:List Value) (w:World) (h:RdK 9 w v n xs) (h1:∀ u∈xs,u.oneCell' = true) (h2:n≤1000000) :
  Calls prog 62 #[v] w (gW 9 85 n xs w):=by
 obtain ⟨c0,hc,hcz0,hcz1,hcz2⟩:=info_parts Tryz.infoClCont
 obtain ⟨A,c,rfl,hc1,hc2,hl,hcell⟩:=h
 have hn:=fun (W:World) (A:Option Addr) (n c n' c':Nat)=>Lib.run_eql_slice_nil (P:=prog) W 37 85 A n c n' c' Tryz.underlying37
 have HL:=Lib.hid hl
 have H1:=Lib.hid h1
 cases A with
 | none =>
  have hx:xs = []:=by
   rcases xs with _ | ⟨x,xs⟩
   ·rfl
   ·obtain ⟨a,e,_⟩:=hcell (by simp)
    cases e
  subst hx
  have hn0:n=0:=by simp at hl; omega
  subst hn0
  clear hcell hl
  go_enter Tryz.func62,Tryz.ntmps62
  go_wp2
  go_ret
  exact ⟨none,0,rfl,World.ownsRow_nil _ _ _ 9,Ext.refl _⟩
 | some a =>
  have HO:=Lib.hid (fO w w.heap.size 85 9 (Nat.le_refl _))
  have HCS:=Lib.hid (show ∀ (j:Nat) (u:Value),xs[j]? = some u→(w.alloc (.cells #[] 85)).cell? (a.add j)=some u from fun j u hu=>by
   obtain ⟨a',e,hb,hcs⟩:=hcell (by have:=(zg.1 hu).1; omega)
   obtain rfl:a=a':=Option.some.inj e
   exact (Below.cell (aU w _) (p:=a.add j) (by rw [da]; exact hb)).trans (hcs j u hu))
  clear hcell hl h1
  go_enter Tryz.func62,Tryz.ntmps62
  go_wp2_with (at_builtin; go_loud (refine wpList_append_own_at _ rfl (.tmp 5) (.tmp 6) 37 rfl w.heap.size 85 c0 _ 9 72 Tryz.underlying37 hc hcz0 hcz1 hcz2 rfl (by decide) _ 0 [] rfl HO.out a n c xs rfl HL.out HCS.out H1.out ?c3 ?c4 ?c5 ?_))
  case c3=>simp [maxLen]; omega
  case c4=>omega
  case c5=>simp
  intro v' w3 ho3 hg3 _ hat3
  have HE:=Lib.hid ((aU w (.cells #[] 85)).trans' (cL hg3 (by simp) (fun k hk=>by simp [Value.ownBlock] at hk; omega)))
  have HO3:=Lib.hid ho3
  obtain ⟨A3,c3,rfl,_,_⟩:=cD ho3
  clear ho3 hg3 hat3
  go_wp2
  go_ret
  exact ⟨_,_,rfl,HO3.out,HE.out⟩
theorem Tryz.infoClSlot:(prog.info? 87).map (fun i=>(i.zero,i.size,i.bytes))=some (some (.agg #[.int .i64 0,.int .i64 0,.int .i64 0]),3,24):=by kernel_rfl
theorem Hb (v:Value) (n:Nat) (xs:List Value) (w:World) (h:RdK 3 w v n xs) (h1:∀ u∈xs,u.oneCell' = true) (h2:n≤1000000) :
  Calls prog 63 #[v] w (gW 3 87 n xs w):=by
 obtain ⟨c0,hc,hcz0,hcz1,hcz2⟩:=info_parts Tryz.infoClSlot
 obtain ⟨A,c,rfl,hc1,hc2,hl,hcell⟩:=h
 have hn:=fun (W:World) (A:Option Addr) (n c n' c':Nat)=>Lib.run_eql_slice_nil (P:=prog) W 38 87 A n c n' c' Tryz.underlying38
 have HL:=Lib.hid hl
 have H1:=Lib.hid h1
 cases A with
 | none =>
  have hx:xs = []:=by
   rcases xs with _ | ⟨x,xs⟩
   ·rfl
   ·obtain ⟨a,e,_⟩:=hcell (by simp)
    cases e
  subst hx
  have hn0:n=0:=by simp at hl; omega
  subst hn0
  clear hcell hl
  go_enter Tryz.func63,Tryz.ntmps63
  go_wp2
  go_ret
  exact ⟨none,0,rfl,World.ownsRow_nil _ _ _ 3,Ext.refl _⟩
 | some a =>
  have HO:=Lib.hid (fO w w.heap.size 87 3 (Nat.le_refl _))
  have HCS:=Lib.hid (show ∀ (j:Nat) (u:Value),xs[j]? = some u→(w.alloc (.cells #[] 87)).cell? (a.add j)=some u from fun j u hu=>by
   obtain ⟨a',e,hb,hcs⟩:=hcell (by have:=(zg.1 hu).1; omega)
   obtain rfl:a=a':=Option.some.inj e
   exact (Below.cell (aU w _) (p:=a.add j) (by rw [da]; exact hb)).trans (hcs j u hu))
  clear hcell hl h1
  go_enter Tryz.func63,Tryz.ntmps63
  go_wp2_with (at_builtin; go_loud (refine wpList_append_own_at _ rfl (.tmp 5) (.tmp 6) 38 rfl w.heap.size 87 c0 _ 3 24 Tryz.underlying38 hc hcz0 hcz1 hcz2 rfl (by decide) _ 0 [] rfl HO.out a n c xs rfl HL.out HCS.out H1.out ?c3 ?c4 ?c5 ?_))
  case c3=>simp [maxLen]; omega
  case c4=>omega
  case c5=>simp
  intro v' w3 ho3 hg3 _ hat3
  have HE:=Lib.hid ((aU w (.cells #[] 87)).trans' (cL hg3 (by simp) (fun k hk=>by simp [Value.ownBlock] at hk; omega)))
  have HO3:=Lib.hid ho3
  obtain ⟨A3,c3,rfl,_,_⟩:=cD ho3
  clear ho3 hg3 hat3
  go_wp2
  go_ret
  exact ⟨_,_,rfl,HO3.out,HE.out⟩
theorem Tryz.infoClPlan:(prog.info? 29).map (fun i=>(i.zero,i.size,i.bytes))=some (some (.agg #[.int .i64 0,.int .i64 0,.int .i64 0,.int .i64 0,.int .i64 0,.int .i64 0]),6,48):=by kernel_rfl
theorem Hc (v:Value) (n:Nat) (xs:List Value) (w:World) (h:RdK 6 w v n xs) (h1:∀ u∈xs,u.oneCell' = true) (h2:n≤1000000) :
  Calls prog 64 #[v] w (gW 6 29 n xs w):=by
 obtain ⟨c0,hc,hcz0,hcz1,hcz2⟩:=info_parts Tryz.infoClPlan
 obtain ⟨A,c,rfl,hc1,hc2,hl,hcell⟩:=h
 have hn:=fun (W:World) (A:Option Addr) (n c n' c':Nat)=>Lib.run_eql_slice_nil (P:=prog) W 39 29 A n c n' c' Tryz.underlying39
 have HL:=Lib.hid hl
 have H1:=Lib.hid h1
 cases A with
 | none =>
  have hx:xs = []:=by
   rcases xs with _ | ⟨x,xs⟩
   ·rfl
   ·obtain ⟨a,e,_⟩:=hcell (by simp)
    cases e
  subst hx
  have hn0:n=0:=by simp at hl; omega
  subst hn0
  clear hcell hl
  go_enter Tryz.func64,Tryz.ntmps64
  go_wp2
  go_ret
  exact ⟨none,0,rfl,World.ownsRow_nil _ _ _ 6,Ext.refl _⟩
 | some a =>
  have HO:=Lib.hid (fO w w.heap.size 29 6 (Nat.le_refl _))
  have HCS:=Lib.hid (show ∀ (j:Nat) (u:Value),xs[j]? = some u→(w.alloc (.cells #[] 29)).cell? (a.add j)=some u from fun j u hu=>by
   obtain ⟨a',e,hb,hcs⟩:=hcell (by have:=(zg.1 hu).1; omega)
   obtain rfl:a=a':=Option.some.inj e
   exact (Below.cell (aU w _) (p:=a.add j) (by rw [da]; exact hb)).trans (hcs j u hu))
  clear hcell hl h1
  go_enter Tryz.func64,Tryz.ntmps64
  go_wp2_with (at_builtin; go_loud (refine wpList_append_own_at _ rfl (.tmp 5) (.tmp 6) 39 rfl w.heap.size 29 c0 _ 6 48 Tryz.underlying39 hc hcz0 hcz1 hcz2 rfl (by decide) _ 0 [] rfl HO.out a n c xs rfl HL.out HCS.out H1.out ?c3 ?c4 ?c5 ?_))
  case c3=>simp [maxLen]; omega
  case c4=>omega
  case c5=>simp
  intro v' w3 ho3 hg3 _ hat3
  have HE:=Lib.hid ((aU w (.cells #[] 29)).trans' (cL hg3 (by simp) (fun k hk=>by simp [Value.ownBlock] at hk; omega)))
  have HO3:=Lib.hid ho3
  obtain ⟨A3,c3,rfl,_,_⟩:=cD ho3
  clear ho3 hg3 hat3
  go_wp2
  go_ret
  exact ⟨_,_,rfl,HO3.out,HE.out⟩
theorem Tryz.infoClStr:(prog.info? 9).map (fun i=>(i.zero,i.size,i.bytes))=some (some (.string ⟨#[]⟩),1,16):=by kernel_rfl
theorem Kq (v:Value) (n:Nat) (xs:List Value) (w:World) (h:RdK 1 w v n xs) (h1:∀ u∈xs,u.oneCell' = true) (h2:n≤1000000) :
  Calls prog 138 #[v] w (gW 1 9 n xs w):=by
 obtain ⟨c0,hc,hcz0,hcz1,hcz2⟩:=info_parts Tryz.infoClStr
 obtain ⟨A,c,rfl,hc1,hc2,hl,hcell⟩:=h
 have hn:=fun (W:World) (A:Option Addr) (n c n' c':Nat)=>Lib.run_eql_slice_nil (P:=prog) W 31 9 A n c n' c' Tryz.underlying31
 have HL:=Lib.hid hl
 have H1:=Lib.hid h1
 cases A with
 | none =>
  have hx:xs = []:=by
   rcases xs with _ | ⟨x,xs⟩
   ·rfl
   ·obtain ⟨a,e,_⟩:=hcell (by simp)
    cases e
  subst hx
  have hn0:n=0:=by simp at hl; omega
  subst hn0
  clear hcell hl
  go_enter Tryz.func138,Tryz.ntmps138
  go_wp2
  go_ret
  exact ⟨none,0,rfl,World.ownsRow_nil _ _ _ 1,Ext.refl _⟩
 | some a =>
  have HO:=Lib.hid (fO w w.heap.size 9 1 (Nat.le_refl _))
  have HCS:=Lib.hid (show ∀ (j:Nat) (u:Value),xs[j]? = some u→(w.alloc (.cells #[] 9)).cell? (a.add j)=some u from fun j u hu=>by
   obtain ⟨a',e,hb,hcs⟩:=hcell (by have:=(zg.1 hu).1; omega)
   obtain rfl:a=a':=Option.some.inj e
   exact (Below.cell (aU w _) (p:=a.add j) (by rw [da]; exact hb)).trans (hcs j u hu))
  clear hcell hl h1
  go_enter Tryz.func138,Tryz.ntmps138
  go_wp2_with (at_builtin; go_loud (refine wpList_append_own_at _ rfl (.tmp 5) (.tmp 6) 31 rfl w.heap.size 9 c0 _ 1 16 Tryz.underlying31 hc hcz0 hcz1 hcz2 rfl (by decide) _ 0 [] rfl HO.out a n c xs rfl HL.out HCS.out H1.out ?c3 ?c4 ?c5 ?_))
  case c3=>simp [maxLen]; omega
  case c4=>omega
  case c5=>simp
  intro v' w3 ho3 hg3 _ hat3
  have HE:=Lib.hid ((aU w (.cells #[] 9)).trans' (cL hg3 (by simp) (fun k hk=>by simp [Value.ownBlock] at hk; omega)))
  have HO3:=Lib.hid ho3
  obtain ⟨A3,c3,rfl,_,_⟩:=cD ho3
  clear ho3 hg3 hat3
  go_wp2
  go_ret
  exact ⟨_,_,rfl,HO3.out,HE.out⟩
theorem Tryz.infoClQueue:(prog.info? 101).map (fun i=>(i.zero,i.size,i.bytes))=some (some (.agg #[.string ⟨#[]⟩,.slice none 0 0,.int .i64 0]),3,48):=by kernel_rfl
theorem FI (v:Value) (n:Nat) (xs:List Value) (w:World) (h:RdK 3 w v n xs) (h1:∀ u∈xs,u.oneCell' = true) (h2:n≤1000000) :
  Calls prog 140 #[v] w (gW 3 101 n xs w):=by
 obtain ⟨c0,hc,hcz0,hcz1,hcz2⟩:=info_parts Tryz.infoClQueue
 obtain ⟨A,c,rfl,hc1,hc2,hl,hcell⟩:=h
 have hn:=fun (W:World) (A:Option Addr) (n c n' c':Nat)=>Lib.run_eql_slice_nil (P:=prog) W 32 101 A n c n' c' Tryz.underlying32
 have HL:=Lib.hid hl
 have H1:=Lib.hid h1
 cases A with
 | none =>
  have hx:xs = []:=by
   rcases xs with _ | ⟨x,xs⟩
   ·rfl
   ·obtain ⟨a,e,_⟩:=hcell (by simp)
    cases e
  subst hx
  have hn0:n=0:=by simp at hl; omega
  subst hn0
  clear hcell hl
  go_enter Tryz.func140,Tryz.ntmps140
  go_wp2
  go_ret
  exact ⟨none,0,rfl,World.ownsRow_nil _ _ _ 3,Ext.refl _⟩
 | some a =>
  have HO:=Lib.hid (fO w w.heap.size 101 3 (Nat.le_refl _))
  have HCS:=Lib.hid (show ∀ (j:Nat) (u:Value),xs[j]? = some u→(w.alloc (.cells #[] 101)).cell? (a.add j)=some u from fun j u hu=>by
   obtain ⟨a',e,hb,hcs⟩:=hcell (by have:=(zg.1 hu).1; omega)
   obtain rfl:a=a':=Option.some.inj e
   exact (Below.cell (aU w _) (p:=a.add j) (by rw [da]; exact hb)).trans (hcs j u hu))
  clear hcell hl h1
  go_enter Tryz.func140,Tryz.ntmps140
  go_wp2_with (at_builtin; go_loud (refine wpList_append_own_at _ rfl (.tmp 5) (.tmp 6) 32 rfl w.heap.size 101 c0 _ 3 48 Tryz.underlying32 hc hcz0 hcz1 hcz2 rfl (by decide) _ 0 [] rfl HO.out a n c xs rfl HL.out HCS.out H1.out ?c3 ?c4 ?c5 ?_))
  case c3=>simp [maxLen]; omega
  case c4=>omega
  case c5=>simp
  intro v' w3 ho3 hg3 _ hat3
  have HE:=Lib.hid ((aU w (.cells #[] 101)).trans' (cL hg3 (by simp) (fun k hk=>by simp [Value.ownBlock] at hk; omega)))
  have HO3:=Lib.hid ho3
  obtain ⟨A3,c3,rfl,_,_⟩:=cD ho3
  clear ho3 hg3 hat3
  go_wp2
  go_ret
  exact ⟨_,_,rfl,HO3.out,HE.out⟩
theorem Tryz.infoClCap:(prog.info? 98).map (fun i=>(i.zero,i.size,i.bytes))=some (some (.agg #[.int .i64 0,.int .i64 0]),2,16):=by kernel_rfl
theorem Ks (v:Value) (n:Nat) (xs:List Value) (w:World) (h:RdK 2 w v n xs) (h1:∀ u∈xs,u.oneCell' = true) (h2:n≤1000000) :
  Calls prog 141 #[v] w (gW 2 98 n xs w):=by
 obtain ⟨c0,hc,hcz0,hcz1,hcz2⟩:=info_parts Tryz.infoClCap
 obtain ⟨A,c,rfl,hc1,hc2,hl,hcell⟩:=h
 have hn:=fun (W:World) (A:Option Addr) (n c n' c':Nat)=>Lib.run_eql_slice_nil (P:=prog) W 99 98 A n c n' c' Tryz.underlying99
 have HL:=Lib.hid hl
 have H1:=Lib.hid h1
 cases A with
 | none =>
  have hx:xs = []:=by
   rcases xs with _ | ⟨x,xs⟩
   ·rfl
   ·obtain ⟨a,e,_⟩:=hcell (by simp)
    cases e
  subst hx
  have hn0:n=0:=by simp at hl; omega
  subst hn0
  clear hcell hl
  go_enter Tryz.func141,Tryz.ntmps141
  go_wp2
  go_ret
  exact ⟨none,0,rfl,World.ownsRow_nil _ _ _ 2,Ext.refl _⟩
 | some a =>
  have HO:=Lib.hid (fO w w.heap.size 98 2 (Nat.le_refl _))
  have HCS:=Lib.hid (show ∀ (j:Nat) (u:Value),xs[j]? = some u→(w.alloc (.cells #[] 98)).cell? (a.add j)=some u from fun j u hu=>by
   obtain ⟨a',e,hb,hcs⟩:=hcell (by have:=(zg.1 hu).1; omega)
   obtain rfl:a=a':=Option.some.inj e
   exact (Below.cell (aU w _) (p:=a.add j) (by rw [da]; exact hb)).trans (hcs j u hu))
  clear hcell hl h1
  go_enter Tryz.func141,Tryz.ntmps141
  go_wp2_with (at_builtin; go_loud (refine wpList_append_own_at _ rfl (.tmp 5) (.tmp 6) 99 rfl w.heap.size 98 c0 _ 2 16 Tryz.underlying99 hc hcz0 hcz1 hcz2 rfl (by decide) _ 0 [] rfl HO.out a n c xs rfl HL.out HCS.out H1.out ?c3 ?c4 ?c5 ?_))
  case c3=>simp [maxLen]; omega
  case c4=>omega
  case c5=>simp
  intro v' w3 ho3 hg3 _ hat3
  have HE:=Lib.hid ((aU w (.cells #[] 98)).trans' (cL hg3 (by simp) (fun k hk=>by simp [Value.ownBlock] at hk; omega)))
  have HO3:=Lib.hid ho3
  obtain ⟨A3,c3,rfl,_,_⟩:=cD ho3
  clear ho3 hg3 hat3
  go_wp2
  go_ret
  exact ⟨_,_,rfl,HO3.out,HE.out⟩
theorem Tryz.infoClAsk:(prog.info? 126).map (fun i=>(i.zero,i.size,i.bytes))=some (some (.agg #[.int .i64 0,.int .i64 0,.int .i64 0,.int .i64 0,.int .i64 0,.int .i64 0,.int .i64 0,.int .i64 0]),8,64):=by kernel_rfl
theorem Kt (v:Value) (n:Nat) (xs:List Value) (w:World) (h:RdK 8 w v n xs) (h1:∀ u∈xs,u.oneCell' = true) (h2:n≤1000000) :
  Calls prog 114 #[v] w (gW 8 126 n xs w):=by
 obtain ⟨c0,hc,hcz0,hcz1,hcz2⟩:=info_parts Tryz.infoClAsk
 obtain ⟨A,c,rfl,hc1,hc2,hl,hcell⟩:=h
 have hn:=fun (W:World) (A:Option Addr) (n c n' c':Nat)=>Lib.run_eql_slice_nil (P:=prog) W 69 126 A n c n' c' Tryz.underlying69
 have HL:=Lib.hid hl
 have H1:=Lib.hid h1
 cases A with
 | none =>
  have hx:xs = []:=by
   rcases xs with _ | ⟨x,xs⟩
   ·rfl
   ·obtain ⟨a,e,_⟩:=hcell (by simp)
    cases e
  subst hx
  have hn0:n=0:=by simp at hl; omega
  subst hn0
  clear hcell hl
  go_enter Tryz.func114,Tryz.ntmps114
  go_wp2
  go_ret
  exact ⟨none,0,rfl,World.ownsRow_nil _ _ _ 8,Ext.refl _⟩
 | some a =>
  have HO:=Lib.hid (fO w w.heap.size 126 8 (Nat.le_refl _))
  have HCS:=Lib.hid (show ∀ (j:Nat) (u:Value),xs[j]? = some u→(w.alloc (.cells #[] 126)).cell? (a.add j)=some u from fun j u hu=>by
   obtain ⟨a',e,hb,hcs⟩:=hcell (by have:=(zg.1 hu).1; omega)
   obtain rfl:a=a':=Option.some.inj e
   exact (Below.cell (aU w _) (p:=a.add j) (by rw [da]; exact hb)).trans (hcs j u hu))
  clear hcell hl h1
  go_enter Tryz.func114,Tryz.ntmps114
  go_wp2_with (at_builtin; go_loud (refine wpList_append_own_at _ rfl (.tmp 5) (.tmp 6) 69 rfl w.heap.size 126 c0 _ 8 64 Tryz.underlying69 hc hcz0 hcz1 hcz2 rfl (by decide) _ 0 [] rfl HO.out a n c xs rfl HL.out HCS.out H1.out ?c3 ?c4 ?c5 ?_))
  case c3=>simp [maxLen]; omega
  case c4=>omega
  case c5=>simp
  intro v' w3 ho3 hg3 _ hat3
  have HE:=Lib.hid ((aU w (.cells #[] 126)).trans' (cL hg3 (by simp) (fun k hk=>by simp [Value.ownBlock] at hk; omega)))
  have HO3:=Lib.hid ho3
  obtain ⟨A3,c3,rfl,_,_⟩:=cD ho3
  clear ho3 hg3 hat3
  go_wp2
  go_ret
  exact ⟨_,_,rfl,HO3.out,HE.out⟩
theorem Tryz.infoClInt:(prog.info? 3).map (fun i=>(i.zero,i.size,i.bytes))=some (some (.int .i64 0),1,8):=by kernel_rfl
theorem Kr (v:Value) (n:Nat) (xs:List Value) (w:World) (h:RdK 1 w v n xs) (h1:∀ u∈xs,u.oneCell' = true) (h2:n≤1000000) :
  Calls prog 115 #[v] w (gW 1 3 n xs w):=by
 obtain ⟨c0,hc,hcz0,hcz1,hcz2⟩:=info_parts Tryz.infoClInt
 obtain ⟨A,c,rfl,hc1,hc2,hl,hcell⟩:=h
 have hn:=fun (W:World) (A:Option Addr) (n c n' c':Nat)=>Lib.run_eql_slice_nil (P:=prog) W 22 3 A n c n' c' Tryz.underlying22
 have HL:=Lib.hid hl
 have H1:=Lib.hid h1
 cases A with
 | none =>
  have hx:xs = []:=by
   rcases xs with _ | ⟨x,xs⟩
   ·rfl
   ·obtain ⟨a,e,_⟩:=hcell (by simp)
    cases e
  subst hx
  have hn0:n=0:=by simp at hl; omega
  subst hn0
  clear hcell hl
  go_enter Tryz.func115,Tryz.ntmps115
  go_wp2
  go_ret
  exact ⟨none,0,rfl,World.ownsRow_nil _ _ _ 1,Ext.refl _⟩
 | some a =>
  have HO:=Lib.hid (fO w w.heap.size 3 1 (Nat.le_refl _))
  have HCS:=Lib.hid (show ∀ (j:Nat) (u:Value),xs[j]? = some u→(w.alloc (.cells #[] 3)).cell? (a.add j)=some u from fun j u hu=>by
   obtain ⟨a',e,hb,hcs⟩:=hcell (by have:=(zg.1 hu).1; omega)
   obtain rfl:a=a':=Option.some.inj e
   exact (Below.cell (aU w _) (p:=a.add j) (by rw [da]; exact hb)).trans (hcs j u hu))
  clear hcell hl h1
  go_enter Tryz.func115,Tryz.ntmps115
  go_wp2_with (at_builtin; go_loud (refine wpList_append_own_at _ rfl (.tmp 5) (.tmp 6) 22 rfl w.heap.size 3 c0 _ 1 8 Tryz.underlying22 hc hcz0 hcz1 hcz2 rfl (by decide) _ 0 [] rfl HO.out a n c xs rfl HL.out HCS.out H1.out ?c3 ?c4 ?c5 ?_))
  case c3=>simp [maxLen]; omega
  case c4=>omega
  case c5=>simp
  intro v' w3 ho3 hg3 _ hat3
  have HE:=Lib.hid ((aU w (.cells #[] 3)).trans' (cL hg3 (by simp) (fun k hk=>by simp [Value.ownBlock] at hk; omega)))
  have HO3:=Lib.hid ho3
  obtain ⟨A3,c3,rfl,_,_⟩:=cD ho3
  clear ho3 hg3 hat3
  go_wp2
  go_ret
  exact ⟨_,_,rfl,HO3.out,HE.out⟩
theorem Tryz.infoClApp:(prog.info? 71).map (fun i=>(i.zero,i.size,i.bytes))=some (some (.agg #[.int .i64 0,.int .i64 0,.string ⟨#[]⟩,.int .i64 0,.int .i64 0,.int .i64 0,.int .i64 0,.slice none 0 0,.int .i64 0,.int .i64 0,.slice none 0 0,.slice none 0 0,.slice none 0 0,.slice none 0 0]),14,200):=by kernel_rfl
theorem Ku (v:Value) (n:Nat) (xs:List Value) (w:World) (h:RdK 14 w v n xs) (h1:∀ u∈xs,u.oneCell' = true) (h2:n≤1000000) :
  Calls prog 113 #[v] w (gW 14 71 n xs w):=by
 obtain ⟨c0,hc,hcz0,hcz1,hcz2⟩:=info_parts Tryz.infoClApp
 obtain ⟨A,c,rfl,hc1,hc2,hl,hcell⟩:=h
 have hn:=fun (W:World) (A:Option Addr) (n c n' c':Nat)=>Lib.run_eql_slice_nil (P:=prog) W 36 71 A n c n' c' Tryz.underlying36
 have HL:=Lib.hid hl
 have H1:=Lib.hid h1
 cases A with
 | none =>
  have hx:xs = []:=by
   rcases xs with _ | ⟨x,xs⟩
   ·rfl
   ·obtain ⟨a,e,_⟩:=hcell (by simp)
    cases e
  subst hx
  have hn0:n=0:=by simp at hl; omega
  subst hn0
  clear hcell hl
  go_enter Tryz.func113,Tryz.ntmps113
  go_wp2
  go_ret
  exact ⟨none,0,rfl,World.ownsRow_nil _ _ _ 14,Ext.refl _⟩
 | some a =>
  have HO:=Lib.hid (fO w w.heap.size 71 14 (Nat.le_refl _))
  have HCS:=Lib.hid (show ∀ (j:Nat) (u:Value),xs[j]? = some u→(w.alloc (.cells #[] 71)).cell? (a.add j)=some u from fun j u hu=>by
   obtain ⟨a',e,hb,hcs⟩:=hcell (by have:=(zg.1 hu).1; omega)
   obtain rfl:a=a':=Option.some.inj e
   exact (Below.cell (aU w _) (p:=a.add j) (by rw [da]; exact hb)).trans (hcs j u hu))
  clear hcell hl h1
  go_enter Tryz.func113,Tryz.ntmps113
  go_wp2_with (at_builtin; go_loud (refine wpList_append_own_at _ rfl (.tmp 5) (.tmp 6) 36 rfl w.heap.size 71 c0 _ 14 200 Tryz.underlying36 hc hcz0 hcz1 hcz2 rfl (by decide) _ 0 [] rfl HO.out a n c xs rfl HL.out HCS.out H1.out ?c3 ?c4 ?c5 ?_))
  case c3=>simp [maxLen]; omega
  case c4=>omega
  case c5=>simp
  intro v' w3 ho3 hg3 _ hat3
  have HE:=Lib.hid ((aU w (.cells #[] 71)).trans' (cL hg3 (by simp) (fun k hk=>by simp [Value.ownBlock] at hk; omega)))
  have HO3:=Lib.hid ho3
  obtain ⟨A3,c3,rfl,_,_⟩:=cD ho3
  clear ho3 hg3 hat3
  go_wp2
  go_ret
  exact ⟨_,_,rfl,HO3.out,HE.out⟩
theorem JB (S:ByteArray) (w:World) (hs:S.size≤1000000000000) : Calls prog 110 #[.string S] w fun e w'=>e = .returned (.string S)∧Ext w w':=by
 have hcon:=fun W=>Tryz.stringslite_Clone S W (by omega)
 go_enter Tryz.func110,Tryz.ntmps110
 go_wp2_with (go_at_call 139; refine (hcon _).mono ?_; rintro e w' ⟨rfl,hx⟩)
 go_ret
 exact ⟨rfl,hx⟩
def FJ {α : Type} (xs:List α) : Option (List α):=if xs.length≤1000000 then some xs else none
def fR (ty:Ty) (e k:Nat) (x:cE [.lf (.sl ty)]) : Option (bl [.io [.no],.own e k ty]):=(FJ (show List ty.den from x.1)).bind fun z=>some (((),()),z)
theorem iV {P:Program} {f:FuncId} (ty:Ty) {e k:Nat} (hk:tyN ty=k) (hk0 : 0 < k) (hcall:d9 P f=true)
  (hC:∀ (v:Value) (n:Nat) (us:List Value) (w:World),RdK k w v n us→(∀ u∈us,u.oneCell' = true)→n≤1000000→Calls P f #[v] w (gW k e n us w)) :
  bR P f [.lf (.sl ty)] [.io [.no],.own e k ty] (fR ty e k):=by
 refine ZC (F:=FJ) hk hk0 hcall fun xs zs w G v hF hG hd=>?_
 unfold FJ at hF
 split at hF
 ·rename_i hle
  injection hF with hF
  subst hF
  cases hd with
  | sl A n c k0 _ us hn hc hm hkk hA hA0 hcell hrep =>
   have hlen:∀ y∈xs.map (bH ty),y.length=k:=fun y hy=>by
    obtain ⟨z,_,rfl⟩:=List.mem_map.1 hy
    rw [lG,hk]
   have hfl:=cr k (xs.map (bH ty)) hlen
   rw [List.length_map] at hn hfl
   have hul:((List.range (xs.map (bH ty)).flatten.length).map us).length=xs.length * k:=by rw [List.length_map,List.length_range,hfl]
   have hget:∀ (j:Nat) u,((List.range (xs.map (bH ty)).flatten.length).map us)[j]? = some u→j < (xs.map (bH ty)).flatten.length∧u=us j:=fun j u hu=>by
    rw [List.getElem?_map,zm] at hu
    obtain ⟨i,hi,rfl⟩:=hu
    obtain ⟨rfl,hlt⟩:=nZ hi
    exact ⟨hlt,rfl⟩
   refine (hC _ n ((List.range (xs.map (bH ty)).flatten.length).map us) w ⟨A,c,rfl,hc,hm,by rw [hul,hn],fun h0=>?_⟩ (fun u hu=>?_) (by omega)).mono ?_
   ·obtain ⟨a, ha, hFa⟩ := hA (by rw [hn]; rcases Nat.eq_zero_or_pos xs.length with e | e
                                  ·rw [hul,e,Nat.zero_mul] at h0; omega
                                  ·exact e)
    refine ⟨a,ha,hG _ hFa,fun j u hu=>?_⟩
    obtain ⟨hlt,rfl⟩:=hget j u hu
    exact hcell a j _ ha (zq hlt)
   ·obtain ⟨j,hj⟩:=List.getElem?_of_mem hu
    obtain ⟨hlt,rfl⟩:=hget j u hj
    exact (hrep j _ (zq hlt)).one
   ·rintro en w' ⟨A',c',rfl,ho,hx⟩
    refine ⟨_,_,rfl,by rw [← hn]; exact ho,hx,hul,fun j u d hu hd=>?_⟩
    obtain ⟨hlt,rfl⟩:=hget j u hu
    exact hrep j d hd
 ·cases hF
noncomputable def VS:Ent:=⟨[.lf (.sl (.st 7))],[.io [.no],.own 57 8 (.st 7)],fR (.st 7) 57 8⟩
theorem VR:bR prog 59 [.lf (.sl (.st 7))] [.io [.no],.own 57 8 (.st 7)] (fR (.st 7) 57 8):=iV (.st 7) (by kernel_rfl) (by decide) (by kernel_rfl) (fun v n us w h1 h2 h3=>He v n us w h1 h2 h3)
noncomputable def VU:Ent:=⟨[.lf (.sl (.st 6))],[.io [.no],.own 85 9 (.st 6)],fR (.st 6) 85 9⟩
theorem VT:bR prog 62 [.lf (.sl (.st 6))] [.io [.no],.own 85 9 (.st 6)] (fR (.st 6) 85 9):=iV (.st 6) (by kernel_rfl) (by decide) (by kernel_rfl) (fun v n us w h1 h2 h3=>Hf v n us w h1 h2 h3)
noncomputable def VO:Ent:=⟨[.lf (.sl (.st 11))],[.io [.no],.own 87 3 (.st 11)],fR (.st 11) 87 3⟩
theorem VN:bR prog 63 [.lf (.sl (.st 11))] [.io [.no],.own 87 3 (.st 11)] (fR (.st 11) 87 3):=iV (.st 11) (by kernel_rfl) (by decide) (by kernel_rfl) (fun v n us w h1 h2 h3=>Hb v n us w h1 h2 h3)
noncomputable def VQ:Ent:=⟨[.lf (.sl (.st 8))],[.io [.no],.own 29 6 (.st 8)],fR (.st 8) 29 6⟩
theorem VP:bR prog 64 [.lf (.sl (.st 8))] [.io [.no],.own 29 6 (.st 8)] (fR (.st 8) 29 6):=iV (.st 8) (by kernel_rfl) (by decide) (by kernel_rfl) (fun v n us w h1 h2 h3=>Hc v n us w h1 h2 h3)
noncomputable def Yx:Ent:=⟨[.lf (.sl (.str))],[.io [.no],.own 9 1 (.str)],fR (.str) 9 1⟩
theorem Yw:bR prog 138 [.lf (.sl (.str))] [.io [.no],.own 9 1 (.str)] (fR (.str) 9 1):=iV (.str) (by kernel_rfl) (by decide) (by kernel_rfl) (fun v n us w h1 h2 h3=>Kq v n us w h1 h2 h3)
noncomputable def R2:Ent:=⟨[.lf (.sl (.st 4))],[.io [.no],.own 101 3 (.st 4)],fR (.st 4) 101 3⟩
theorem R1:bR prog 140 [.lf (.sl (.st 4))] [.io [.no],.own 101 3 (.st 4)] (fR (.st 4) 101 3):=iV (.st 4) (by kernel_rfl) (by decide) (by kernel_rfl) (fun v n us w h1 h2 h3=>FI v n us w h1 h2 h3)
noncomputable def YB:Ent:=⟨[.lf (.sl (.st 3))],[.io [.no],.own 98 2 (.st 3)],fR (.st 3) 98 2⟩
theorem YA:bR prog 141 [.lf (.sl (.st 3))] [.io [.no],.own 98 2 (.st 3)] (fR (.st 3) 98 2):=iV (.st 3) (by kernel_rfl) (by decide) (by kernel_rfl) (fun v n us w h1 h2 h3=>Ks v n us w h1 h2 h3)
noncomputable def YD:Ent:=⟨[.lf (.sl (.st 1))],[.io [.no],.own 126 8 (.st 1)],fR (.st 1) 126 8⟩
theorem YC:bR prog 114 [.lf (.sl (.st 1))] [.io [.no],.own 126 8 (.st 1)] (fR (.st 1) 126 8):=iV (.st 1) (by kernel_rfl) (by decide) (by kernel_rfl) (fun v n us w h1 h2 h3=>Kt v n us w h1 h2 h3)
noncomputable def Yz:Ent:=⟨[.lf (.sl (.int .i64))],[.io [.no],.own 3 1 (.int .i64)],fR (.int .i64) 3 1⟩
theorem Yy:bR prog 115 [.lf (.sl (.int .i64))] [.io [.no],.own 3 1 (.int .i64)] (fR (.int .i64) 3 1):=iV (.int .i64) (by kernel_rfl) (by decide) (by kernel_rfl) (fun v n us w h1 h2 h3=>Kr v n us w h1 h2 h3)
noncomputable def YF:Ent:=⟨[.lf (.sl (.st 2))],[.io [.no],.own 71 14 (.st 2)],fR (.st 2) 71 14⟩
theorem YE:bR prog 113 [.lf (.sl (.st 2))] [.io [.no],.own 71 14 (.st 2)] (fR (.st 2) 71 14):=iV (.st 2) (by kernel_rfl) (by decide) (by kernel_rfl) (fun v n us w h1 h2 h3=>Ku v n us w h1 h2 h3)
noncomputable def wh:Ent:=⟨[.lf .str],[.lf .str],fun x=>if (show ByteArray from x.1).size≤1000000000 then some x.1 else none⟩
theorem wg:bR prog 110 [.lf .str] [.lf .str] (fun x=>if (show ByteArray from x.1).size≤1000000000 then some x.1 else none):=ZB (by kernel_rfl) fun x z w hF=>by
 dsimp only at hF
 split at hF
 ·rename_i hle
  injection hF with hF
  subst hF
  exact JB x w (Nat.le_trans hle (by decide))
 ·cases hF
noncomputable def rO (x:cE [.ag 2]) : Option (bl [.ag 2]):=jm ⟨prog,[(110,wh),(114,YD),(115,Yz)],28,[.ag 2],[.cell 2 71],[],[2],[]⟩ ((Tryz.f61).body.getD .skip) (.n) [.ag 2] x
noncomputable def HJ:Ent:=⟨[.ag 2],[.ag 2],rO⟩
theorem HI:bR prog 61 [.ag 2] [.ag 2] rO:=cF (n:=28) (.cons (wg) (.cons (YC) (.cons (Yy) (.nil)))) Tryz.mixed Tryz.func61 rfl (by kernel_rfl) rfl rfl rfl (fun _=>rfl)
noncomputable def oM (x:cE [.ag 4]) : Option (bl [.ag 4]):=jm ⟨prog,[(110,wh),(141,YB)],12,[.ag 4],[.cell 2 101],[],[2],[]⟩ ((Tryz.f112).body.getD .skip) (.n) [.ag 4] x
noncomputable def Da:Ent:=⟨[.ag 4],[.ag 4],oM⟩
theorem C9:bR prog 112 [.ag 4] [.ag 4] oM:=cF (n:=12) (.cons (wg) (.cons (YA) (.nil))) Tryz.mixed Tryz.func112 rfl (by kernel_rfl) rfl rfl rfl (fun _=>rfl)
noncomputable def oN (x:cE [.lf (.sl .str),.fn 110 [] []]) : Option (bl [.lf (.sl .str)]):=jm ⟨prog,[(138,Yx),(110,wh)],24,[.lf (.sl .str)],[.tmp 4],[],[],[]⟩ ((Tryz.f109).body.getD .skip) (.s (.n) (.s (.n) (.s (.s (.n) (.s (.lp [.row 0 500512 9 1 (.str),.row 9 500512 9 1 (.str),.leaf 11 (.int .i64)] 0 false (.n)) .n)) (.n)))) [.lf (.sl .str),.fn 110 [] []] x
noncomputable def Dc:Ent:=⟨[.lf (.sl .str),.fn 110 [] []],[.lf (.sl .str)],oN⟩
theorem Db:bR prog 109 [.lf (.sl .str),.fn 110 [] []] [.lf (.sl .str)] oN:=cF (n:=24) (.cons (Yw) (.cons (wg) (.nil))) Tryz.mixed Tryz.func109 rfl (by kernel_rfl) rfl rfl rfl (fun _=>rfl)
noncomputable def oO (x:cE [.lf (.sl (.st 4)),.fn 112 [] []]) : Option (bl [.lf (.sl (.st 4))]):=jm ⟨prog,[(140,R2),(112,Da)],24,[.lf (.sl (.st 4))],[.tmp 4],[],[],[]⟩ ((Tryz.f111).body.getD .skip) (.s (.n) (.s (.n) (.s (.s (.n) (.s (.lp [.row 0 500512 101 3 (.st 4),.row 9 500512 101 3 (.st 4),.leaf 11 (.int .i64)] 0 false (.n)) .n)) (.n)))) [.lf (.sl (.st 4)),.fn 112 [] []] x
noncomputable def De:Ent:=⟨[.lf (.sl (.st 4)),.fn 112 [] []],[.lf (.sl (.st 4))],oO⟩
theorem Dd:bR prog 111 [.lf (.sl (.st 4)),.fn 112 [] []] [.lf (.sl (.st 4))] oO:=cF (n:=24) (.cons (R1) (.cons (C9) (.nil))) Tryz.mixed Tryz.func111 rfl (by kernel_rfl) rfl rfl rfl (fun _=>rfl)
noncomputable def oP (x:cE [.lf (.sl (.st 2)),.fn 61 [] []]) : Option (bl [.io [.no,.no],.own 71 14 (.st 2)]):=Sc ⟨prog,[(113,YF),(61,HJ)],24,[.io [.no,.no],.own 71 14 (.st 2)],[.tmp 4],[],[],[]⟩ ((Tryz.f60).body.getD .skip) (.s (.n) (.s (.n) (.s (.s (.n) (.s (.lp [.row 0 500512 71 14 (.st 2),.row 9 500512 71 14 (.st 2),.leaf 11 (.int .i64)] 0 false (.n)) .n)) (.n)))) [.lf (.sl (.st 2)),.fn 61 [] []] x
noncomputable def Dg:Ent:=⟨[.lf (.sl (.st 2)),.fn 61 [] []],[.io [.no,.no],.own 71 14 (.st 2)],oP⟩
theorem Df:bR prog 60 [.lf (.sl (.st 2)),.fn 61 [] []] [.io [.no,.no],.own 71 14 (.st 2)] oP:=Td (n:=24) (.cons (YE) (.cons (HI) (.nil))) Tryz.mixed Tryz.func60 rfl (by kernel_rfl) rfl rfl (by kernel_rfl) (fun _ _ _=>(by first | trivial | exact ⟨trivial,trivial⟩)) (fun _=>rfl)
noncomputable def qE (x:cE [.ag 5]) : Option (bl [.ag 5]):=jm ⟨prog,[(109,Dc),(111,De),(110,wh)],10,[.ag 5],[.cell 2 34],[],[2],[]⟩ ((Tryz.f58).body.getD .skip) (.n) [.ag 5] x
noncomputable def GR:Ent:=⟨[.ag 5],[.ag 5],qE⟩
theorem GQ:bR prog 58 [.ag 5] [.ag 5] qE:=cF (n:=10) (.cons (Db) (.cons (Dd) (.cons (wg) (.nil)))) Tryz.mixed Tryz.func58 rfl (by kernel_rfl) rfl rfl rfl (fun _=>rfl)
noncomputable def oQ (x:cE [.ag 12]) : Option (bl [.io [.no],.agr 12 [(2,57,8,.st 7),(3,71,14,.st 2),(4,85,9,.st 6),(5,87,3,.st 11),(6,29,6,.st 8)]]):=Sc ⟨prog,[(58,GR),(59,VS),(60,Dg),(62,VU),(63,VO),(64,VQ)],28,[.io [.no],.agr 12 [(2,57,8,.st 7),(3,71,14,.st 2),(4,85,9,.st 6),(5,87,3,.st 11),(6,29,6,.st 8)]],[.cell 2 41],[],[2],[]⟩ ((Tryz.f25).body.getD .skip) (.n) [.ag 12] x
noncomputable def ub:Ent:=⟨[.ag 12],[.io [.no],.agr 12 [(2,57,8,.st 7),(3,71,14,.st 2),(4,85,9,.st 6),(5,87,3,.st 11),(6,29,6,.st 8)]],oQ⟩
theorem ua:bR prog 25 [.ag 12] [.io [.no],.agr 12 [(2,57,8,.st 7),(3,71,14,.st 2),(4,85,9,.st 6),(5,87,3,.st 11),(6,29,6,.st 8)]] oQ:=Td (n:=28) (.cons (GQ) (.cons (VR) (.cons (Df) (.cons (VT) (.cons (VN) (.cons (VP) (.nil))))))) Tryz.mixed Tryz.func25 rfl (by kernel_rfl) rfl rfl (by kernel_rfl) (fun _ _ _=>(by first | trivial | exact ⟨trivial,trivial⟩)) (fun _=>rfl)
noncomputable def vz (x:cE [.ag 8,.pl (.int .i64)]) : Option (bl [.lf (.bool)]):=jm ⟨prog,[],8,[.lf (.bool)],[.tmp 3],[],[],[]⟩ ((Tryz.f72).body.getD .skip) (.n) [.ag 8,.pl (.int .i64)] x
noncomputable def GP:Ent:=⟨[.ag 8,.pl (.int .i64)],[.lf (.bool)],vz⟩
theorem GO:bR prog 72 [.ag 8,.pl (.int .i64)] [.lf (.bool)] vz:=cF (n:=8) (.nil) Tryz.mixed Tryz.func72 rfl (by kernel_rfl) rfl rfl rfl (fun _=>rfl)
noncomputable def CO (x:cE [.lf (.sl (.st 8)),.fn 72 [] [.pl (.int .i64)]]) : Option (bl [.lf (.int .i64)]):=jm ⟨prog,[(72,GP)],19,[.lf (.int .i64)],[.tmp 4],[],[],[]⟩ ((Tryz.f67).body.getD .skip) (.s (.n) (.s (.s (.n) (.s (.lp [.leaf 4 (.int .i64),.leaf 8 (.int .i64)] 0 true (.n)) .n)) (.n))) [.lf (.sl (.st 8)),.fn 72 [] [.pl (.int .i64)]] x
noncomputable def OG:Ent:=⟨[.lf (.sl (.st 8)),.fn 72 [] [.pl (.int .i64)]],[.lf (.int .i64)],CO⟩
theorem OE:bR prog 67 [.lf (.sl (.st 8)),.fn 72 [] [.pl (.int .i64)]] [.lf (.int .i64)] CO:=cF (n:=19) (.cons (GO) (.nil)) Tryz.mixed Tryz.func67 rfl (by kernel_rfl) rfl rfl rfl (fun _=>rfl)
noncomputable def rM (x:cE [.lf (.sl (.st 8)),.lf (.int .i64)]) : Option (bl [.lf (.int .i64)]):=jm ⟨prog,[(67,OG)],8,[.lf (.int .i64)],[.tmp 4],[],[],[(0,[3])]⟩ ((Tryz.f33).body.getD .skip) (.n) [.lf (.sl (.st 8)),.lf (.int .i64)] x
noncomputable def xc:Ent:=⟨[.lf (.sl (.st 8)),.lf (.int .i64)],[.lf (.int .i64)],rM⟩
theorem xa:bR prog 33 [.lf (.sl (.st 8)),.lf (.int .i64)] [.lf (.int .i64)] rM:=cF (n:=8) (.cons (OE) (.nil)) Tryz.mixed Tryz.func33 rfl (by kernel_rfl) rfl rfl rfl (fun _=>rfl)
noncomputable def w7 (x:cE [.ag 8,.ps 8]) : Option (bl [.lf (.bool)]):=jm ⟨prog,[],9,[.lf (.bool)],[.tmp 3],[],[],[]⟩ ((Tryz.f68).body.getD .skip) (.n) [.ag 8,.ps 8] x
noncomputable def HB:Ent:=⟨[.ag 8,.ps 8],[.lf (.bool)],w7⟩
theorem HA:bR prog 68 [.ag 8,.ps 8] [.lf (.bool)] w7:=cF (n:=9) (.nil) Tryz.mixed Tryz.func68 rfl (by kernel_rfl) rfl rfl rfl (fun _=>rfl)
noncomputable def CN (x:cE [.lf (.sl (.st 8)),.fn 68 [] [.ps 8]]) : Option (bl [.lf (.int .i64)]):=jm ⟨prog,[(68,HB)],19,[.lf (.int .i64)],[.tmp 4],[],[],[]⟩ ((Tryz.f67).body.getD .skip) (.s (.n) (.s (.s (.n) (.s (.lp [.leaf 4 (.int .i64),.leaf 8 (.int .i64)] 0 true (.n)) .n)) (.n))) [.lf (.sl (.st 8)),.fn 68 [] [.ps 8]] x
noncomputable def OD:Ent:=⟨[.lf (.sl (.st 8)),.fn 68 [] [.ps 8]],[.lf (.int .i64)],CN⟩
theorem OC:bR prog 67 [.lf (.sl (.st 8)),.fn 68 [] [.ps 8]] [.lf (.int .i64)] CN:=cF (n:=19) (.cons (HA) (.nil)) Tryz.mixed Tryz.func67 rfl (by kernel_rfl) rfl rfl rfl (fun _=>rfl)
noncomputable def tM (x:cE [.lf (.sl (.st 8)),.ag 8]) : Option (bl [.lf (.sl (.st 8))]):=jm ⟨prog,[(67,OD)],36,[.lf (.sl (.st 8))],[.tmp 4],[],[],[(0,[3])]⟩ ((Tryz.f28).body.getD .skip) (.n) [.lf (.sl (.st 8)),.ag 8] x
noncomputable def Lq:Ent:=⟨[.lf (.sl (.st 8)),.ag 8],[.lf (.sl (.st 8))],tM⟩
theorem Lo:bR prog 28 [.lf (.sl (.st 8)),.ag 8] [.lf (.sl (.st 8))] tM:=cF (n:=36) (.cons (OC) (.nil)) Tryz.mixed Tryz.func28 rfl (by kernel_rfl) rfl rfl rfl (fun _=>rfl)
noncomputable def nx (x:cE [.lf (.sl (.st 8)),.lf (.int .i64)]) : Option (bl [.lf (.sl (.st 8))]):=jm ⟨prog,[],24,[.lf (.sl (.st 8))],[.tmp 4],[],[],[]⟩ ((Tryz.f34).body.getD .skip) (.n) [.lf (.sl (.st 8)),.lf (.int .i64)] x
noncomputable def BL:Ent:=⟨[.lf (.sl (.st 8)),.lf (.int .i64)],[.lf (.sl (.st 8))],nx⟩
theorem BK:bR prog 34 [.lf (.sl (.st 8)),.lf (.int .i64)] [.lf (.sl (.st 8))] nx:=cF (n:=24) (.nil) Tryz.mixed Tryz.func34 rfl (by kernel_rfl) rfl rfl rfl (fun _=>rfl)
noncomputable def qC (x:cE [.ag 0,.ag 0]) : Option (bl [.ag 0]):=jm ⟨prog,[],16,[.ag 0],[.cell 4 27],[],[4],[]⟩ ((Tryz.f66).body.getD .skip) (.n) [.ag 0,.ag 0] x
noncomputable def GN:Ent:=⟨[.ag 0,.ag 0],[.ag 0],qC⟩
theorem GM:bR prog 66 [.ag 0,.ag 0] [.ag 0] qC:=cF (n:=16) (.nil) Tryz.mixed Tryz.func66 rfl (by kernel_rfl) rfl rfl rfl (fun _=>rfl)
noncomputable def oK (x:cE [.ag 12,.lf (.int .i64)]) : Option (bl [.ag 0]):=jm ⟨prog,[(66,GN)],29,[.ag 0],[.cell 4 27],[],[4],[]⟩ ((Tryz.f27).body.getD .skip) (.s (.n) (.s (.n) (.s (.s (.n) (.s (.lp [.leaf 11 (.int .i64),.box 5 27 0 []] 0 false (.n)) .n)) (.n)))) [.ag 12,.lf (.int .i64)] x
noncomputable def C8:Ent:=⟨[.ag 12,.lf (.int .i64)],[.ag 0],oK⟩
theorem C7:bR prog 27 [.ag 12,.lf (.int .i64)] [.ag 0] oK:=cF (n:=29) (.cons (GM) (.nil)) Tryz.mixed Tryz.func27 rfl (by kernel_rfl) rfl rfl rfl (fun _=>rfl)
noncomputable def mq (x:cE [.ag 12,.ag 8]) : Option (bl [.lf (.int .i64)]):=jm ⟨prog,[(65,tZ),(33,xc)],45,[.lf (.int .i64)],[.tmp 4],[],[],[]⟩ ((Tryz.f26).body.getD .skip) (.n) [.ag 12,.ag 8] x
noncomputable def Ar:Ent:=⟨[.ag 12,.ag 8],[.lf (.int .i64)],mq⟩
theorem Ap:bR prog 26 [.ag 12,.ag 8] [.lf (.int .i64)] mq:=cF (n:=45) (.cons (tY) (.cons (xa) (.nil))) Tryz.mixed Tryz.func26 rfl (by kernel_rfl) rfl rfl rfl (fun _=>rfl)
noncomputable def tN (x:cE [.ag 12,.ag 8,.lf (.int .i64)]) : Option (bl [.ag 12,.lf (.int .i64),.lf (.int .i64)]):=jm ⟨prog,[(25,ub),(26,Ar),(19,vB),(27,C8),(28,Lq)],54,[.ag 12,.lf (.int .i64),.lf (.int .i64)],[.cell 6 41,.tmp 7,.tmp 8],[],[6],[]⟩ ((Tryz.f10).body.getD .skip) (.n) [.ag 12,.ag 8,.lf (.int .i64)] x
noncomputable def Ls:Ent:=⟨[.ag 12,.ag 8,.lf (.int .i64)],[.ag 12,.lf (.int .i64),.lf (.int .i64)],tN⟩
theorem Lr:bR prog 10 [.ag 12,.ag 8,.lf (.int .i64)] [.ag 12,.lf (.int .i64),.lf (.int .i64)] tN:=cF (n:=54) (.cons (ua) (.cons (Ap) (.cons (vA) (.cons (C7) (.cons (Lo) (.nil)))))) Tryz.mixed Tryz.func10 rfl (by kernel_rfl) rfl rfl rfl (fun _=>rfl)
noncomputable def rN (x:cE [.ag 12,.lf (.int .i64)]) : Option (bl [.ag 12,.lf (.int .i64)]):=jm ⟨prog,[(25,ub),(33,xc),(34,BL)],23,[.ag 12,.lf (.int .i64)],[.cell 4 41,.tmp 5],[],[4],[]⟩ ((Tryz.f13).body.getD .skip) (.n) [.ag 12,.lf (.int .i64)] x
noncomputable def HH:Ent:=⟨[.ag 12,.lf (.int .i64)],[.ag 12,.lf (.int .i64)],rN⟩
theorem HF:bR prog 13 [.ag 12,.lf (.int .i64)] [.ag 12,.lf (.int .i64)] rN:=cF (n:=23) (.cons (ua) (.cons (xa) (.cons (BK) (.nil)))) Tryz.mixed Tryz.func13 rfl (by kernel_rfl) rfl rfl rfl (fun _=>rfl)
def mh (v_s:aa) (bw:Int) (st:Int) : Option ((Int)⊕((Int)⊕(aC×Bool))) :=
 let v_i:=st
 if (decide (v_i < (v_s.ar.length:Int)))=true then
 (aw v_s.ar v_i).bind fun b1=>if (b1.fId==bw)=true then
 (aw v_s.ar v_i).bind fun b2=>some (.inr (.inr (b2,true)))
 else
 let v_i:Int:=(i64.wrap (v_i + 1))
 some (.inl v_i)
 else
 some (.inr (.inl v_i))
def eY (v_s:aa) (bw:Int) : Option (aC×Bool) :=
 let v_i:Int:=0
 (ah (mh v_s bw) ab v_i).bind fun r3=>match r3 with
 | .inr m4=>some m4
 | .inl m4 =>
 let v_i:=m4
 some ((⟨0,0,⟨#[]⟩,0,0,au.zero,[],0,0,[],[],[],[]⟩ : aC),false)
def nR (v_s:aa) (v_a:aC) (st:Int) : Option ((Int)⊕((Int))) :=
 let v_k:=st
 (if (decide (v_k < (v_s.ar.length:Int)))=true then (aw v_s.ar v_k).bind fun b1=>some (decide (b1.fId < v_a.fId)) else some false).bind fun q2=>if q2=true then
 let v_k:Int:=(i64.wrap (v_k + 1))
 some (.inl v_k)
 else
 some (.inr v_k)
def dR (v_s:aa) (v_a:aC) : Option (aa) :=
 let v_k:Int:=0
 (ah (nR v_s v_a) ab v_k).bind fun r3 =>
 let v_k:=r3
 (hiO v_s.ar v_k).bind fun b4=>(aX ([] : (List aC)) b4).bind fun b5=>let v_l:(List aC):=b5
 (aX v_l [v_a]).bind fun b6=>let v_l:(List aC):=b6
 (if (decide (v_k < (v_s.ar.length:Int)))=true then (aw v_s.ar v_k).bind fun b7=>some (b7.fId==v_a.fId) else some false).bind fun q8=>(if q8=true then
 let v_k:Int:=(i64.wrap (v_k + 1))
 some v_k
 else
 some v_k).bind fun j9=>let v_k:=j9
 (loO v_s.ar v_k).bind fun b10=>(aX v_l b10).bind fun b11=>let v_s:aa:={ v_s with ar:=b11 }
 some v_s
def dK (v_a:aC) : Option (Bool) :=
 (if (v_a.dG==1)=true then some true else some (v_a.dG==2)).bind fun q1=>some q1
def vt (v_n:Int) : Option (Bool) :=
 (if (decide (v_n≥1))=true then some (decide (v_n≤1073741824)) else some false).bind fun q1=>some q1
def pE (v_a:aC) : Option ((List aV)) :=
 some ([(⟨0,0,v_a.bI,1,(-1),(-1),0⟩ : aV)] : (List aV))
def jR (v_s:aa) (st:Bool×(List aC)×Int) : Option ((Bool×(List aC)×Int)⊕((Bool×(List aC)×Int))) :=
 let cu:=st.1
 let v_l:=st.2.1
 let v_i:=st.2.2
 if (decide (v_i < (v_s.ar.length:Int)))=true then
 (if (!cu)=true then (aw v_s.ar v_i).bind fun b1=>(dK b1).bind fun c2=>some (!c2) else some false).bind fun q3=>if q3=true then
 let cu:Bool:=true
 let v_i:Int:=(i64.wrap (v_i + 1))
 some (.inl (cu,v_l,v_i))
 else
 (aw v_s.ar v_i).bind fun b4=>(aX v_l [b4]).bind fun b5=>let v_l:(List aC):=b5
 let v_i:Int:=(i64.wrap (v_i + 1))
 some (.inl (cu,v_l,v_i))
 else
 some (.inr (cu,v_l,v_i))
def nq (v_s:aa) : Option (aa) :=
 let v_l:(List aC):=[]
 let cu:Bool:=false
 let v_i:Int:=0
 (ah (jR v_s) ab (cu,v_l,v_i)).bind fun r6 =>
 let cu:=r6.1
 let v_l:=r6.2.1
 let v_i:=r6.2.2
 let v_s:aa:={ v_s with ar:=v_l }
 some v_s
def jS (v_s:aa) (st:Int×Int) : Option ((Int×Int)⊕((Int×Int))) :=
 let lj:=st.1
 let v_i:=st.2
 if (decide (v_i < (v_s.ar.length:Int)))=true then
 (aw v_s.ar v_i).bind fun b11=>(dK b11).bind fun c12=>if c12=true then
 let lj:Int:=(i64.wrap (lj + 1))
 let v_i:Int:=(i64.wrap (v_i + 1))
 some (.inl (lj,v_i))
 else
 let v_i:Int:=(i64.wrap (v_i + 1))
 some (.inl (lj,v_i))
 else
 some (.inr (lj,v_i))
def nr (v_s:aa) (v_a:aC) : Option (aa×Int) :=
 (if (decide (v_a.fId < 0))=true then some true else some (decide (v_a.fId > 9999))).bind fun q1=>(if q1=true then some true else some (decide (v_a.de < 0))).bind fun q2=>(if q2=true then some true else some (decide (v_a.de > 99))).bind fun q3=>(if q3=true then some true else some (decide (v_a.bD < 0))).bind fun q4=>(if q4=true then some true else some (decide (v_a.bD > 9))).bind fun q5=>(if q5=true then some true else (vt v_a.bI.bg).bind fun c6=>some (!c6)).bind fun q7=>(if q7=true then some true else (vt v_a.bI.aI).bind fun c8=>some (!c8)).bind fun q9=>if q9=true then
 some (v_s,1)
 else
 (eY v_s v_a.fId).bind fun c10=>let bV:Bool:=c10.2
 if bV=true then
 some (v_s,7)
 else
 let lj:Int:=0
 let v_i:Int:=0
 (ah (jS v_s) ab (lj,v_i)).bind fun r13 =>
 let lj:=r13.1
 let v_i:=r13.2
 if (decide (lj≥16))=true then
 some (v_s,4)
 else
 (kv v_s.bG v_a.bQ).bind fun c14=>if (!c14)=true then
 some (v_s,19)
 else
 (if (decide ((v_s.ar.length:Int)≥16))=true then
 (nq v_s).bind fun c16=>let v_s:aa:=c16
 some v_s
 else
 some v_s).bind fun j15=>let v_s:=j15
 (pE v_a).bind fun c17=>(dR v_s (⟨v_a.fId,1,v_a.bQ,v_a.de,v_a.bD,v_a.bI,c17,v_s.cx,0,[],[],[],[]⟩ : aC)).bind fun c18=>some (c18,0)
def mg (v_s:aa) (bw:Int) (st:(List Int)×(List an)×Int) : Option (((List Int)×(List an)×Int)⊕(((List Int)×(List an)×Int))) :=
 let jZ:=st.1
 let v_l:=st.2.1
 let v_i:=st.2.2
 if (decide (v_i < (v_s.ac.length:Int)))=true then
 (aw v_s.ac v_i).bind fun b1=>if (b1.bC==bw)=true then
 (aw v_s.ac v_i).bind fun b2=>(aX jZ [b2.fId]).bind fun b3=>let jZ:(List Int):=b3
 let v_i:Int:=(i64.wrap (v_i + 1))
 some (.inl (jZ,v_l,v_i))
 else
 (aw v_s.ac v_i).bind fun b4=>(aX v_l [b4]).bind fun b5=>let v_l:(List an):=b5
 let v_i:Int:=(i64.wrap (v_i + 1))
 some (.inl (jZ,v_l,v_i))
 else
 some (.inr (jZ,v_l,v_i))
def mf (v_s:aa) (bw:Int) (st:(List bA)×Int) : Option (((List bA)×Int)⊕(((List bA)×Int))) :=
 let i7:=st.1
 let aQ:=st.2
 if (decide (aQ < (v_s.aZ.length:Int)))=true then
 (aw v_s.aZ aQ).bind fun b7=>if (b7.bC != bw)=true then
 (aw v_s.aZ aQ).bind fun b8=>(aX i7 [b8]).bind fun b9=>let i7:(List bA):=b9
 let aQ:Int:=(i64.wrap (aQ + 1))
 some (.inl (i7,aQ))
 else
 let aQ:Int:=(i64.wrap (aQ + 1))
 some (.inl (i7,aQ))
 else
 some (.inr (i7,aQ))
def ou (v_s:aa) (bw:Int) : Option (aa×(List Int)) :=
 let v_l:(List an):=[]
 let i7:(List bA):=[]
 let jZ:(List Int):=[]
 let v_i:Int:=0
 (ah (mg v_s bw) ab (jZ,v_l,v_i)).bind fun r6 =>
 let jZ:=r6.1
 let v_l:=r6.2.1
 let v_i:=r6.2.2
 let aQ:Int:=0
 (ah (mf v_s bw) ab (i7,aQ)).bind fun r10 =>
 let i7:=r10.1
 let aQ:=r10.2
 let t11:(List an):=v_l
 let t12:(List bA):=i7
 let v_s:aa:={ v_s with ac:=t11 }
 let v_s:aa:={ v_s with aZ:=t12 }
 some (v_s,jZ)
def Am (v_s:aa) (bw:Int) (sW:Int) : Option (aa×(List Int)) :=
 (eY v_s bw).bind fun c1=>let v_a:aC:=c1.1
 let bV:Bool:=c1.2
 (if (!bV)=true then some true else (dK v_a).bind fun c2=>some (!c2)).bind fun q3=>if q3=true then
 some (v_s,[])
 else
 let v_a:aC:={ v_a with dG:=sW }
 let t4:(List aV):=[]
 let t5:(List Int):=[]
 let t6:(List Int):=[]
 let t7:(List Int):=[]
 let t8:(List Int):=[]
 let v_a:aC:={ v_a with bN:=t4 }
 let v_a:aC:={ v_a with cf:=t5 }
 let v_a:aC:={ v_a with fQ:=t6 }
 let v_a:aC:={ v_a with oT:=t7 }
 let v_a:aC:={ v_a with pX:=t8 }
 (dR v_s v_a).bind fun c9=>(ou c9 bw).bind fun c10=>some c10
def mj (v_s:aa) (bw:Int) (st:Int) : Option ((Int)⊕((Int)⊕(an×Bool))) :=
 let v_i:=st
 if (decide (v_i < (v_s.ac.length:Int)))=true then
 (aw v_s.ac v_i).bind fun b1=>if (b1.fId==bw)=true then
 (aw v_s.ac v_i).bind fun b2=>some (.inr (.inr (b2,true)))
 else
 let v_i:Int:=(i64.wrap (v_i + 1))
 some (.inl v_i)
 else
 some (.inr (.inl v_i))
def eZ (v_s:aa) (bw:Int) : Option (an×Bool) :=
 let v_i:Int:=0
 (ah (mj v_s bw) ab v_i).bind fun r3=>match r3 with
 | .inr m4=>some m4
 | .inl m4 =>
 let v_i:=m4
 some ((⟨0,0,0,au.zero,0,0,false,0⟩ : an),false)
def ml (v_s:aa) (bw:Int) (st:(List an)×Int) : Option (((List an)×Int)⊕(((List an)×Int))) :=
 let v_l:=st.1
 let v_i:=st.2
 if (decide (v_i < (v_s.ac.length:Int)))=true then
 (aw v_s.ac v_i).bind fun b1=>if (b1.fId != bw)=true then
 (aw v_s.ac v_i).bind fun b2=>(aX v_l [b2]).bind fun b3=>let v_l:(List an):=b3
 let v_i:Int:=(i64.wrap (v_i + 1))
 some (.inl (v_l,v_i))
 else
 let v_i:Int:=(i64.wrap (v_i + 1))
 some (.inl (v_l,v_i))
 else
 some (.inr (v_l,v_i))
def mn (v_s:aa) (bw:Int) : Option (aa) :=
 let v_l:(List an):=[]
 let v_i:Int:=0
 (ah (ml v_s bw) ab (v_l,v_i)).bind fun r4 =>
 let v_l:=r4.1
 let v_i:=r4.2
 let v_s:aa:={ v_s with ac:=v_l }
 some v_s
def jh (v_l:(List Int)) (v_n:Int) (st:(List Int)×Int) : Option (((List Int)×Int)⊕(((List Int)×Int))) :=
 let am:=st.1
 let v_i:=st.2
 if (decide (v_i < (v_l.length:Int)))=true then
 (aw v_l v_i).bind fun b1=>if (b1 != v_n)=true then
 (aw v_l v_i).bind fun b2=>(aX am [b2]).bind fun b3=>let am:(List Int):=b3
 let v_i:Int:=(i64.wrap (v_i + 1))
 some (.inl (am,v_i))
 else
 let v_i:Int:=(i64.wrap (v_i + 1))
 some (.inl (am,v_i))
 else
 some (.inr (am,v_i))
def jB (v_l:(List Int)) (v_n:Int) : Option ((List Int)×Bool) :=
 let am:(List Int):=[]
 let v_i:Int:=0
 (ah (jh v_l v_n) ab (am,v_i)).bind fun r4 =>
 let am:=r4.1
 let v_i:=r4.2
 some (am,(decide ((am.length:Int) < (v_l.length:Int))))
def gS (bS:(List Int)) (st:aa×Int) : Option ((aa×Int)⊕((aa×Int))) :=
 let v_s:=st.1
 let v_i:=st.2
 if (decide (v_i < (bS.length:Int)))=true then
 (aw bS v_i).bind fun b1=>(eZ v_s b1).bind fun c2=>let v_c:an:=c2.1
 let bV:Bool:=c2.2
 if (!bV)=true then
 let v_i:Int:=(i64.wrap (v_i + 1))
 some (.inl (v_s,v_i))
 else
 (eY v_s v_c.bC).bind fun c3=>let v_a:aC:=c3.1
 if v_c.bI=true then
 (pE v_a).bind fun c4=>let t5:Int:=1
 let t6:(List aV):=c4
 let v_a:aC:={ v_a with dG:=t5 }
 let v_a:aC:={ v_a with bN:=t6 }
 let t7:(List Int):=[]
 let t8:(List Int):=[]
 let t9:(List Int):=[]
 let t10:(List Int):=[]
 let v_a:aC:={ v_a with cf:=t7 }
 let v_a:aC:={ v_a with fQ:=t8 }
 let v_a:aC:={ v_a with oT:=t9 }
 let v_a:aC:={ v_a with pX:=t10 }
 let t11:Int:=0
 let t12:Int:=v_s.cx
 let v_a:aC:={ v_a with cn:=t11 }
 let v_a:aC:={ v_a with cM:=t12 }
 (dR v_s v_a).bind fun c13=>(ou c13 v_c.bC).bind fun c14=>let v_s:aa:=c14.1
 let v_i:Int:=(i64.wrap (v_i + 1))
 some (.inl (v_s,v_i))
 else
 (mn v_s v_c.fId).bind fun c15=>let v_s:aa:=c15
 let uq:Bool:=false
 (jB v_a.cf v_c.fId).bind fun c16=>let v_a:aC:={ v_a with cf:=c16.1 }
 let uq:Bool:=c16.2
 (if (!uq)=true then
 (aX ([] : (List Int)) v_a.fQ).bind fun b18=>(aX b18 [v_c.fId]).bind fun b19=>let v_a:aC:={ v_a with fQ:=b19 }
 some v_a
 else
 some v_a).bind fun j17=>let v_a:=j17
 (dR v_s v_a).bind fun c20=>let v_s:aa:=c20
 let v_i:Int:=(i64.wrap (v_i + 1))
 some (.inl (v_s,v_i))
 else
 some (.inr (v_s,v_i))
def gU (v_s:aa) (bS:(List Int)) : Option (aa) :=
 let v_i:Int:=0
 (ah (gS bS) ab (v_s,v_i)).bind fun r21 =>
 let v_s:=r21.1
 let v_i:=r21.2
 some v_s
def jT (v_s:aa) (st:(List Int)×Int) : Option (((List Int)×Int)⊕(((List Int)×Int))) :=
 let v_l:=st.1
 let v_i:=st.2
 if (decide (v_i < (v_s.ar.length:Int)))=true then
 (aw v_s.ar v_i).bind fun b1=>(if (b1.dG==2)=true then (aw v_s.ar v_i).bind fun b2=>some (decide ((i64.wrap (v_s.cx - b2.cM))≥15)) else some false).bind fun q3=>if q3=true then
 (aw v_s.ar v_i).bind fun b4=>(aX v_l [b4.fId]).bind fun b5=>let v_l:(List Int):=b5
 let v_i:Int:=(i64.wrap (v_i + 1))
 some (.inl (v_l,v_i))
 else
 let v_i:Int:=(i64.wrap (v_i + 1))
 some (.inl (v_l,v_i))
 else
 some (.inr (v_l,v_i))
def tK (v_s:aa) : Option ((List Int)) :=
 let v_l:(List Int):=[]
 let v_i:Int:=0
 (ah (jT v_s) ab (v_l,v_i)).bind fun r6 =>
 let v_l:=r6.1
 let v_i:=r6.2
 some v_l
def zh (v_n:Int) : Option (Bool) :=
 (if (decide (v_n≥1))=true then some (decide (v_n≤1073741824)) else some false).bind fun q1=>some q1
def p7 (v_a:aV) (rS:Int) : Option (Int) :=
 (if (decide (v_a.bD < 0))=true then some true else some (decide (v_a.bD > 9))).bind fun q1=>(if q1=true then some true else some (decide (v_a.aA < 0))).bind fun q2=>(if q2=true then some true else some (decide (v_a.aA≥rS))).bind fun q3=>(if q3=true then some true else (zh v_a.cH.bg).bind fun c4=>some (!c4)).bind fun q5=>(if q5=true then some true else (zh v_a.cH.aI).bind fun c6=>some (!c6)).bind fun q7=>(if q7=true then some true else some (decide (v_a.bM < (-1)))).bind fun q8=>(if q8=true then some true else some (decide (v_a.bM > 999))).bind fun q9=>(if q9=true then some true else some (decide (v_a.fu < (-1)))).bind fun q10=>(if q10=true then some true else some (decide (v_a.fu > 99))).bind fun q11=>(if q11=true then some true else (if (decide (v_a.bM≥0))=true then some (decide (v_a.fu < 0)) else some false).bind fun q12=>some q12).bind fun q13=>if q13=true then
 some 1
 else
 (if (decide (v_a.g9 < 0))=true then some true else some (decide (v_a.g9 > 50))).bind fun q14=>if q14=true then
 some 4
 else
 some 0
def pe (v_l:(List aV)) (v_a:aV) (st:(List aV)×Bool×Int) : Option (((List aV)×Bool×Int)⊕(((List aV)×Bool×Int))) :=
 let am:=st.1
 let cu:=st.2.1
 let v_i:=st.2.2
 if (decide (v_i < (v_l.length:Int)))=true then
 (if (!cu)=true then (aw v_l v_i).bind fun b1=>some (decide (b1.bD > v_a.bD)) else some false).bind fun q2=>(if q2=true then
 (aX am [v_a]).bind fun b4=>let am:(List aV):=b4
 let cu:Bool:=true
 some (am,cu)
 else
 some (am,cu)).bind fun j3=>let am:=j3.1
 let cu:=j3.2
 (aw v_l v_i).bind fun b5=>if (b5.bD != v_a.bD)=true then
 (aw v_l v_i).bind fun b6=>(aX am [b6]).bind fun b7=>let am:(List aV):=b7
 let v_i:Int:=(i64.wrap (v_i + 1))
 some (.inl (am,cu,v_i))
 else
 let v_i:Int:=(i64.wrap (v_i + 1))
 some (.inl (am,cu,v_i))
 else
 some (.inr (am,cu,v_i))
def FX (v_l:(List aV)) (v_a:aV) : Option ((List aV)×Int) :=
 let am:(List aV):=[]
 let cu:Bool:=(v_a.g9==0)
 let v_a:aV:={ v_a with jb:=0 }
 let v_i:Int:=0
 (ah (pe v_l v_a) ab (am,cu,v_i)).bind fun r8 =>
 let am:=r8.1
 let cu:=r8.2.1
 let v_i:=r8.2.2
 (if (!cu)=true then
 (aX am [v_a]).bind fun b10=>let am:(List aV):=b10
 some am
 else
 some am).bind fun j9=>let am:=j9
 if (decide ((am.length:Int) > 8))=true then
 some ([],4)
 else
 some (am,0)
def pf (v_l:(List aV)) (cJ:Int) (st:Int) : Option ((Int)⊕((Int)⊕(aV×Bool))) :=
 let v_i:=st
 if (decide (v_i < (v_l.length:Int)))=true then
 (aw v_l v_i).bind fun b1=>if (b1.bD==cJ)=true then
 (aw v_l v_i).bind fun b2=>some (.inr (.inr (b2,true)))
 else
 let v_i:Int:=(i64.wrap (v_i + 1))
 some (.inl v_i)
 else
 some (.inr (.inl v_i))
def KI (v_l:(List aV)) (cJ:Int) : Option (aV×Bool) :=
 let v_i:Int:=0
 (ah (pf v_l cJ) ab v_i).bind fun r3=>match r3 with
 | .inr m4=>some m4
 | .inl m4 =>
 let v_i:=m4
 some ((⟨0,0,au.zero,0,0,0,0⟩ : aV),false)
def nC (v_l:(List aV)) (cJ:Int) (st:Bool×(List aV)×Int) : Option ((Bool×(List aV)×Int)⊕((Bool×(List aV)×Int))) :=
 let bV:=st.1
 let am:=st.2.1
 let v_i:=st.2.2
 if (decide (v_i < (v_l.length:Int)))=true then
 (aw v_l v_i).bind fun b1=>let v_a:aV:=b1
 if (v_a.bD==cJ)=true then
 let bV:Bool:=true
 let t2:Int:=(i64.wrap (v_a.g9 - 1))
 let t3:Int:=0
 let v_a:aV:={ v_a with g9:=t2 }
 let v_a:aV:={ v_a with jb:=t3 }
 if (decide (v_a.g9≤0))=true then
 let v_i:Int:=(i64.wrap (v_i + 1))
 some (.inl (bV,am,v_i))
 else
 (aX am [v_a]).bind fun b4=>let am:(List aV):=b4
 let v_i:Int:=(i64.wrap (v_i + 1))
 some (.inl (bV,am,v_i))
 else
 (aX am [v_a]).bind fun b5=>let am:(List aV):=b5
 let v_i:Int:=(i64.wrap (v_i + 1))
 some (.inl (bV,am,v_i))
 else
 some (.inr (bV,am,v_i))
def DD (v_l:(List aV)) (cJ:Int) : Option ((List aV)×Bool) :=
 let am:(List aV):=[]
 let bV:Bool:=false
 let v_i:Int:=0
 (ah (nC v_l cJ) ab (bV,am,v_i)).bind fun r6 =>
 let bV:=r6.1
 let am:=r6.2.1
 let v_i:=r6.2.2
 some (am,bV)
def rx (cJ:Int) (st:(List aV)×Int) : Option (((List aV)×Int)⊕(((List aV)×Int))) :=
 let am:=st.1
 let v_i:=st.2
 if (decide (v_i < (am.length:Int)))=true then
 (aw am v_i).bind fun b2=>if (b2.bD==cJ)=true then
 (aw am v_i).bind fun b3=>(aw am v_i).bind fun b4=>let am:(List aV):=(List.set am (Int.toNat v_i) ({ b4 with jb:=(if 100 < (i64.wrap (b3.jb + 1)) then 100 else (i64.wrap (b3.jb + 1))) }))
 let v_i:Int:=(i64.wrap (v_i + 1))
 some (.inl (am,v_i))
 else
 let v_i:Int:=(i64.wrap (v_i + 1))
 some (.inl (am,v_i))
 else
 some (.inr (am,v_i))
def DE (v_l:(List aV)) (cJ:Int) : Option ((List aV)) :=
 (aX ([] : (List aV)) v_l).bind fun b1=>let am:(List aV):=b1
 let v_i:Int:=0
 (ah (rx cJ) ab (am,v_i)).bind fun r5 =>
 let am:=r5.1
 let v_i:=r5.2
 some am
def jH (v_l:(List aV)) (af:Int) (st:au×Int) : Option ((au×Int)⊕((au×Int))) :=
 let v_v:=st.1
 let v_i:=st.2
 if (decide (v_i < (v_l.length:Int)))=true then
 (aw v_l v_i).bind fun b1=>if (b1.aA==af)=true then
 (aw v_l v_i).bind fun b2=>(aw v_l v_i).bind fun b3=>(aw v_l v_i).bind fun b4=>(aw v_l v_i).bind fun b5=>(df v_v (⟨(i64.wrap (b2.cH.bg * b3.g9)),(i64.wrap (b4.cH.aI * b5.g9))⟩ : au)).bind fun c6=>let v_v:au:=c6
 let v_i:Int:=(i64.wrap (v_i + 1))
 some (.inl (v_v,v_i))
 else
 let v_i:Int:=(i64.wrap (v_i + 1))
 some (.inl (v_v,v_i))
 else
 some (.inr (v_v,v_i))
def kQ (v_l:(List aV)) (af:Int) : Option (au) :=
 let v_v:au:=(⟨0,0⟩ : au)
 let v_i:Int:=0
 (ah (jH v_l af) ab (v_v,v_i)).bind fun r7 =>
 let v_v:=r7.1
 let v_i:=r7.2
 some v_v
def kD (jk:(List ByteArray)) (ax:ByteArray) (st:Int) : Option ((Int)⊕((Int)⊕(Bool))) :=
 let v_i:=st
 if (decide (v_i < (jk.length:Int)))=true then
 (aw jk v_i).bind fun b2=>if (b2.toList==ax.toList)=true then
 some (.inr (.inr true))
 else
 let v_i:Int:=(i64.wrap (v_i + 1))
 some (.inl v_i)
 else
 some (.inr (.inl v_i))
def np (xg:ByteArray) (ax:ByteArray) : Option (Bool) :=
 (zk xg).bind fun c1=>let jk:(List ByteArray):=c1
 let v_i:Int:=0
 (ah (kD jk ax) ab v_i).bind fun r3=>match r3 with
 | .inr m4=>some m4
 | .inl m4 =>
 let v_i:=m4
 some false
def mc (v_s:aa) (af:Int) (ax:ByteArray) (yx:Bool) (mE:Int) (st:au×Int) : Option ((au×Int)⊕((au×Int))) :=
 let v_v:=st.1
 let v_i:=st.2
 if (decide (v_i < (v_s.ac.length:Int)))=true then
 (aw v_s.ac v_i).bind fun b1=>(eY v_s b1.bC).bind fun c2=>let v_a:aC:=c2.1
 let bV:Bool:=c2.2
 (if bV=true then (aw v_s.ac v_i).bind fun b3=>some (b3.aA==af) else some false).bind fun q4=>(if q4=true then (np v_a.bQ ax).bind fun c5=>some c5 else some false).bind fun q6=>(if q6=true then (if yx=true then some true else some (v_a.de==mE)).bind fun q7=>some q7 else some false).bind fun q8=>if q8=true then
 (aw v_s.ac v_i).bind fun b9=>(df v_v b9.cH).bind fun c10=>let v_v:au:=c10
 let v_i:Int:=(i64.wrap (v_i + 1))
 some (.inl (v_v,v_i))
 else
 let v_i:Int:=(i64.wrap (v_i + 1))
 some (.inl (v_v,v_i))
 else
 some (.inr (v_v,v_i))
def vn (v_s:aa) (ax:ByteArray) (af:Int) (yx:Bool) (mE:Int) : Option (au) :=
 let v_v:au:=(⟨0,0⟩ : au)
 let v_i:Int:=0
 (ah (mc v_s af ax yx mE) ab (v_v,v_i)).bind fun r11 =>
 let v_v:=r11.1
 let v_i:=r11.2
 some v_v
def eU (v_s:aa) (ax:ByteArray) (af:Int) : Option (au) :=
 (vn v_s ax af true 0).bind fun c1=>some c1
def pm (v_s:aa) (ax:ByteArray) (af:Int) (mE:Int) : Option (au) :=
 (vn v_s ax af false mE).bind fun c1=>some c1
def jg (v_s:aa) (af:Int) (ax:ByteArray) (st:au×Int) : Option ((au×Int)⊕((au×Int))) :=
 let v_v:=st.1
 let v_i:=st.2
 if (decide (v_i < (v_s.ar.length:Int)))=true then
 (aw v_s.ar v_i).bind fun b1=>(dK b1).bind fun c2=>(if c2=true then (aw v_s.ar v_i).bind fun b3=>(np b3.bQ ax).bind fun c4=>some c4 else some false).bind fun q5=>if q5=true then
 (aw v_s.ar v_i).bind fun b6=>(kQ b6.bN af).bind fun c7=>(df v_v c7).bind fun c8=>let v_v:au:=c8
 let v_i:Int:=(i64.wrap (v_i + 1))
 some (.inl (v_v,v_i))
 else
 let v_i:Int:=(i64.wrap (v_i + 1))
 some (.inl (v_v,v_i))
 else
 some (.inr (v_v,v_i))
def ot (v_s:aa) (ax:ByteArray) (af:Int) : Option (au) :=
 let v_v:au:=(⟨0,0⟩ : au)
 let v_i:Int:=0
 (ah (jg v_s af ax) ab (v_v,v_i)).bind fun r9 =>
 let v_v:=r9.1
 let v_i:=r9.2
 some v_v
def me (jk:(List ByteArray)) (v_s:aa) (af:Int) (sX:au) (st:Int) : Option ((Int)⊕((Int)⊕(Bool))) :=
 let v_i:=st
 if (decide (v_i < (jk.length:Int)))=true then
 (aw jk v_i).bind fun b2=>(eU v_s b2 af).bind fun c3=>(df c3 sX).bind fun c4=>let v_v:au:=c4
 (aw jk v_i).bind fun b5=>(vV v_s b5 af).bind fun c6=>(f4 v_v c6).bind fun c7=>if (!c7)=true then
 some (.inr (.inr false))
 else
 (aw jk v_i).bind fun b8=>(if (b8.toList==(⟨#[114,111,111,116]⟩ : ByteArray).toList)=true then (fv v_s af).bind fun c9=>(tC v_s af).bind fun c10=>(v6 c9 c10).bind fun c11=>(f4 v_v c11).bind fun c12=>some (!c12) else some false).bind fun q13=>if q13=true then
 some (.inr (.inr false))
 else
 let v_i:Int:=(i64.wrap (v_i + 1))
 some (.inl v_i)
 else
 some (.inr (.inl v_i))
def vo (v_s:aa) (ax:ByteArray) (af:Int) (sX:au) : Option (Bool) :=
 (zk ax).bind fun c1=>let jk:(List ByteArray):=c1
 let v_i:Int:=0
 (ah (me jk v_s af sX) ab v_i).bind fun r14=>match r14 with
 | .inr m15=>some m15
 | .inl m15 =>
 let v_i:=m15
 some true
def wb (v_s:aa) (v_a:ByteArray) (v_b:ByteArray) (af:Int) : Option (Bool) :=
 (eU v_s v_a af).bind fun c1=>(lL v_s v_a af).bind fun c2=>(eU v_s v_b af).bind fun c3=>(lL v_s v_b af).bind fun c4=>(zy c1 c2 c3 c4).bind fun c5=>let v_o:Int:=c5
 (if (decide (v_o < 0))=true then some true else (if (v_o==0)=true then some (Op.bytesLess v_a.toList v_b.toList) else some false).bind fun q6=>some q6).bind fun q7=>some q7
def jz (am:(List ByteArray)) (v_s:aa) (v_i:Int) (v_l:(List ByteArray)) (af:Int) (st:Int) : Option ((Int)⊕((Int))) :=
 let v_k:=st
 (if (decide (v_k < (am.length:Int)))=true then (aw v_l v_i).bind fun b2=>(aw am v_k).bind fun b3=>(wb v_s b2 b3 af).bind fun c4=>some (!c4) else some false).bind fun q5=>if q5=true then
 let v_k:Int:=(i64.wrap (v_k + 1))
 some (.inl v_k)
 else
 some (.inr v_k)
def l7 (v_l:(List ByteArray)) (v_s:aa) (af:Int) (st:(List ByteArray)×Int) : Option (((List ByteArray)×Int)⊕(((List ByteArray)×Int))) :=
 let am:=st.1
 let v_i:=st.2
 if (decide (v_i < (v_l.length:Int)))=true then
 let v_k:Int:=0
 (ah (jz am v_s v_i v_l af) ab v_k).bind fun r6 =>
 let v_k:=r6
 (hiO am v_k).bind fun b7=>(aX ([] : (List ByteArray)) b7).bind fun b8=>let v_x:(List ByteArray):=b8
 (aw v_l v_i).bind fun b9=>(aX v_x [b9]).bind fun b10=>let v_x:(List ByteArray):=b10
 (loO am v_k).bind fun b11=>(aX v_x b11).bind fun b12=>let am:(List ByteArray):=b12
 let v_i:Int:=(i64.wrap (v_i + 1))
 some (.inl (am,v_i))
 else
 some (.inr (am,v_i))
def zZ (v_s:aa) (ax:ByteArray) (af:Int) : Option ((List ByteArray)) :=
 (fw v_s.bG ax).bind fun c1=>let v_l:(List ByteArray):=c1
 let am:(List ByteArray):=[]
 let v_i:Int:=0
 (ah (l7 v_l v_s af) ab (am,v_i)).bind fun r13 =>
 let am:=r13.1
 let v_i:=r13.2
 some am
def jQ (self:(aa→ByteArray→Int→Option ((List ByteArray)))) (v_l:(List ByteArray)) (v_s:aa) (af:Int) (st:(List ByteArray)×Int) : Option (((List ByteArray)×Int)⊕(((List ByteArray)×Int))) :=
 let am:=st.1
 let v_i:=st.2
 if (decide (v_i < (v_l.length:Int)))=true then
 (aw v_l v_i).bind fun b2=>(self v_s b2 af).bind fun c3=>(aX am c3).bind fun b4=>let am:(List ByteArray):=b4
 let v_i:Int:=(i64.wrap (v_i + 1))
 some (.inl (am,v_i))
 else
 some (.inr (am,v_i))
def jy:Nat→aa→ByteArray→Int→Option ((List ByteArray))
 | 0=>fun _ _ _=>none
 | fuel + 1=>fun v_s ax af =>
 let self:=jy fuel
 (zZ v_s ax af).bind fun c1=>let v_l:(List ByteArray):=c1
 if ((v_l.length:Int)==0)=true then
 some ([ax] : (List ByteArray))
 else
 let am:(List ByteArray):=[]
 let v_i:Int:=0
 (ah (jQ self v_l v_s af) ab (am,v_i)).bind fun r5 =>
 let am:=r5.1
 let v_i:=r5.2
 some am
def tJ (v_s:aa) (af:Int) : Option ((List ByteArray)) :=
 (jy ab v_s (⟨#[114,111,111,116]⟩ : ByteArray) af).bind fun c1=>some c1
def jA (am:(List aC)) (v_a:aC) (st:Int) : Option ((Int)⊕((Int))) :=
 let v_k:=st
 (if (decide (v_k < (am.length:Int)))=true then (aw am v_k).bind fun b4=>some (decide (b4.bD≥v_a.bD)) else some false).bind fun q5=>if q5=true then
 let v_k:Int:=(i64.wrap (v_k + 1))
 some (.inl v_k)
 else
 some (.inr v_k)
def l9 (v_s:aa) (oX:ByteArray) (st:(List aC)×Int) : Option (((List aC)×Int)⊕(((List aC)×Int))) :=
 let am:=st.1
 let v_i:=st.2
 if (decide (v_i < (v_s.ar.length:Int)))=true then
 (aw v_s.ar v_i).bind fun b1=>let v_a:aC:=b1
 (dK v_a).bind fun c2=>(if (!c2)=true then some true else some (!(v_a.bQ.toList==oX.toList))).bind fun q3=>if q3=true then
 let v_i:Int:=(i64.wrap (v_i + 1))
 some (.inl (am,v_i))
 else
 let v_k:Int:=0
 (ah (jA am v_a) ab v_k).bind fun r6 =>
 let v_k:=r6
 (hiO am v_k).bind fun b7=>(aX ([] : (List aC)) b7).bind fun b8=>let v_x:(List aC):=b8
 (aX v_x [v_a]).bind fun b9=>let v_x:(List aC):=b9
 (loO am v_k).bind fun b10=>(aX v_x b10).bind fun b11=>let am:(List aC):=b11
 let v_i:Int:=(i64.wrap (v_i + 1))
 some (.inl (am,v_i))
 else
 some (.inr (am,v_i))
def l8 (am:(List aC)) (st:(List Int)×Int) : Option (((List Int)×Int)⊕(((List Int)×Int))) :=
 let v_l:=st.1
 let aQ:=st.2
 if (decide (aQ < (am.length:Int)))=true then
 (aw am aQ).bind fun b13=>(aX v_l [b13.fId]).bind fun b14=>let v_l:(List Int):=b14
 let aQ:Int:=(i64.wrap (aQ + 1))
 some (.inl (v_l,aQ))
 else
 some (.inr (v_l,aQ))
def z8 (v_s:aa) (oX:ByteArray) : Option ((List Int)) :=
 let am:(List aC):=[]
 let v_i:Int:=0
 (ah (l9 v_s oX) ab (am,v_i)).bind fun r12 =>
 let am:=r12.1
 let v_i:=r12.2
 let v_l:(List Int):=[]
 let aQ:Int:=0
 (ah (l8 am) ab (v_l,aQ)).bind fun r15 =>
 let v_l:=r15.1
 let aQ:=r15.2
 some v_l
def nn (v_a:aV) (v_n:aW) : Option (Int) :=
 (if (!v_n.fUp)=true then some true else some (v_n.aA != v_a.aA)).bind fun q1=>if q1=true then
 some 4
 else
 (if (v_a.fu==(-1))=true then some true else some (v_a.bM==v_n.fId)).bind fun q2=>(if q2=true then some true else (if (v_a.bM==(-1))=true then some (v_a.fu==v_n.fu) else some false).bind fun q3=>some q3).bind fun q4=>if q4=true then
 some 1
 else
 if (v_a.fu==v_n.fu)=true then
 some 2
 else
 some 3
def tI (v_a:aV) (v_n:aW) : Option (Bool) :=
 (nn v_a v_n).bind fun c1=>if (c1==1)=true then
 some true
 else
 if (c1==2)=true then
 some (decide (v_a.jb≥2))
 else
 if (c1==3)=true then
 some (decide (v_a.jb≥4))
 else
 some false
def nF (v_s:aa) (bw:Int) (st:Int) : Option ((Int)⊕((Int)⊕(aW×Bool))) :=
 let v_i:=st
 if (decide (v_i < (v_s.aD.length:Int)))=true then
 (aw v_s.aD v_i).bind fun b1=>if (b1.fId==bw)=true then
 (aw v_s.aD v_i).bind fun b2=>some (.inr (.inr (b2,true)))
 else
 let v_i:Int:=(i64.wrap (v_i + 1))
 some (.inl v_i)
 else
 some (.inr (.inl v_i))
def nG (v_s:aa) (bw:Int) : Option (aW×Bool) :=
 let v_i:Int:=0
 (ah (nF v_s bw) ab v_i).bind fun r3=>match r3 with
 | .inr m4=>some m4
 | .inl m4 =>
 let v_i:=m4
 some ((⟨0,0,0,au.zero,0,0,false⟩ : aW),false)
def zi (v_n:Int) : Option (Bool) :=
 (if (decide (v_n≥0))=true then some (decide (v_n≤1073741824)) else some false).bind fun q1=>some q1
def pg (v_s:aa) (v_n:aW) (st:Int) : Option ((Int)⊕((Int))) :=
 let v_k:=st
 (if (decide (v_k < (v_s.aD.length:Int)))=true then (aw v_s.aD v_k).bind fun b1=>some (decide (b1.fId < v_n.fId)) else some false).bind fun q2=>if q2=true then
 let v_k:Int:=(i64.wrap (v_k + 1))
 some (.inl v_k)
 else
 some (.inr v_k)
def u6 (v_s:aa) (v_n:aW) : Option (aa) :=
 let v_k:Int:=0
 (ah (pg v_s v_n) ab v_k).bind fun r3 =>
 let v_k:=r3
 (hiO v_s.aD v_k).bind fun b4=>(aX ([] : (List aW)) b4).bind fun b5=>let v_l:(List aW):=b5
 (aX v_l [v_n]).bind fun b6=>let v_l:(List aW):=b6
 (if (decide (v_k < (v_s.aD.length:Int)))=true then (aw v_s.aD v_k).bind fun b7=>some (b7.fId==v_n.fId) else some false).bind fun q8=>(if q8=true then
 let v_k:Int:=(i64.wrap (v_k + 1))
 some v_k
 else
 some v_k).bind fun j9=>let v_k:=j9
 (loO v_s.aD v_k).bind fun b10=>(aX v_l b10).bind fun b11=>let v_s:aa:={ v_s with aD:=b11 }
 some v_s
def k8 (v_s:aa) (v_n:aW) : Option (aa×Int) :=
 (if (decide (v_n.fId < 0))=true then some true else some (decide (v_n.fId > 999))).bind fun q1=>(if q1=true then some true else some (decide (v_n.aA < 0))).bind fun q2=>(if q2=true then some true else some (decide (v_n.aA≥(v_s.bG.aj.length:Int)))).bind fun q3=>(if q3=true then some true else some (decide (v_n.fu < 0))).bind fun q4=>(if q4=true then some true else some (decide (v_n.fu > 99))).bind fun q5=>(if q5=true then some true else (zi v_n.jq.bg).bind fun c6=>some (!c6)).bind fun q7=>(if q7=true then some true else (zi v_n.jq.aI).bind fun c8=>some (!c8)).bind fun q9=>if q9=true then
 some (v_s,1)
 else
 (nG v_s v_n.fId).bind fun c10=>let v_x:aW:=c10.1
 let bV:Bool:=c10.2
 (if bV=true then some v_x.fUp else some false).bind fun q11=>if q11=true then
 some (v_s,7)
 else
 (if (!bV)=true then some (decide ((v_s.aD.length:Int)≥12)) else some false).bind fun q12=>if q12=true then
 some (v_s,4)
 else
 (u6 v_s (⟨v_n.fId,v_n.aA,v_n.fu,v_n.jq,v_s.cx,0,true⟩ : aW)).bind fun c13=>some (c13,0)
def vU (v_s:aa) (bw:Int) (AE:Int) : Option (aa×Int) :=
 (nG v_s bw).bind fun c1=>let v_n:aW:=c1.1
 let bV:Bool:=c1.2
 if (!bV)=true then
 some (v_s,2)
 else
 if (!v_n.fUp)=true then
 some (v_s,18)
 else
 if (decide (AE < 0))=true then
 some (v_s,15)
 else
 if (decide (AE < v_n.cn))=true then
 some (v_s,15)
 else
 if (decide ((i64.wrap (AE - v_n.cn)) > 1))=true then
 some (v_s,1)
 else
 let t2:Int:=v_s.cx
 let t3:Int:=AE
 let v_n:aW:={ v_n with cM:=t2 }
 let v_n:aW:={ v_n with cn:=t3 }
 (u6 v_s v_n).bind fun c4=>some (c4,0)
def tA (v_s:aa) (bw:Int) : Option (aa) :=
 (nG v_s bw).bind fun c1=>let v_n:aW:=c1.1
 let bV:Bool:=c1.2
 if (!bV)=true then
 some v_s
 else
 let v_n:aW:={ v_n with fUp:=false }
 (u6 v_s v_n).bind fun c2=>some c2
def nD (v_s:aa) (bw:Int) (st:au×Int) : Option ((au×Int)⊕((au×Int))) :=
 let v_v:=st.1
 let v_i:=st.2
 if (decide (v_i < (v_s.ac.length:Int)))=true then
 (aw v_s.ac v_i).bind fun b1=>if (b1.bM==bw)=true then
 (aw v_s.ac v_i).bind fun b2=>(df v_v b2.cH).bind fun c3=>let v_v:au:=c3
 let v_i:Int:=(i64.wrap (v_i + 1))
 some (.inl (v_v,v_i))
 else
 let v_i:Int:=(i64.wrap (v_i + 1))
 some (.inl (v_v,v_i))
 else
 some (.inr (v_v,v_i))
def DF (v_s:aa) (bw:Int) : Option (au) :=
 let v_v:au:=(⟨0,0⟩ : au)
 let v_i:Int:=0
 (ah (nD v_s bw) ab (v_v,v_i)).bind fun r4 =>
 let v_v:=r4.1
 let v_i:=r4.2
 some v_v
def zj (v_s:aa) (bw:Int) : Option (au) :=
 (nG v_s bw).bind fun c1=>let v_n:aW:=c1.1
 let bV:Bool:=c1.2
 (if (!bV)=true then some true else some (!v_n.fUp)).bind fun q2=>if q2=true then
 some (⟨0,0⟩ : au)
 else
 (DF v_s bw).bind fun c3=>(v6 v_n.jq c3).bind fun c4=>some c4
def ku (v_s:aa) (st:(List Int)×Int) : Option (((List Int)×Int)⊕(((List Int)×Int))) :=
 let v_l:=st.1
 let v_i:=st.2
 if (decide (v_i < (v_s.aD.length:Int)))=true then
 (aw v_s.aD v_i).bind fun b1=>(if b1.fUp=true then (aw v_s.aD v_i).bind fun b2=>some (decide ((i64.wrap (v_s.cx - b2.cM))≥10)) else some false).bind fun q3=>if q3=true then
 (aw v_s.aD v_i).bind fun b4=>(aX v_l [b4.fId]).bind fun b5=>let v_l:(List Int):=b5
 let v_i:Int:=(i64.wrap (v_i + 1))
 some (.inl (v_l,v_i))
 else
 let v_i:Int:=(i64.wrap (v_i + 1))
 some (.inl (v_l,v_i))
 else
 some (.inr (v_l,v_i))
def vT (v_s:aa) : Option ((List Int)) :=
 let v_l:(List Int):=[]
 let v_i:Int:=0
 (ah (ku v_s) ab (v_l,v_i)).bind fun r6 =>
 let v_l:=r6.1
 let v_i:=r6.2
 some v_l
def zT (v_s:aa) (xg:ByteArray) (v_a:aV) : Option (Bool) :=
 (eU v_s xg v_a.aA).bind fun c1=>(df c1 v_a.cH).bind fun c2=>(lL v_s xg v_a.aA).bind fun c3=>(f4 c2 c3).bind fun c4=>some c4
def vm (v_s:aa) (xg:ByteArray) (af:Int) (mE:Int) : Option (Bool) :=
 (pm v_s xg af mE).bind fun c1=>(DG v_s xg af).bind fun c2=>(f4 c1 c2).bind fun c3=>some c3
def iL (v_s:aa) (v_c:an) (st:Int) : Option ((Int)⊕((Int))) :=
 let v_k:=st
 (if (decide (v_k < (v_s.ac.length:Int)))=true then (aw v_s.ac v_k).bind fun b9=>some (decide (b9.fId < v_c.fId)) else some false).bind fun q10=>if q10=true then
 let v_k:Int:=(i64.wrap (v_k + 1))
 some (.inl v_k)
 else
 some (.inr v_k)
def jO (v_s:aa) (v_n:aW) (v_a:aC) (v_x:aV) : Option (aa×an) :=
 let v_s:aa:={ v_s with sw:=(i64.wrap (v_s.sw + 1)) }
 let v_c:an:=(⟨(i64.wrap ((i64.wrap (v_s.pY * 2 ^ (min (Int.toNat 20) (IntKind.i64.bits)))) + v_s.sw)),v_a.fId,v_n.fId,v_x.cH,v_x.bD,v_n.aA,(v_a.dG==1),0⟩ : an)
 (DD v_a.bN v_x.bD).bind fun c1=>let v_a:aC:={ v_a with bN:=c1.1 }
 (if v_c.bI=true then
 let t3:Int:=2
 let t4:(List aV):=[]
 let t5:Int:=v_s.cx
 let t6:Int:=0
 let v_a:aC:={ v_a with dG:=t3 }
 let v_a:aC:={ v_a with bN:=t4 }
 let v_a:aC:={ v_a with cM:=t5 }
 let v_a:aC:={ v_a with cn:=t6 }
 some v_a
 else
 (aX ([] : (List Int)) v_a.cf).bind fun b7=>(aX b7 [v_c.fId]).bind fun b8=>let v_a:aC:={ v_a with cf:=b8 }
 some v_a).bind fun j2=>let v_a:=j2
 let v_k:Int:=0
 (ah (iL v_s v_c) ab v_k).bind fun r11 =>
 let v_k:=r11
 (hiO v_s.ac v_k).bind fun b12=>(aX ([] : (List an)) b12).bind fun b13=>let v_l:(List an):=b13
 (aX v_l [v_c]).bind fun b14=>let v_l:(List an):=b14
 (loO v_s.ac v_k).bind fun b15=>(aX v_l b15).bind fun b16=>let v_s:aa:={ v_s with ac:=b16 }
 (dR v_s v_a).bind fun c17=>some (c17,v_c)
def jP (v_s:aa) (bU:Int) (st:(List bA)×Int) : Option (((List bA)×Int)⊕(((List bA)×Int))) :=
 let v_l:=st.1
 let v_i:=st.2
 if (decide (v_i < (v_s.aZ.length:Int)))=true then
 (aw v_s.aZ v_i).bind fun b1=>if (b1.bM != bU)=true then
 (aw v_s.aZ v_i).bind fun b2=>(aX v_l [b2]).bind fun b3=>let v_l:(List bA):=b3
 let v_i:Int:=(i64.wrap (v_i + 1))
 some (.inl (v_l,v_i))
 else
 let v_i:Int:=(i64.wrap (v_i + 1))
 some (.inl (v_l,v_i))
 else
 some (.inr (v_l,v_i))
def d6 (v_s:aa) (bU:Int) : Option (aa) :=
 let v_l:(List bA):=[]
 let v_i:Int:=0
 (ah (jP v_s bU) ab (v_l,v_i)).bind fun r4 =>
 let v_l:=r4.1
 let v_i:=r4.2
 let v_s:aa:={ v_s with aZ:=v_l }
 some v_s
def lZ (v_s:aa) (bU:Int) (st:Int) : Option ((Int)⊕((Int)⊕(bA×Bool))) :=
 let v_i:=st
 if (decide (v_i < (v_s.aZ.length:Int)))=true then
 (aw v_s.aZ v_i).bind fun b1=>if (b1.bM==bU)=true then
 (aw v_s.aZ v_i).bind fun b2=>some (.inr (.inr (b2,true)))
 else
 let v_i:Int:=(i64.wrap (v_i + 1))
 some (.inl v_i)
 else
 some (.inr (.inl v_i))
def zP (v_s:aa) (bU:Int) : Option (bA×Bool) :=
 let v_i:Int:=0
 (ah (lZ v_s bU) ab v_i).bind fun r3=>match r3 with
 | .inr m4=>some m4
 | .inl m4 =>
 let v_i:=m4
 some ((⟨0,0,0⟩ : bA),false)
def kC (v_s:aa) (fm:Int) (cJ:Int) (st:Int) : Option ((Int)⊕((Int)⊕(Bool))) :=
 let v_i:=st
 if (decide (v_i < (v_s.aZ.length:Int)))=true then
 (aw v_s.aZ v_i).bind fun b1=>(if (b1.bC==fm)=true then (aw v_s.aZ v_i).bind fun b2=>some (b2.bD==cJ) else some false).bind fun q3=>if q3=true then
 some (.inr (.inr true))
 else
 let v_i:Int:=(i64.wrap (v_i + 1))
 some (.inl v_i)
 else
 some (.inr (.inl v_i))
def wa (v_s:aa) (fm:Int) (cJ:Int) : Option (Bool) :=
 let v_i:Int:=0
 (ah (kC v_s fm cJ) ab v_i).bind fun r4=>match r4 with
 | .inr m5=>some m5
 | .inl m5 =>
 let v_i:=m5
 some false
def l5 (v_s:aa) (v_x:bA) (st:Int) : Option ((Int)⊕((Int))) :=
 let v_k:=st
 (if (decide (v_k < (v_s.aZ.length:Int)))=true then (aw v_s.aZ v_k).bind fun b1=>some (decide (b1.bM < v_x.bM)) else some false).bind fun q2=>if q2=true then
 let v_k:Int:=(i64.wrap (v_k + 1))
 some (.inl v_k)
 else
 some (.inr v_k)
def oq (v_s:aa) (v_x:bA) : Option (aa) :=
 let v_k:Int:=0
 (ah (l5 v_s v_x) ab v_k).bind fun r3 =>
 let v_k:=r3
 (hiO v_s.aZ v_k).bind fun b4=>(aX ([] : (List bA)) b4).bind fun b5=>let v_l:(List bA):=b5
 (aX v_l [v_x]).bind fun b6=>let v_l:(List bA):=b6
 (loO v_s.aZ v_k).bind fun b7=>(aX v_l b7).bind fun b8=>let v_s:aa:={ v_s with aZ:=b8 }
 some v_s
def om (v_s:aa) (v_n:aW) (v_x:bA) : Option (aa×Int×an×Bool) :=
 (eY v_s v_x.bC).bind fun c1=>let v_a:aC:=c1.1
 let bV:Bool:=c1.2
 (KI v_a.bN v_x.bD).bind fun c2=>let v_k:aV:=c2.1
 let yw:Bool:=c2.2
 (if (!bV)=true then some true else (dK v_a).bind fun c3=>some (!c3)).bind fun q4=>(if q4=true then some true else some (!yw)).bind fun q5=>(if q5=true then some true else (tI v_k v_n).bind fun c6=>some (!c6)).bind fun q7=>(if q7=true then some true else (f4 v_k.cH v_n.jq).bind fun c8=>some (!c8)).bind fun q9=>(if q9=true then some true else (zT v_s v_a.bQ v_k).bind fun c10=>some (!c10)).bind fun q11=>(if q11=true then some true else (vm v_s v_a.bQ v_n.aA v_a.de).bind fun c12=>some (!c12)).bind fun q13=>if q13=true then
 (d6 v_s v_n.fId).bind fun c14=>some (c14,0,(⟨0,0,0,au.zero,0,0,false,0⟩ : an),false)
 else
 (zj v_s v_n.fId).bind fun c15=>(f4 v_k.cH c15).bind fun c16=>(if (!c16)=true then some true else (vo v_s v_a.bQ v_n.aA v_k.cH).bind fun c17=>some (!c17)).bind fun q18=>if q18=true then
 some (v_s,3,(⟨0,0,0,au.zero,0,0,false,0⟩ : an),true)
 else
 (d6 v_s v_n.fId).bind fun c19=>(jO c19 v_n v_a v_k).bind fun c20=>let v_t:aa:=c20.1
 let v_c:an:=c20.2
 some (v_t,1,v_c,true)
def rg (v_s:aa) (v_n:aW) (v_a:aC) (v_x:aV) (dC:Bool) : Option (aa×Int×an) :=
 (zT v_s v_a.bQ v_x).bind fun c1=>let bV:Bool:=c1
 (nn v_x v_n).bind fun c2=>(if (c2==4)=true then some true else (f4 v_x.cH v_n.jq).bind fun c3=>some (!c3)).bind fun q4=>(if q4=true then some true else (if dC=true then some (!bV) else some false).bind fun q5=>some q5).bind fun q6=>if q6=true then
 some (v_s,0,(⟨0,0,0,au.zero,0,0,false,0⟩ : an))
 else
 (tI v_x v_n).bind fun c7=>if (!c7)=true then
 (if (dC==bV)=true then
 (DE v_a.bN v_x.bD).bind fun c9=>let v_a:aC:={ v_a with bN:=c9 }
 (dR v_s v_a).bind fun c10=>let v_s:aa:=c10
 some (v_a,v_s)
 else
 some (v_a,v_s)).bind fun j8=>let v_a:=j8.1
 let v_s:=j8.2
 some (v_s,0,(⟨0,0,0,au.zero,0,0,false,0⟩ : an))
 else
 (vo v_s v_a.bQ v_n.aA v_x.cH).bind fun c11=>if (!c11)=true then
 some (v_s,0,(⟨0,0,0,au.zero,0,0,false,0⟩ : an))
 else
 (zj v_s v_n.fId).bind fun c12=>(f4 v_x.cH c12).bind fun c13=>if c13=true then
 (jO v_s v_n v_a v_x).bind fun c14=>let v_t:aa:=c14.1
 let v_c:an:=c14.2
 some (v_t,1,v_c)
 else
 (if dC=true then (wa v_s v_a.fId v_x.bD).bind fun c15=>some (!c15) else some false).bind fun q16=>if q16=true then
 (oq v_s (⟨v_n.fId,v_a.fId,v_x.bD⟩ : bA)).bind fun c17=>some (c17,2,(⟨0,0,0,au.zero,0,0,false,0⟩ : an))
 else
 some (v_s,0,(⟨0,0,0,au.zero,0,0,false,0⟩ : an))
def dX (v_a:aC) (v_j:Int) (bS:(List Int)) (v_n:aW) (dC:Bool) (st:aa×Int) : Option ((aa×Int)⊕((aa×Int)⊕(aa×Int×an))) :=
 let v_s:=st.1
 let v_k:=st.2
 if (decide (v_k < (v_a.bN.length:Int)))=true then
 (aw bS v_j).bind fun b8=>(eY v_s b8).bind fun c9=>let v_b:aC:=c9.1
 (aw v_a.bN v_k).bind fun b10=>(rg v_s v_n v_b b10 dC).bind fun c11=>let v_t:aa:=c11.1
 let AC:Int:=c11.2.1
 let v_c:an:=c11.2.2
 let v_s:aa:=v_t
 if (AC != 0)=true then
 some (.inr (.inr (v_s,AC,v_c)))
 else
 let v_k:Int:=(i64.wrap (v_k + 1))
 some (.inl (v_s,v_k))
 else
 some (.inr (.inl (v_s,v_k)))
def dY (bS:(List Int)) (v_i:Int) (fj:(List ByteArray)) (v_n:aW) (dC:Bool) (st:aa×Int) : Option ((aa×Int)⊕((aa×Int)⊕(aa×Int×an))) :=
 let v_s:=st.1
 let v_j:=st.2
 if (decide (v_j < (bS.length:Int)))=true then
 (aw bS v_j).bind fun b4=>(eY v_s b4).bind fun c5=>let v_a:aC:=c5.1
 (aw fj v_i).bind fun b6=>(vm v_s b6 v_n.aA v_a.de).bind fun c7=>if (!c7)=true then
 let v_j:Int:=(i64.wrap (v_j + 1))
 some (.inl (v_s,v_j))
 else
 let v_k:Int:=0
 (ah (dX v_a v_j bS v_n dC) ab (v_s,v_k)).bind fun r12=>match r12 with
 | .inr m13=>some (.inr (.inr m13))
 | .inl m13 =>
 let v_s:=m13.1
 let v_k:=m13.2
 let v_j:Int:=(i64.wrap (v_j + 1))
 some (.inl (v_s,v_j))
 else
 some (.inr (.inl (v_s,v_j)))
def dZ (fj:(List ByteArray)) (v_n:aW) (dC:Bool) (st:aa×Int) : Option ((aa×Int)⊕((aa×Int)⊕(aa×Int×an))) :=
 let v_s:=st.1
 let v_i:=st.2
 if (decide (v_i < (fj.length:Int)))=true then
 (aw fj v_i).bind fun b2=>(z8 v_s b2).bind fun c3=>let bS:(List Int):=c3
 let v_j:Int:=0
 (ah (dY bS v_i fj v_n dC) ab (v_s,v_j)).bind fun r14=>match r14 with
 | .inr m15=>some (.inr (.inr m15))
 | .inl m15 =>
 let v_s:=m15.1
 let v_j:=m15.2
 let v_i:Int:=(i64.wrap (v_i + 1))
 some (.inl (v_s,v_i))
 else
 some (.inr (.inl (v_s,v_i)))
def dz (v_s:aa) (v_n:aW) (dC:Bool) : Option (aa×Int×an) :=
 (tJ v_s v_n.aA).bind fun c1=>let fj:(List ByteArray):=c1
 let v_i:Int:=0
 (ah (dZ fj v_n dC) ab (v_s,v_i)).bind fun r16=>match r16 with
 | .inr m17=>some m17
 | .inl m17 =>
 let v_s:=m17.1
 let v_i:=m17.2
 some (v_s,0,(⟨0,0,0,au.zero,0,0,false,0⟩ : an))
def rh (v_s:aa) (bU:Int) : Option (aa×Int×an) :=
 (nG v_s bU).bind fun c1=>let v_n:aW:=c1.1
 let bV:Bool:=c1.2
 (if (!bV)=true then some true else some (!v_n.fUp)).bind fun q2=>(if q2=true then some true else some (decide ((v_s.ac.length:Int)≥200))).bind fun q3=>(if q3=true then some true else some (decide (v_s.sw≥1048575))).bind fun q4=>if q4=true then
 some (v_s,0,(⟨0,0,0,au.zero,0,0,false,0⟩ : an))
 else
 (zP v_s bU).bind fun c5=>let v_x:bA:=c5.1
 let aac:Bool:=c5.2
 if aac=true then
 (om v_s v_n v_x).bind fun c6=>let v_t:aa:=c6.1
 let AC:Int:=c6.2.1
 let v_c:an:=c6.2.2.1
 let cu:Bool:=c6.2.2.2
 let v_s:aa:=v_t
 if cu=true then
 some (v_s,AC,v_c)
 else
 (dz v_s v_n true).bind fun c7=>let v_s:aa:=c7.1
 let yu:Int:=c7.2.1
 let xh:an:=c7.2.2
 if (yu != 0)=true then
 some (v_s,yu,xh)
 else
 (dz v_s v_n false).bind fun c8=>some c8
 else
 (dz v_s v_n true).bind fun c9=>let v_s:aa:=c9.1
 let yu:Int:=c9.2.1
 let xh:an:=c9.2.2
 if (yu != 0)=true then
 some (v_s,yu,xh)
 else
 (dz v_s v_n false).bind fun c10=>some c10
def eT (bU:Int) (st:aa×(List an)×Int) : Option ((aa×(List an)×Int)⊕((aa×(List an)×Int))) :=
 let v_s:=st.1
 let v_l:=st.2.1
 let v_k:=st.2.2
 if (decide (v_k < 3))=true then
 (rh v_s bU).bind fun c1=>let v_t:aa:=c1.1
 let AC:Int:=c1.2.1
 let v_c:an:=c1.2.2
 let v_s:aa:=v_t
 if (AC != 1)=true then
 some (.inr (v_s,v_l,v_k))
 else
 (aX v_l [v_c]).bind fun b2=>let v_l:(List an):=b2
 let v_k:Int:=(i64.wrap (v_k + 1))
 some (.inl (v_s,v_l,v_k))
 else
 some (.inr (v_s,v_l,v_k))
def l6 (v_s:aa) (bU:Int) : Option (aa×(List an)) :=
 let v_l:(List an):=[]
 let v_k:Int:=0
 (ah (eT bU) ab (v_s,v_l,v_k)).bind fun r3 =>
 let v_s:=r3.1
 let v_l:=r3.2.1
 let v_k:=r3.2.2
 some (v_s,v_l)
def lV (v_n:Int) : Option (Int) :=
 (if (decide (v_n < 0))=true then some true else some (decide (v_n > 1125899906842624))).bind fun q1=>if q1=true then
 some 0
 else
 some v_n
def oJ (v_n:Int) (ca:(List Int)) (gY:(List Int)) (co:(List Int)) (st:(List Int)×Int×Int) : Option (((List Int)×Int×Int)⊕(((List Int)×Int×Int))) :=
 let am:=st.1
 let cp:=st.2.1
 let v_i:=st.2.2
 if (decide (v_i < v_n))=true then
 (aw ca v_i).bind fun b2=>(lV b2).bind fun c3=>(aw gY v_i).bind fun b4=>(lV b4).bind fun c5=>(aw co v_i).bind fun b6=>(lV b6).bind fun c7=>let v_x:Int:=(if cp < (if c7 < (if c5 < c3 then c5 else c3) then c7 else (if c5 < c3 then c5 else c3)) then cp else (if c7 < (if c5 < c3 then c5 else c3) then c7 else (if c5 < c3 then c5 else c3)))
 (aX am [v_x]).bind fun b8=>let am:(List Int):=b8
 let cp:Int:=(i64.wrap (cp - v_x))
 let v_i:Int:=(i64.wrap (v_i + 1))
 some (.inl (am,cp,v_i))
 else
 some (.inr (am,cp,v_i))
def oI (v_n:Int) (gY:(List Int)) (co:(List Int)) (st:(List Int)×Int×Int) : Option (((List Int)×Int×Int)⊕(((List Int)×Int×Int))) :=
 let am:=st.1
 let cp:=st.2.1
 let aQ:=st.2.2
 if (decide (aQ < v_n))=true then
 (aw gY aQ).bind fun b10=>(lV b10).bind fun c11=>(aw co aQ).bind fun b12=>(lV b12).bind fun c13=>(aw am aQ).bind fun b14=>let aaV:Int:=(if cp < (if 0 > (i64.wrap ((if c13 < c11 then c13 else c11) - b14)) then 0 else (i64.wrap ((if c13 < c11 then c13 else c11) - b14))) then cp else (if 0 > (i64.wrap ((if c13 < c11 then c13 else c11) - b14)) then 0 else (i64.wrap ((if c13 < c11 then c13 else c11) - b14))))
 (aw am aQ).bind fun b15=>(aw am aQ).bind fun b16=>let am:(List Int):=(List.set am (Int.toNat aQ) (i64.wrap (b15 + aaV)))
 let cp:Int:=(i64.wrap (cp - aaV))
 let aQ:Int:=(i64.wrap (aQ + 1))
 some (.inl (am,cp,aQ))
 else
 some (.inr (am,cp,aQ))
def v8 (fY:Int) (ca:(List Int)) (gY:(List Int)) (co:(List Int)) : Option ((List Int)) :=
 let v_n:Int:=(if (co.length:Int) < (if (gY.length:Int) < (ca.length:Int) then (gY.length:Int) else (ca.length:Int)) then (co.length:Int) else (if (gY.length:Int) < (ca.length:Int) then (gY.length:Int) else (ca.length:Int)))
 (lV fY).bind fun c1=>let cp:Int:=c1
 let am:(List Int):=[]
 let v_i:Int:=0
 (ah (oJ v_n ca gY co) ab (am,cp,v_i)).bind fun r9 =>
 let am:=r9.1
 let cp:=r9.2.1
 let v_i:=r9.2.2
 let aQ:Int:=0
 (ah (oI v_n gY co) ab (am,cp,aQ)).bind fun r17 =>
 let am:=r17.1
 let cp:=r17.2.1
 let aQ:=r17.2.2
 some am
def qA (self:(aa→ByteArray→Int→Int→Option ((List ak)))) (bE:(List ByteArray)) (v_s:aa) (af:Int) (st:(List Int)×(List Int)×(List Int)×Int) : Option (((List Int)×(List Int)×(List Int)×Int)⊕(((List Int)×(List Int)×(List Int)×Int))) :=
 let ca:=st.1
 let co:=st.2.1
 let gY:=st.2.2.1
 let v_i:=st.2.2.2
 if (decide (v_i < (bE.length:Int)))=true then
 (aw bE v_i).bind fun b2=>(lL v_s b2 af).bind fun c3=>(aX ca [c3.bg]).bind fun b4=>let ca:(List Int):=b4
 (aw bE v_i).bind fun b5=>(vV v_s b5 af).bind fun c6=>(aX co [c6.bg]).bind fun b7=>let co:(List Int):=b7
 (aw bE v_i).bind fun b8=>(eU v_s b8 af).bind fun c9=>(aw bE v_i).bind fun b10=>(ot v_s b10 af).bind fun c11=>(aX gY [(i64.wrap (c9.bg + c11.bg))]).bind fun b12=>let gY:(List Int):=b12
 let v_i:Int:=(i64.wrap (v_i + 1))
 some (.inl (ca,co,gY,v_i))
 else
 some (.inr (ca,co,gY,v_i))
def qz (self:(aa→ByteArray→Int→Int→Option ((List ak)))) (bE:(List ByteArray)) (v_s:aa) (af:Int) (v_x:(List Int)) (st:(List ak)×Int) : Option (((List ak)×Int)⊕(((List ak)×Int))) :=
 let am:=st.1
 let aQ:=st.2
 if (decide (aQ < (bE.length:Int)))=true then
 (aw bE aQ).bind fun b15=>(aw v_x aQ).bind fun b16=>(self v_s b15 af b16).bind fun c17=>(aX am c17).bind fun b18=>let am:(List ak):=b18
 let aQ:Int:=(i64.wrap (aQ + 1))
 some (.inl (am,aQ))
 else
 some (.inr (am,aQ))
def lW:Nat→aa→ByteArray→Int→Int→Option ((List ak))
 | 0=>fun _ _ _ _=>none
 | fuel + 1=>fun v_s ax af ZP =>
 let self:=lW fuel
 (fw v_s.bG ax).bind fun c1=>let bE:(List ByteArray):=c1
 if ((bE.length:Int)==0)=true then
 some ([(⟨ax,ZP⟩ : ak)] : (List ak))
 else
 let ca:(List Int):=[]
 let gY:(List Int):=[]
 let co:(List Int):=[]
 let v_i:Int:=0
 (ah (qA self bE v_s af) ab (ca,co,gY,v_i)).bind fun r13 =>
 let ca:=r13.1
 let co:=r13.2.1
 let gY:=r13.2.2.1
 let v_i:=r13.2.2.2
 (v8 ZP ca gY co).bind fun c14=>let v_x:(List Int):=c14
 let am:(List ak):=[]
 let aQ:Int:=0
 (ah (qz self bE v_s af v_x) ab (am,aQ)).bind fun r19 =>
 let am:=r19.1
 let aQ:=r19.2
 some am
def gH (am:(List ak)) (v_i:Int) (v_l:(List ak)) (st:Int) : Option ((Int)⊕((Int))) :=
 let v_k:=st
 (if (decide (v_k < (am.length:Int)))=true then (aw am v_k).bind fun b3=>(aw v_l v_i).bind fun b4=>some (Op.bytesLess b3.aO.toList b4.aO.toList) else some false).bind fun q5=>if q5=true then
 let v_k:Int:=(i64.wrap (v_k + 1))
 some (.inl v_k)
 else
 some (.inr v_k)
def jM (v_l:(List ak)) (st:(List ak)×Int) : Option (((List ak)×Int)⊕(((List ak)×Int))) :=
 let am:=st.1
 let v_i:=st.2
 if (decide (v_i < (v_l.length:Int)))=true then
 let v_k:Int:=0
 (ah (gH am v_i v_l) ab v_k).bind fun r6 =>
 let v_k:=r6
 (hiO am v_k).bind fun b7=>(aX ([] : (List ak)) b7).bind fun b8=>let v_x:(List ak):=b8
 (aw v_l v_i).bind fun b9=>(aX v_x [b9]).bind fun b10=>let v_x:(List ak):=b10
 (loO am v_k).bind fun b11=>(aX v_x b11).bind fun b12=>let am:(List ak):=b12
 let v_i:Int:=(i64.wrap (v_i + 1))
 some (.inl (am,v_i))
 else
 some (.inr (am,v_i))
def qB (v_s:aa) (af:Int) : Option ((List ak)) :=
 let am:(List ak):=[]
 (fv v_s af).bind fun c1=>(lW ab v_s (⟨#[114,111,111,116]⟩ : ByteArray) af c1.bg).bind fun c2=>let v_l:(List ak):=c2
 let v_i:Int:=0
 (ah (jM v_l) ab (am,v_i)).bind fun r13 =>
 let am:=r13.1
 let v_i:=r13.2
 some am
def nP (v_l:(List ak)) (ax:ByteArray) (st:Int) : Option ((Int)⊕((Int)⊕(Int))) :=
 let v_i:=st
 if (decide (v_i < (v_l.length:Int)))=true then
 (aw v_l v_i).bind fun b2=>if (b2.aO.toList==ax.toList)=true then
 (aw v_l v_i).bind fun b3=>some (.inr (.inr b3.bg))
 else
 let v_i:Int:=(i64.wrap (v_i + 1))
 some (.inl v_i)
 else
 some (.inr (.inl v_i))
def zM (v_s:aa) (af:Int) (ax:ByteArray) : Option (Int) :=
 (qB v_s af).bind fun c1=>let v_l:(List ak):=c1
 let v_i:Int:=0
 (ah (nP v_l ax) ab v_i).bind fun r4=>match r4 with
 | .inr m5=>some m5
 | .inl m5 =>
 let v_i:=m5
 some 0
def jx (v_s:aa) (v_c:an) : Option (ByteArray) :=
 (eY v_s v_c.bC).bind fun c1=>let v_a:aC:=c1.1
 some v_a.bQ
def ky (v_a:aC) (ax:ByteArray) (v_s:aa) (af:Int) (ca:Int) (mF:Int) (st:Int) : Option ((Int)⊕((Int)⊕(Int))) :=
 let v_k:=st
 (if (decide (v_k < (v_a.bN.length:Int)))=true then (dK v_a).bind fun c6=>some c6 else some false).bind fun q7=>(if q7=true then some (v_a.bQ.toList==ax.toList) else some false).bind fun q8=>if q8=true then
 (aw v_a.bN v_k).bind fun b9=>(if (b9.aA==af)=true then (aw v_a.bN v_k).bind fun b10=>some (decide ((i64.wrap (b10.cH.bg + mF))≤ca)) else some false).bind fun q11=>if q11=true then
 (ot v_s ax af).bind fun c12=>some (.inr (.inr (if (i64.wrap (ca - mF)) < c12.bg then (i64.wrap (ca - mF)) else c12.bg)))
 else
 let v_k:Int:=(i64.wrap (v_k + 1))
 some (.inl v_k)
 else
 some (.inr (.inl v_k))
def kz (v_s:aa) (ax:ByteArray) (af:Int) (ca:Int) (mF:Int) (st:Int) : Option ((Int)⊕((Int)⊕(Int))) :=
 let v_i:=st
 if (decide (v_i < (v_s.ar.length:Int)))=true then
 (aw v_s.ar v_i).bind fun b5=>let v_a:aC:=b5
 let v_k:Int:=0
 (ah (ky v_a ax v_s af ca mF) ab v_k).bind fun r13=>match r13 with
 | .inr m14=>some (.inr (.inr m14))
 | .inl m14 =>
 let v_k:=m14
 let v_i:Int:=(i64.wrap (v_i + 1))
 some (.inl v_i)
 else
 some (.inr (.inl v_i))
def sQ (v_s:aa) (ax:ByteArray) (af:Int) : Option (Int) :=
 (eU v_s ax af).bind fun c1=>(lL v_s ax af).bind fun c2=>let t3:Int:=c1.bg
 let t4:Int:=c2.bg
 let mF:Int:=t3
 let ca:Int:=t4
 let v_i:Int:=0
 (ah (kz v_s ax af ca mF) ab v_i).bind fun r15=>match r15 with
 | .inr m16=>some m16
 | .inl m16 =>
 let v_i:=m16
 some 0
def pj (v_l:(List Int)) (v_n:Int) (st:Int) : Option ((Int)⊕((Int)⊕(Bool))) :=
 let v_i:=st
 if (decide (v_i < (v_l.length:Int)))=true then
 (aw v_l v_i).bind fun b1=>if (b1==v_n)=true then
 some (.inr (.inr true))
 else
 let v_i:Int:=(i64.wrap (v_i + 1))
 some (.inl v_i)
 else
 some (.inr (.inl v_i))
def xY (v_l:(List Int)) (v_n:Int) : Option (Bool) :=
 let v_i:Int:=0
 (ah (pj v_l v_n) ab v_i).bind fun r2=>match r2 with
 | .inr m3=>some m3
 | .inl m3 =>
 let v_i:=m3
 some false
def jL (v_s:aa) (af:Int) (ax:ByteArray) (v_l:(List Int)) (st:Int×Int) : Option ((Int×Int)⊕((Int×Int))) :=
 let v_n:=st.1
 let v_i:=st.2
 if (decide (v_i < (v_s.ac.length:Int)))=true then
 (aw v_s.ac v_i).bind fun b1=>let v_c:an:=b1
 (if (v_c.aA==af)=true then (if (ax.toList==(⟨#[]⟩ : ByteArray).toList)=true then some true else (jx v_s v_c).bind fun c2=>some (c2.toList==ax.toList)).bind fun q3=>some q3 else some false).bind fun q4=>(if q4=true then (if (v_c.jF != 0)=true then some true else (xY v_l v_c.fId).bind fun c5=>some c5).bind fun q6=>some q6 else some false).bind fun q7=>if q7=true then
 let v_n:Int:=(i64.wrap (v_n + v_c.cH.bg))
 let v_i:Int:=(i64.wrap (v_i + 1))
 some (.inl (v_n,v_i))
 else
 let v_i:Int:=(i64.wrap (v_i + 1))
 some (.inl (v_n,v_i))
 else
 some (.inr (v_n,v_i))
def ni (v_s:aa) (ax:ByteArray) (af:Int) (v_l:(List Int)) : Option (Int) :=
 let v_n:Int:=0
 let v_i:Int:=0
 (ah (jL v_s af ax v_l) ab (v_n,v_i)).bind fun r8 =>
 let v_n:=r8.1
 let v_i:=r8.2
 some v_n
def jK (v_s:aa) (af:Int) (ax:ByteArray) (v_l:(List Int)) (st:an×Bool×Int) : Option ((an×Bool×Int)⊕((an×Bool×Int))) :=
 let cN:=st.1
 let bV:=st.2.1
 let v_i:=st.2.2
 if (decide (v_i < (v_s.ac.length:Int)))=true then
 (aw v_s.ac v_i).bind fun b3=>let v_c:an:=b3
 (if (v_c.aA != af)=true then some true else (jx v_s v_c).bind fun c4=>some (!(c4.toList==ax.toList))).bind fun q5=>(if q5=true then some true else some (v_c.jF != 0)).bind fun q6=>(if q6=true then some true else (xY v_l v_c.fId).bind fun c7=>some c7).bind fun q8=>if q8=true then
 let v_i:Int:=(i64.wrap (v_i + 1))
 some (.inl (cN,bV,v_i))
 else
 (if (!bV)=true then some true else (if cN.bI=true then some (!v_c.bI) else some false).bind fun q9=>some q9).bind fun q10=>(if q10=true then some true else (if (cN.bI==v_c.bI)=true then some (decide (v_c.fId > cN.fId)) else some false).bind fun q11=>some q11).bind fun q12=>if q12=true then
 let t13:an:=v_c
 let t14:Bool:=true
 let cN:an:=t13
 let bV:Bool:=t14
 let v_i:Int:=(i64.wrap (v_i + 1))
 some (.inl (cN,bV,v_i))
 else
 let v_i:Int:=(i64.wrap (v_i + 1))
 some (.inl (cN,bV,v_i))
 else
 some (.inr (cN,bV,v_i))
def qw (v_s:aa) (ax:ByteArray) (af:Int) (v_l:(List Int)) : Option (an×Bool) :=
 let t1:an:=(⟨0,0,0,au.zero,0,0,false,0⟩ : an)
 let t2:Bool:=false
 let cN:an:=t1
 let bV:Bool:=t2
 let v_i:Int:=0
 (ah (jK v_s af ax v_l) ab (cN,bV,v_i)).bind fun r15 =>
 let cN:=r15.1
 let bV:=r15.2.1
 let v_i:=r15.2.2
 some (cN,bV)
def lS (bP:(List ak)) (v_s:aa) (af:Int) (st:Int×Int) : Option ((Int×Int)⊕((Int×Int))) :=
 let lh:=st.1
 let v_i:=st.2
 if (decide (v_i < (bP.length:Int)))=true then
 (aw bP v_i).bind fun b4=>(sQ v_s b4.aO af).bind fun c5=>let lh:Int:=(i64.wrap (lh + c5))
 let v_i:Int:=(i64.wrap (v_i + 1))
 some (.inl (lh,v_i))
 else
 some (.inr (lh,v_i))
def lR (bP:(List ak)) (v_s:aa) (af:Int) (v_l:(List Int)) (st:Int×an×Int) : Option ((Int×an×Int)⊕((Int×an×Int))) :=
 let co:=st.1
 let v_x:=st.2.1
 let aQ:=st.2.2
 if (decide (aQ < (bP.length:Int)))=true then
 (aw bP aQ).bind fun b10=>let v_p:ByteArray:=b10.aO
 (eU v_s v_p af).bind fun c11=>(aw bP aQ).bind fun b12=>(ni v_s v_p af v_l).bind fun c13=>let DR:Int:=(i64.wrap ((i64.wrap (c11.bg - b12.bg)) - c13))
 (qw v_s v_p af v_l).bind fun c14=>let v_c:an:=c14.1
 let bV:Bool:=c14.2
 (if bV=true then some (decide (DR > co)) else some false).bind fun q15=>if q15=true then
 let t16:Int:=DR
 let t17:an:=v_c
 let co:Int:=t16
 let v_x:an:=t17
 let aQ:Int:=(i64.wrap (aQ + 1))
 some (.inl (co,v_x,aQ))
 else
 let aQ:Int:=(i64.wrap (aQ + 1))
 some (.inl (co,v_x,aQ))
 else
 some (.inr (co,v_x,aQ))
def qy (v_s:aa) (af:Int) (lh:Int) (bP:(List ak)) (st:(List Int)) : Option (((List Int))⊕(((List Int))⊕((List Int)))) :=
 let v_l:=st
 (ni v_s (⟨#[]⟩ : ByteArray) af v_l).bind fun c7=>if (decide (c7 < lh))=true then
 let t8:Int:=0
 let t9:an:=(⟨0,0,0,au.zero,0,0,false,0⟩ : an)
 let co:Int:=t8
 let v_x:an:=t9
 let aQ:Int:=0
 (ah (lR bP v_s af v_l) ab (co,v_x,aQ)).bind fun r18 =>
 let co:=r18.1
 let v_x:=r18.2.1
 let aQ:=r18.2.2
 if (co==0)=true then
 some (.inr (.inr v_l))
 else
 (aX v_l [v_x.fId]).bind fun b19=>let v_l:(List Int):=b19
 some (.inl v_l)
 else
 some (.inr (.inl v_l))
def zK (v_s:aa) (af:Int) : Option ((List Int)) :=
 (qB v_s af).bind fun c1=>let bP:(List ak):=c1
 (fv v_s af).bind fun c2=>(eU v_s (⟨#[114,111,111,116]⟩ : ByteArray) af).bind fun c3=>let lh:Int:=(i64.wrap (0 - (if 0 > (i64.wrap (c2.bg - c3.bg)) then 0 else (i64.wrap (c2.bg - c3.bg)))))
 let v_i:Int:=0
 (ah (lS bP v_s af) ab (lh,v_i)).bind fun r6 =>
 let lh:=r6.1
 let v_i:=r6.2
 let v_l:(List Int):=[]
 (ah (qy v_s af lh bP) ab v_l).bind fun r20=>match r20 with
 | .inr m21=>some m21
 | .inl m21 =>
 let v_l:=m21
 some v_l
def qu (v_t:Int) (bw:Int) (st:(List an)×Int) : Option (((List an)×Int)⊕(((List an)×Int))) :=
 let v_l:=st.1
 let v_i:=st.2
 if (decide (v_i < (v_l.length:Int)))=true then
 (aw v_l v_i).bind fun b2=>if (b2.fId==bw)=true then
 (aw v_l v_i).bind fun b3=>let v_l:(List an):=(List.set v_l (Int.toNat v_i) ({ b3 with jF:=v_t }))
 let v_i:Int:=(i64.wrap (v_i + 1))
 some (.inl (v_l,v_i))
 else
 let v_i:Int:=(i64.wrap (v_i + 1))
 some (.inl (v_l,v_i))
 else
 some (.inr (v_l,v_i))
def kj (v_s:aa) (bw:Int) (v_t:Int) : Option (aa) :=
 (aX ([] : (List an)) v_s.ac).bind fun b1=>let v_l:(List an):=b1
 let v_i:Int:=0
 (ah (qu v_t bw) ab (v_l,v_i)).bind fun r4 =>
 let v_l:=r4.1
 let v_i:=r4.2
 let v_s:aa:={ v_s with ac:=v_l }
 some v_s
def lU (lg:aa) (yr:aa) (st:(List Int)×Int) : Option (((List Int)×Int)⊕(((List Int)×Int))) :=
 let v_l:=st.1
 let v_i:=st.2
 if (decide (v_i < (lg.ac.length:Int)))=true then
 (aw lg.ac v_i).bind fun b1=>(eZ yr b1.fId).bind fun c2=>let bV:Bool:=c2.2
 if (!bV)=true then
 (aw lg.ac v_i).bind fun b3=>(aX v_l [b3.fId]).bind fun b4=>let v_l:(List Int):=b4
 let v_i:Int:=(i64.wrap (v_i + 1))
 some (.inl (v_l,v_i))
 else
 let v_i:Int:=(i64.wrap (v_i + 1))
 some (.inl (v_l,v_i))
 else
 some (.inr (v_l,v_i))
def vi (lg:aa) (yr:aa) : Option ((List Int)) :=
 let v_l:(List Int):=[]
 let v_i:Int:=0
 (ah (lU lg yr) ab (v_l,v_i)).bind fun r5 =>
 let v_l:=r5.1
 let v_i:=r5.2
 some v_l
def nh (v_s:aa) (v_c:an) (st:Int×Int) : Option ((Int×Int)⊕((Int×Int))) :=
 let v_n:=st.1
 let v_i:=st.2
 (if (decide (v_i < (v_s.ac.length:Int)))=true then some v_c.bI else some false).bind fun q1=>if q1=true then
 (aw v_s.ac v_i).bind fun b2=>(if (b2.bC==v_c.bC)=true then (aw v_s.ac v_i).bind fun b3=>some (b3.fId != v_c.fId) else some false).bind fun q4=>(if q4=true then (aw v_s.ac v_i).bind fun b5=>some (b5.aA==v_c.aA) else some false).bind fun q6=>if q6=true then
 (aw v_s.ac v_i).bind fun b7=>let v_n:Int:=(i64.wrap (v_n + b7.cH.bg))
 let v_i:Int:=(i64.wrap (v_i + 1))
 some (.inl (v_n,v_i))
 else
 let v_i:Int:=(i64.wrap (v_i + 1))
 some (.inl (v_n,v_i))
 else
 some (.inr (v_n,v_i))
def qt (v_s:aa) (v_c:an) : Option (Int) :=
 let v_n:Int:=0
 let v_i:Int:=0
 (ah (nh v_s v_c) ab (v_n,v_i)).bind fun r8 =>
 let v_n:=r8.1
 let v_i:=r8.2
 some v_n
def qx (v_s:aa) (af:Int) (st:(List an)×Int) : Option (((List an)×Int)⊕(((List an)×Int))) :=
 let v_l:=st.1
 let v_i:=st.2
 if (decide (v_i≥0))=true then
 (aw v_s.ac v_i).bind fun b1=>let v_c:an:=b1
 (if (v_c.aA==af)=true then some (v_c.jF != 0) else some false).bind fun q2=>(if q2=true then some (decide ((i64.wrap (v_c.jF + 3))≤v_s.cx)) else some false).bind fun q3=>if q3=true then
 (aX v_l [v_c]).bind fun b4=>let v_l:(List an):=b4
 let v_i:Int:=(i64.wrap (v_i - 1))
 some (.inl (v_l,v_i))
 else
 let v_i:Int:=(i64.wrap (v_i - 1))
 some (.inl (v_l,v_i))
 else
 some (.inr (v_l,v_i))
def gB (v_l:(List an)) (af:Int) (st:aa×Int) : Option ((aa×Int)⊕((aa×Int))) :=
 let v_s:=st.1
 let aQ:=st.2
 if (decide (aQ < (v_l.length:Int)))=true then
 (aw v_l aQ).bind fun b6=>(eZ v_s b6.fId).bind fun c7=>let xh:an:=c7.1
 let bV:Bool:=c7.2
 if (!bV)=true then
 let aQ:Int:=(i64.wrap (aQ + 1))
 some (.inl (v_s,aQ))
 else
 (jx v_s xh).bind fun c8=>(eU v_s c8 af).bind fun c9=>(qt v_s xh).bind fun c10=>(jx v_s xh).bind fun c11=>(zM v_s af c11).bind fun c12=>if (decide ((i64.wrap (c9.bg - c10)) > c12))=true then
 (gU v_s ([xh.fId] : (List Int))).bind fun c13=>let v_s:aa:=c13
 let aQ:Int:=(i64.wrap (aQ + 1))
 some (.inl (v_s,aQ))
 else
 (kj v_s xh.fId 0).bind fun c14=>let v_s:aa:=c14
 let aQ:Int:=(i64.wrap (aQ + 1))
 some (.inl (v_s,aQ))
 else
 some (.inr (v_s,aQ))
def sR (v_s:aa) (af:Int) : Option (aa) :=
 let v_l:(List an):=[]
 let v_i:Int:=(i64.wrap ((v_s.ac.length:Int) - 1))
 (ah (qx v_s af) ab (v_l,v_i)).bind fun r5 =>
 let v_l:=r5.1
 let v_i:=r5.2
 let aQ:Int:=0
 (ah (gB v_l af) ab (v_s,aQ)).bind fun r15 =>
 let v_s:=r15.1
 let aQ:=r15.2
 some v_s
def fh (v_l:(List Int)) (st:aa×Int) : Option ((aa×Int)⊕((aa×Int))) :=
 let v_s:=st.1
 let v_i:=st.2
 if (decide (v_i < (v_l.length:Int)))=true then
 (aw v_l v_i).bind fun b3=>(kj v_s b3 (if 1 > v_s.cx then 1 else v_s.cx)).bind fun c4=>let v_s:aa:=c4
 let v_i:Int:=(i64.wrap (v_i + 1))
 some (.inl (v_s,v_i))
 else
 some (.inr (v_s,v_i))
def iI (st:aa×Int) : Option ((aa×Int)⊕((aa×Int))) :=
 let v_s:=st.1
 let af:=st.2
 if (decide (af < (v_s.bG.aj.length:Int)))=true then
 (sR v_s af).bind fun c1=>let v_s:aa:=c1
 (zK v_s af).bind fun c2=>let v_l:(List Int):=c2
 let v_i:Int:=0
 (ah (fh v_l) ab (v_s,v_i)).bind fun r5 =>
 let v_s:=r5.1
 let v_i:=r5.2
 let af:Int:=(i64.wrap (af + 1))
 some (.inl (v_s,af))
 else
 some (.inr (v_s,af))
def pD (v_s:aa) : Option (aa×(List Int)) :=
 let lg:aa:=v_s
 let af:Int:=0
 (ah (iI) ab (v_s,af)).bind fun r6 =>
 let v_s:=r6.1
 let af:=r6.2
 (vi lg v_s).bind fun c7=>some (v_s,c7)
def tF (v_s:ByteArray) (v_c:Int) (st:(List ByteArray)×Int×Int) : Option (((List ByteArray)×Int×Int)⊕(((List ByteArray)×Int×Int))) :=
 let v_l:=st.1
 let oZ:=st.2.1
 let v_i:=st.2.2
 if (decide (v_i < (v_s.size:Int)))=true then
 (lu v_s v_i).bind fun b1=>if (b1==v_c)=true then
 (JG v_s oZ v_i).bind fun b2=>(aX v_l [b2]).bind fun b3=>let v_l:(List ByteArray):=b3
 let oZ:Int:=(i64.wrap (v_i + 1))
 let v_i:Int:=(i64.wrap (v_i + 1))
 some (.inl (v_l,oZ,v_i))
 else
 let v_i:Int:=(i64.wrap (v_i + 1))
 some (.inl (v_l,oZ,v_i))
 else
 some (.inr (v_l,oZ,v_i))
def Gb (v_s:ByteArray) (v_c:Int) : Option ((List ByteArray)) :=
 let v_l:(List ByteArray):=[]
 let oZ:Int:=0
 let v_i:Int:=0
 (ah (tF v_s v_c) ab (v_l,oZ,v_i)).bind fun r4 =>
 let v_l:=r4.1
 let oZ:=r4.2.1
 let v_i:=r4.2.2
 (if (decide (oZ < (v_s.size:Int)))=true then
 (TB v_s oZ).bind fun b6=>(aX v_l [b6]).bind fun b7=>let v_l:(List ByteArray):=b7
 some v_l
 else
 some v_l).bind fun j5=>let v_l:=j5
 some v_l
def qd (v_l:(List ByteArray)) (st:(List ByteArray)×Int) : Option (((List ByteArray)×Int)⊕(((List ByteArray)×Int))) :=
 let am:=st.1
 let v_i:=st.2
 if (decide (v_i < (v_l.length:Int)))=true then
 (aw v_l v_i).bind fun b2=>if (!(b2.toList==(⟨#[]⟩ : ByteArray).toList))=true then
 (aw v_l v_i).bind fun b3=>(aX am [b3]).bind fun b4=>let am:(List ByteArray):=b4
 let v_i:Int:=(i64.wrap (v_i + 1))
 some (.inl (am,v_i))
 else
 let v_i:Int:=(i64.wrap (v_i + 1))
 some (.inl (am,v_i))
 else
 some (.inr (am,v_i))
def zl (v_s:ByteArray) : Option ((List ByteArray)) :=
 let am:(List ByteArray):=[]
 (Gb v_s 32).bind fun c1=>let v_l:(List ByteArray):=c1
 let v_i:Int:=0
 (ah (qd v_l) ab (am,v_i)).bind fun r5 =>
 let am:=r5.1
 let v_i:=r5.2
 some am
def oH (v_s:ByteArray) (st:Int×Int) : Option ((Int×Int)⊕((Int×Int)⊕(Int×Bool))) :=
 let v_n:=st.1
 let v_i:=st.2
 if (decide (v_i < (v_s.size:Int)))=true then
 (lu v_s v_i).bind fun b5=>(if (decide (b5 < 48))=true then some true else (lu v_s v_i).bind fun b6=>some (decide (b6 > 57))).bind fun q7=>if q7=true then
 some (.inr (.inr (0,false)))
 else
 (lu v_s v_i).bind fun b8=>let v_n:Int:=(i64.wrap ((i64.wrap (v_n * 10)) + (i64.wrap (IntKind.u8.wrap (b8 - 48)))))
 let v_i:Int:=(i64.wrap (v_i + 1))
 some (.inl (v_n,v_i))
 else
 some (.inr (.inl (v_n,v_i)))
def pA (v_s:ByteArray) : Option (Int×Bool) :=
 (if (decide ((v_s.size:Int) < 1))=true then some true else some (decide ((v_s.size:Int) > 7))).bind fun q1=>(if q1=true then some true else (lu v_s 0).bind fun b2=>(if (b2==48)=true then some (decide ((v_s.size:Int) > 1)) else some false).bind fun q3=>some q3).bind fun q4=>if q4=true then
 some (0,false)
 else
 let v_n:Int:=0
 let v_i:Int:=0
 (ah (oH v_s) ab (v_n,v_i)).bind fun r9=>match r9 with
 | .inr m10=>some m10
 | .inl m10 =>
 let v_n:=m10.1
 let v_i:=m10.2
 some (v_n,true)
def qe (v_s:ByteArray) (st:Int) : Option ((Int)⊕((Int))) :=
 let v_k:=st
 (if (decide (v_k < (v_s.size:Int)))=true then (lu v_s v_k).bind fun b1=>some (b1 != 47) else some false).bind fun q2=>if q2=true then
 let v_k:Int:=(i64.wrap (v_k + 1))
 some (.inl v_k)
 else
 some (.inr v_k)
def zn (v_s:ByteArray) : Option (eE×Bool) :=
 let v_k:Int:=0
 (ah (qe v_s) ab v_k).bind fun r3 =>
 let v_k:=r3
 if (v_k==(v_s.size:Int))=true then
 some ((⟨0,0⟩ : eE),false)
 else
 (Pa v_s v_k).bind fun b4=>(pA b4).bind fun c5=>let v_a:Int:=c5.1
 let v_p:Bool:=c5.2
 (TB v_s (i64.wrap (v_k + 1))).bind fun b6=>(pA b6).bind fun c7=>let v_b:Int:=c7.1
 let v_q:Bool:=c7.2
 (if v_p=true then some v_q else some false).bind fun q8=>some ((⟨v_a,v_b⟩ : eE),q8)
def qf (v_w:(List ByteArray)) (st:Bool×aE×Int) : Option ((Bool×aE×Int)⊕((Bool×aE×Int))) :=
 let eF:=st.1
 let v_q:=st.2.1
 let v_i:=st.2.2
 (if (decide (v_i < (v_w.length:Int)))=true then some eF else some false).bind fun q6=>if q6=true then
 let v_c:eE:=(⟨0,0⟩ : eE)
 (aw v_w v_i).bind fun b7=>(zn b7).bind fun c8=>let v_c:eE:=c8.1
 let eF:Bool:=c8.2
 (aX v_q.bt [v_c]).bind fun b9=>let v_q:aE:={ v_q with bt:=b9 }
 let v_i:Int:=(i64.wrap (v_i + 1))
 some (.inl (eF,v_q,v_i))
 else
 some (.inr (eF,v_q,v_i))
def zo (v_w:(List ByteArray)) (rS:Int) : Option (aE×Bool) :=
 (if ((v_w.length:Int) != (i64.wrap (3 + rS)))=true then some true else (aw v_w 0).bind fun b1=>some (!(b1.toList==(⟨#[113,117,101,117,101]⟩ : ByteArray).toList))).bind fun q2=>if q2=true then
 some ((⟨⟨#[]⟩,[],0⟩ : aE),false)
 else
 (aw v_w 2).bind fun b3=>(pA b3).bind fun c4=>let v_n:Int:=c4.1
 let eF:Bool:=c4.2
 (aw v_w 1).bind fun b5=>let v_q:aE:=(⟨b5,[],v_n⟩ : aE)
 let v_i:Int:=3
 (ah (qf v_w) ab (eF,v_q,v_i)).bind fun r10 =>
 let eF:=r10.1
 let v_q:=r10.2.1
 let v_i:=r10.2.2
 some (v_q,eF)
def qg (v_c:ay) (v_q:aE) (st:Int) : Option ((Int)⊕((Int))) :=
 let v_k:=st
 (if (decide (v_k < (v_c.ae.length:Int)))=true then (aw v_c.ae v_k).bind fun b10=>some (Op.bytesLess b10.aO.toList v_q.aO.toList) else some false).bind fun q11=>if q11=true then
 let v_k:Int:=(i64.wrap (v_k + 1))
 some (.inl v_k)
 else
 some (.inr v_k)
def qh (v_l:(List ByteArray)) (st:ay×Bool×Int) : Option ((ay×Bool×Int)⊕((ay×Bool×Int)⊕(ay×Int))) :=
 let v_c:=st.1
 let nA:=st.2.1
 let v_i:=st.2.2
 if (decide (v_i < (v_l.length:Int)))=true then
 (aw v_l v_i).bind fun b2=>(zl b2).bind fun c3=>let v_w:(List ByteArray):=c3
 if ((v_w.length:Int)==0)=true then
 let v_i:Int:=(i64.wrap (v_i + 1))
 some (.inl (v_c,nA,v_i))
 else
 if ((v_c.aj.length:Int)==0)=true then
 (aw v_w 0).bind fun b4=>if (!(b4.toList==(⟨#[108,97,98,101,108,115]⟩ : ByteArray).toList))=true then
 some (.inr (.inr ((⟨[],[]⟩ : ay),6)))
 else
 if (decide ((v_w.length:Int) > 3))=true then
 some (.inr (.inr ((⟨[],[]⟩ : ay),4)))
 else
 (loO v_w 1).bind fun b5=>(aX ([(⟨#[]⟩ : ByteArray)] : (List ByteArray)) b5).bind fun b6=>let v_c:ay:={ v_c with aj:=b6 }
 let v_i:Int:=(i64.wrap (v_i + 1))
 some (.inl (v_c,nA,v_i))
 else
 (if ((v_c.ae.length:Int)==16)=true then (aw v_w 0).bind fun b7=>some (b7.toList==(⟨#[113,117,101,117,101]⟩ : ByteArray).toList) else some false).bind fun q8=>if q8=true then
 some (.inr (.inr ((⟨[],[]⟩ : ay),4)))
 else
 (zo v_w (v_c.aj.length:Int)).bind fun c9=>let v_q:aE:=c9.1
 let eF:Bool:=c9.2
 if (!eF)=true then
 some (.inr (.inr ((⟨[],[]⟩ : ay),6)))
 else
 let v_k:Int:=0
 (ah (qg v_c v_q) ab v_k).bind fun r12 =>
 let v_k:=r12
 (if nA=true then some true else (if (decide (v_k < (v_c.ae.length:Int)))=true then (aw v_c.ae v_k).bind fun b13=>some (b13.aO.toList==v_q.aO.toList) else some false).bind fun q14=>some q14).bind fun q15=>let nA:Bool:=q15
 (hiO v_c.ae v_k).bind fun b16=>(aX ([] : (List aE)) b16).bind fun b17=>let v_x:(List aE):=b17
 (aX v_x [v_q]).bind fun b18=>(loO v_c.ae v_k).bind fun b19=>(aX b18 b19).bind fun b20=>let v_c:ay:={ v_c with ae:=b20 }
 let v_i:Int:=(i64.wrap (v_i + 1))
 some (.inl (v_c,nA,v_i))
 else
 some (.inr (.inl (v_c,nA,v_i)))
def zr (v_s:ByteArray) : Option (ay×Int) :=
 if (decide ((v_s.size:Int) > 2000))=true then
 some ((⟨[],[]⟩ : ay),5)
 else
 let v_c:ay:=(⟨[],[]⟩ : ay)
 let nA:Bool:=false
 (Gb v_s 10).bind fun c1=>let v_l:(List ByteArray):=c1
 let v_i:Int:=0
 (ah (qh v_l) ab (v_c,nA,v_i)).bind fun r21=>match r21 with
 | .inr m22=>some m22
 | .inl m22 =>
 let v_c:=m22.1
 let nA:=m22.2.1
 let v_i:=m22.2.2
 if ((v_c.aj.length:Int)==0)=true then
 some ((⟨[],[]⟩ : ay),6)
 else
 if nA=true then
 some ((⟨[],[]⟩ : ay),7)
 else
 some (v_c,0)
def dv:Nat→Int→Option (ByteArray)
 | 0=>fun _=>none
 | fuel + 1=>fun v_n =>
 let self:=dv fuel
 if (decide (v_n < 0))=true then
 if (v_n==(-9223372036854775808))=true then
 some (⟨#[45,57,50,50,51,51,55,50,48,51,54,56,53,52,55,55,53,56,48,56]⟩ : ByteArray)
 else
 (self (i64.wrap (0 - v_n))).bind fun c1=>(mA (⟨#[45]⟩ : ByteArray) c1).bind fun b2=>some b2
 else
 if (decide (v_n≥10))=true then
 (self (i64.wrap (Int.tdiv v_n 10))).bind fun c3=>(self (Int.tmod v_n 10)).bind fun c4=>(mA c3 c4).bind fun b5=>some b5
 else
 (YM ([(IntKind.u8.wrap (i64.wrap (48 + v_n)))] : (List Int))).bind fun b6=>some b6
def rC (v_c:ay) (st:ByteArray×Int) : Option ((ByteArray×Int)⊕((ByteArray×Int))) :=
 let am:=st.1
 let v_i:=st.2
 if (decide (v_i < (v_c.aj.length:Int)))=true then
 (mA am (⟨#[32]⟩ : ByteArray)).bind fun b1=>(aw v_c.aj v_i).bind fun b2=>(mA b1 b2).bind fun b3=>let am:ByteArray:=b3
 let v_i:Int:=(i64.wrap (v_i + 1))
 some (.inl (am,v_i))
 else
 some (.inr (am,v_i))
def rA (v_q:aE) (st:ByteArray×Int) : Option ((ByteArray×Int)⊕((ByteArray×Int))) :=
 let am:=st.1
 let v_k:=st.2
 if (decide (v_k < (v_q.bt.length:Int)))=true then
 (mA am (⟨#[32]⟩ : ByteArray)).bind fun b12=>(aw v_q.bt v_k).bind fun b13=>(dv ab b13.kM).bind fun c14=>(mA b12 c14).bind fun b15=>(mA b15 (⟨#[47]⟩ : ByteArray)).bind fun b16=>(aw v_q.bt v_k).bind fun b17=>(dv ab b17.sy).bind fun c18=>(mA b16 c18).bind fun b19=>let am:ByteArray:=b19
 let v_k:Int:=(i64.wrap (v_k + 1))
 some (.inl (am,v_k))
 else
 some (.inr (am,v_k))
def rB (v_c:ay) (st:ByteArray×Int) : Option ((ByteArray×Int)⊕((ByteArray×Int))) :=
 let am:=st.1
 let aQ:=st.2
 if (decide (aQ < (v_c.ae.length:Int)))=true then
 (aw v_c.ae aQ).bind fun b6=>let v_q:aE:=b6
 (mA am (⟨#[113,117,101,117,101,32]⟩ : ByteArray)).bind fun b7=>(mA b7 v_q.aO).bind fun b8=>(mA b8 (⟨#[32]⟩ : ByteArray)).bind fun b9=>(dv ab v_q.de).bind fun c10=>(mA b9 c10).bind fun b11=>let am:ByteArray:=b11
 let v_k:Int:=0
 (ah (rA v_q) ab (am,v_k)).bind fun r20 =>
 let am:=r20.1
 let v_k:=r20.2
 (mA am (⟨#[10]⟩ : ByteArray)).bind fun b21=>let am:ByteArray:=b21
 let aQ:Int:=(i64.wrap (aQ + 1))
 some (.inl (am,aQ))
 else
 some (.inr (am,aQ))
def zp (v_c:ay) : Option (ByteArray) :=
 let am:ByteArray:=(⟨#[108,97,98,101,108,115]⟩ : ByteArray)
 let v_i:Int:=1
 (ah (rC v_c) ab (am,v_i)).bind fun r4 =>
 let am:=r4.1
 let v_i:=r4.2
 (mA am (⟨#[10]⟩ : ByteArray)).bind fun b5=>let am:ByteArray:=b5
 let aQ:Int:=0
 (ah (rB v_c) ab (am,aQ)).bind fun r22 =>
 let am:=r22.1
 let aQ:=r22.2
 some am
def rG (v_a:ay) (v_b:ay) (st:Int) : Option ((Int)⊕((Int)⊕(Bool))) :=
 let v_i:=st
 if (decide (v_i < (v_a.aj.length:Int)))=true then
 (aw v_a.aj v_i).bind fun b2=>(aw v_b.aj v_i).bind fun b3=>if (!(b2.toList==b3.toList))=true then
 some (.inr (.inr false))
 else
 let v_i:Int:=(i64.wrap (v_i + 1))
 some (.inl v_i)
 else
 some (.inr (.inl v_i))
def rD (v_x:aE) (v_y:aE) (st:Int) : Option ((Int)⊕((Int)⊕(Bool))) :=
 let v_k:=st
 if (decide (v_k < (v_x.bt.length:Int)))=true then
 (aw v_x.bt v_k).bind fun b12=>(aw v_y.bt v_k).bind fun b13=>if (!((b12.kM==b13.kM)&&(b12.sy==b13.sy)))=true then
 some (.inr (.inr false))
 else
 let v_k:Int:=(i64.wrap (v_k + 1))
 some (.inl v_k)
 else
 some (.inr (.inl v_k))
def rF (v_a:ay) (v_b:ay) (st:Int) : Option ((Int)⊕((Int)⊕(Bool))) :=
 let aQ:=st
 if (decide (aQ < (v_a.ae.length:Int)))=true then
 (aw v_a.ae aQ).bind fun b6=>(aw v_b.ae aQ).bind fun b7=>let t8:aE:=b6
 let t9:aE:=b7
 let v_x:aE:=t8
 let v_y:aE:=t9
 (if (!(v_x.aO.toList==v_y.aO.toList))=true then some true else some (v_x.de != v_y.de)).bind fun q10=>(if q10=true then some true else some ((v_x.bt.length:Int) != (v_y.bt.length:Int))).bind fun q11=>if q11=true then
 some (.inr (.inr false))
 else
 let v_k:Int:=0
 (ah (rD v_x v_y) ab v_k).bind fun r14=>match r14 with
 | .inr m15=>some (.inr (.inr m15))
 | .inl m15 =>
 let v_k:=m15
 let aQ:Int:=(i64.wrap (aQ + 1))
 some (.inl aQ)
 else
 some (.inr (.inl aQ))
def DI (v_a:ay) (v_b:ay) : Option (Bool) :=
 (if ((v_a.aj.length:Int) != (v_b.aj.length:Int))=true then some true else some ((v_a.ae.length:Int) != (v_b.ae.length:Int))).bind fun q1=>if q1=true then
 some false
 else
 let v_i:Int:=0
 (ah (rG v_a v_b) ab v_i).bind fun r4=>match r4 with
 | .inr m5=>some m5
 | .inl m5 =>
 let v_i:=m5
 let aQ:Int:=0
 (ah (rF v_a v_b) ab aQ).bind fun r16=>match r16 with
 | .inr m17=>some m17
 | .inl m17 =>
 let aQ:=m17
 some true
def KU:Option (aa) :=
 some (⟨(⟨([(⟨#[]⟩ : ByteArray)] : (List ByteArray)),([(⟨(⟨#[114,111,111,116]⟩ : ByteArray),([(⟨10000,10000⟩ : eE)] : (List eE)),10000⟩ : aE)] : (List aE))⟩ : ay),[],[],[],[],[],0,0,0⟩ : aa)
def dg (v_s:aa) (v_e:Int) : Option (aa×bz) :=
 some (v_s,(⟨v_e,[],[],[],0⟩ : bz))
def eD (v_s:aa) (v_c:ay) (st:Int) : Option ((Int)⊕((Int)⊕(aa×bz))) :=
 let v_i:=st
 if (decide (v_i < (v_s.bG.aj.length:Int)))=true then
 (aw v_c.aj v_i).bind fun b6=>(aw v_s.bG.aj v_i).bind fun b7=>if (!(b6.toList==b7.toList))=true then
 (dg v_s 14).bind fun c8=>some (.inr (.inr c8))
 else
 let v_i:Int:=(i64.wrap (v_i + 1))
 some (.inl v_i)
 else
 some (.inr (.inl v_i))
def eB (v_s:aa) (v_c:ay) (st:Int) : Option ((Int)⊕((Int)⊕(aa×bz))) :=
 let aQ:=st
 if (decide (aQ < (v_s.ar.length:Int)))=true then
 (aw v_s.ar aQ).bind fun b11=>(dK b11).bind fun c12=>(if c12=true then (aw v_s.ar aQ).bind fun b13=>(kv v_c b13.bQ).bind fun c14=>some (!c14) else some false).bind fun q15=>if q15=true then
 (dg v_s 14).bind fun c16=>some (.inr (.inr c16))
 else
 let aQ:Int:=(i64.wrap (aQ + 1))
 some (.inl aQ)
 else
 some (.inr (.inl aQ))
def ng (v_s:aa) (OP:ByteArray) : Option (aa×bz) :=
 (zr OP).bind fun c1=>let v_c:ay:=c1.1
 let v_e:Int:=c1.2
 (if (v_e==0)=true then
 (va v_c).bind fun c3=>let v_e:Int:=c3
 some v_e
 else
 some v_e).bind fun j2=>let v_e:=j2
 if (v_e != 0)=true then
 (dg v_s v_e).bind fun c4=>some c4
 else
 if (decide ((v_c.aj.length:Int) < (v_s.bG.aj.length:Int)))=true then
 (dg v_s 14).bind fun c5=>some c5
 else
 let v_i:Int:=0
 (ah (eD v_s v_c) ab v_i).bind fun r9=>match r9 with
 | .inr m10=>some m10
 | .inl m10 =>
 let v_i:=m10
 let aQ:Int:=0
 (ah (eB v_s v_c) ab aQ).bind fun r17=>match r17 with
 | .inr m18=>some m18
 | .inl m18 =>
 let aQ:=m18
 let v_s:aa:={ v_s with bG:=v_c }
 some (v_s,(⟨0,[],[],[],0⟩ : bz))
def ph (v_s:aa) (bU:Int) (st:(List Int)×Int) : Option (((List Int)×Int)⊕(((List Int)×Int))) :=
 let v_l:=st.1
 let v_i:=st.2
 if (decide (v_i < (v_s.ac.length:Int)))=true then
 (aw v_s.ac v_i).bind fun b1=>if (b1.bM==bU)=true then
 (aw v_s.ac v_i).bind fun b2=>(aX v_l [b2.fId]).bind fun b3=>let v_l:(List Int):=b3
 let v_i:Int:=(i64.wrap (v_i + 1))
 some (.inl (v_l,v_i))
 else
 let v_i:Int:=(i64.wrap (v_i + 1))
 some (.inl (v_l,v_i))
 else
 some (.inr (v_l,v_i))
def xU (v_s:aa) (bU:Int) : Option ((List Int)) :=
 let v_l:(List Int):=[]
 let v_i:Int:=0
 (ah (ph v_s bU) ab (v_l,v_i)).bind fun r4 =>
 let v_l:=r4.1
 let v_i:=r4.2
 some v_l
def lO (v_x:aN) (v_t:aa) (st:(List Int)×Int) : Option (((List Int)×Int)⊕(((List Int)×Int))) :=
 let bS:=st.1
 let v_i:=st.2
 if (decide (v_i < (v_x.gm.length:Int)))=true then
 (aw v_x.gm v_i).bind fun b7=>(eZ v_t b7).bind fun c8=>let v_c:an:=c8.1
 let yw:Bool:=c8.2
 (if yw=true then some (v_c.bM==v_x.fId) else some false).bind fun q9=>if q9=true then
 (aX bS [v_c.fId]).bind fun b10=>let bS:(List Int):=b10
 let v_i:Int:=(i64.wrap (v_i + 1))
 some (.inl (bS,v_i))
 else
 let v_i:Int:=(i64.wrap (v_i + 1))
 some (.inl (bS,v_i))
 else
 some (.inr (bS,v_i))
def sP (v_s:aa) (v_x:aN) : Option (aa×bz) :=
 (nG v_s v_x.fId).bind fun c1=>let v_n:aW:=c1.1
 let bV:Bool:=c1.2
 (if bV=true then some v_n.fUp else some false).bind fun q2=>(if q2=true then some (v_n.cn==v_x.cn) else some false).bind fun q3=>if q3=true then
 (xU v_s v_x.fId).bind fun c4=>some (v_s,(⟨0,[],c4,[],0⟩ : bz))
 else
 (vU v_s v_x.fId v_x.cn).bind fun c5=>let v_t:aa:=c5.1
 let v_e:Int:=c5.2
 if (v_e != 0)=true then
 (dg v_s v_e).bind fun c6=>some c6
 else
 let bS:(List Int):=[]
 let v_i:Int:=0
 (ah (lO v_x v_t) ab (bS,v_i)).bind fun r11 =>
 let bS:=r11.1
 let v_i:=r11.2
 (gU v_t bS).bind fun c12=>let v_t:aa:=c12
 (l6 v_t v_x.fId).bind fun c13=>let v_t:aa:=c13.1
 (xU v_t v_x.fId).bind fun c14=>some (v_t,(⟨0,[],c14,[],0⟩ : bz))
def kx (bS:(List Int)) (v_s:aa) (st:(List an)×Int) : Option (((List an)×Int)⊕(((List an)×Int))) :=
 let v_l:=st.1
 let v_i:=st.2
 if (decide (v_i < (bS.length:Int)))=true then
 (aw bS v_i).bind fun b1=>(eZ v_s b1).bind fun c2=>let v_c:an:=c2.1
 let bV:Bool:=c2.2
 if bV=true then
 (aX v_l [v_c]).bind fun b3=>let v_l:(List an):=b3
 let v_i:Int:=(i64.wrap (v_i + 1))
 some (.inl (v_l,v_i))
 else
 let v_i:Int:=(i64.wrap (v_i + 1))
 some (.inl (v_l,v_i))
 else
 some (.inr (v_l,v_i))
def sO (v_s:aa) (bS:(List Int)) : Option ((List an)) :=
 let v_l:(List an):=[]
 let v_i:Int:=0
 (ah (kx bS v_s) ab (v_l,v_i)).bind fun r4 =>
 let v_l:=r4.1
 let v_i:=r4.2
 some v_l
def jd (v_s:aa) (fm:Int) (st:(List Int)×Int) : Option (((List Int)×Int)⊕(((List Int)×Int))) :=
 let v_l:=st.1
 let v_i:=st.2
 if (decide (v_i < (v_s.ac.length:Int)))=true then
 (aw v_s.ac v_i).bind fun b1=>(if (b1.bC==fm)=true then (aw v_s.ac v_i).bind fun b2=>some (b2.jF != 0) else some false).bind fun q3=>if q3=true then
 (aw v_s.ac v_i).bind fun b4=>(aX v_l [b4.fId]).bind fun b5=>let v_l:(List Int):=b5
 let v_i:Int:=(i64.wrap (v_i + 1))
 some (.inl (v_l,v_i))
 else
 let v_i:Int:=(i64.wrap (v_i + 1))
 some (.inl (v_l,v_i))
 else
 some (.inr (v_l,v_i))
def og (v_s:aa) (fm:Int) : Option ((List Int)) :=
 let v_l:(List Int):=[]
 let v_i:Int:=0
 (ah (jd v_s fm) ab (v_l,v_i)).bind fun r6 =>
 let v_l:=r6.1
 let v_i:=r6.2
 some v_l
def kw (kG:(List aV)) (v_s:aa) (st:(List aV)×Int) : Option (((List aV)×Int)⊕(((List aV)×Int)⊕((List aV)×Int))) :=
 let v_l:=st.1
 let v_i:=st.2
 if (decide (v_i < (kG.length:Int)))=true then
 (aw kG v_i).bind fun b1=>(p7 b1 (v_s.bG.aj.length:Int)).bind fun c2=>let v_e:Int:=c2
 if (v_e != 0)=true then
 some (.inr (.inr ([],v_e)))
 else
 (aw kG v_i).bind fun b3=>(FX v_l b3).bind fun c4=>let v_l:(List aV):=c4.1
 let v_e:Int:=c4.2
 if (v_e != 0)=true then
 some (.inr (.inr ([],v_e)))
 else
 let v_i:Int:=(i64.wrap (v_i + 1))
 some (.inl (v_l,v_i))
 else
 some (.inr (.inl (v_l,v_i)))
def v7 (v_s:aa) (v_l:(List aV)) (kG:(List aV)) : Option ((List aV)×Int) :=
 let v_i:Int:=0
 (ah (kw kG v_s) ab (v_l,v_i)).bind fun r5=>match r5 with
 | .inr m6=>some m6
 | .inl m6 =>
 let v_l:=m6.1
 let v_i:=m6.2
 some (v_l,0)
def ez (v_x:aN) (st:aa×aC×Int) : Option ((aa×aC×Int)⊕((aa×aC×Int))) :=
 let v_s:=st.1
 let v_a:=st.2.1
 let v_i:=st.2.2
 if (decide (v_i < (v_x.gm.length:Int)))=true then
 (aw v_x.gm v_i).bind fun b11=>(eZ v_s b11).bind fun c12=>let v_c:an:=c12.1
 let yw:Bool:=c12.2
 (if yw=true then some (v_c.bC==v_a.fId) else some false).bind fun q13=>(if q13=true then some (!v_c.bI) else some false).bind fun q14=>if q14=true then
 (mn v_s v_c.fId).bind fun c15=>let v_s:aa:=c15
 (jB v_a.cf v_c.fId).bind fun c16=>let v_a:aC:={ v_a with cf:=c16.1 }
 let v_i:Int:=(i64.wrap (v_i + 1))
 some (.inl (v_s,v_a,v_i))
 else
 let v_i:Int:=(i64.wrap (v_i + 1))
 some (.inl (v_s,v_a,v_i))
 else
 some (.inr (v_s,v_a,v_i))
def nf (v_s:aa) (v_x:aN) : Option (aa×bz) :=
 (eY v_s v_x.fId).bind fun c1=>let v_a:aC:=c1.1
 let bV:Bool:=c1.2
 if (!bV)=true then
 (dg v_s 2).bind fun c2=>some c2
 else
 if (v_a.dG != 2)=true then
 (dg v_s 14).bind fun c3=>some c3
 else
 if (decide (v_x.cn < v_a.cn))=true then
 (dg v_s 15).bind fun c4=>some c4
 else
 if (v_x.cn==v_a.cn)=true then
 (sO v_s v_a.oT).bind fun c5=>(og v_s v_a.fId).bind fun c6=>(aX ([] : (List Int)) v_a.pX).bind fun b7=>some (v_s,(⟨0,c5,c6,b7,0⟩ : bz))
 else
 if (decide ((i64.wrap (v_x.cn - 1)) > v_a.cn))=true then
 (dg v_s 1).bind fun c8=>some c8
 else
 (v7 v_s v_a.bN v_x.bN).bind fun c9=>let v_l:(List aV):=c9.1
 let v_e:Int:=c9.2
 if (v_e != 0)=true then
 (dg v_s v_e).bind fun c10=>some c10
 else
 let v_i:Int:=0
 (ah (ez v_x) ab (v_s,v_a,v_i)).bind fun r17 =>
 let v_s:=r17.1
 let v_a:=r17.2.1
 let v_i:=r17.2.2
 (sO v_s v_a.cf).bind fun c18=>(og v_s v_a.fId).bind fun c19=>(aX ([] : (List Int)) v_a.fQ).bind fun b20=>let v_o:bz:=(⟨0,c18,c19,b20,0⟩ : bz)
 let t21:(List aV):=v_l
 let t22:Int:=v_s.cx
 let t23:Int:=v_x.cn
 let v_a:aC:={ v_a with bN:=t21 }
 let v_a:aC:={ v_a with cM:=t22 }
 let v_a:aC:={ v_a with cn:=t23 }
 let t24:(List Int):=v_a.cf
 let t25:(List Int):=v_a.fQ
 let t26:(List Int):=[]
 let t27:(List Int):=[]
 let v_a:aC:={ v_a with oT:=t24 }
 let v_a:aC:={ v_a with pX:=t25 }
 let v_a:aC:={ v_a with cf:=t26 }
 let v_a:aC:={ v_a with fQ:=t27 }
 (dR v_s v_a).bind fun c28=>some (c28,v_o)
def tH (v_s:aa) (bw:Int) (sW:Int) : Option (aa×bz) :=
 (eY v_s bw).bind fun c1=>let v_a:aC:=c1.1
 let bV:Bool:=c1.2
 if (!bV)=true then
 (dg v_s 2).bind fun c2=>some c2
 else
 (dK v_a).bind fun c3=>if (!c3)=true then
 (dg v_s 14).bind fun c4=>some c4
 else
 (Am v_s bw sW).bind fun c5=>let v_t:aa:=c5.1
 let jZ:(List Int):=c5.2
 some (v_t,(⟨0,[],[],jZ,0⟩ : bz))
def lN (v_s:aa) (fm:Int) (st:Int) : Option ((Int)⊕((Int)⊕(Int))) :=
 let v_i:=st
 if (decide (v_i < (v_s.ac.length:Int)))=true then
 (aw v_s.ac v_i).bind fun b1=>(if (b1.bC==fm)=true then (aw v_s.ac v_i).bind fun b2=>some b2.bI else some false).bind fun q3=>if q3=true then
 (aw v_s.ac v_i).bind fun b4=>some (.inr (.inr b4.fId))
 else
 let v_i:Int:=(i64.wrap (v_i + 1))
 some (.inl v_i)
 else
 some (.inr (.inl v_i))
def vf (v_s:aa) (fm:Int) : Option (Int) :=
 let v_i:Int:=0
 (ah (lN v_s fm) ab v_i).bind fun r5=>match r5 with
 | .inr m6=>some m6
 | .inl m6 =>
 let v_i:=m6
 some (-1)
def gx (v_l:(List Int)) (st:aa×Int) : Option ((aa×Int)⊕((aa×Int))) :=
 let v_s:=st.1
 let v_i:=st.2
 if (decide (v_i < (v_l.length:Int)))=true then
 (aw v_l v_i).bind fun b5=>(tA v_s b5).bind fun c6=>(aw v_l v_i).bind fun b7=>(d6 c6 b7).bind fun c8=>let v_s:aa:=c8
 (aw v_l v_i).bind fun b9=>(xU v_s b9).bind fun c10=>(gU v_s c10).bind fun c11=>let v_s:aa:=c11
 let v_i:Int:=(i64.wrap (v_i + 1))
 some (.inl (v_s,v_i))
 else
 some (.inr (v_s,v_i))
def gv (v_l:(List Int)) (st:aa×Int) : Option ((aa×Int)⊕((aa×Int))) :=
 let v_s:=st.1
 let aQ:=st.2
 if (decide (aQ < (v_l.length:Int)))=true then
 (aw v_l aQ).bind fun b14=>(vf v_s b14).bind fun c15=>(gU v_s ([c15] : (List Int))).bind fun c16=>let v_s:aa:=c16
 let aQ:Int:=(i64.wrap (aQ + 1))
 some (.inl (v_s,aQ))
 else
 some (.inr (v_s,aQ))
def ju (v_s:aa) (st:(List ai)×Int) : Option (((List ai)×Int)⊕(((List ai)×Int))) :=
 let yq:=st.1
 let oY:=st.2
 if (decide (oY < (v_s.al.length:Int)))=true then
 (aw v_s.al oY).bind fun b18=>if (decide (b18.aP > v_s.cx))=true then
 (aw v_s.al oY).bind fun b19=>(aX yq [b19]).bind fun b20=>let yq:(List ai):=b20
 let oY:Int:=(i64.wrap (oY + 1))
 some (.inl (yq,oY))
 else
 let oY:Int:=(i64.wrap (oY + 1))
 some (.inl (yq,oY))
 else
 some (.inr (yq,oY))
def sN (v_s:aa) (v_n:Int) : Option (aa×bz) :=
 (if (decide (v_n < 1))=true then some true else some (decide (v_n > 100))).bind fun q1=>if q1=true then
 (dg v_s 1).bind fun c2=>some c2
 else
 if (decide ((i64.wrap (v_s.cx + v_n)) > 1000000000))=true then
 (dg v_s 11).bind fun c3=>some c3
 else
 let lg:aa:=v_s
 let v_s:aa:={ v_s with cx:=(i64.wrap (v_s.cx + v_n)) }
 (vT v_s).bind fun c4=>let v_l:(List Int):=c4
 let v_i:Int:=0
 (ah (gx v_l) ab (v_s,v_i)).bind fun r12 =>
 let v_s:=r12.1
 let v_i:=r12.2
 (tK v_s).bind fun c13=>let v_l:(List Int):=c13
 let aQ:Int:=0
 (ah (gv v_l) ab (v_s,aQ)).bind fun r17 =>
 let v_s:=r17.1
 let aQ:=r17.2
 let yq:(List ai):=[]
 let oY:Int:=0
 (ah (ju v_s) ab (yq,oY)).bind fun r21 =>
 let yq:=r21.1
 let oY:=r21.2
 let v_s:aa:={ v_s with al:=yq }
 (pD v_s).bind fun c22=>let v_s:aa:=c22.1
 (vi lg v_s).bind fun c23=>some (v_s,(⟨0,[],[],c23,0⟩ : bz))
def oh (v_s:aa) (v_x:aN) : Option (aa×bz) :=
 if (v_x.iy==1)=true then
 (ng v_s v_x.MQ).bind fun c1=>some c1
 else
 if (v_x.iy==2)=true then
 (k8 v_s v_x.bM).bind fun c2=>let v_t:aa:=c2.1
 let v_e:Int:=c2.2
 some (v_t,(⟨v_e,[],[],[],0⟩ : bz))
 else
 if (v_x.iy==3)=true then
 (sP v_s v_x).bind fun c3=>some c3
 else
 if (v_x.iy==4)=true then
 (nr v_s v_x.bC).bind fun c4=>let abG:aa:=c4.1
 let abJ:Int:=c4.2
 some (abG,(⟨abJ,[],[],[],0⟩ : bz))
 else
 if (v_x.iy==5)=true then
 (nf v_s v_x).bind fun c5=>some c5
 else
 if (v_x.iy==6)=true then
 (tH v_s v_x.fId 3).bind fun c6=>some c6
 else
 if (v_x.iy==7)=true then
 (tH v_s v_x.fId 4).bind fun c7=>some c7
 else
 if (v_x.iy==8)=true then
 (sN v_s v_x.fN).bind fun c8=>some c8
 else
 if (v_x.iy==9)=true then
 (nQ v_s v_x.pW v_x.fN).bind fun c9=>let abF:aa:=c9.1
 let v_n:Int:=c9.2.1
 let abI:Int:=c9.2.2
 some (abF,(⟨abI,[],[],[],v_n⟩ : bz))
 else
 if (v_x.iy==10)=true then
 (kl v_s v_x.fId).bind fun c10=>let abE:aa:=c10.1
 let abH:Int:=c10.2
 some (abE,(⟨abH,[],[],[],0⟩ : bz))
 else
 if (v_x.iy==11)=true then
 if (decide (v_s.pY≥1048576))=true then
 (dg v_s 11).bind fun c11=>some c11
 else
 let t12:Int:=(i64.wrap (v_s.pY + 1))
 let t13:Int:=0
 let v_s:aa:={ v_s with pY:=t12 }
 let v_s:aa:={ v_s with sw:=t13 }
 some (v_s,(⟨0,[],[],[],0⟩ : bz))
 else
 (dg v_s 3).bind fun c14=>some c14
def ql (v_a:(List Int)) (v_b:(List Int)) (st:Int) : Option ((Int)⊕((Int)⊕(Bool))) :=
 let v_i:=st
 if (decide (v_i < (v_a.length:Int)))=true then
 (aw v_a v_i).bind fun b1=>(aw v_b v_i).bind fun b2=>if (b1 != b2)=true then
 some (.inr (.inr false))
 else
 let v_i:Int:=(i64.wrap (v_i + 1))
 some (.inl v_i)
 else
 some (.inr (.inl v_i))
def qm (v_a:(List Int)) (v_b:(List Int)) : Option (Bool) :=
 if ((v_a.length:Int) != (v_b.length:Int))=true then
 some false
 else
 let v_i:Int:=0
 (ah (ql v_a v_b) ab v_i).bind fun r3=>match r3 with
 | .inr m4=>some m4
 | .inl m4 =>
 let v_i:=m4
 some true
def rI (v_a:aC) (v_b:aC) (st:Int) : Option ((Int)⊕((Int)⊕(Bool))) :=
 let v_i:=st
 if (decide (v_i < (v_a.bN.length:Int)))=true then
 (aw v_a.bN v_i).bind fun b9=>(aw v_b.bN v_i).bind fun b10=>if (!((b9.bD==b10.bD)&&((b9.aA==b10.aA)&&((b9.cH.bg==b10.cH.bg)&&((b9.cH.aI==b10.cH.aI)&&((b9.g9==b10.g9)&&((b9.bM==b10.bM)&&((b9.fu==b10.fu)&&(b9.jb==b10.jb)))))))))=true then
 some (.inr (.inr false))
 else
 let v_i:Int:=(i64.wrap (v_i + 1))
 some (.inl v_i)
 else
 some (.inr (.inl v_i))
def DJ (v_a:aC) (v_b:aC) : Option (Bool) :=
 (if (v_a.fId != v_b.fId)=true then some true else some (v_a.dG != v_b.dG)).bind fun q1=>(if q1=true then some true else some (!(v_a.bQ.toList==v_b.bQ.toList))).bind fun q2=>(if q2=true then some true else some (v_a.de != v_b.de)).bind fun q3=>(if q3=true then some true else some (v_a.bD != v_b.bD)).bind fun q4=>(if q4=true then some true else some (!((v_a.bI.bg==v_b.bI.bg)&&(v_a.bI.aI==v_b.bI.aI)))).bind fun q5=>(if q5=true then some true else some (v_a.cM != v_b.cM)).bind fun q6=>(if q6=true then some true else some (v_a.cn != v_b.cn)).bind fun q7=>(if q7=true then some true else some ((v_a.bN.length:Int) != (v_b.bN.length:Int))).bind fun q8=>if q8=true then
 some false
 else
 let v_i:Int:=0
 (ah (rI v_a v_b) ab v_i).bind fun r11=>match r11 with
 | .inr m12=>some m12
 | .inl m12 =>
 let v_i:=m12
 (qm v_a.cf v_b.cf).bind fun c13=>(if c13=true then (qm v_a.fQ v_b.fQ).bind fun c14=>some c14 else some false).bind fun q15=>(if q15=true then (qm v_a.oT v_b.oT).bind fun c16=>some c16 else some false).bind fun q17=>(if q17=true then (qm v_a.pX v_b.pX).bind fun c18=>some c18 else some false).bind fun q19=>some q19
def qr (v_a:aa) (v_b:aa) (st:Bool×Int) : Option ((Bool×Int)⊕((Bool×Int))) :=
 let eF:=st.1
 let v_i:=st.2
 if (decide (v_i < (v_a.aD.length:Int)))=true then
 (if eF=true then (aw v_a.aD v_i).bind fun b10=>(aw v_b.aD v_i).bind fun b11=>some ((b10.fId==b11.fId)&&((b10.aA==b11.aA)&&((b10.fu==b11.fu)&&((b10.jq.bg==b11.jq.bg)&&((b10.jq.aI==b11.jq.aI)&&((b10.cM==b11.cM)&&((b10.cn==b11.cn)&&(b10.fUp==b11.fUp)))))))) else some false).bind fun q12=>let eF:Bool:=q12
 let v_i:Int:=(i64.wrap (v_i + 1))
 some (.inl (eF,v_i))
 else
 some (.inr (eF,v_i))
def qq (v_a:aa) (v_b:aa) (st:Bool×Int) : Option ((Bool×Int)⊕((Bool×Int))) :=
 let eF:=st.1
 let aQ:=st.2
 if (decide (aQ < (v_a.ar.length:Int)))=true then
 (if eF=true then (aw v_a.ar aQ).bind fun b14=>(aw v_b.ar aQ).bind fun b15=>(DJ b14 b15).bind fun c16=>some c16 else some false).bind fun q17=>let eF:Bool:=q17
 let aQ:Int:=(i64.wrap (aQ + 1))
 some (.inl (eF,aQ))
 else
 some (.inr (eF,aQ))
def qp (v_a:aa) (v_b:aa) (st:Bool×Int) : Option ((Bool×Int)⊕((Bool×Int))) :=
 let eF:=st.1
 let oY:=st.2
 if (decide (oY < (v_a.ac.length:Int)))=true then
 (if eF=true then (aw v_a.ac oY).bind fun b19=>(aw v_b.ac oY).bind fun b20=>some ((b19.fId==b20.fId)&&((b19.bC==b20.bC)&&((b19.bM==b20.bM)&&((b19.cH.bg==b20.cH.bg)&&((b19.cH.aI==b20.cH.aI)&&((b19.bD==b20.bD)&&((b19.aA==b20.aA)&&((b19.bI==b20.bI)&&(b19.jF==b20.jF))))))))) else some false).bind fun q21=>let eF:Bool:=q21
 let oY:Int:=(i64.wrap (oY + 1))
 some (.inl (eF,oY))
 else
 some (.inr (eF,oY))
def qo (v_a:aa) (v_b:aa) (st:Bool×Int) : Option ((Bool×Int)⊕((Bool×Int))) :=
 let eF:=st.1
 let G0:=st.2
 if (decide (G0 < (v_a.aZ.length:Int)))=true then
 (if eF=true then (aw v_a.aZ G0).bind fun b23=>(aw v_b.aZ G0).bind fun b24=>some ((b23.bM==b24.bM)&&((b23.bC==b24.bC)&&(b23.bD==b24.bD))) else some false).bind fun q25=>let eF:Bool:=q25
 let G0:Int:=(i64.wrap (G0 + 1))
 some (.inl (eF,G0))
 else
 some (.inr (eF,G0))
def qn (v_a:aa) (v_b:aa) (st:Bool×Int) : Option ((Bool×Int)⊕((Bool×Int))) :=
 let eF:=st.1
 let GZ:=st.2
 if (decide (GZ < (v_a.al.length:Int)))=true then
 (if eF=true then (aw v_a.al GZ).bind fun b27=>(aw v_b.al GZ).bind fun b28=>some ((b27.fId==b28.fId)&&((b27.aA==b28.aA)&&((b27.aB==b28.aB)&&((b27.aP==b28.aP)&&((b27.a8.bg==b28.a8.bg)&&(b27.a8.aI==b28.a8.aI)))))) else some false).bind fun q29=>let eF:Bool:=q29
 let GZ:Int:=(i64.wrap (GZ + 1))
 some (.inl (eF,GZ))
 else
 some (.inr (eF,GZ))
def vg (v_a:aa) (v_b:aa) : Option (Bool) :=
 (DI v_a.bG v_b.bG).bind fun c1=>(if (!c1)=true then some true else some (v_a.cx != v_b.cx)).bind fun q2=>(if q2=true then some true else some (v_a.pY != v_b.pY)).bind fun q3=>(if q3=true then some true else some (v_a.sw != v_b.sw)).bind fun q4=>(if q4=true then some true else some ((v_a.aD.length:Int) != (v_b.aD.length:Int))).bind fun q5=>(if q5=true then some true else some ((v_a.ar.length:Int) != (v_b.ar.length:Int))).bind fun q6=>(if q6=true then some true else some ((v_a.ac.length:Int) != (v_b.ac.length:Int))).bind fun q7=>(if q7=true then some true else some ((v_a.aZ.length:Int) != (v_b.aZ.length:Int))).bind fun q8=>(if q8=true then some true else some ((v_a.al.length:Int) != (v_b.al.length:Int))).bind fun q9=>if q9=true then
 some false
 else
 let eF:Bool:=true
 let v_i:Int:=0
 (ah (qr v_a v_b) ab (eF,v_i)).bind fun r13 =>
 let eF:=r13.1
 let v_i:=r13.2
 let aQ:Int:=0
 (ah (qq v_a v_b) ab (eF,aQ)).bind fun r18 =>
 let eF:=r18.1
 let aQ:=r18.2
 let oY:Int:=0
 (ah (qp v_a v_b) ab (eF,oY)).bind fun r22 =>
 let eF:=r22.1
 let oY:=r22.2
 let G0:Int:=0
 (ah (qo v_a v_b) ab (eF,G0)).bind fun r26 =>
 let eF:=r26.1
 let G0:=r26.2
 let GZ:Int:=0
 (ah (qn v_a v_b) ab (eF,GZ)).bind fun r30 =>
 let eF:=r30.1
 let GZ:=r30.2
 some eF
def RR:Ent:=⟨[.ag 12,.lf (.int .i64)],[.ag 12],fun x=>mn x.1 x.2.1⟩
theorem GH:EOk prog 98 RR:=aL (.s .n (.s .n (.s (.s .n (.s (.lp [.row 5 5 85 9 (.st 6),.leaf 6 (.int .i64)] 0 false .n) .n)) .n))) [] [4] [] .nil Tryz.mixed Tryz.func98
def RQ:Ent:=⟨[.ag 12,.lf (.int .i64)],[.ag 6,.lf (.bool)],fun x=>eZ x.1 x.2.1⟩
theorem nv:EOk prog 87 RQ:=aL (.s .n (.s (.s .n (.s (.lp [.leaf 6 (.int .i64)] 0 true .n) .n)) .n)) [] [4] [] .nil Tryz.mixed Tryz.func87
def RO:Ent:=⟨[.ag 12,.lf (.int .i64)],[.ag 2,.lf (.bool)],fun x=>eY x.1 x.2.1⟩
theorem ij:EOk prog 91 RO:=aL (.s .n (.s (.s .n (.s (.lp [.leaf 6 (.int .i64)] 0 true .n) .n)) .n)) [] [4] [] .nil Tryz.mixed Tryz.func91
def RN:Ent:=⟨[.ag 2],[.lf (.bool)],fun x=>dK x.1⟩
theorem ig:EOk prog 80 RN:=aL .n [] [] [] .nil Tryz.mixed Tryz.func80
def VG:Ent:=⟨[.ag 12,.ag 2],[.ag 12],fun x=>dR x.1 x.2.1⟩
theorem pF:EOk prog 93 VG:=aL (.s .n (.s .n (.s (.s (.lp [.leaf 5 (.int .i64)] 0 false .n) .n) (.s .n (.s .n (.s (.s .n (.j [.leaf 5 (.int .i64)] .n)) .n)))))) [] [4] [] .nil Tryz.mixed Tryz.func93
def RJ:Ent:=⟨[.ag 12,.lf (.int .i64)],[.ag 12,.lf (.sl (.int .i64))],fun x=>ou x.1 x.2.1⟩
theorem GF:EOk prog 131 RJ:=aL (.s .n (.s .n (.s .n (.s .n (.s (.s .n (.s (.lp [.row 8 8 3 1 (.int .i64),.row 6 6 85 9 (.st 6),.leaf 9 (.int .i64)] 0 false .n) .n)) (.s (.s .n (.s (.lp [.row 7 7 87 3 (.st 11),.leaf 10 (.int .i64)] 2 false .n) .n)) .n)))))) [] [4] [] .nil Tryz.mixed Tryz.func131
def VI:Ent:=⟨[.ag 12,.lf (.int .i64),.lf (.int .i64)],[.ag 12,.lf (.sl (.int .i64))],fun x=>Am x.1 x.2.1 x.2.2.1⟩
theorem VH:EOk prog 100 VI:=aL .n [] [6] [] (.cons ij (.cons ig (.cons pF (.cons GF .nil)))) Tryz.mixed Tryz.func100
def Oz:Ent:=⟨[.ag 2],[.lf (.sl (.st 1))],fun x=>pE x.1⟩
theorem CK:EOk prog 94 Oz:=aL .n [] [] [] .nil Tryz.mixed Tryz.func94
def Hv:Ent:=⟨[.lf (.sl (.int .i64)),.lf (.int .i64)],[.lf (.sl (.int .i64)),.lf (.bool)],fun x=>jB x.1 x.2.1⟩
theorem wY:EOk prog 99 Hv:=aL (.s .n (.s .n (.s (.s .n (.s (.lp [.row 6 6 3 1 (.int .i64),.leaf 7 (.int .i64)] 0 false .n) .n)) .n))) [] [] [] .nil Tryz.mixed Tryz.func99
def RM:Ent:=⟨[.ag 12,.lf (.sl (.int .i64))],[.ag 12],fun x=>gU x.1 x.2.1⟩
theorem yh:EOk prog 88 RM:=aL (.s .n (.s (.s .n (.s (.lp [.box 2 41 12 [],.leaf 5 (.int .i64)] 0 false (.s .n (.s (.s (.s .n (.s .n (.s .n (.s .n (.s .n (.s .n (.s .n (.s (.s .n (.j [.box 8 71 2 []] .n)) .n)))))))) .n) .n))) .n)) .n)) [(4,[73,76,79,80]),(6,[73,76,79,80]),(8,[73,76,79,80]),(11,[73,76,79,80]),(12,[73,76,79,80]),(14,[73,76,79,80]),(17,[73,76,79,80])] [4] [] (.cons nv (.cons ij (.cons CK (.cons pF (.cons GF (.cons GH (.cons wY .nil))))))) Tryz.mixed Tryz.func88
def Ln:Ent:=⟨[.ag 12],[.lf (.sl (.int .i64))],fun x=>tK x.1⟩
theorem Lm:EOk prog 104 Ln:=aL (.s .n (.s .n (.s (.s .n (.s (.lp [.row 3 3 3 1 (.int .i64),.leaf 4 (.int .i64)] 0 false .n) .n)) .n))) [] [] [] .nil Tryz.mixed Tryz.func104
def RL:Ent:=⟨[.lf (.int .i64)],[.lf (.bool)],fun x=>vt x.1⟩
theorem RK:EOk prog 90 RL:=aL .n [] [] [] .nil Tryz.mixed Tryz.func90
def Lj:Ent:=⟨[.ag 12],[.ag 12],fun x=>nq x.1⟩
theorem Li:EOk prog 92 Lj:=aL (.s .n (.s .n (.s .n (.s (.s .n (.s (.lp [.leaf 4 (.bool),.row 3 3 71 14 (.st 2),.leaf 5 (.int .i64)] 0 false .n) .n)) .n)))) [(6,[30,31])] [2] [] (.cons ig .nil) Tryz.mixed Tryz.func92
def Ll:Ent:=⟨[.ag 12,.ag 2],[.ag 12,.lf (.int .i64)],fun x=>nr x.1 x.2.1⟩
theorem Lk:EOk prog 45 Ll:=aL (.s .n (.s .n (.s .n (.s .n (.s .n (.s (.s .n (.s (.lp [.leaf 8 (.int .i64),.leaf 9 (.int .i64)] 0 false .n) .n)) (.s .n (.s .n (.s (.s .n (.j [.box 2 41 12 []] .n)) .n))))))))) [] [4] [] (.cons RK (.cons ij (.cons ig (.cons BG (.cons Li (.cons CK (.cons pF .nil))))))) Tryz.mixed Tryz.func45
def UN:Ent:=⟨[.lf (.int .i64)],[.lf (.bool)],fun x=>zh x.1⟩
theorem UM:EOk prog 161 UN:=aL .n [] [] [] .nil Tryz.mixed Tryz.func161
def Qi:Ent:=⟨[.ag 1,.lf (.int .i64)],[.lf (.int .i64)],fun x=>p7 x.1 x.2.1⟩
theorem Qh:EOk prog 133 Qi:=aL .n [] [] [] (.cons UM .nil) Tryz.mixed Tryz.func133
def Ya:Ent:=⟨[.lf (.sl (.st 1)),.lf (.int .i64)],[.ag 1,.lf (.bool)],fun x=>KI x.1 x.2.1⟩
theorem X9:EOk prog 176 Ya:=aL (.s .n (.s (.s .n (.s (.lp [.leaf 6 (.int .i64)] 0 true .n) .n)) .n)) [] [4] [] .nil Tryz.mixed Tryz.func176
def US:Ent:=⟨[.lf (.sl (.st 1)),.lf (.int .i64)],[.lf (.sl (.st 1))],fun x=>DE x.1 x.2.1⟩
theorem UR:EOk prog 202 US:=aL (.s .n (.s .n (.s (.s .n (.s (.lp [.row 5 7 126 8 (.st 1),.leaf 6 (.int .i64)] 0 false .n) .n)) .n))) [] [] [] .nil Tryz.mixed Tryz.func202
def KH:Ent:=⟨[.lf (.sl (.st 1)),.lf (.int .i64)],[.ag 0],fun x=>kQ x.1 x.2.1⟩
theorem KG:EOk prog 208 KH:=aL (.s .n (.s .n (.s (.s .n (.s (.lp [.box 5 27 0 [],.leaf 6 (.int .i64)] 0 false .n) .n)) .n))) [] [4] [] (.cons iX .nil) Tryz.mixed Tryz.func208
def X8:Ent:=⟨[.lf (.sl (.st 1)),.ag 1],[.lf (.sl (.st 1)),.lf (.int .i64)],fun x=>FX x.1 x.2.1⟩
theorem X7:EOk prog 134 X8:=aL (.s .n (.s .n (.s .n (.s .n (.s (.s .n (.s (.lp [.row 6 6 126 8 (.st 1),.leaf 7 (.bool),.leaf 8 (.int .i64)] 0 false (.s .n (.s (.s (.s (.s .n (.j [.row 6 6 126 8 (.st 1),.leaf 7 (.bool)] .n)) .n) .n) .n))) .n)) (.s (.s .n (.j [.row 6 6 126 8 (.st 1)] .n)) .n)))))) [] [] [] .nil Tryz.mixed Tryz.func134
def UP:Ent:=⟨[.lf (.sl (.st 1)),.lf (.int .i64)],[.lf (.sl (.st 1)),.lf (.bool)],fun x=>DD x.1 x.2.1⟩
theorem UO:EOk prog 200 UP:=aL (.s .n (.s .n (.s .n (.s (.s .n (.s (.lp [.leaf 7 (.bool),.row 6 6 126 8 (.st 1),.leaf 8 (.int .i64)] 0 false .n) .n)) .n)))) [] [] [] .nil Tryz.mixed Tryz.func200
def Ox:Ent:=⟨[.lf (.str),.lf (.str)],[.lf (.bool)],fun x=>np x.1 x.2.1⟩
theorem CF:EOk prog 205 Ox:=aL (.s .n (.s .n (.s (.s .n (.s (.lp [.leaf 6 (.int .i64)] 0 true .n) .n)) .n))) [] [] [] (.cons KM .nil) Tryz.mixed Tryz.func205
def wX:Ent:=⟨[.ag 12,.lf (.str),.lf (.int .i64)],[.ag 0],fun x=>ot x.1 x.2.1 x.2.2.1⟩
theorem wW:EOk prog 189 wX:=aL (.s .n (.s .n (.s (.s .n (.s (.lp [.box 7 27 0 [],.leaf 8 (.int .i64)] 0 false .n) .n)) .n))) [] [6] [] (.cons ig (.cons CF (.cons KG (.cons iX .nil)))) Tryz.mixed Tryz.func189
def RH:Ent:=⟨[.ag 12,.lf (.str),.lf (.int .i64),.lf (.bool),.lf (.int .i64)],[.ag 0],fun x=>vn x.1 x.2.1 x.2.2.1 x.2.2.2.1 x.2.2.2.2.1⟩
theorem Gz:EOk prog 186 RH:=aL (.s .n (.s .n (.s (.s .n (.s (.lp [.box 11 27 0 [],.leaf 12 (.int .i64)] 0 false .n) .n)) .n))) [] [10] [] (.cons ij (.cons CF (.cons iX .nil))) Tryz.mixed Tryz.func186
def GC:Ent:=⟨[.ag 12,.lf (.str),.lf (.int .i64)],[.ag 0],fun x=>eU x.1 x.2.1 x.2.2.1⟩
theorem kS:EOk prog 162 GC:=aL .n [] [6] [] (.cons Gz .nil) Tryz.mixed Tryz.func162
def RI:Ent:=⟨[.ag 12,.lf (.str),.lf (.int .i64),.ag 0],[.lf (.bool)],fun x=>vo x.1 x.2.1 x.2.2.1 x.2.2.2.1⟩
theorem GD:EOk prog 181 RI:=aL (.s .n (.s .n (.s (.s .n (.s (.lp [.leaf 10 (.int .i64)] 0 true .n) .n)) .n))) [] [] [] (.cons KM (.cons kS (.cons iX (.cons Jb (.cons pB (.cons p8 (.cons U7 (.cons Ji .nil)))))))) Tryz.mixed Tryz.func181
def GB:Ent:=⟨[.ag 12,.lf (.str),.lf (.int .i64),.lf (.int .i64)],[.ag 0],fun x=>pm x.1 x.2.1 x.2.2.1 x.2.2.2.1⟩
theorem GA:EOk prog 193 GB:=aL .n [] [8] [] (.cons Gz .nil) Tryz.mixed Tryz.func193
def RG:Ent:=⟨[.ag 12,.lf (.str)],[.lf (.sl (.int .i64))],fun x=>z8 x.1 x.2.1⟩
theorem RF:EOk prog 184 RG:=aL (.s .n (.s .n (.s (.s .n (.s (.lp [.leaf 5 (.sl (.st 2)),.leaf 6 (.int .i64)] 0 false (.s .n (.s (.s (.s .n (.s .n (.s .n (.s (.s (.lp [.leaf 8 (.int .i64)] 2 false .n) .n) .n)))) .n) .n))) .n)) (.s .n (.s (.s .n (.s (.lp [.row 10 10 3 1 (.int .i64),.leaf 11 (.int .i64)] 4 false .n) .n)) .n))))) [(6,[5,53,56,57,62,75,76])] [] [] (.cons ig .nil) Tryz.mixed Tryz.func184
def Ou:Ent:=⟨[.ag 12,.lf (.str),.lf (.str),.lf (.int .i64)],[.lf (.bool)],fun x=>wb x.1 x.2.1 x.2.2.1 x.2.2.2.1⟩
theorem Ot:EOk prog 214 Ou:=aL .n [] [] [] (.cons kS (.cons p9 (.cons QS .nil))) Tryz.mixed Tryz.func214
def Gy:Ent:=⟨[.ag 12,.lf (.str),.lf (.int .i64)],[.lf (.sl (.str))],fun x=>zZ x.1 x.2.1 x.2.2.1⟩
theorem RD:EOk prog 210 Gy:=aL (.s .n (.s .n (.s .n (.s (.s .n (.s (.lp [.leaf 8 (.sl (.str)),.leaf 9 (.int .i64)] 0 false (.s .n (.s (.s (.s .n (.s (.s (.lp [.leaf 10 (.int .i64)] 2 false .n) .n) .n)) .n) .n))) .n)) .n)))) [(1,[8,46,52,53,58]),(7,[8,46,52,53,58])] [] [] (.cons vZ (.cons Ot .nil)) Tryz.mixed Tryz.func210
theorem Lc (k:Nat) (x:cE [.ag 12,.lf (.str),.lf (.int .i64)]) : jm ⟨prog,[(201,⟨[.ag 12,.lf (.str),.lf (.int .i64)],[.lf (.sl (.str))],fun x=>jy k x.1 x.2.1 x.2.2.1⟩),(210,Gy)],35,[.lf (.sl (.str))],[.tmp 6],[(1,[18,33]),(8,[18])],[],[]⟩ ((Tryz.f201).body.getD .skip) (.s (.n) (.s (.n) (.s (.n) (.s (.n) (.s (.s (.n) (.s (.lp [.row 8 8 9 1 (.str),.leaf 9 (.int .i64)] 0 false (.n)) .n)) (.n)))))) [.ag 12,.lf (.str),.lf (.int .i64)] x=jy (k + 1) x.1 x.2.1 x.2.2.1:=by kernel_rfl
theorem zX:∀ k:Nat,bR prog 201 [.ag 12,.lf (.str),.lf (.int .i64)] [.lf (.sl (.str))] (fun x=>jy k x.1 x.2.1 x.2.2.1)
 | 0=>fun x r h=>by cases h
 | k + 1=>cF (n:=35) (.cons (zX k) (.cons (RD) (.nil))) Tryz.mixed Tryz.func201 rfl (by kernel_rfl) rfl rfl rfl (Lc k)
def Lh:Ent:=⟨[.ag 12,.lf (.int .i64)],[.lf (.sl (.str))],fun x=>tJ x.1 x.2.1⟩
theorem Lg:EOk prog 183 Lh:=aL .n [] [] [] (.cons (zX ab) .nil) Tryz.mixed Tryz.func183
def Oq:Ent:=⟨[.ag 1,.ag 7],[.lf (.int .i64)],fun x=>nn x.1 x.2.1⟩
theorem CD:EOk prog 192 Oq:=aL .n [] [] [] .nil Tryz.mixed Tryz.func192
def VF:Ent:=⟨[.ag 1,.ag 7],[.lf (.bool)],fun x=>tI x.1 x.2.1⟩
theorem Jp:EOk prog 177 VF:=aL .n [] [] [] (.cons CD .nil) Tryz.mixed Tryz.func177
def UZ:Ent:=⟨[.ag 12,.lf (.int .i64)],[.ag 7,.lf (.bool)],fun x=>nG x.1 x.2.1⟩
theorem pz:EOk prog 83 UZ:=aL (.s .n (.s (.s .n (.s (.lp [.leaf 6 (.int .i64)] 0 true .n) .n)) .n)) [] [4] [] .nil Tryz.mixed Tryz.func83
def Yb:Ent:=⟨[.ag 12,.ag 7],[.ag 12],fun x=>u6 x.1 x.2.1⟩
theorem FY:EOk prog 84 Yb:=aL (.s .n (.s .n (.s (.s (.lp [.leaf 5 (.int .i64)] 0 false .n) .n) (.s .n (.s .n (.s (.s .n (.j [.leaf 5 (.int .i64)] .n)) .n)))))) [] [4] [] .nil Tryz.mixed Tryz.func84
def U3:Ent:=⟨[.ag 12,.lf (.int .i64),.lf (.int .i64)],[.ag 12,.lf (.int .i64)],fun x=>vU x.1 x.2.1 x.2.2.1⟩
theorem U2:EOk prog 86 U3:=aL .n [] [6] [] (.cons pz (.cons FY .nil)) Tryz.mixed Tryz.func86
def U1:Ent:=⟨[.ag 12,.lf (.int .i64)],[.ag 12],fun x=>tA x.1 x.2.1⟩
theorem U0:EOk prog 103 U1:=aL .n [] [4] [] (.cons pz (.cons FY .nil)) Tryz.mixed Tryz.func103
def UX:Ent:=⟨[.ag 12,.lf (.int .i64)],[.ag 0],fun x=>DF x.1 x.2.1⟩
theorem UW:EOk prog 196 UX:=aL (.s .n (.s .n (.s (.s .n (.s (.lp [.box 5 27 0 [],.leaf 6 (.int .i64)] 0 false .n) .n)) .n))) [] [4] [] (.cons iX .nil) Tryz.mixed Tryz.func196
def UY:Ent:=⟨[.ag 12,.lf (.int .i64)],[.ag 0],fun x=>zj x.1 x.2.1⟩
theorem I9:EOk prog 180 UY:=aL .n [] [4] [] (.cons pz (.cons UW (.cons Ji .nil))) Tryz.mixed Tryz.func180
def UV:Ent:=⟨[.lf (.int .i64)],[.lf (.bool)],fun x=>zi x.1⟩
theorem UU:EOk prog 82 UV:=aL .n [] [] [] .nil Tryz.mixed Tryz.func82
def Hk:Ent:=⟨[.ag 12,.ag 7],[.ag 12,.lf (.int .i64)],fun x=>k8 x.1 x.2.1⟩
theorem Hj:EOk prog 43 Hk:=aL .n [] [4] [] (.cons UU (.cons pz (.cons FY .nil))) Tryz.mixed Tryz.func43
def Nw:Ent:=⟨[.ag 12],[.lf (.sl (.int .i64))],fun x=>vT x.1⟩
theorem Nv:EOk prog 101 Nw:=aL (.s .n (.s .n (.s (.s .n (.s (.lp [.row 3 3 3 1 (.int .i64),.leaf 4 (.int .i64)] 0 false .n) .n)) .n))) [] [] [] .nil Tryz.mixed Tryz.func101
def Rq:Ent:=⟨[.ag 12,.lf (.int .i64)],[.ag 11,.lf (.bool)],fun x=>zP x.1 x.2.1⟩
theorem Rp:EOk prog 158 Rq:=aL (.s .n (.s (.s .n (.s (.lp [.leaf 6 (.int .i64)] 0 true .n) .n)) .n)) [] [4] [] .nil Tryz.mixed Tryz.func158
def VA:Ent:=⟨[.ag 12,.lf (.str),.ag 1],[.lf (.bool)],fun x=>zT x.1 x.2.1 x.2.2.1⟩
theorem Jo:EOk prog 178 VA:=aL .n [] [] [] (.cons kS (.cons iX (.cons p9 (.cons pB .nil)))) Tryz.mixed Tryz.func178
def Rr:Ent:=⟨[.ag 12,.lf (.str),.lf (.int .i64),.lf (.int .i64)],[.lf (.bool)],fun x=>vm x.1 x.2.1 x.2.2.1 x.2.2.2.1⟩
theorem Gq:EOk prog 179 Rr:=aL .n [] [] [] (.cons GA (.cons U5 (.cons pB .nil))) Tryz.mixed Tryz.func179
def Lb:Ent:=⟨[.ag 12,.lf (.int .i64)],[.ag 12],fun x=>d6 x.1 x.2.1⟩
theorem zU:EOk prog 102 Lb:=aL (.s .n (.s .n (.s (.s .n (.s (.lp [.row 5 5 87 3 (.st 11),.leaf 6 (.int .i64)] 0 false .n) .n)) .n))) [] [4] [] .nil Tryz.mixed Tryz.func102
def Om:Ent:=⟨[.ag 12,.ag 7,.ag 2,.ag 1],[.ag 12,.ag 6],fun x=>jO x.1 x.2.1 x.2.2.1 x.2.2.2.1⟩
theorem CC:EOk prog 182 Om:=aL (.s .n (.s .n (.s .n (.s .n (.s (.s .n (.j [.box 6 71 2 []] .n)) (.s .n (.s (.s (.lp [.leaf 11 (.int .i64)] 0 false .n) .n) .n))))))) [(3,[54,57,60,61,86,89,90,96]),(13,[54,57,60,61,81,86,89,90,96])] [8,9] [] (.cons UO (.cons pF .nil)) Tryz.mixed Tryz.func182
def Rt:Ent:=⟨[.ag 12,.ag 7,.ag 11],[.ag 12,.lf (.int .i64),.ag 6,.lf (.bool)],fun x=>om x.1 x.2.1 x.2.2.1⟩
theorem Rs:EOk prog 159 Rt:=aL .n [] [6,8] [] (.cons ij (.cons X9 (.cons ig (.cons Jp (.cons pB (.cons Jo (.cons Gq (.cons zU (.cons I9 (.cons GD (.cons CC .nil))))))))))) Tryz.mixed Tryz.func159
def Oi:Ent:=⟨[.ag 12,.lf (.int .i64),.lf (.int .i64)],[.lf (.bool)],fun x=>wa x.1 x.2.1 x.2.2.1⟩
theorem Oh:EOk prog 203 Oi:=aL (.s .n (.s (.s .n (.s (.lp [.leaf 7 (.int .i64)] 0 true .n) .n)) .n)) [] [] [] .nil Tryz.mixed Tryz.func203
def Rv:Ent:=⟨[.ag 12,.ag 11],[.ag 12],fun x=>oq x.1 x.2.1⟩
theorem Ru:EOk prog 204 Rv:=aL (.s .n (.s .n (.s (.s (.lp [.leaf 5 (.int .i64)] 0 false .n) .n) .n))) [] [4] [] .nil Tryz.mixed Tryz.func204
def VC:Ent:=⟨[.ag 12,.ag 7,.ag 2,.ag 1,.lf (.bool)],[.ag 12,.lf (.int .i64),.ag 6],fun x=>rg x.1 x.2.1 x.2.2.1 x.2.2.2.1 x.2.2.2.2.1⟩
theorem VB:EOk prog 185 VC:=aL (.s .n (.s .n (.s .n (.s (.s .n (.s (.s (.s .n (.j [.box 7 71 2 [],.box 5 41 12 []] .n)) .n) .n)) .n)))) [] [10,12] [] (.cons Jo (.cons CD (.cons pB (.cons Jp (.cons UR (.cons pF (.cons GD (.cons I9 (.cons CC (.cons Oh (.cons Ru .nil))))))))))) Tryz.mixed Tryz.func185
def Od:Ent:=⟨[.ag 12,.ag 7,.lf (.bool)],[.ag 12,.lf (.int .i64),.ag 6],fun x=>dz x.1 x.2.1 x.2.2.1⟩
theorem Oc:EOk prog 160 Od:=aL (.s .n (.s .n (.s (.s .n (.s (.lp [.box 3 41 12 [],.leaf 10 (.int .i64)] 0 true (.s .n (.s (.s (.s .n (.s .n (.s (.lp [.box 3 41 12 [],.leaf 12 (.int .i64)] 2 true (.s .n (.s (.s (.s .n (.s .n (.s .n (.s (.lp [.box 3 41 12 [],.leaf 15 (.int .i64)] 4 true .n) .n)))) .n) .n))) .n))) .n) .n))) .n)) .n))) [] [6,8] [] (.cons Lg (.cons RF (.cons ij (.cons Gq (.cons VB .nil))))) Tryz.mixed Tryz.func160
def VE:Ent:=⟨[.ag 12,.lf (.int .i64)],[.ag 12,.lf (.int .i64),.ag 6],fun x=>rh x.1 x.2.1⟩
theorem VD:EOk prog 132 VE:=aL .n [] [4,6] [] (.cons pz (.cons Rp (.cons Rs (.cons Oc .nil)))) Tryz.mixed Tryz.func132
def RC:Ent:=⟨[.ag 12,.lf (.int .i64)],[.ag 12,.lf (.sl (.st 6))],fun x=>l6 x.1 x.2.1⟩
theorem RB:EOk prog 89 RC:=aL (.s .n (.s .n (.s (.s .n (.s (.lp [.box 2 41 12 [],.row 6 6 85 9 (.st 6),.leaf 7 (.int .i64)] 0 false .n) .n)) .n))) [(5,[27,28])] [4] [] (.cons VD .nil) Tryz.mixed Tryz.func89
def Rg:Ent:=⟨[.lf (.int .i64)],[.lf (.int .i64)],fun x=>lV x.1⟩
theorem Rf:EOk prog 211 Rg:=aL .n [] [] [] .nil Tryz.mixed Tryz.func211
def Cz:Ent:=⟨[.lf (.int .i64),.lf (.sl (.int .i64)),.lf (.sl (.int .i64)),.lf (.sl (.int .i64))],[.lf (.sl (.int .i64))],fun x=>v8 x.1 x.2.1 x.2.2.1 x.2.2.2.1⟩
theorem N5:EOk prog 206 Cz:=aL (.s .n (.s .n (.s .n (.s .n (.s (.s .n (.s (.lp [.row 11 11 3 1 (.int .i64),.leaf 10 (.int .i64),.leaf 12 (.int .i64)] 0 false .n) .n)) (.s (.s .n (.s (.lp [.row 11 11 3 1 (.int .i64),.leaf 10 (.int .i64),.leaf 14 (.int .i64)] 2 false .n) .n)) .n)))))) [(2,[49,50]),(7,[49,50]),(13,[49,50])] [] [] (.cons Rf .nil) Tryz.mixed Tryz.func206
theorem Rh (k:Nat) (x:cE [.ag 12,.lf (.str),.lf (.int .i64),.lf (.int .i64)]) : jm ⟨prog,[(187,⟨[.ag 12,.lf (.str),.lf (.int .i64),.lf (.int .i64)],[.lf (.sl (.st 18))],fun x=>lW k x.1 x.2.1 x.2.2.1 x.2.2.2.1⟩),(52,Je),(188,F8),(198,Jc),(162,GC),(189,wX),(206,Cz)],101,[.lf (.sl (.st 18))],[.tmp 8],[(1,[27,43,44,54,55,74,75,99]),(8,[27,54,55,74,75,99]),(9,[27,43,44,74,75,99]),(10,[27,43,44,54,55,99]),(11,[10,11,12,27,43,44,54,55,74,75,99]),(16,[10,11,12,27,43,44,54,55,74,75])],[],[]⟩ ((Tryz.f187).body.getD .skip) (.s (.n) (.s (.n) (.s (.n) (.s (.n) (.s (.s (.n) (.s (.lp [.row 10 10 3 1 (.int .i64),.row 12 12 3 1 (.int .i64),.row 11 11 3 1 (.int .i64),.leaf 13 (.int .i64)] 0 false (.n)) .n)) (.s (.n) (.s (.n) (.s (.s (.n) (.s (.lp [.row 15 15 222 2 (.st 18),.leaf 16 (.int .i64)] 2 false (.n)) .n)) (.n))))))))) [.ag 12,.lf (.str),.lf (.int .i64),.lf (.int .i64)] x=lW (k + 1) x.1 x.2.1 x.2.2.1 x.2.2.2.1:=by kernel_rfl
theorem Gm:∀ k:Nat,bR prog 187 [.ag 12,.lf (.str),.lf (.int .i64),.lf (.int .i64)] [.lf (.sl (.st 18))] (fun x=>lW k x.1 x.2.1 x.2.2.1 x.2.2.2.1)
 | 0=>fun x r h=>by cases h
 | k + 1=>cF (n:=101) (.cons (Gm k) (.cons (vZ) (.cons (p9) (.cons (Jb) (.cons (kS) (.cons (wW) (.cons (N5) (.nil)))))))) Tryz.mixed Tryz.func187 rfl (by kernel_rfl) rfl rfl rfl (Rh k)
def K7:Ent:=⟨[.ag 12,.lf (.int .i64)],[.lf (.sl (.st 18))],fun x=>qB x.1 x.2.1⟩
theorem zN:EOk prog 166 K7:=aL (.s .n (.s .n (.s .n (.s (.s .n (.s (.lp [.leaf 5 (.sl (.st 18)),.leaf 7 (.int .i64)] 0 false (.s .n (.s (.s (.s .n (.s (.s (.lp [.leaf 8 (.int .i64)] 2 false .n) .n) .n)) .n) .n))) .n)) .n)))) [(2,[5,46,52,53,58])] [] [] (.cons p8 (.cons (Gm ab) .nil)) Tryz.mixed Tryz.func166
def Vy:Ent:=⟨[.ag 12,.lf (.int .i64),.lf (.str)],[.lf (.int .i64)],fun x=>zM x.1 x.2.1 x.2.2.1⟩
theorem Vx:EOk prog 165 Vy:=aL (.s .n (.s .n (.s (.s .n (.s (.lp [.leaf 8 (.int .i64)] 0 true .n) .n)) .n))) [] [] [] (.cons zN .nil) Tryz.mixed Tryz.func165
def Rc:Ent:=⟨[.ag 12,.ag 12],[.lf (.sl (.int .i64))],fun x=>vi x.1 x.2.1⟩
theorem Gl:EOk prog 107 Rc:=aL (.s .n (.s .n (.s (.s .n (.s (.lp [.row 5 5 3 1 (.int .i64),.leaf 6 (.int .i64)] 0 false .n) .n)) .n))) [(5,[36,37])] [] [] (.cons nv .nil) Tryz.mixed Tryz.func107
def NY:Ent:=⟨[.ag 12,.lf (.str),.lf (.int .i64)],[.lf (.int .i64)],fun x=>sQ x.1 x.2.1 x.2.2.1⟩
theorem NX:EOk prog 167 NY:=aL (.s .n (.s .n (.s (.s .n (.s (.lp [.leaf 9 (.int .i64)] 0 true (.s .n (.s (.s (.s .n (.s .n (.s (.lp [.leaf 11 (.int .i64)] 2 true .n) .n))) .n) .n))) .n)) .n))) [] [] [] (.cons kS (.cons p9 (.cons ig (.cons wW .nil)))) Tryz.mixed Tryz.func167
def Q7:Ent:=⟨[.ag 12,.ag 6],[.lf (.str)],fun x=>jx x.1 x.2.1⟩
theorem xX:EOk prog 163 Q7:=aL .n [] [] [] (.cons ij .nil) Tryz.mixed Tryz.func163
def Yf:Ent:=⟨[.lf (.sl (.int .i64)),.lf (.int .i64)],[.lf (.bool)],fun x=>xY x.1 x.2.1⟩
theorem N1:EOk prog 190 Yf:=aL (.s .n (.s (.s .n (.s (.lp [.leaf 5 (.int .i64)] 0 true .n) .n)) .n)) [] [] [] .nil Tryz.mixed Tryz.func190
def K3:Ent:=⟨[.ag 12,.lf (.str),.lf (.int .i64),.lf (.sl (.int .i64))],[.lf (.int .i64)],fun x=>ni x.1 x.2.1 x.2.2.1 x.2.2.2.1⟩
theorem K2:EOk prog 168 K3:=aL (.s .n (.s .n (.s (.s .n (.s (.lp [.leaf 9 (.int .i64),.leaf 10 (.int .i64)] 0 false .n) .n)) .n))) [] [] [] (.cons xX (.cons N1 .nil)) Tryz.mixed Tryz.func168
def KY:Ent:=⟨[.ag 12,.lf (.str),.lf (.int .i64),.lf (.sl (.int .i64))],[.ag 6,.lf (.bool)],fun x=>qw x.1 x.2.1 x.2.2.1 x.2.2.2.1⟩
theorem KX:EOk prog 169 KY:=aL (.s .n (.s .n (.s (.s .n (.s (.lp [.box 10 85 6 [],.leaf 11 (.bool),.leaf 12 (.int .i64)] 0 false .n) .n)) .n))) [] [8] [] (.cons xX (.cons N1 .nil)) Tryz.mixed Tryz.func169
def Rb:Ent:=⟨[.ag 12,.lf (.int .i64)],[.lf (.sl (.int .i64))],fun x=>zK x.1 x.2.1⟩
theorem Ra:EOk prog 136 Rb:=aL (.s .n (.s .n (.s .n (.s (.s .n (.s (.lp [.leaf 6 (.int .i64),.leaf 7 (.int .i64)] 0 false .n) .n)) (.s .n (.s (.s (.lp [.row 8 8 3 1 (.int .i64)] 2 true (.s .n (.s (.s .n (.s (.s .n (.s (.lp [.leaf 9 (.int .i64),.box 10 85 6 [],.leaf 11 (.int .i64)] 4 false .n) .n)) .n)) .n))) .n) .n)))))) [(1,[103,104]),(2,[103,104]),(6,[103,104]),(8,[103,104]),(14,[103,104]),(15,[103,104])] [] [] (.cons zN (.cons p8 (.cons kS (.cons NX (.cons K2 (.cons KX .nil)))))) Tryz.mixed Tryz.func136
def KW:Ent:=⟨[.ag 12,.ag 6],[.lf (.int .i64)],fun x=>qt x.1 x.2.1⟩
theorem KV:EOk prog 164 KW:=aL (.s .n (.s .n (.s (.s .n (.s (.lp [.leaf 5 (.int .i64),.leaf 6 (.int .i64)] 0 false .n) .n)) .n))) [] [] [] .nil Tryz.mixed Tryz.func164
def Q6:Ent:=⟨[.ag 12,.lf (.int .i64),.lf (.int .i64)],[.ag 12],fun x=>kj x.1 x.2.1 x.2.2.1⟩
theorem Gk:EOk prog 137 Q6:=aL (.s .n (.s .n (.s (.s .n (.s (.lp [.row 7 9 85 9 (.st 6),.leaf 8 (.int .i64)] 0 false .n) .n)) .n))) [] [6] [] .nil Tryz.mixed Tryz.func137
def Q9:Ent:=⟨[.ag 12,.lf (.int .i64)],[.ag 12],fun x=>sR x.1 x.2.1⟩
theorem Q8:EOk prog 135 Q9:=aL (.s .n (.s .n (.s (.s .n (.s (.lp [.row 5 5 85 9 (.st 6),.leaf 6 (.int .i64)] 0 false .n) .n)) (.s (.s .n (.s (.lp [.box 2 41 12 [],.leaf 8 (.int .i64)] 2 false .n) .n)) .n)))) [(11,[5,43,44,84]),(13,[5,43,44,84]),(14,[5,43,44]),(15,[5,43,44,84])] [4] [] (.cons nv (.cons xX (.cons kS (.cons KV (.cons Vx (.cons yh (.cons Gk .nil))))))) Tryz.mixed Tryz.func135
def N3:Ent:=⟨[.ag 12],[.ag 12,.lf (.sl (.int .i64))],fun x=>pD x.1⟩
theorem N2:EOk prog 106 N3:=aL (.s .n (.s .n (.s (.s .n (.s (.lp [.box 1 41 12 [],.leaf 5 (.int .i64)] 0 false (.s .n (.s (.s (.s .n (.s .n (.s .n (.s (.lp [.box 1 41 12 [],.leaf 7 (.int .i64)] 2 false .n) .n)))) .n) .n))) .n)) .n))) [] [2] [] (.cons Q8 (.cons Ra (.cons Gk (.cons Gl .nil)))) Tryz.mixed Tryz.func106
theorem KN (k:Nat) (x:cE [.lf (.int .i64)]) : jm ⟨prog,[(50,⟨[.lf (.int .i64)],[.lf (.str)],fun x=>dv k x.1⟩)],25,[.lf (.str)],[.tmp 2],[],[],[]⟩ ((Tryz.f50).body.getD .skip) (.n) [.lf (.int .i64)] x=dv (k + 1) x.1:=by kernel_rfl
theorem zu:∀ k:Nat,bR prog 50 [.lf (.int .i64)] [.lf (.str)] (fun x=>dv k x.1)
 | 0=>fun x r h=>by cases h
 | k + 1=>cF (n:=25) (.cons (zu k) (.nil)) Tryz.mixed Tryz.func50 rfl (by kernel_rfl) rfl rfl rfl (KN k)
def Yc:Ent:=⟨[.lf (.str),.lf (.int .u8)],[.lf (.sl (.str))],fun x=>Gb x.1 x.2.1⟩
theorem NI:EOk prog 124 Yc:=aL (.s .n (.s .n (.s .n (.s (.s .n (.s (.lp [.row 5 5 9 1 (.str),.leaf 6 (.int .i64),.leaf 7 (.int .i64)] 0 false .n) .n)) (.s (.s .n (.j [.row 5 5 9 1 (.str)] .n)) .n))))) [] [] [] .nil Tryz.mixed Tryz.func124
def QB:Ent:=⟨[.lf (.str)],[.lf (.sl (.str))],fun x=>zl x.1⟩
theorem QA:EOk prog 125 QB:=aL (.s .n (.s .n (.s .n (.s (.s .n (.s (.lp [.row 3 3 9 1 (.str),.leaf 5 (.int .i64)] 0 false .n) .n)) .n)))) [] [] [] (.cons NI .nil) Tryz.mixed Tryz.func125
def NH:Ent:=⟨[.lf (.str)],[.lf (.int .i64),.lf (.bool)],fun x=>pA x.1⟩
theorem Cr:EOk prog 154 NH:=aL (.s .n (.s .n (.s .n (.s (.s .n (.s (.lp [.leaf 4 (.int .i64),.leaf 5 (.int .i64)] 0 true .n) .n)) .n)))) [] [] [] .nil Tryz.mixed Tryz.func154
def QF:Ent:=⟨[.lf (.str)],[.ag 3,.lf (.bool)],fun x=>zn x.1⟩
theorem QE:EOk prog 155 QF:=aL (.s .n (.s .n (.s (.s (.lp [.leaf 4 (.int .i64)] 0 false .n) .n) .n))) [] [2] [] (.cons Cr .nil) Tryz.mixed Tryz.func155
def QI:Ent:=⟨[.lf (.sl (.str)),.lf (.int .i64)],[.ag 4,.lf (.bool)],fun x=>zo x.1 x.2.1⟩
theorem QH:EOk prog 126 QI:=aL (.s .n (.s .n (.s .n (.s .n (.s (.s .n (.s (.lp [.leaf 7 (.bool),.box 8 101 4 [(1,1161,98,2,.st 3)],.leaf 9 (.int .i64)] 0 false .n) .n)) .n))))) [] [4] [] (.cons Cr (.cons QE .nil)) Tryz.mixed Tryz.func126
def QK:Ent:=⟨[.lf (.str)],[.ag 5,.lf (.int .i64)],fun x=>zr x.1⟩
theorem QJ:EOk prog 78 QK:=aL (.s .n (.s .n (.s .n (.s .n (.s .n (.s (.s .n (.s (.lp [.box 4 34 5 [],.leaf 5 (.bool),.leaf 7 (.int .i64)] 0 true (.s .n (.s (.s (.s .n (.s .n (.s .n (.s .n (.s .n (.s .n (.s .n (.s (.s (.lp [.leaf 11 (.int .i64)] 2 false .n) .n) .n)))))))) .n) .n))) .n)) .n)))))) [] [2] [] (.cons NI (.cons QA (.cons QH .nil))) Tryz.mixed Tryz.func78
def Vg:Ent:=⟨[.ag 5,.ag 5],[.lf (.bool)],fun x=>DI x.1 x.2.1⟩
theorem Vf:EOk prog 31 Vg:=aL (.s .n (.s .n (.s (.s .n (.s (.lp [.leaf 5 (.int .i64)] 0 true .n) .n)) (.s (.s .n (.s (.lp [.leaf 6 (.int .i64)] 2 true (.s .n (.s (.s (.s .n (.s .n (.s .n (.s (.lp [.leaf 9 (.int .i64)] 4 true .n) .n)))) .n) .n))) .n)) .n)))) [] [] [] .nil Tryz.mixed Tryz.func31
def BH:Ent:=⟨[.ag 5],[.lf (.str)],fun x=>zp x.1⟩
theorem Jg:EOk prog 22 BH:=aL (.s .n (.s .n (.s (.s .n (.s (.lp [.leaf 3 (.str),.leaf 4 (.int .i64)] 0 false .n) .n)) (.s .n (.s (.s .n (.s (.lp [.leaf 3 (.str),.leaf 5 (.int .i64)] 2 false (.s .n (.s (.s (.s .n (.s .n (.s (.s .n (.s (.lp [.leaf 3 (.str),.leaf 7 (.int .i64)] 4 false .n) .n)) .n))) .n) .n))) .n)) .n))))) [] [] [] (.cons (zu ab) .nil) Tryz.mixed Tryz.func22
def Jj:Ent:=⟨[],[.ag 12],fun x=>KU ⟩
theorem Vv:EOk prog 20 Jj:=aL .n [] [0] [] .nil Tryz.mixed Tryz.func20
def QX:Ent:=⟨[.lf (.sl (.int .i64)),.lf (.sl (.int .i64))],[.lf (.bool)],fun x=>qm x.1 x.2.1⟩
theorem QW:EOk prog 71 QX:=aL (.s .n (.s .n (.s (.s .n (.s (.lp [.leaf 5 (.int .i64)] 0 true .n) .n)) .n))) [] [] [] .nil Tryz.mixed Tryz.func71
def Vu:Ent:=⟨[.ag 2,.ag 2],[.lf (.bool)],fun x=>DJ x.1 x.2.1⟩
theorem Vt:EOk prog 32 Vu:=aL (.s .n (.s .n (.s (.s .n (.s (.lp [.leaf 5 (.int .i64)] 0 true .n) .n)) .n))) [] [] [] (.cons QW .nil) Tryz.mixed Tryz.func32
def Gj:Ent:=⟨[.ag 12,.ag 12],[.lf (.bool)],fun x=>vg x.1 x.2.1⟩
theorem Q4:EOk prog 12 Gj:=aL (.s .n (.s .n (.s .n (.s (.s .n (.s (.lp [.leaf 5 (.bool),.leaf 6 (.int .i64)] 0 false .n) .n)) (.s (.s .n (.s (.lp [.leaf 5 (.bool),.leaf 7 (.int .i64)] 2 false .n) .n)) (.s (.s .n (.s (.lp [.leaf 5 (.bool),.leaf 8 (.int .i64)] 4 false .n) .n)) (.s (.s .n (.s (.lp [.leaf 5 (.bool),.leaf 9 (.int .i64)] 6 false .n) .n)) (.s (.s .n (.s (.lp [.leaf 5 (.bool),.leaf 10 (.int .i64)] 8 false .n) .n)) .n)))))))) [] [] [] (.cons Vf (.cons Vt .nil)) Tryz.mixed Tryz.func12
def Vs:Ent:=⟨[.ag 12,.lf (.int .i64)],[.ag 12,.ag 10],fun x=>dg x.1 x.2.1⟩
theorem pC:EOk prog 49 Vs:=aL .n [] [4,5] [] .nil Tryz.mixed Tryz.func49
def KR:Ent:=⟨[.ag 12,.lf (.str)],[.ag 12,.ag 10],fun x=>ng x.1 x.2.1⟩
theorem KQ:EOk prog 42 KR:=aL (.s .n (.s .n (.s (.s .n (.j [.leaf 7 (.int .i64)] .n)) (.s .n (.s .n (.s (.s .n (.s (.lp [.leaf 8 (.int .i64)] 0 true .n) .n)) (.s (.s .n (.s (.lp [.leaf 9 (.int .i64)] 2 true .n) .n)) .n))))))) [] [4,5] [] (.cons QJ (.cons Qy (.cons pC (.cons ig (.cons BG .nil))))) Tryz.mixed Tryz.func42
def Ye:Ent:=⟨[.ag 12,.lf (.int .i64)],[.lf (.sl (.int .i64))],fun x=>xU x.1 x.2.1⟩
theorem NS:EOk prog 85 Ye:=aL (.s .n (.s .n (.s (.s .n (.s (.lp [.row 5 5 3 1 (.int .i64),.leaf 6 (.int .i64)] 0 false .n) .n)) .n))) [] [] [] .nil Tryz.mixed Tryz.func85
def Q2:Ent:=⟨[.ag 12,.ag 9],[.ag 12,.ag 10],fun x=>sP x.1 x.2.1⟩
theorem Q1:EOk prog 44 Q2:=aL (.s .n (.s .n (.s .n (.s .n (.s .n (.s .n (.s (.s .n (.s (.lp [.row 10 10 3 1 (.int .i64),.leaf 11 (.int .i64)] 0 false .n) .n)) .n))))))) [(1,[83,84]),(3,[83,84]),(4,[83,84]),(6,[83,84]),(11,[83,84]),(14,[10,83,84]),(15,[10,83,84]),(16,[10,83,84])] [4,5] [] (.cons pz (.cons NS (.cons U2 (.cons pC (.cons nv (.cons yh (.cons RB .nil))))))) Tryz.mixed Tryz.func44
def NU:Ent:=⟨[.ag 12,.lf (.sl (.int .i64))],[.lf (.sl (.st 6))],fun x=>sO x.1 x.2.1⟩
theorem NT:EOk prog 95 NU:=aL (.s .n (.s .n (.s (.s .n (.s (.lp [.row 5 5 85 9 (.st 6),.leaf 6 (.int .i64)] 0 false .n) .n)) .n))) [(5,[27,28])] [] [] (.cons nv .nil) Tryz.mixed Tryz.func95
def Hm:Ent:=⟨[.ag 12,.lf (.int .i64)],[.lf (.sl (.int .i64))],fun x=>og x.1 x.2.1⟩
theorem Hl:EOk prog 96 Hm:=aL (.s .n (.s .n (.s (.s .n (.s (.lp [.row 5 5 3 1 (.int .i64),.leaf 6 (.int .i64)] 0 false .n) .n)) .n))) [] [] [] .nil Tryz.mixed Tryz.func96
def NQ:Ent:=⟨[.ag 12,.lf (.sl (.st 1)),.lf (.sl (.st 1))],[.lf (.sl (.st 1)),.lf (.int .i64)],fun x=>v7 x.1 x.2.1 x.2.2.1⟩
theorem NN:EOk prog 97 NQ:=aL (.s .n (.s (.s .n (.s (.lp [.leaf 1 (.sl (.st 1)),.leaf 8 (.int .i64)] 0 true .n) .n)) .n)) [] [] [] (.cons Qh (.cons X7 .nil)) Tryz.mixed Tryz.func97
def KP:Ent:=⟨[.ag 12,.ag 9],[.ag 12,.ag 10],fun x=>nf x.1 x.2.1⟩
theorem KO:EOk prog 46 KP:=aL (.s .n (.s .n (.s .n (.s .n (.s .n (.s (.s .n (.s (.lp [.box 2 41 12 [],.box 6 71 2 [],.leaf 10 (.int .i64)] 1 false .n) .n)) .n)))))) [(1,[61,64,144,147]),(3,[61,64,144,147]),(5,[61,64,144,147]),(7,[61,64,144,147]),(9,[144,147]),(11,[61,64,144,147]),(12,[61,64,144,147]),(14,[61,64,144,147]),(18,[61,64,144,147]),(20,[61,64,144,147]),(21,[61,64,144,147]),(22,[61,64]),(25,[61,64,144,147])] [4,5] [] (.cons ij (.cons pC (.cons NT (.cons Hl (.cons NN (.cons nv (.cons GH (.cons wY (.cons pF .nil))))))))) Tryz.mixed Tryz.func46
def Vr:Ent:=⟨[.ag 12,.lf (.int .i64),.lf (.int .i64)],[.ag 12,.ag 10],fun x=>tH x.1 x.2.1 x.2.2.1⟩
theorem Vq:EOk prog 47 Vr:=aL .n [] [6,7] [] (.cons ij (.cons pC (.cons ig (.cons VH .nil)))) Tryz.mixed Tryz.func47
def Q0:Ent:=⟨[.ag 12,.lf (.int .i64)],[.lf (.int .i64)],fun x=>vf x.1 x.2.1⟩
theorem QZ:EOk prog 105 Q0:=aL (.s .n (.s (.s .n (.s (.lp [.leaf 5 (.int .i64)] 0 true .n) .n)) .n)) [] [] [] .nil Tryz.mixed Tryz.func105
def QV:Ent:=⟨[.ag 12,.lf (.int .i64)],[.ag 12,.ag 10],fun x=>sN x.1 x.2.1⟩
theorem QU:EOk prog 48 QV:=aL (.s .n (.s .n (.s .n (.s .n (.s .n (.s .n (.s (.s .n (.s (.lp [.box 2 41 12 [],.leaf 8 (.int .i64)] 0 false .n) .n)) (.s .n (.s (.s .n (.s (.lp [.box 2 41 12 [],.leaf 9 (.int .i64)] 2 false .n) .n)) (.s .n (.s (.s .n (.s (.lp [.row 10 10 29 6 (.st 8),.leaf 11 (.int .i64)] 4 false .n) .n)) .n))))))))))) [(2,[79,103,104]),(4,[79,103,104]),(7,[79,103,104]),(11,[79,103,104]),(12,[79,103,104]),(13,[79,103,104]),(17,[103,104]),(25,[10,79,103,104]),(26,[10,79,103,104])] [4,5] [] (.cons pC (.cons Nv (.cons U0 (.cons zU (.cons NS (.cons yh (.cons Lm (.cons QZ (.cons N2 (.cons Gl .nil)))))))))) Tryz.mixed Tryz.func48
def Gi:Ent:=⟨[.ag 12,.ag 9],[.ag 12,.ag 10],fun x=>oh x.1 x.2.1⟩
theorem Q3:EOk prog 21 Gi:=aL .n [] [4,5] [] (.cons KQ (.cons Hj (.cons Q1 (.cons Lk (.cons KO (.cons Vq (.cons QU (.cons Jm (.cons Gn (.cons pC .nil)))))))))) Tryz.mixed Tryz.func21
abbrev Tx:=List UInt8
def sv (l:Tx) : Value:=.string ⟨l.toArray⟩
theorem aaX (S:ByteArray) : sv S.data.toList = .string S:=by cases S; rfl
structure QD where
 path:Tx
 caps:List (Int×Int)
 user:Int
def above (l:Tx) : Tx:=((l.reverse.dropWhile (fun b=>b != 46)).drop 1).reverse
theorem X3 {l:Tx} (h:(46:UInt8) ∉ l) : above l = []:=by
 unfold above
 have hp:∀ x∈l.reverse,(x != 46)=true:=fun x hx=>by
  simp
  intro e
  subst e
  exact h (List.mem_reverse.1 hx)
 have:=List.dropWhile_append_of_pos (l₂:=[]) hp
 rw [List.append_nil] at this
 rw [this]
 rfl
theorem X4 {a t:Tx} (h:(46:UInt8) ∉ t) : above (a++46::t)=a:=by
 unfold above
 have hp:∀ x∈t.reverse,(x != 46)=true:=fun x hx=>by simp; intro e; subst e; exact h (List.mem_reverse.1 hx)
 rw [List.reverse_append,List.reverse_cons,List.append_assoc,List.dropWhile_append_of_pos hp]
 simp
def lA (p:Tx) (q:QD) : Bool:=decide (p≠[])&&decide (above q.path=p)
def cz (p:Tx) (l:List QD) : List Tx:=(l.filter (lA p)).map (·.path)
theorem EK (l:List QD) : cz [] l = []:=by
 unfold cz
 have:l.filter (lA []) = []:=by
  rw [List.filter_eq_nil_iff]
  intro q _
  simp [lA]
 rw [this]; rfl
theorem T8 {p:Tx} {l:List QD} {k:Nat} (h:k < l.length) : cz p (l.take (k + 1))=cz p (l.take k)++if lA p l[k] then [l[k].path] else []:=by
 unfold cz
 rw [List.take_succ_eq_append_getElem h,List.filter_append,List.map_append]
 congr 1
 by_cases hk:lA p l[k] = true
 ·simp [hk]
 ·simp [hk]
theorem W3 (p:Tx) (l:List QD) : (cz p l).length≤l.length:=by
 unfold cz
 rw [List.length_map]
 exact List.length_filter_le _ _
theorem Zg {p:Tx} {q:QD} (h0:p≠[]) (h:above q.path=p) : lA p q=true:=by simp [lA,h0,h]
theorem aaA {p:Tx} {q:QD} (h : ¬ above q.path=p) : lA p q=false:=by simp [lA,h]
theorem Z2 {z x:ByteArray} (h : ¬ z=x) : (z.toList==x.toList)=false:=by
 rw [beq_eq_false_iff_ne]
 intro e
 rw [ByteArray.toList_eq,ByteArray.toList_eq] at e
 apply h
 cases z; cases x
 simp only at e
 rw [Array.toList_inj] at e
 rw [e]
theorem vS (S:ByteArray) : S.size=S.data.toList.length:=by cases S; rfl
theorem XS (S:ByteArray) (k:Nat) (h:k < S.size) : S[k] = S.data.toList[k]'(by rw [← vS]; exact h):=by cases S; rfl
theorem aaN {S:ByteArray} : S=⟨#[]⟩↔S.data.toList = []:=by
 cases S with
 | mk d => constructor
           ·intro h; injection h with h; rw [h]
           ·intro h; simp at h; rw [h]
theorem SZ (S:ByteArray) (i j:Nat) : (S.extract i j).data.toList=(S.data.toList.drop i).take (j - i):=by
 cases S with
 | mk d=>simp [ByteArray.extract,ByteArray.copySlice,Array.toList_extract,List.extract_eq_take_drop]
theorem Z3 {T S:ByteArray} (e:T.data.toList=S.data.toList) : T=S:=by
 cases T; cases S; simp only at e; rw [Array.toList_inj] at e; rw [e]
def cg (cs:List (Int×Int)) : List Value:=cs.flatMap fun p=>[.int .i64 p.1,.int .i64 p.2]
theorem Hh (cs:List (Int×Int)) (a b:Int) : cg (cs ++ [(a,b)])=cg cs ++ [.int .i64 a,.int .i64 b]:=by simp [cg]
structure QC where
 p:ByteArray
 A:Option Addr
 n:Nat
 c:Nat
 u:Int
def L0 (q:QC) : List Value:=[.string q.p,.slice q.A q.n q.c,.int .i64 q.u]
def gc (qs:List QC) : List Value:=qs.flatMap L0
theorem L1 (qs:List QC) (q:QC) : gc (qs ++ [q])=gc qs++L0 q:=by simp [gc]
theorem Tryz.infoStr:(prog.info? 9).map (fun i=>(i.zero,i.size,i.bytes))=some (some (.string ⟨#[]⟩),1,16):=by kernel_rfl
theorem Tryz.infoQ:(prog.info? 101).map (fun i=>(i.zero,i.size,i.bytes))=some (some (.agg #[.string ⟨#[]⟩,.slice none 0 0,.int .i64 0]),3,48):=by kernel_rfl
theorem abM {s:ByteArray} {A:Option Addr} {n c:Nat} {i:Int} : ∀ u∈[Value.string s,Value.slice A n c,Value.int .i64 i],u.oneCell' = true:=by
 intro u hu
 simp only [List.mem_cons,List.mem_nil_iff,or_false] at hu
 rcases hu with rfl | rfl | rfl <;> rfl
structure Z6 (w:World) (g k:Nat) (q:QD) : Prop where
 ex:∃ (P:ByteArray) (A:Option Addr) (c:Nat),w.cell? ⟨g,k * 3,none⟩=some (.string P)∧w.cell? ⟨g,k * 3 + 1,none⟩=some (.slice A q.caps.length c)∧w.cell? ⟨g,k * 3 + 2,none⟩=some (.int .i64 q.user)∧P.data.toList=q.path∧RdK 2 w (.slice A q.caps.length c) q.caps.length (cg q.caps)
def QAt (w:World) (v:Value) (ds:List QD) : Prop:=∃ A c,v = .slice A ds.length c∧ds.length≤c∧c≤maxLen∧(0 < ds.length→∃ g,A=some ⟨g,0,none⟩∧g < w.heap.size∧∀ k (h:k < ds.length),Z6 w g k ds[k])
theorem QAt.open {w:World} {v:Value} {ds:List QD} (h:QAt w v ds) : ∃ A N c,v = .slice A N c∧N=ds.length∧N≤c∧c≤9223372036854775807∧(0 < N→∃ g,A=some ⟨g,0,none⟩∧g < w.heap.size∧∀ k (h:k < ds.length),Z6 w g k ds[k]):=by
 obtain ⟨A,c,rfl,h1,h2,h3⟩:=h
 unfold maxLen at h2
 exact ⟨A,_,c,rfl,rfl,h1,by omega,h3⟩
theorem LB (a n:Int) (w:World) (hn : 0 < n∧n≤1125899906842625) :
  Calls prog 51 #[.int .i64 a,.int .i64 n] w fun e w'=>e = .returned (.int .i64 (a % n))∧w=w':=by
 obtain ⟨n0,n1⟩:=hn
 have hz:(n==0)=false:=by simp; omega
 have l1:a.tmod n < n:=Int.tmod_lt_of_pos a n0
 have l2 : -n < a.tmod n:=by have:=Int.lt_tmod_of_pos a n0; omega
 by_cases hneg:a.tmod n < 0
 ·rw [MZ n0 hneg]
  go_enter Tryz.func51,Tryz.ntmps51
  go_wp2
  go_ret
  exact ⟨rfl,rfl⟩
 ·rw [MY n0 hneg]
  go_enter Tryz.func51,Tryz.ntmps51
  go_wp2
  go_ret
  exact ⟨rfl,rfl⟩
theorem gX (a:Int) (n:Nat) (m:Int) (w:World) (hm:m=(n:Int)) (hn : 0 < n∧n≤1125899906842625) :
  Calls prog 51 #[.int .i64 a,.int .i64 m] w fun e w'=>∃ y:Nat,e = .returned (.int .i64 (y:Int))∧(y:Int)=a % (n:Int)∧y < n∧w=w':=by
 subst hm
 refine (LB a n w ⟨by omega,by omega⟩).mono ?_
 rintro e w' ⟨rfl,rfl⟩
 have h0:=Int.emod_nonneg a (show (n:Int)≠0 by omega)
 have h1:=Int.emod_lt_of_pos a (show (0:Int) < n by omega)
 refine ⟨(a % (n:Int)).toNat,?_,by omega,by omega,rfl⟩
 rw [show (((a % (n:Int)).toNat:Nat) : Int)=a % (n:Int) from by omega]
theorem Pq {w:World} {base:Nat} {e:TypeId} {k:Nat} {v:Value} {n:Nat} {xs:List Value} (h:w.ownsRow base e k v n xs) {B:Nat} (hB:B≤base) : ∀ k,v.ownBlock=some k→B≤k :=
 fun k hk=>Nat.le_trans hB (h.lt k hk).1
theorem Pf (S:ByteArray) (w:World) (hs:S.size≤1000000000) : Calls prog 108 #[.string S] w fun e w'=>∃ T:ByteArray,e = .returned (.string T)∧T.data.toList=above S.data.toList∧T.size≤S.size∧w=w':=by
 go_enter Tryz.func108,Tryz.ntmps108
 go_wp2
 go_loop [3] (fun i=>∃ k:Nat,k≤S.size∧i = .int .i64 ((k:Int) - 1)∧(46:UInt8) ∉ S.data.toList.drop k) (fun i=>(intOf i + 1).toNat)
 case atStart=>exact ⟨S.size,Nat.le_refl _,rfl,by rw [List.drop_of_length_le (by rw [vS]; omega)]; simp⟩
 case round =>
  obtain ⟨k,hk,rfl,hno⟩:=hrel
  have HNO:=Lib.hid hno
  clear hno
  cases k with
  | zero =>
   have H2:=Lib.hid (X3 (l:=S.data.toList) (by have:=HNO.out; simpa using this))
   go_wp2
   go_ret
   exact ⟨⟨#[]⟩,rfl,H2.out.symm,Nat.zero_le _,rfl⟩
  | succ k =>
   have hkl:k < S.data.toList.length:=by rw [← vS]; omega
   have e1:((k + 1:Nat) : Int) - 1=(k:Int):=by omega
   rw [e1]
   have i0:(0:Int)≤(k:Int):=by omega
   have i1:(k:Int) < (S.size:Int):=by omega
   have i2:(k:Int)≤1000000000:=by omega
   clear e1
   by_cases hd:S[k]'(by omega)=46
   ·have H2:=Lib.hid (show above S.data.toList=S.data.toList.take k by
     have e:S.data.toList=S.data.toList.take k++46::S.data.toList.drop (k + 1):=by
      have h4:S.data.toList[k] = 46:=by rw [← XS S k (by omega)]; exact hd
      have:=List.take_append_drop k S.data.toList
      rw [List.drop_eq_getElem_cons hkl,h4] at this
      exact this.symm
     have:=X4 (a:=S.data.toList.take k) HNO.out
     rw [← e] at this
     exact this)
    have hq:(((S[k]'(by omega)).toNat:Int) != 46)=false:=by rw [hd]; rfl
    have hq2:((S[k]'(by omega)).toNat:Int)=46:=by rw [hd]; rfl
    clear hd
    go_wp2
    go_ret
    refine ⟨_,rfl,?_,?_,rfl⟩
    ·rw [SZ,H2.out]; simp
    ·rw [vS,SZ,vS]; simp; omega
   ·have hq : ¬ ((S[k]'(by omega)).toNat:Int)=46:=fun h=>hd (UInt8.toNat.inj (by have:(46:UInt8).toNat=46:=rfl; omega))
    have hq2:(((S[k]'(by omega)).toNat:Int) != 46)=true:=by simpa using hq
    have HN2:=Lib.hid (show (46:UInt8) ∉ S.data.toList.drop k by
     rw [List.drop_eq_getElem_cons hkl,List.mem_cons,not_or]
     exact ⟨fun e=>hd (by rw [XS S k (by omega)]; exact e.symm),HNO.out⟩)
    clear hd
    go_wp2
    go_round
    case rel=>exact ⟨k,by omega,by simp,HN2.out⟩
    case measure=>simp [intOf]
def Ym (p:Tx) (ds:List QD) (w:World) (e:Ending) (w':World) : Prop:=∃ A n c,e = .returned (.slice A n c)∧n=(cz p ds).length∧w'.ownsRow w.heap.size 9 1 (.slice A n c) n ((cz p ds).map sv)∧Ext w w'
theorem Eo {w:World} {B B':Nat} {e:TypeId} {k:Nat} {v:Value} {n:Nat} {xs:List Value} (h:w.ownsRow B e k v n xs) (hB:B'≤B) : w.ownsRow B' e k v n xs:=by
 refine ⟨h.1,?_⟩
 rcases h.2 with hn | ⟨g,cap,cur,rfl,hb,hr⟩
 ·exact .inl hn
 ·exact .inr ⟨g,cap,cur,rfl,Nat.le_trans hB hb,hr⟩
theorem KF {w wr V w3:World} {B n:Nat} {v v':Value} {l:List Tx} {T:ByteArray} (HX:Ext w wr) (hV:Ext wr V) (hn:n=l.length) (HO:wr.ownsRow B 9 1 v n (l.map sv)) (hB:w.heap.size≤B)
  (ho3:w3.ownsRow B 9 1 v' (n + 1) (l.map sv ++ [.string T])) (hg3:V.grownBy w3 v.ownBlock) : w3.ownsRow B 9 1 v' (l ++ [T.data.toList]).length ((l ++ [T.data.toList]).map sv)∧Ext w w3:=by
 refine ⟨?_,(HX.trans hV).trans' (cL hg3 ?_ (Pq HO hB))⟩
 ·rw [List.length_append,List.length_singleton,← hn,List.map_append,List.map_singleton,aaX]
  exact ho3
 ·exact Nat.le_trans HX.size hV.size
theorem TN (ds:List QD) (vl vq:Value) (S:ByteArray) (w:World) (hq:QAt w vq ds) (hlen:ds.length≤1000) (hp:∀ q∈ds,q.path.length≤1000000000) :
  Calls prog 52 #[.agg #[vl,vq],.string S] w (Ym S.data.toList ds w):=by
 obtain ⟨j0,hj,hy0,hy1,hy2⟩:=info_parts Tryz.infoStr
 obtain ⟨A,N,c,rfl,hN,hc1,hc2,hcell⟩:=hq.open
 have HC:=Lib.hid hcell
 have HN:=Lib.hid hN
 have HP:=Lib.hid hp
 have hN1:N≤1000:=by omega
 clear hcell hN hq hp
 go_enter Tryz.func52,Tryz.ntmps52
 go_wp2
 refine XU (fun W0 hW0=>?_)
 have X0:=Lib.hid (show Ext w W0 by rw [hW0]; exact aU _ _)
 have b1:W0.cell? ⟨w.heap.size,1,none⟩=some (.slice A N c):=by rw [hW0]; simp [go_sem]
 clear hW0
 go_loopw [5,6] (fun v i wr=>∃ (k:Nat),k≤N∧i = .int .i64 k∧wr.ownsRow W0.heap.size 9 1 v (cz S.data.toList (ds.take k)).length ((cz S.data.toList (ds.take k)).map sv)∧Ext W0 wr) (fun _ i _=>N - (intOf i).toNat)
 case atStart=>exact ⟨0,by omega,rfl,World.ownsRow_nil W0 _ _ 1,Ext.refl _⟩
 case round =>
  obtain ⟨k,hkN,rfl,ho,hx⟩:=hrel
  have HX:=Lib.hid hx
  have b1r:=hx.cell' b1
  have hkd:=W3 S.data.toList (ds.take k)
  rw [List.length_take] at hkd
  obtain ⟨n,hn⟩ : ∃ n,n=(cz S.data.toList (ds.take k)).length:=⟨_,rfl⟩
  rw [← hn] at ho hkd
  obtain ⟨Av,cv,rfl,hv1,hv2⟩:=cD ho
  have HNN:=Lib.hid hn
  have HO:=Lib.hid ho
  have hn1:n≤1000:=by omega
  clear hx ho hn hkd
  have i0:(0:Int)≤(k:Int):=by omega
  by_cases hlt:k < N
  ·have i1:(k:Int) < (N:Int):=by omega
   have hkl:k < ds.length:=by have:=HN.out; omega
   have HS:=Lib.hid (T8 (p:=S.data.toList) hkl)
   by_cases hS:S=⟨#[]⟩
   ·have hE:S.toList = []:=by rw [hS,ByteArray.toList_eq]
    have HK:=Lib.hid (show cz S.data.toList (ds.take (k + 1))=cz S.data.toList (ds.take k) by rw [hS]; show cz [] _ = cz [] _; rw [EK,EK])
    clear hS
    go_wp2
    go_roundw
    case rel=>exact ⟨k + 1,by omega,by simp,by rw [HK.out,← HNN.out]; exact HO.out,HX.out⟩
    case measure=>simp [intOf]; omega
   ·have hne:S.data.toList≠[]:=fun h=>hS (aaN.2 h)
    have hE : ¬ S.toList = []:=by rw [ByteArray.toList_eq]; exact hne
    have hE2:S.toList.isEmpty=false:=by simp [hE]
    have hE3:(!S.toList.isEmpty)=true:=by simp [hE]
    obtain ⟨g,rfl,hg,hqc⟩:=HC.out (by omega)
    obtain ⟨P,Ac,cc,h1,h2,h3,h4,h5⟩:=(hqc k hkl).ex
    have c0:=(X0.out.trans HX.out).cell h1
    have HPP:=Lib.hid h4
    have hPs:P.size≤1000000000:=by rw [vS,h4]; exact HP.out _ (List.getElem_mem hkl)
    clear hqc h1 h2 h3 h4 h5 hS
    go_wp2_with fail
    (with_reducible refine (Pf P _ hPs).mono ?_)
    rintro e w2 ⟨T,rfl,hT,hTs,rfl⟩
    have HT:=Lib.hid hT
    clear hT
    by_cases hTS:T=S
    ·have HK:=Lib.hid (show cz S.data.toList (ds.take (k + 1))=cz S.data.toList (ds.take k) ++ [P.data.toList] by
      rw [HS.out,Zg hne (by rw [← HPP.out,← HT.out,hTS]),HPP.out]; rfl)
     have q1:(T.toList==S.toList)=true:=by rw [hTS]; simp
     clear hTS hne
     go_wp2_with (at_builtin; refine DP _ rfl (.tmp 27) (.tmp 34) 31 31 rfl W0.heap.size 9 j0 (.string ⟨#[]⟩) 16 Tryz.underlying31 hj hy0 hy1 hy2 rfl _ n ((cz S.data.toList (ds.take k)).map sv) rfl (HO.out.alloc _) _ 1 _ rfl ((Rd.one _ _ _ _ _ rfl rfl).src ?c1 Tryz.underlying31) ?c3 ?c4 ?c5 ?_)
     case c1=>first | rfl | (intro u hu; simp at hu; subst hu; rfl)
     case c3=>simp [maxLen]; omega
     case c4=>omega
     case c5=>have h2:=HX.out.size; simp; omega
     intro v' w3 ho3 hg3 _ _
     obtain ⟨y1,y2⟩:=KF HX.out (aU wr _) HNN.out HO.out (Nat.le_refl _) ho3 hg3
     have Y1:=Lib.hid y1
     have Y2:=Lib.hid y2
     obtain ⟨A3,c3,rfl,_,_⟩:=cD ho3
     clear y1 y2 ho3 hg3
     go_wp2
     go_roundw
     case rel=>exact ⟨k + 1,by omega,by simp,by rw [HK.out]; exact Y1.out,Y2.out⟩
     case measure=>simp [intOf]; omega
    ·have HK:=Lib.hid (show cz S.data.toList (ds.take (k + 1))=cz S.data.toList (ds.take k) by
      rw [HS.out,aaA (by intro e; apply hTS; rw [← HPP.out,← HT.out] at e; cases T; cases S; simp only at e; rw [Array.toList_inj] at e; rw [e])]; simp)
     have q1:(T.toList==S.toList)=false:=Z2 hTS
     clear hTS hne
     go_wp2
     go_roundw
     case rel=>exact ⟨k + 1,by omega,by simp,by rw [HK.out,← HNN.out]; exact HO.out,HX.out⟩
     case measure=>simp [intOf]; omega
  ·have i1 : ¬ (k:Int) < (N:Int):=by omega
   have HK:=Lib.hid (show cz S.data.toList (ds.take k)=cz S.data.toList ds by rw [List.take_of_length_le (by have:=HN.out; omega)])
   go_wp2
   go_ret
   exact ⟨Av,n,cv,rfl,by rw [← HK.out]; exact HNN.out,by rw [← HK.out]; exact Eo HO.out X0.out.size,X0.out.trans HX.out⟩
theorem y7:∀ (cs:List (Int×Int)) (k:Nat) (a b:Int),k < cs.length→cg (cs.set k (a,b))=((cg cs).set (k * 2) (.int .i64 a)).set (k * 2 + 1) (.int .i64 b)
 | [],k,_,_,h=>by simp at h
 | p::cs,0,a,b,_=>rfl
 | p::cs,k + 1,a,b,h=>by
  have ih:=y7 cs k a b (by simpa using h)
  rw [List.set_cons_succ]
  show [Value.int .i64 p.1,.int .i64 p.2] ++ cg (cs.set k (a,b))=((([Value.int .i64 p.1,.int .i64 p.2] ++ cg cs).set ((k + 1) * 2) (.int .i64 a)).set ((k + 1) * 2 + 1) (.int .i64 b))
  rw [ih,show (k + 1) * 2=k * 2 + 1 + 1 by omega]
  rfl
theorem Kz (cs:List (Int×Int)) (k:Nat) (h:k < cs.length) : (cg cs)[k * 2]? = some (.int .i64 cs[k].1)∧(cg cs)[k * 2 + 1]? = some (.int .i64 cs[k].2):=by
 induction cs generalizing k with
 | nil=>simp at h
 | cons p cs ih =>
  cases k with
  | zero=>exact ⟨rfl,rfl⟩
  | succ k =>
   obtain ⟨h1,h2⟩:=ih k (by simpa using h)
   have e:cg (p::cs) = .int .i64 p.1 :: .int .i64 p.2::cg cs:=rfl
   rw [e,show (k + 1) * 2=k * 2 + 1 + 1 by omega]
   exact ⟨h1,h2⟩
theorem uA (qs:List QC) (k:Nat) (q:QC) (h:qs[k]? = some q) : (gc qs)[k * 3]? = some (.string q.p)∧(gc qs)[k * 3 + 1]? = some (.slice q.A q.n q.c)∧(gc qs)[k * 3 + 2]? = some (.int .i64 q.u):=by
 induction qs generalizing k with
 | nil=>simp at h
 | cons p qs ih =>
  have e:gc (p::qs) = .string p.p :: .slice p.A p.n p.c :: .int .i64 p.u::gc qs:=rfl
  cases k with
  | zero =>
   simp at h
   subst h
   exact ⟨rfl,rfl,rfl⟩
  | succ k =>
   obtain ⟨h1,h2,h3⟩:=ih k (by simpa using h)
   rw [e,show (k + 1) * 3=k * 3 + 1 + 1 + 1 by omega]
   exact ⟨h1,h2,h3⟩
def cb (q:QC) : Option Nat:=(Value.slice q.A q.n q.c).ownBlock
def xd (w:World) (B:Nat) (q:QC) (d:QD) : Prop:=q.p.data.toList=d.path∧q.u=d.user∧q.n=d.caps.length∧w.ownsRow B 98 2 (.slice q.A q.n q.c) q.n (cg d.caps)
theorem xd.ext {w w':World} {B:Nat} {q:QC} {d:QD} (h:xd w B q d) (x:Ext w w') : xd w' B q d:=⟨h.1,h.2.1,h.2.2.1,lx h.2.2.2 x⟩
theorem xd.kept {w w':World} {B:Nat} {row:Option Nat} {q:QC} {d:QD} (h:xd w B q d) (x:w.grownBy w' row) (hr:cb q=none∨cb q≠row) : xd w' B q d:=⟨h.1,h.2.1,h.2.2.1,h.2.2.2.kept x hr⟩
structure ji (w:World) (B:Nat) (v:Value) (ds:List QD) (qs:List QC) : Prop where
 row:w.ownsRow B 101 3 v ds.length (gc qs)
 len:qs.length=ds.length
 each:∀ (k:Nat) (q:QC) (h:k < ds.length),qs[k]? = some q→xd w B q ds[k]
 apart:∀ (i j:Nat) (qi qj:QC),i≠j→qs[i]? = some qi→qs[j]? = some qj→∀ g,cb qi=some g→cb qj≠some g
theorem ji.nil (w:World) (B:Nat) : ji w B (.slice none 0 0) [] []:=⟨World.ownsRow_nil w _ _ 3,rfl,fun k _ h=>absurd h (by simp),fun i j qi qj _ h=>by simp at h⟩
theorem ji.ext {w w':World} {B:Nat} {v:Value} {ds:List QD} {qs:List QC} (h:ji w B v ds qs) (x:Ext w w') : ji w' B v ds qs :=
 ⟨lx h.row x,h.len,fun k q hk hq=>(h.each k q hk hq).ext x,h.apart⟩
theorem pv {w:World} {B e e' k n R:Nat} {v:Value} {xs:List Value} {cur:Array Value} {f:Nat×Nat} (h:w.ownsRow B e k v n xs) (hR:w.heap[R]? = some (.cells cur e' f)) (he:e≠e') : v.ownBlock≠some R:=by
 rcases h.2 with ⟨rfl,_⟩ | ⟨g,cap,cur',rfl,_,hg,_⟩
 ·intro e1; cases e1
 ·intro e1
  simp [Value.ownBlock] at e1
  subst e1
  rw [hg] at hR
  injection hR with hR
  injection hR with _ h2
  exact he h2
theorem ji.kept {w w':World} {B R:Nat} {v:Value} {ds:List QD} {qs:List QC} {cur:Array Value} {e':TypeId} {f:Nat×Nat} (h:ji w B v ds qs) (x:w.grownBy w' (some R)) (hR:w.heap[R]? = some (.cells cur e' f)) (h1 : 101≠e') (h2 : 98≠e') : ji w' B v ds qs :=
 ⟨h.row.kept x (.inr (pv h.row hR h1)),h.len,fun k q hk hq=>(h.each k q hk hq).kept x (.inr (pv (h.each k q hk hq).2.2.2 hR h2)),h.apart⟩
theorem ji.rd {w:World} {B:Nat} {v:Value} {ds:List QD} {qs:List QC} (h:ji w B v ds qs) : QAt w v ds:=by
 have hl:=h.len
 rcases h.row.2 with ⟨rfl,h0⟩ | ⟨g,cap,cur,rfl,hb,hg,hc,hm,_⟩
 ·exact ⟨none,0,by rw [h0],by omega,by simp [maxLen],fun hn=>by omega⟩
 ·refine ⟨_,cap,rfl,hc,hm,fun hn=>⟨g,rfl,(Array.getElem?_eq_some_iff.1 hg).1,fun k hk=>?_⟩⟩
  obtain ⟨q,hq⟩ : ∃ q,qs[k]? = some q:=⟨qs[k]'(by omega),by rw [zq]⟩
  obtain ⟨h1,h2,h3,h4⟩:=h.each k q hk hq
  obtain ⟨c1,c2,c3⟩:=uA qs k q hq
  have hat:=fun j (hj:j < ds.length * 3)=>h.row.cellAt j hj
  refine ⟨q.p,q.A,q.c,?_,?_,?_,h1,?_⟩
  ·rw [hat _ (by omega)]; exact c1
  ·rw [hat _ (by omega),← h3]; exact c2
  ·rw [hat _ (by omega),← h2]; exact c3
  ·rw [← h3]; exact RdK.of_own h4
theorem ji.snoc {w V w4:World} {B:Nat} {v v':Value} {ds:List QD} {qs:List QC} {q:QC} {d:QD} (h:ji w B v ds qs) (x:Ext w V) (hq:xd V B q d) (hnew:∀ g,cb q=some g→∀ (i:Nat) (qi:QC),qs[i]? = some qi→cb qi≠some g)
  (hown:w4.ownsRow B 101 3 v' (ds.length + 1) (gc qs++L0 q)) (hg:V.grownBy w4 v.ownBlock) : ji w4 B v' (ds ++ [d]) (qs ++ [q]):=by
 have hx:=h.ext x
 have hne:∀ q' d',xd V B q' d'→cb q' = none∨cb q'≠v.ownBlock:=fun q' d' h'=>aap h'.2.2.2 hx.row (by decide)
 refine ⟨by rw [List.length_append,List.length_singleton,L1]; exact hown,by simp [h.len],fun k q' hk hq'=>?_,fun i j qi qj hij hi hj g hgi=>?_⟩
 ·rw [List.length_append,List.length_singleton] at hk
  by_cases hlt:k < ds.length
  ·rw [List.getElem?_append_left (by rw [h.len]; exact hlt)] at hq'
   rw [List.getElem_append_left hlt]
   exact (hx.each k q' hlt hq').kept hg (hne _ _ (hx.each k q' hlt hq'))
  ·obtain rfl:k=ds.length:=by omega
   rw [List.getElem?_append_right (by rw [h.len]; exact Nat.le_refl _),h.len] at hq'
   simp at hq'
   subst hq'
   rw [List.getElem_append_right (Nat.le_refl _)]
   simp only [Nat.sub_self,List.getElem_cons_zero]
   exact hq.kept hg (hne _ _ hq)
 ·by_cases h1:i < qs.length
  ·rw [List.getElem?_append_left h1] at hi
   by_cases h2:j < qs.length
   ·rw [List.getElem?_append_left h2] at hj
    exact h.apart i j qi qj hij hi hj g hgi
   ·rw [List.getElem?_append_right (by omega)] at hj
    have h3:j - qs.length=0:=by
     have:=(zg.1 hj).1
     simp at this; omega
    rw [h3] at hj
    simp at hj
    subst hj
    intro e
    exact hnew g e i qi hi hgi
  ·rw [List.getElem?_append_right (by omega)] at hi
   have h3:i - qs.length=0:=by
    have:=(zg.1 hi).1
    simp at this; omega
   rw [h3] at hi
   simp at hi
   subst hi
   by_cases h2:j < qs.length
   ·rw [List.getElem?_append_left h2] at hj
    exact hnew g hgi j qj hj
   ·exfalso
    have:=(zg.1 hj).1
    simp at this
    omega
def JR (ds:List QD) (m k:Nat) (a b:Int) : List QD:=ds.modify m fun q=>⟨q.path,q.caps.set k (a,b),q.user⟩
theorem rt (ds:List QD) (m k:Nat) (a b:Int) : (JR ds m k a b).length=ds.length:=by simp [JR]
theorem ji.put {w:World} {B:Nat} {v:Value} {ds:List QD} {qs:List QC} (h:ji w B v ds qs) {m k:Nat} (hm:m < ds.length) (hk:k < (ds[m]).caps.length) :
  ∃ gq cq g c,v = .slice (some ⟨gq,0,none⟩) ds.length cq∧w.cell? ⟨gq,m * 3 + 1,none⟩=some (.slice (some ⟨g,0,none⟩) (ds[m]).caps.length c)∧B≤g∧g < w.heap.size∧(∃ cur,w.heap[g]? = some (.cells cur 98 (0,0))) ∧
   (∀ j,w.frozen? ⟨g,j,none⟩=false)∧w.cell? ⟨g,k * 2,none⟩=some (.int .i64 ((ds[m]).caps[k]).1)∧w.cell? ⟨g,k * 2 + 1,none⟩=some (.int .i64 ((ds[m]).caps[k]).2) ∧
   ∀ a b,ji ((w.setCell ⟨g,k * 2,none⟩ (.int .i64 a)).setCell ⟨g,k * 2 + 1,none⟩ (.int .i64 b)) B v (JR ds m k a b) qs∧w.grownBy ((w.setCell ⟨g,k * 2,none⟩ (.int .i64 a)).setCell ⟨g,k * 2 + 1,none⟩ (.int .i64 b)) (some g):=by
 have hl:=h.len
 obtain ⟨q,hq⟩ : ∃ q,qs[m]? = some q:=⟨qs[m]'(by omega),by rw [zq]⟩
 obtain ⟨h1,h2,h3,h4⟩:=h.each m q hm hq
 rcases h.row.2 with ⟨_,h0⟩ | ⟨gq,cq,cur,rfl,hb,hg,hc,hmx,_⟩
 ·omega
 rcases h4.2 with ⟨_,h0⟩ | ⟨g,c,cur',ev,hb',hg',hc',hm',_⟩
 ·omega
 injection ev with eA eN eC
 have h4':w.ownsRow B 98 2 (.slice (some ⟨g,0,none⟩) q.n q.c) q.n (cg ds[m].caps):=by rw [← eA]; exact h4
 have hcq:cb q=some g:=by unfold cb; rw [eA]; rfl
 have hcell:=h.row.cellAt (m * 3 + 1) (by omega)
 rw [(uA qs m q hq).2.1,h3,eA] at hcell
 obtain ⟨k1,k2⟩:=Kz ds[m].caps k hk
 have c1:=h4'.cellAt (k * 2) (by omega)
 have c2:=h4'.cellAt (k * 2 + 1) (by omega)
 rw [k1] at c1
 rw [k2] at c2
 refine ⟨gq,cq,g,q.c,rfl,hcell,hb',(Array.getElem?_eq_some_iff.1 hg').1,⟨cur',hg'⟩,h4'.frozenAt,c1,c2,fun a b=>?_⟩
 have hgr:w.grownBy ((w.setCell ⟨g,k * 2,none⟩ (.int .i64 a)).setCell ⟨g,k * 2 + 1,none⟩ (.int .i64 b)) (some g) :=
  ⟨rfl,rfl,rfl,by simp [World.setCell],fun i _ hi=>(Below.heap_setCell _ _ _ _ (fun e=>hi (by rw [e]))).trans (Below.heap_setCell _ _ _ _ (fun e=>hi (by rw [e])))⟩
 have st:=(h4'.stored (k * 2) (.int .i64 a)).1.stored (k * 2 + 1) (.int .i64 b)
 rw [← y7 _ _ _ _ hk] at st
 refine ⟨⟨?_,by rw [rt]; exact hl,fun i q' hi hq'=>?_,h.apart⟩,hgr⟩
 ·rw [rt]
  exact h.row.kept hgr (.inr (pv h.row hg' (by decide)))
 ·rw [rt] at hi
  simp only [JR,List.getElem_modify]
  by_cases him:m=i
  ·subst him
   rw [hq] at hq'
   injection hq' with hq'
   subst hq'
   rw [if_pos rfl]
   refine ⟨h1,h2,by simpa using h3,?_⟩
   rw [eA]
   exact st.1
  ·rw [if_neg him]
   exact (h.each i q' hi hq').kept hgr (.inr fun e=>h.apart m i q q' him hq hq' g hcq e)
end Go.Proofs.YtaknepbdbappdaaGreat
