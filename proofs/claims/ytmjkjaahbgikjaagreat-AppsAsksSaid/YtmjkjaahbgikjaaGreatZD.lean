/- My texts, in one. -/
import Derived.Test.YtmjkjaahbgikjaaGreatZC
set_option linter.all false
set_option maxRecDepth 100000
set_option maxHeartbeats 4000000
namespace Go.Proofs.YtmjkjaahbgikjaaGreat
open Go.RowKit
open IntKind (i64)
open Go.Proofs.Tryz (prog)
theorem kZ {w w':World} {base:Nat} {e:TypeId} {k:Nat} {v:Value} {n:Nat} {xs:List Value} (h:w.ownsRow base e k v n xs) (x:Ext w w') : w'.ownsRow base e k v n xs:=by
 refine ⟨h.1,?_⟩
 rcases h.2 with hn | ⟨g,cap,cur,rfl,hb,hg,hr⟩
 ·exact .inl hn
 ·exact .inr ⟨g,cap,cur,rfl,hb,(x.block g (Array.getElem?_eq_some_iff.1 hg).1).trans hg,hr⟩
def RdK (k:Nat) (w:World) (v:Value) (n:Nat) (xs:List Value) : Prop :=
 ∃ A c,v = .slice A n c∧n≤c∧c≤maxLen∧xs.length=n * k∧(0 < xs.length→∃ a,A=some a∧a.block < w.heap.size∧∀ j u,xs[j]? = some u→w.cell? (a.add j)=some u)
theorem RdK.of_own {k:Nat} {w:World} {base:Nat} {e:TypeId} {v:Value} {n:Nat} {xs:List Value} (h:w.ownsRow base e k v n xs) : RdK k w v n xs:=by
 have hl:=h.1
 rcases h.2 with ⟨rfl,h0⟩ | ⟨g,cap,cur,rfl,_,hg,hc,hm,_⟩
 ·subst h0; exact ⟨none,0,rfl,Nat.le_refl _,by simp [maxLen],hl,fun hn=>by omega⟩
 ·exact ⟨_,cap,rfl,hc,hm,hl,fun hn=>⟨⟨g,0,none⟩,rfl,(Array.getElem?_eq_some_iff.1 hg).1,h.cells (g:=g) rfl⟩⟩
theorem cD {w:World} {B e k n:Nat} {v:Value} {xs:List Value} (h:w.ownsRow B e k v n xs) : ∃ A c,v = .slice A n c∧n≤c∧c≤9223372036854775807:=by
 rcases h.2 with ⟨rfl,h0⟩ | ⟨g,cap,cur,rfl,_,_,hc,hm,_⟩
 ·subst h0; exact ⟨none,0,rfl,Nat.le_refl _,by omega⟩
 ·unfold maxLen at hm; exact ⟨_,cap,rfl,hc,by omega⟩
theorem Fx (w:World) (x y z:Value) (t:TypeId) : ∀ j u,[x,y,z][j]? = some u→(w.alloc (.cells #[x,y,z] t)).cell? ((⟨w.heap.size,0,none⟩ : Addr).add j)=some u:=by
 intro j u hu
 have hadd:(⟨w.heap.size,0,none⟩ : Addr).add j=⟨w.heap.size,j,none⟩:=by unfold Addr.add; split <;> simp_all
 rw [hadd,cell_of_row _ w.heap.size j _ t (0,0) (heap_alloc_new w _),← Array.getElem?_toList]
 exact hu
theorem Ze {w:World} {B B' e e' k k' n n':Nat} {v v':Value} {xs xs':List Value} (h:w.ownsRow B e k v n xs) (h':w.ownsRow B' e' k' v' n' xs') (he:e≠e') : v.ownBlock=none∨v.ownBlock≠v'.ownBlock:=by
 rcases h.2 with ⟨rfl,_⟩ | ⟨g,cap,cur,rfl,_,hg,_⟩
 ·exact .inl rfl
 ·refine .inr fun e1=>?_
  rcases h'.2 with ⟨rfl,_⟩ | ⟨g',cap',cur',rfl,_,hg',_⟩
  ·cases e1
  ·simp [Value.ownBlock] at e1
   subst e1
   rw [hg] at hg'
   injection hg' with hg'
   injection hg' with _ h2
   exact he h2
theorem fv (W:World) (B:Nat) (e:TypeId) (k:Nat) (h:B≤W.heap.size) : (W.alloc (.cells #[] e)).ownsRow B e k (.slice (some ⟨W.heap.size,0,none⟩) 0 0) 0 [] :=
 ⟨by simp,.inr ⟨W.heap.size,0,#[],rfl,h,heap_alloc_new W _,Nat.le_refl _,by simp [maxLen],by simp,by simp⟩⟩
section
section
variable {P:Program} (w:World)
end
end
def gH (k:Nat) (t:TypeId) (n:Nat) (xs:List Value) (w:World) (e:Ending) (w':World) : Prop:=∃ A' c',e = .returned (.slice A' n c')∧w'.ownsRow w.heap.size t k (.slice A' n c') n xs∧Ext w w'
theorem Tryz.infoClNode:(prog.info? 72).map (fun i=>(i.zero,i.size,i.bytes))=some (some (.agg #[.int .i64 0,.int .i64 0,.int .i64 0,.int .i64 0,.int .i64 0,.int .i64 0,.int .i64 0,.bool false]),8,64):=by kernel_rfl
theorem GX (v:Value) (n:Nat) (xs:List Value) (w:World) (h:RdK 8 w v n xs) (h1:∀ u∈xs,u.oneCell' = true) (h2:n≤1000000) :
  Calls prog 62 #[v] w (gH 8 72 n xs w):=by
 obtain ⟨c0,hc,hcz0,hcz1,hcz2⟩:=info_parts Tryz.infoClNode
 obtain ⟨A,c,rfl,hc1,hc2,hl,hcell⟩:=h
 have hn:=fun (W:World) (A:Option Addr) (n c n' c':Nat)=>Lib.run_eql_slice_nil (P:=prog) W 37 72 A n c n' c' Tryz.underlying37
 have HL:=Lib.hid hl
 have H1:=Lib.hid h1
 cases A with
 | none =>
  have hx:xs = []:=by
   rcases xs with _ | ⟨x,xs⟩
   ·rfl
   ·obtain ⟨a,e,_⟩:=hcell (by simp)
    cases e
  subst hx
  have hn0:n=0:=by simp at hl; omega
  subst hn0
  clear hcell hl
  go_enter Tryz.func62,Tryz.ntmps62
  go_wp2
  go_ret
  exact ⟨none,0,rfl,World.ownsRow_nil _ _ _ 8,Ext.refl _⟩
 | some a =>
  have HO:=Lib.hid (fv w w.heap.size 72 8 (Nat.le_refl _))
  have HCS:=Lib.hid (show ∀ (j:Nat) (u:Value),xs[j]? = some u→(w.alloc (.cells #[] 72)).cell? (a.add j)=some u from fun j u hu=>by
   obtain ⟨a',e,hb,hcs⟩:=hcell (by have:=(zg.1 hu).1; omega)
   obtain rfl:a=a':=Option.some.inj e
   exact (Below.cell (aO w _) (p:=a.add j) (by rw [cZ]; exact hb)).trans (hcs j u hu))
  clear hcell hl h1
  go_enter Tryz.func62,Tryz.ntmps62
  go_wp2_with (at_builtin; go_loud (refine wpList_append_own_at _ rfl (.tmp 5) (.tmp 6) 37 rfl w.heap.size 72 c0 _ 8 64 Tryz.underlying37 hc hcz0 hcz1 hcz2 rfl (by decide) _ 0 [] rfl HO.out a n c xs rfl HL.out HCS.out H1.out ?c3 ?c4 ?c5 ?_))
  case c3=>simp [maxLen]; omega
  case c4=>omega
  case c5=>simp
  intro v' w3 ho3 hg3 _ hat3
  have HE:=Lib.hid ((aO w (.cells #[] 72)).trans' (cJ hg3 (by simp) (fun k hk=>by simp [Value.ownBlock] at hk; omega)))
  have HO3:=Lib.hid ho3
  obtain ⟨A3,c3,rfl,_,_⟩:=cD ho3
  clear ho3 hg3 hat3
  go_wp2
  go_ret
  exact ⟨_,_,rfl,HO3.out,HE.out⟩
theorem Tryz.infoClCont:(prog.info? 91).map (fun i=>(i.zero,i.size,i.bytes))=some (some (.agg #[.int .i64 0,.int .i64 0,.int .i64 0,.int .i64 0,.int .i64 0,.int .i64 0,.int .i64 0,.bool false,.int .i64 0]),9,72):=by kernel_rfl
theorem GY (v:Value) (n:Nat) (xs:List Value) (w:World) (h:RdK 9 w v n xs) (h1:∀ u∈xs,u.oneCell' = true) (h2:n≤1000000) :
  Calls prog 64 #[v] w (gH 9 91 n xs w):=by
 obtain ⟨c0,hc,hcz0,hcz1,hcz2⟩:=info_parts Tryz.infoClCont
 obtain ⟨A,c,rfl,hc1,hc2,hl,hcell⟩:=h
 have hn:=fun (W:World) (A:Option Addr) (n c n' c':Nat)=>Lib.run_eql_slice_nil (P:=prog) W 39 91 A n c n' c' Tryz.underlying39
 have HL:=Lib.hid hl
 have H1:=Lib.hid h1
 cases A with
 | none =>
  have hx:xs = []:=by
   rcases xs with _ | ⟨x,xs⟩
   ·rfl
   ·obtain ⟨a,e,_⟩:=hcell (by simp)
    cases e
  subst hx
  have hn0:n=0:=by simp at hl; omega
  subst hn0
  clear hcell hl
  go_enter Tryz.func64,Tryz.ntmps64
  go_wp2
  go_ret
  exact ⟨none,0,rfl,World.ownsRow_nil _ _ _ 9,Ext.refl _⟩
 | some a =>
  have HO:=Lib.hid (fv w w.heap.size 91 9 (Nat.le_refl _))
  have HCS:=Lib.hid (show ∀ (j:Nat) (u:Value),xs[j]? = some u→(w.alloc (.cells #[] 91)).cell? (a.add j)=some u from fun j u hu=>by
   obtain ⟨a',e,hb,hcs⟩:=hcell (by have:=(zg.1 hu).1; omega)
   obtain rfl:a=a':=Option.some.inj e
   exact (Below.cell (aO w _) (p:=a.add j) (by rw [cZ]; exact hb)).trans (hcs j u hu))
  clear hcell hl h1
  go_enter Tryz.func64,Tryz.ntmps64
  go_wp2_with (at_builtin; go_loud (refine wpList_append_own_at _ rfl (.tmp 5) (.tmp 6) 39 rfl w.heap.size 91 c0 _ 9 72 Tryz.underlying39 hc hcz0 hcz1 hcz2 rfl (by decide) _ 0 [] rfl HO.out a n c xs rfl HL.out HCS.out H1.out ?c3 ?c4 ?c5 ?_))
  case c3=>simp [maxLen]; omega
  case c4=>omega
  case c5=>simp
  intro v' w3 ho3 hg3 _ hat3
  have HE:=Lib.hid ((aO w (.cells #[] 91)).trans' (cJ hg3 (by simp) (fun k hk=>by simp [Value.ownBlock] at hk; omega)))
  have HO3:=Lib.hid ho3
  obtain ⟨A3,c3,rfl,_,_⟩:=cD ho3
  clear ho3 hg3 hat3
  go_wp2
  go_ret
  exact ⟨_,_,rfl,HO3.out,HE.out⟩
theorem Tryz.infoClSlot:(prog.info? 93).map (fun i=>(i.zero,i.size,i.bytes))=some (some (.agg #[.int .i64 0,.int .i64 0,.int .i64 0]),3,24):=by kernel_rfl
theorem GV (v:Value) (n:Nat) (xs:List Value) (w:World) (h:RdK 3 w v n xs) (h1:∀ u∈xs,u.oneCell' = true) (h2:n≤1000000) :
  Calls prog 65 #[v] w (gH 3 93 n xs w):=by
 obtain ⟨c0,hc,hcz0,hcz1,hcz2⟩:=info_parts Tryz.infoClSlot
 obtain ⟨A,c,rfl,hc1,hc2,hl,hcell⟩:=h
 have hn:=fun (W:World) (A:Option Addr) (n c n' c':Nat)=>Lib.run_eql_slice_nil (P:=prog) W 40 93 A n c n' c' Tryz.underlying40
 have HL:=Lib.hid hl
 have H1:=Lib.hid h1
 cases A with
 | none =>
  have hx:xs = []:=by
   rcases xs with _ | ⟨x,xs⟩
   ·rfl
   ·obtain ⟨a,e,_⟩:=hcell (by simp)
    cases e
  subst hx
  have hn0:n=0:=by simp at hl; omega
  subst hn0
  clear hcell hl
  go_enter Tryz.func65,Tryz.ntmps65
  go_wp2
  go_ret
  exact ⟨none,0,rfl,World.ownsRow_nil _ _ _ 3,Ext.refl _⟩
 | some a =>
  have HO:=Lib.hid (fv w w.heap.size 93 3 (Nat.le_refl _))
  have HCS:=Lib.hid (show ∀ (j:Nat) (u:Value),xs[j]? = some u→(w.alloc (.cells #[] 93)).cell? (a.add j)=some u from fun j u hu=>by
   obtain ⟨a',e,hb,hcs⟩:=hcell (by have:=(zg.1 hu).1; omega)
   obtain rfl:a=a':=Option.some.inj e
   exact (Below.cell (aO w _) (p:=a.add j) (by rw [cZ]; exact hb)).trans (hcs j u hu))
  clear hcell hl h1
  go_enter Tryz.func65,Tryz.ntmps65
  go_wp2_with (at_builtin; go_loud (refine wpList_append_own_at _ rfl (.tmp 5) (.tmp 6) 40 rfl w.heap.size 93 c0 _ 3 24 Tryz.underlying40 hc hcz0 hcz1 hcz2 rfl (by decide) _ 0 [] rfl HO.out a n c xs rfl HL.out HCS.out H1.out ?c3 ?c4 ?c5 ?_))
  case c3=>simp [maxLen]; omega
  case c4=>omega
  case c5=>simp
  intro v' w3 ho3 hg3 _ hat3
  have HE:=Lib.hid ((aO w (.cells #[] 93)).trans' (cJ hg3 (by simp) (fun k hk=>by simp [Value.ownBlock] at hk; omega)))
  have HO3:=Lib.hid ho3
  obtain ⟨A3,c3,rfl,_,_⟩:=cD ho3
  clear ho3 hg3 hat3
  go_wp2
  go_ret
  exact ⟨_,_,rfl,HO3.out,HE.out⟩
theorem Tryz.infoClPlan:(prog.info? 74).map (fun i=>(i.zero,i.size,i.bytes))=some (some (.agg #[.int .i64 0,.int .i64 0,.int .i64 0,.int .i64 0,.int .i64 0,.int .i64 0]),6,48):=by kernel_rfl
theorem GW (v:Value) (n:Nat) (xs:List Value) (w:World) (h:RdK 6 w v n xs) (h1:∀ u∈xs,u.oneCell' = true) (h2:n≤1000000) :
  Calls prog 66 #[v] w (gH 6 74 n xs w):=by
 obtain ⟨c0,hc,hcz0,hcz1,hcz2⟩:=info_parts Tryz.infoClPlan
 obtain ⟨A,c,rfl,hc1,hc2,hl,hcell⟩:=h
 have hn:=fun (W:World) (A:Option Addr) (n c n' c':Nat)=>Lib.run_eql_slice_nil (P:=prog) W 41 74 A n c n' c' Tryz.underlying41
 have HL:=Lib.hid hl
 have H1:=Lib.hid h1
 cases A with
 | none =>
  have hx:xs = []:=by
   rcases xs with _ | ⟨x,xs⟩
   ·rfl
   ·obtain ⟨a,e,_⟩:=hcell (by simp)
    cases e
  subst hx
  have hn0:n=0:=by simp at hl; omega
  subst hn0
  clear hcell hl
  go_enter Tryz.func66,Tryz.ntmps66
  go_wp2
  go_ret
  exact ⟨none,0,rfl,World.ownsRow_nil _ _ _ 6,Ext.refl _⟩
 | some a =>
  have HO:=Lib.hid (fv w w.heap.size 74 6 (Nat.le_refl _))
  have HCS:=Lib.hid (show ∀ (j:Nat) (u:Value),xs[j]? = some u→(w.alloc (.cells #[] 74)).cell? (a.add j)=some u from fun j u hu=>by
   obtain ⟨a',e,hb,hcs⟩:=hcell (by have:=(zg.1 hu).1; omega)
   obtain rfl:a=a':=Option.some.inj e
   exact (Below.cell (aO w _) (p:=a.add j) (by rw [cZ]; exact hb)).trans (hcs j u hu))
  clear hcell hl h1
  go_enter Tryz.func66,Tryz.ntmps66
  go_wp2_with (at_builtin; go_loud (refine wpList_append_own_at _ rfl (.tmp 5) (.tmp 6) 41 rfl w.heap.size 74 c0 _ 6 48 Tryz.underlying41 hc hcz0 hcz1 hcz2 rfl (by decide) _ 0 [] rfl HO.out a n c xs rfl HL.out HCS.out H1.out ?c3 ?c4 ?c5 ?_))
  case c3=>simp [maxLen]; omega
  case c4=>omega
  case c5=>simp
  intro v' w3 ho3 hg3 _ hat3
  have HE:=Lib.hid ((aO w (.cells #[] 74)).trans' (cJ hg3 (by simp) (fun k hk=>by simp [Value.ownBlock] at hk; omega)))
  have HO3:=Lib.hid ho3
  obtain ⟨A3,c3,rfl,_,_⟩:=cD ho3
  clear ho3 hg3 hat3
  go_wp2
  go_ret
  exact ⟨_,_,rfl,HO3.out,HE.out⟩
theorem Tryz.infoClStr:(prog.info? 9).map (fun i=>(i.zero,i.size,i.bytes))=some (some (.string ⟨#[]⟩),1,16):=by kernel_rfl
theorem J2 (v:Value) (n:Nat) (xs:List Value) (w:World) (h:RdK 1 w v n xs) (h1:∀ u∈xs,u.oneCell' = true) (h2:n≤1000000) :
  Calls prog 127 #[v] w (gH 1 9 n xs w):=by
 obtain ⟨c0,hc,hcz0,hcz1,hcz2⟩:=info_parts Tryz.infoClStr
 obtain ⟨A,c,rfl,hc1,hc2,hl,hcell⟩:=h
 have hn:=fun (W:World) (A:Option Addr) (n c n' c':Nat)=>Lib.run_eql_slice_nil (P:=prog) W 33 9 A n c n' c' Tryz.underlying33
 have HL:=Lib.hid hl
 have H1:=Lib.hid h1
 cases A with
 | none =>
  have hx:xs = []:=by
   rcases xs with _ | ⟨x,xs⟩
   ·rfl
   ·obtain ⟨a,e,_⟩:=hcell (by simp)
    cases e
  subst hx
  have hn0:n=0:=by simp at hl; omega
  subst hn0
  clear hcell hl
  go_enter Tryz.func127,Tryz.ntmps127
  go_wp2
  go_ret
  exact ⟨none,0,rfl,World.ownsRow_nil _ _ _ 1,Ext.refl _⟩
 | some a =>
  have HO:=Lib.hid (fv w w.heap.size 9 1 (Nat.le_refl _))
  have HCS:=Lib.hid (show ∀ (j:Nat) (u:Value),xs[j]? = some u→(w.alloc (.cells #[] 9)).cell? (a.add j)=some u from fun j u hu=>by
   obtain ⟨a',e,hb,hcs⟩:=hcell (by have:=(zg.1 hu).1; omega)
   obtain rfl:a=a':=Option.some.inj e
   exact (Below.cell (aO w _) (p:=a.add j) (by rw [cZ]; exact hb)).trans (hcs j u hu))
  clear hcell hl h1
  go_enter Tryz.func127,Tryz.ntmps127
  go_wp2_with (at_builtin; go_loud (refine wpList_append_own_at _ rfl (.tmp 5) (.tmp 6) 33 rfl w.heap.size 9 c0 _ 1 16 Tryz.underlying33 hc hcz0 hcz1 hcz2 rfl (by decide) _ 0 [] rfl HO.out a n c xs rfl HL.out HCS.out H1.out ?c3 ?c4 ?c5 ?_))
  case c3=>simp [maxLen]; omega
  case c4=>omega
  case c5=>simp
  intro v' w3 ho3 hg3 _ hat3
  have HE:=Lib.hid ((aO w (.cells #[] 9)).trans' (cJ hg3 (by simp) (fun k hk=>by simp [Value.ownBlock] at hk; omega)))
  have HO3:=Lib.hid ho3
  obtain ⟨A3,c3,rfl,_,_⟩:=cD ho3
  clear ho3 hg3 hat3
  go_wp2
  go_ret
  exact ⟨_,_,rfl,HO3.out,HE.out⟩
theorem Tryz.infoClQueue:(prog.info? 63).map (fun i=>(i.zero,i.size,i.bytes))=some (some (.agg #[.string ⟨#[]⟩,.slice none 0 0,.int .i64 0]),3,48):=by kernel_rfl
theorem Fq (v:Value) (n:Nat) (xs:List Value) (w:World) (h:RdK 3 w v n xs) (h1:∀ u∈xs,u.oneCell' = true) (h2:n≤1000000) :
  Calls prog 128 #[v] w (gH 3 63 n xs w):=by
 obtain ⟨c0,hc,hcz0,hcz1,hcz2⟩:=info_parts Tryz.infoClQueue
 obtain ⟨A,c,rfl,hc1,hc2,hl,hcell⟩:=h
 have hn:=fun (W:World) (A:Option Addr) (n c n' c':Nat)=>Lib.run_eql_slice_nil (P:=prog) W 34 63 A n c n' c' Tryz.underlying34
 have HL:=Lib.hid hl
 have H1:=Lib.hid h1
 cases A with
 | none =>
  have hx:xs = []:=by
   rcases xs with _ | ⟨x,xs⟩
   ·rfl
   ·obtain ⟨a,e,_⟩:=hcell (by simp)
    cases e
  subst hx
  have hn0:n=0:=by simp at hl; omega
  subst hn0
  clear hcell hl
  go_enter Tryz.func128,Tryz.ntmps128
  go_wp2
  go_ret
  exact ⟨none,0,rfl,World.ownsRow_nil _ _ _ 3,Ext.refl _⟩
 | some a =>
  have HO:=Lib.hid (fv w w.heap.size 63 3 (Nat.le_refl _))
  have HCS:=Lib.hid (show ∀ (j:Nat) (u:Value),xs[j]? = some u→(w.alloc (.cells #[] 63)).cell? (a.add j)=some u from fun j u hu=>by
   obtain ⟨a',e,hb,hcs⟩:=hcell (by have:=(zg.1 hu).1; omega)
   obtain rfl:a=a':=Option.some.inj e
   exact (Below.cell (aO w _) (p:=a.add j) (by rw [cZ]; exact hb)).trans (hcs j u hu))
  clear hcell hl h1
  go_enter Tryz.func128,Tryz.ntmps128
  go_wp2_with (at_builtin; go_loud (refine wpList_append_own_at _ rfl (.tmp 5) (.tmp 6) 34 rfl w.heap.size 63 c0 _ 3 48 Tryz.underlying34 hc hcz0 hcz1 hcz2 rfl (by decide) _ 0 [] rfl HO.out a n c xs rfl HL.out HCS.out H1.out ?c3 ?c4 ?c5 ?_))
  case c3=>simp [maxLen]; omega
  case c4=>omega
  case c5=>simp
  intro v' w3 ho3 hg3 _ hat3
  have HE:=Lib.hid ((aO w (.cells #[] 63)).trans' (cJ hg3 (by simp) (fun k hk=>by simp [Value.ownBlock] at hk; omega)))
  have HO3:=Lib.hid ho3
  obtain ⟨A3,c3,rfl,_,_⟩:=cD ho3
  clear ho3 hg3 hat3
  go_wp2
  go_ret
  exact ⟨_,_,rfl,HO3.out,HE.out⟩
theorem Tryz.infoClCap:(prog.info? 98).map (fun i=>(i.zero,i.size,i.bytes))=some (some (.agg #[.int .i64 0,.int .i64 0]),2,16):=by kernel_rfl
theorem J4 (v:Value) (n:Nat) (xs:List Value) (w:World) (h:RdK 2 w v n xs) (h1:∀ u∈xs,u.oneCell' = true) (h2:n≤1000000) :
  Calls prog 129 #[v] w (gH 2 98 n xs w):=by
 obtain ⟨c0,hc,hcz0,hcz1,hcz2⟩:=info_parts Tryz.infoClCap
 obtain ⟨A,c,rfl,hc1,hc2,hl,hcell⟩:=h
 have hn:=fun (W:World) (A:Option Addr) (n c n' c':Nat)=>Lib.run_eql_slice_nil (P:=prog) W 61 98 A n c n' c' Tryz.underlying61
 have HL:=Lib.hid hl
 have H1:=Lib.hid h1
 cases A with
 | none =>
  have hx:xs = []:=by
   rcases xs with _ | ⟨x,xs⟩
   ·rfl
   ·obtain ⟨a,e,_⟩:=hcell (by simp)
    cases e
  subst hx
  have hn0:n=0:=by simp at hl; omega
  subst hn0
  clear hcell hl
  go_enter Tryz.func129,Tryz.ntmps129
  go_wp2
  go_ret
  exact ⟨none,0,rfl,World.ownsRow_nil _ _ _ 2,Ext.refl _⟩
 | some a =>
  have HO:=Lib.hid (fv w w.heap.size 98 2 (Nat.le_refl _))
  have HCS:=Lib.hid (show ∀ (j:Nat) (u:Value),xs[j]? = some u→(w.alloc (.cells #[] 98)).cell? (a.add j)=some u from fun j u hu=>by
   obtain ⟨a',e,hb,hcs⟩:=hcell (by have:=(zg.1 hu).1; omega)
   obtain rfl:a=a':=Option.some.inj e
   exact (Below.cell (aO w _) (p:=a.add j) (by rw [cZ]; exact hb)).trans (hcs j u hu))
  clear hcell hl h1
  go_enter Tryz.func129,Tryz.ntmps129
  go_wp2_with (at_builtin; go_loud (refine wpList_append_own_at _ rfl (.tmp 5) (.tmp 6) 61 rfl w.heap.size 98 c0 _ 2 16 Tryz.underlying61 hc hcz0 hcz1 hcz2 rfl (by decide) _ 0 [] rfl HO.out a n c xs rfl HL.out HCS.out H1.out ?c3 ?c4 ?c5 ?_))
  case c3=>simp [maxLen]; omega
  case c4=>omega
  case c5=>simp
  intro v' w3 ho3 hg3 _ hat3
  have HE:=Lib.hid ((aO w (.cells #[] 98)).trans' (cJ hg3 (by simp) (fun k hk=>by simp [Value.ownBlock] at hk; omega)))
  have HO3:=Lib.hid ho3
  obtain ⟨A3,c3,rfl,_,_⟩:=cD ho3
  clear ho3 hg3 hat3
  go_wp2
  go_ret
  exact ⟨_,_,rfl,HO3.out,HE.out⟩
theorem Tryz.infoClAsk:(prog.info? 123).map (fun i=>(i.zero,i.size,i.bytes))=some (some (.agg #[.int .i64 0,.int .i64 0,.int .i64 0,.int .i64 0,.int .i64 0,.int .i64 0,.int .i64 0,.int .i64 0]),8,64):=by kernel_rfl
theorem J5 (v:Value) (n:Nat) (xs:List Value) (w:World) (h:RdK 8 w v n xs) (h1:∀ u∈xs,u.oneCell' = true) (h2:n≤1000000) :
  Calls prog 74 #[v] w (gH 8 123 n xs w):=by
 obtain ⟨c0,hc,hcz0,hcz1,hcz2⟩:=info_parts Tryz.infoClAsk
 obtain ⟨A,c,rfl,hc1,hc2,hl,hcell⟩:=h
 have hn:=fun (W:World) (A:Option Addr) (n c n' c':Nat)=>Lib.run_eql_slice_nil (P:=prog) W 28 123 A n c n' c' Tryz.underlying28
 have HL:=Lib.hid hl
 have H1:=Lib.hid h1
 cases A with
 | none =>
  have hx:xs = []:=by
   rcases xs with _ | ⟨x,xs⟩
   ·rfl
   ·obtain ⟨a,e,_⟩:=hcell (by simp)
    cases e
  subst hx
  have hn0:n=0:=by simp at hl; omega
  subst hn0
  clear hcell hl
  go_enter Tryz.func74,Tryz.ntmps74
  go_wp2
  go_ret
  exact ⟨none,0,rfl,World.ownsRow_nil _ _ _ 8,Ext.refl _⟩
 | some a =>
  have HO:=Lib.hid (fv w w.heap.size 123 8 (Nat.le_refl _))
  have HCS:=Lib.hid (show ∀ (j:Nat) (u:Value),xs[j]? = some u→(w.alloc (.cells #[] 123)).cell? (a.add j)=some u from fun j u hu=>by
   obtain ⟨a',e,hb,hcs⟩:=hcell (by have:=(zg.1 hu).1; omega)
   obtain rfl:a=a':=Option.some.inj e
   exact (Below.cell (aO w _) (p:=a.add j) (by rw [cZ]; exact hb)).trans (hcs j u hu))
  clear hcell hl h1
  go_enter Tryz.func74,Tryz.ntmps74
  go_wp2_with (at_builtin; go_loud (refine wpList_append_own_at _ rfl (.tmp 5) (.tmp 6) 28 rfl w.heap.size 123 c0 _ 8 64 Tryz.underlying28 hc hcz0 hcz1 hcz2 rfl (by decide) _ 0 [] rfl HO.out a n c xs rfl HL.out HCS.out H1.out ?c3 ?c4 ?c5 ?_))
  case c3=>simp [maxLen]; omega
  case c4=>omega
  case c5=>simp
  intro v' w3 ho3 hg3 _ hat3
  have HE:=Lib.hid ((aO w (.cells #[] 123)).trans' (cJ hg3 (by simp) (fun k hk=>by simp [Value.ownBlock] at hk; omega)))
  have HO3:=Lib.hid ho3
  obtain ⟨A3,c3,rfl,_,_⟩:=cD ho3
  clear ho3 hg3 hat3
  go_wp2
  go_ret
  exact ⟨_,_,rfl,HO3.out,HE.out⟩
theorem Tryz.infoClInt:(prog.info? 3).map (fun i=>(i.zero,i.size,i.bytes))=some (some (.int .i64 0),1,8):=by kernel_rfl
theorem J3 (v:Value) (n:Nat) (xs:List Value) (w:World) (h:RdK 1 w v n xs) (h1:∀ u∈xs,u.oneCell' = true) (h2:n≤1000000) :
  Calls prog 75 #[v] w (gH 1 3 n xs w):=by
 obtain ⟨c0,hc,hcz0,hcz1,hcz2⟩:=info_parts Tryz.infoClInt
 obtain ⟨A,c,rfl,hc1,hc2,hl,hcell⟩:=h
 have hn:=fun (W:World) (A:Option Addr) (n c n' c':Nat)=>Lib.run_eql_slice_nil (P:=prog) W 22 3 A n c n' c' Tryz.underlying22
 have HL:=Lib.hid hl
 have H1:=Lib.hid h1
 cases A with
 | none =>
  have hx:xs = []:=by
   rcases xs with _ | ⟨x,xs⟩
   ·rfl
   ·obtain ⟨a,e,_⟩:=hcell (by simp)
    cases e
  subst hx
  have hn0:n=0:=by simp at hl; omega
  subst hn0
  clear hcell hl
  go_enter Tryz.func75,Tryz.ntmps75
  go_wp2
  go_ret
  exact ⟨none,0,rfl,World.ownsRow_nil _ _ _ 1,Ext.refl _⟩
 | some a =>
  have HO:=Lib.hid (fv w w.heap.size 3 1 (Nat.le_refl _))
  have HCS:=Lib.hid (show ∀ (j:Nat) (u:Value),xs[j]? = some u→(w.alloc (.cells #[] 3)).cell? (a.add j)=some u from fun j u hu=>by
   obtain ⟨a',e,hb,hcs⟩:=hcell (by have:=(zg.1 hu).1; omega)
   obtain rfl:a=a':=Option.some.inj e
   exact (Below.cell (aO w _) (p:=a.add j) (by rw [cZ]; exact hb)).trans (hcs j u hu))
  clear hcell hl h1
  go_enter Tryz.func75,Tryz.ntmps75
  go_wp2_with (at_builtin; go_loud (refine wpList_append_own_at _ rfl (.tmp 5) (.tmp 6) 22 rfl w.heap.size 3 c0 _ 1 8 Tryz.underlying22 hc hcz0 hcz1 hcz2 rfl (by decide) _ 0 [] rfl HO.out a n c xs rfl HL.out HCS.out H1.out ?c3 ?c4 ?c5 ?_))
  case c3=>simp [maxLen]; omega
  case c4=>omega
  case c5=>simp
  intro v' w3 ho3 hg3 _ hat3
  have HE:=Lib.hid ((aO w (.cells #[] 3)).trans' (cJ hg3 (by simp) (fun k hk=>by simp [Value.ownBlock] at hk; omega)))
  have HO3:=Lib.hid ho3
  obtain ⟨A3,c3,rfl,_,_⟩:=cD ho3
  clear ho3 hg3 hat3
  go_wp2
  go_ret
  exact ⟨_,_,rfl,HO3.out,HE.out⟩
theorem Tryz.infoClApp:(prog.info? 30).map (fun i=>(i.zero,i.size,i.bytes))=some (some (.agg #[.int .i64 0,.int .i64 0,.string ⟨#[]⟩,.int .i64 0,.int .i64 0,.int .i64 0,.int .i64 0,.slice none 0 0,.int .i64 0,.int .i64 0,.slice none 0 0,.slice none 0 0,.slice none 0 0,.slice none 0 0]),14,200):=by kernel_rfl
theorem J6 (v:Value) (n:Nat) (xs:List Value) (w:World) (h:RdK 14 w v n xs) (h1:∀ u∈xs,u.oneCell' = true) (h2:n≤1000000) :
  Calls prog 106 #[v] w (gH 14 30 n xs w):=by
 obtain ⟨c0,hc,hcz0,hcz1,hcz2⟩:=info_parts Tryz.infoClApp
 obtain ⟨A,c,rfl,hc1,hc2,hl,hcell⟩:=h
 have hn:=fun (W:World) (A:Option Addr) (n c n' c':Nat)=>Lib.run_eql_slice_nil (P:=prog) W 38 30 A n c n' c' Tryz.underlying38
 have HL:=Lib.hid hl
 have H1:=Lib.hid h1
 cases A with
 | none =>
  have hx:xs = []:=by
   rcases xs with _ | ⟨x,xs⟩
   ·rfl
   ·obtain ⟨a,e,_⟩:=hcell (by simp)
    cases e
  subst hx
  have hn0:n=0:=by simp at hl; omega
  subst hn0
  clear hcell hl
  go_enter Tryz.func106,Tryz.ntmps106
  go_wp2
  go_ret
  exact ⟨none,0,rfl,World.ownsRow_nil _ _ _ 14,Ext.refl _⟩
 | some a =>
  have HO:=Lib.hid (fv w w.heap.size 30 14 (Nat.le_refl _))
  have HCS:=Lib.hid (show ∀ (j:Nat) (u:Value),xs[j]? = some u→(w.alloc (.cells #[] 30)).cell? (a.add j)=some u from fun j u hu=>by
   obtain ⟨a',e,hb,hcs⟩:=hcell (by have:=(zg.1 hu).1; omega)
   obtain rfl:a=a':=Option.some.inj e
   exact (Below.cell (aO w _) (p:=a.add j) (by rw [cZ]; exact hb)).trans (hcs j u hu))
  clear hcell hl h1
  go_enter Tryz.func106,Tryz.ntmps106
  go_wp2_with (at_builtin; go_loud (refine wpList_append_own_at _ rfl (.tmp 5) (.tmp 6) 38 rfl w.heap.size 30 c0 _ 14 200 Tryz.underlying38 hc hcz0 hcz1 hcz2 rfl (by decide) _ 0 [] rfl HO.out a n c xs rfl HL.out HCS.out H1.out ?c3 ?c4 ?c5 ?_))
  case c3=>simp [maxLen]; omega
  case c4=>omega
  case c5=>simp
  intro v' w3 ho3 hg3 _ hat3
  have HE:=Lib.hid ((aO w (.cells #[] 30)).trans' (cJ hg3 (by simp) (fun k hk=>by simp [Value.ownBlock] at hk; omega)))
  have HO3:=Lib.hid ho3
  obtain ⟨A3,c3,rfl,_,_⟩:=cD ho3
  clear ho3 hg3 hat3
  go_wp2
  go_ret
  exact ⟨_,_,rfl,HO3.out,HE.out⟩
end Go.Proofs.YtmjkjaahbgikjaaGreat
section
namespace Go.Proofs
open Go.Shelf
def Tryz.laysM316_ren:Go.Shelf.Ren:=⟨fun | 316=>110 | n=>n,fun | 9=>9 | 3=>3 | 4=>4 | 37=>154 | 0=>0 | 127=>180 | 5=>5 | n=>n,fun | n=>n⟩
theorem Tryz.laysM316:Go.Proofs.LaysM.n316 prog Tryz.laysM316_ren:={
 mixed:=by kernel_rfl
 f316:=Tryz.func110.trans (congrArg some (by kernel_rfl))
 t0:=Tryz.underlying0
 a0:=Tryz.isAgg0
 z0:=Tryz.sizeOf0
 v0:=Tryz.zeroValue0
 t3:=Tryz.underlying3
 a3:=Tryz.isAgg3
 z3:=Tryz.sizeOf3
 v3:=Tryz.zeroValue3
 t4:=Tryz.underlying4
 a4:=Tryz.isAgg4
 z4:=Tryz.sizeOf4
 v4:=Tryz.zeroValue4
 t9:=Tryz.underlying9
 a9:=Tryz.isAgg9
 z9:=Tryz.sizeOf9
 v9:=Tryz.zeroValue9
 t37:=Tryz.underlying154
 a37:=Tryz.isAgg154
 z37:=Tryz.sizeOf154
 v37:=Tryz.zeroValue154
 t127:=Tryz.underlying180
 a127:=Tryz.isAgg180
 z127:=Tryz.sizeOf180
 v127:=Tryz.zeroValue180
 t5:=Tryz.underlying5
 a5:=Tryz.isAgg5
 z5:=Tryz.sizeOf5
 v5:=Tryz.zeroValue5
 i0:=by kernel_rfl
 i3:=by kernel_rfl
 i4:=by kernel_rfl
 i5:=by kernel_rfl
 i9:=by kernel_rfl
 i37:=by kernel_rfl
 i127:=by kernel_rfl }
open Go.RowKit in
theorem Tryz.stringslite_Clone (s:ByteArray) (w:World) (hlim:s.size≤281474976710656) :
  Calls prog 110 #[.string s] w fun e w'=>e = .returned (.string s)∧Below w.heap.size w w':=Any.stringslite_Clone Tryz.laysM316 s w hlim
def Tryz.lays148_ren:Go.Shelf.Ren:=⟨fun | 148=>167 | 222=>185 | 223=>186 | 269=>190 | n=>n,fun | 9=>9 | 3=>3 | 4=>4 | 5=>5 | 146=>236 | 51=>235 | 46=>95 | n=>n,fun | n=>n⟩
theorem Tryz.lays148:Go.Proofs.Lays.n148 prog Tryz.lays148_ren:={
 mixed:=by kernel_rfl
 f148:=Tryz.func167.trans (congrArg some (by kernel_rfl))
 f222:=Tryz.func185.trans (congrArg some (by kernel_rfl))
 f223:=Tryz.func186.trans (congrArg some (by kernel_rfl))
 f269:=Tryz.func190.trans (congrArg some (by kernel_rfl))
 t3:=Tryz.underlying3
 a3:=Tryz.isAgg3
 z3:=Tryz.sizeOf3
 v3:=Tryz.zeroValue3
 t4:=Tryz.underlying4
 a4:=Tryz.isAgg4
 z4:=Tryz.sizeOf4
 v4:=Tryz.zeroValue4
 t5:=Tryz.underlying5
 a5:=Tryz.isAgg5
 z5:=Tryz.sizeOf5
 v5:=Tryz.zeroValue5
 t9:=Tryz.underlying9
 a9:=Tryz.isAgg9
 z9:=Tryz.sizeOf9
 v9:=Tryz.zeroValue9
 t46:=Tryz.underlying95
 a46:=Tryz.isAgg95
 z46:=Tryz.sizeOf95
 v46:=Tryz.zeroValue95
 t51:=Tryz.underlying235
 a51:=Tryz.isAgg235
 z51:=Tryz.sizeOf235
 v51:=Tryz.zeroValue235
 t146:=Tryz.underlying236
 a146:=Tryz.isAgg236
 z146:=Tryz.sizeOf236
 v146:=Tryz.zeroValue236 }
open Go.RowKit Go.Lib in
theorem Tryz.strings_LastIndex_one (s sub:ByteArray) (h1:sub.size=1) (hs:s.size < 4611686018427387904) (w:World) :
  Calls prog 167 #[.string s,.string sub] w fun e w'=>e = .returned (.int .i64 (Lib.lastIndexByte s ((sub[0]'(by omega)).toNat:Int)))∧w' = w:=Any.strings_LastIndex_one Tryz.lays148 s sub h1 hs w
end Go.Proofs
end
namespace Go.Proofs.YtmjkjaahbgikjaaGreat
open Go.RowKit
open IntKind (i64)
open Go.Proofs.Tryz (prog)
theorem Jf (S:ByteArray) (w:World) (hs:S.size≤1000000000000) : Calls prog 73 #[.string S] w fun e w'=>e = .returned (.string S)∧Ext w w':=by
 have hcon:=fun W=>Tryz.stringslite_Clone S W (by omega)
 go_enter Tryz.func73,Tryz.ntmps73
 go_wp2_with (go_at_call 110; refine (hcon _).mono ?_; rintro e w' ⟨rfl,hx⟩)
 go_ret
 exact ⟨rfl,hx⟩
def Fs {α : Type} (xs:List α) : Option (List α):=if xs.length≤1000000 then some xs else none
def fw (ty:Ty) (e k:Nat) (x:cp [.lf (.sl ty)]) : Option (a8 [.io [.no],.own e k ty]):=(Fs (show List ty.den from x.1)).bind fun z=>some (((),()),z)
theorem iw {P:Program} {f:FuncId} (ty:Ty) {e k:Nat} (hk:tyN ty=k) (hk0 : 0 < k) (hcall:dN P f=true)
  (hC:∀ (v:Value) (n:Nat) (us:List Value) (w:World),RdK k w v n us→(∀ u∈us,u.oneCell' = true)→n≤1000000→Calls P f #[v] w (gH k e n us w)) :
  bK P f [.lf (.sl ty)] [.io [.no],.own e k ty] (fw ty e k):=by
 refine Ys (F:=Fs) hk hk0 hcall fun xs zs w G v hF hG hd=>?_
 unfold Fs at hF
 split at hF
 ·rename_i hle
  injection hF with hF
  subst hF
  cases hd with
  | sl A n c k0 _ us hn hc hm hkk hA hA0 hcell hrep =>
   have hlen:∀ y∈xs.map (bR ty),y.length=k:=fun y hy=>by
    obtain ⟨z,_,rfl⟩:=List.mem_map.1 hy
    rw [px,hk]
   have hfl:=cK k (xs.map (bR ty)) hlen
   rw [List.length_map] at hn hfl
   have hul:((List.range (xs.map (bR ty)).flatten.length).map us).length=xs.length * k:=by rw [List.length_map,List.length_range,hfl]
   have hget:∀ (j:Nat) u,((List.range (xs.map (bR ty)).flatten.length).map us)[j]? = some u→j < (xs.map (bR ty)).flatten.length∧u=us j:=fun j u hu=>by
    rw [List.getElem?_map,zm] at hu
    obtain ⟨i,hi,rfl⟩:=hu
    obtain ⟨rfl,hlt⟩:=nA hi
    exact ⟨hlt,rfl⟩
   refine (hC _ n ((List.range (xs.map (bR ty)).flatten.length).map us) w ⟨A,c,rfl,hc,hm,by rw [hul,hn],fun h0=>?_⟩ (fun u hu=>?_) (by omega)).mono ?_
   ·obtain ⟨a, ha, hFa⟩ := hA (by rw [hn]; rcases Nat.eq_zero_or_pos xs.length with e | e
                                  ·rw [hul,e,Nat.zero_mul] at h0; omega
                                  ·exact e)
    refine ⟨a,ha,hG _ hFa,fun j u hu=>?_⟩
    obtain ⟨hlt,rfl⟩:=hget j u hu
    exact hcell a j _ ha (zq hlt)
   ·obtain ⟨j,hj⟩:=List.getElem?_of_mem hu
    obtain ⟨hlt,rfl⟩:=hget j u hj
    exact (hrep j _ (zq hlt)).one
   ·rintro en w' ⟨A',c',rfl,ho,hx⟩
    refine ⟨_,_,rfl,by rw [← hn]; exact ho,hx,hul,fun j u d hu hd=>?_⟩
    obtain ⟨hlt,rfl⟩:=hget j u hu
    exact hrep j d hd
 ·cases hF
noncomputable def UN:Ent:=⟨[.lf (.sl (.st 7))],[.io [.no],.own 72 8 (.st 7)],fw (.st 7) 72 8⟩
theorem UM:bK prog 62 [.lf (.sl (.st 7))] [.io [.no],.own 72 8 (.st 7)] (fw (.st 7) 72 8):=iw (.st 7) (by kernel_rfl) (by decide) (by kernel_rfl) (fun v n us w h1 h2 h3=>GX v n us w h1 h2 h3)
noncomputable def UP:Ent:=⟨[.lf (.sl (.st 6))],[.io [.no],.own 91 9 (.st 6)],fw (.st 6) 91 9⟩
theorem UO:bK prog 64 [.lf (.sl (.st 6))] [.io [.no],.own 91 9 (.st 6)] (fw (.st 6) 91 9):=iw (.st 6) (by kernel_rfl) (by decide) (by kernel_rfl) (fun v n us w h1 h2 h3=>GY v n us w h1 h2 h3)
noncomputable def UJ:Ent:=⟨[.lf (.sl (.st 11))],[.io [.no],.own 93 3 (.st 11)],fw (.st 11) 93 3⟩
theorem UI:bK prog 65 [.lf (.sl (.st 11))] [.io [.no],.own 93 3 (.st 11)] (fw (.st 11) 93 3):=iw (.st 11) (by kernel_rfl) (by decide) (by kernel_rfl) (fun v n us w h1 h2 h3=>GV v n us w h1 h2 h3)
noncomputable def UL:Ent:=⟨[.lf (.sl (.st 8))],[.io [.no],.own 74 6 (.st 8)],fw (.st 8) 74 6⟩
theorem UK:bK prog 66 [.lf (.sl (.st 8))] [.io [.no],.own 74 6 (.st 8)] (fw (.st 8) 74 6):=iw (.st 8) (by kernel_rfl) (by decide) (by kernel_rfl) (fun v n us w h1 h2 h3=>GW v n us w h1 h2 h3)
noncomputable def Xi:Ent:=⟨[.lf (.sl (.str))],[.io [.no],.own 9 1 (.str)],fw (.str) 9 1⟩
theorem Xh:bK prog 127 [.lf (.sl (.str))] [.io [.no],.own 9 1 (.str)] (fw (.str) 9 1):=iw (.str) (by kernel_rfl) (by decide) (by kernel_rfl) (fun v n us w h1 h2 h3=>J2 v n us w h1 h2 h3)
noncomputable def QX:Ent:=⟨[.lf (.sl (.st 4))],[.io [.no],.own 63 3 (.st 4)],fw (.st 4) 63 3⟩
theorem QW:bK prog 128 [.lf (.sl (.st 4))] [.io [.no],.own 63 3 (.st 4)] (fw (.st 4) 63 3):=iw (.st 4) (by kernel_rfl) (by decide) (by kernel_rfl) (fun v n us w h1 h2 h3=>Fq v n us w h1 h2 h3)
noncomputable def Xm:Ent:=⟨[.lf (.sl (.st 3))],[.io [.no],.own 98 2 (.st 3)],fw (.st 3) 98 2⟩
theorem Xl:bK prog 129 [.lf (.sl (.st 3))] [.io [.no],.own 98 2 (.st 3)] (fw (.st 3) 98 2):=iw (.st 3) (by kernel_rfl) (by decide) (by kernel_rfl) (fun v n us w h1 h2 h3=>J4 v n us w h1 h2 h3)
noncomputable def Xo:Ent:=⟨[.lf (.sl (.st 1))],[.io [.no],.own 123 8 (.st 1)],fw (.st 1) 123 8⟩
theorem Xn:bK prog 74 [.lf (.sl (.st 1))] [.io [.no],.own 123 8 (.st 1)] (fw (.st 1) 123 8):=iw (.st 1) (by kernel_rfl) (by decide) (by kernel_rfl) (fun v n us w h1 h2 h3=>J5 v n us w h1 h2 h3)
noncomputable def Xk:Ent:=⟨[.lf (.sl (.int .i64))],[.io [.no],.own 3 1 (.int .i64)],fw (.int .i64) 3 1⟩
theorem Xj:bK prog 75 [.lf (.sl (.int .i64))] [.io [.no],.own 3 1 (.int .i64)] (fw (.int .i64) 3 1):=iw (.int .i64) (by kernel_rfl) (by decide) (by kernel_rfl) (fun v n us w h1 h2 h3=>J3 v n us w h1 h2 h3)
noncomputable def Xq:Ent:=⟨[.lf (.sl (.st 2))],[.io [.no],.own 30 14 (.st 2)],fw (.st 2) 30 14⟩
theorem Xp:bK prog 106 [.lf (.sl (.st 2))] [.io [.no],.own 30 14 (.st 2)] (fw (.st 2) 30 14):=iw (.st 2) (by kernel_rfl) (by decide) (by kernel_rfl) (fun v n us w h1 h2 h3=>J6 v n us w h1 h2 h3)
noncomputable def sr:Ent:=⟨[.lf .str],[.lf .str],fun x=>if (show ByteArray from x.1).size≤1000000000 then some x.1 else none⟩
theorem sq:bK prog 73 [.lf .str] [.lf .str] (fun x=>if (show ByteArray from x.1).size≤1000000000 then some x.1 else none):=Yr (by kernel_rfl) fun x z w hF=>by
 dsimp only at hF
 split at hF
 ·rename_i hle
  injection hF with hF
  subst hF
  exact Jf x w (Nat.le_trans hle (by decide))
 ·cases hF
noncomputable def rb (x:cp [.ag 2]) : Option (a8 [.ag 2]):=fS ⟨prog,[(73,sr),(74,Xo),(75,Xk)],28,[.ag 2],[.cell 2 30],[],[2],[]⟩ ((Tryz.f36).body.getD .skip) (.n) [.ag 2] x
noncomputable def nu:Ent:=⟨[.ag 2],[.ag 2],rb⟩
theorem nr:bK prog 36 [.ag 2] [.ag 2] rb:=cd (n:=28) (.cons (sq) (.cons (Xn) (.cons (Xj) (.nil)))) Tryz.mixed Tryz.func36 rfl (by kernel_rfl) rfl rfl rfl (fun _=>rfl)
noncomputable def og (x:cp [.ag 4]) : Option (a8 [.ag 4]):=fS ⟨prog,[(73,sr),(129,Xm)],12,[.ag 4],[.cell 2 63],[],[2],[]⟩ ((Tryz.f105).body.getD .skip) (.n) [.ag 4] x
noncomputable def CU:Ent:=⟨[.ag 4],[.ag 4],og⟩
theorem CS:bK prog 105 [.ag 4] [.ag 4] og:=cd (n:=12) (.cons (sq) (.cons (Xl) (.nil))) Tryz.mixed Tryz.func105 rfl (by kernel_rfl) rfl rfl rfl (fun _=>rfl)
noncomputable def oh (x:cp [.lf (.sl .str),.fn 73 [] []]) : Option (a8 [.lf (.sl .str)]):=fS ⟨prog,[(127,Xi),(73,sr)],24,[.lf (.sl .str)],[.tmp 4],[],[],[]⟩ ((Tryz.f103).body.getD .skip) (.s (.n) (.s (.n) (.s (.s (.n) (.s (.lp [.row 0 500512 9 1 (.str),.row 9 500512 9 1 (.str),.leaf 11 (.int .i64)] 0 false (.n)) .n)) (.n)))) [.lf (.sl .str),.fn 73 [] []] x
noncomputable def CW:Ent:=⟨[.lf (.sl .str),.fn 73 [] []],[.lf (.sl .str)],oh⟩
theorem CV:bK prog 103 [.lf (.sl .str),.fn 73 [] []] [.lf (.sl .str)] oh:=cd (n:=24) (.cons (Xh) (.cons (sq) (.nil))) Tryz.mixed Tryz.func103 rfl (by kernel_rfl) rfl rfl rfl (fun _=>rfl)
noncomputable def ol (x:cp [.lf (.sl (.st 4)),.fn 105 [] []]) : Option (a8 [.lf (.sl (.st 4))]):=fS ⟨prog,[(128,QX),(105,CU)],24,[.lf (.sl (.st 4))],[.tmp 4],[],[],[]⟩ ((Tryz.f104).body.getD .skip) (.s (.n) (.s (.n) (.s (.s (.n) (.s (.lp [.row 0 500512 63 3 (.st 4),.row 9 500512 63 3 (.st 4),.leaf 11 (.int .i64)] 0 false (.n)) .n)) (.n)))) [.lf (.sl (.st 4)),.fn 105 [] []] x
noncomputable def CY:Ent:=⟨[.lf (.sl (.st 4)),.fn 105 [] []],[.lf (.sl (.st 4))],ol⟩
theorem CX:bK prog 104 [.lf (.sl (.st 4)),.fn 105 [] []] [.lf (.sl (.st 4))] ol:=cd (n:=24) (.cons (QW) (.cons (CS) (.nil))) Tryz.mixed Tryz.func104 rfl (by kernel_rfl) rfl rfl rfl (fun _=>rfl)
noncomputable def om (x:cp [.lf (.sl (.st 2)),.fn 36 [] []]) : Option (a8 [.io [.no,.no],.own 30 14 (.st 2)]):=Q7 ⟨prog,[(106,Xq),(36,nu)],24,[.io [.no,.no],.own 30 14 (.st 2)],[.tmp 4],[],[],[]⟩ ((Tryz.f63).body.getD .skip) (.s (.n) (.s (.n) (.s (.s (.n) (.s (.lp [.row 0 500512 30 14 (.st 2),.row 9 500512 30 14 (.st 2),.leaf 11 (.int .i64)] 0 false (.n)) .n)) (.n)))) [.lf (.sl (.st 2)),.fn 36 [] []] x
noncomputable def C0:Ent:=⟨[.lf (.sl (.st 2)),.fn 36 [] []],[.io [.no,.no],.own 30 14 (.st 2)],om⟩
theorem CZ:bK prog 63 [.lf (.sl (.st 2)),.fn 36 [] []] [.io [.no,.no],.own 30 14 (.st 2)] om:=R4 (n:=24) (.cons (Xp) (.cons (nr) (.nil))) Tryz.mixed Tryz.func63 rfl (by kernel_rfl) rfl rfl (by kernel_rfl) (fun _ _ _=>(by first | trivial | exact ⟨trivial,trivial⟩)) (fun _=>rfl)
noncomputable def qc (x:cp [.ag 5]) : Option (a8 [.ag 5]):=fS ⟨prog,[(103,CW),(104,CY),(73,sr)],10,[.ag 5],[.cell 2 36],[],[2],[]⟩ ((Tryz.f61).body.getD .skip) (.n) [.ag 5] x
noncomputable def Gx:Ent:=⟨[.ag 5],[.ag 5],qc⟩
theorem Gw:bK prog 61 [.ag 5] [.ag 5] qc:=cd (n:=10) (.cons (CV) (.cons (CX) (.cons (sq) (.nil)))) Tryz.mixed Tryz.func61 rfl (by kernel_rfl) rfl rfl rfl (fun _=>rfl)
noncomputable def oq (x:cp [.ag 12]) : Option (a8 [.io [.no],.agr 12 [(2,72,8,.st 7),(3,30,14,.st 2),(4,91,9,.st 6),(5,93,3,.st 11),(6,74,6,.st 8)]]):=Q7 ⟨prog,[(61,Gx),(62,UN),(63,C0),(64,UP),(65,UJ),(66,UL)],28,[.io [.no],.agr 12 [(2,72,8,.st 7),(3,30,14,.st 2),(4,91,9,.st 6),(5,93,3,.st 11),(6,74,6,.st 8)]],[.cell 2 43],[],[2],[]⟩ ((Tryz.f31).body.getD .skip) (.n) [.ag 12] x
noncomputable def tH:Ent:=⟨[.ag 12],[.io [.no],.agr 12 [(2,72,8,.st 7),(3,30,14,.st 2),(4,91,9,.st 6),(5,93,3,.st 11),(6,74,6,.st 8)]],oq⟩
theorem tG:bK prog 31 [.ag 12] [.io [.no],.agr 12 [(2,72,8,.st 7),(3,30,14,.st 2),(4,91,9,.st 6),(5,93,3,.st 11),(6,74,6,.st 8)]] oq:=R4 (n:=28) (.cons (Gw) (.cons (UM) (.cons (CZ) (.cons (UO) (.cons (UI) (.cons (UK) (.nil))))))) Tryz.mixed Tryz.func31 rfl (by kernel_rfl) rfl rfl (by kernel_rfl) (fun _ _ _=>(by first | trivial | exact ⟨trivial,trivial⟩)) (fun _=>rfl)
theorem Wj {P:Program} {f:FuncId} {F:cp [.lf .str,.lf .str]→Option (a8 [.lf (.int .i64)])} (hcall:dN P f=true)
  (H:∀ (x y:ByteArray) (z:Int) (w:World),F (x,(y,()))=some z→Calls P f #[.string x,.string y] w fun en w'=>en = .returned (.int .i64 z)∧w' = w) : bK P f [.lf .str,.lf .str] [.lf (.int .i64)] F:=by
 rintro ⟨x,y,⟨⟩⟩ z hF
 refine ⟨fun _=>⟨hcall,fun w G vs hG hr=>?_⟩,fun h=>(by cases h)⟩
 have hvl:vs.toList.length=2:=hr.len
 obtain ⟨v,u,hv⟩ : ∃ v u,vs = #[v,u]:=by
  match hv:vs.toList,hvl with
  | [v,u],_=>exact ⟨v,u,by apply Array.ext'; simpa using hv⟩
 subst hv
 obtain ⟨rfl,_⟩:=aK.vv (hr.rep 0 v _ rfl rfl)
 obtain ⟨rfl,_⟩:=aK.vv (hr.rep 1 u _ rfl rfl)
 refine (H x y z w hF).mono ?_
 rintro en w' ⟨rfl,rfl⟩
 exact ⟨_,G,rfl,Ext.refl _,fun _ h=>h,hG,fun _ h=>.inl h,.d _ _ (.v _ rfl)⟩
def VJ (s sub:ByteArray) : Option Int:=if h:sub.size=1∧s.size≤1000000000 then some (Lib.lastIndexByte s (((sub[0]'(by omega)).toNat:Nat) : Int)) else none
noncomputable def QV:Ent:=⟨[.lf .str,.lf .str],[.lf (.int .i64)],fun x=>VJ x.1 x.2.1⟩
theorem QU:bK prog 167 [.lf .str,.lf .str] [.lf (.int .i64)] (fun x=>VJ x.1 x.2.1):=Wj (by kernel_rfl) fun x y z w hF=>by
 dsimp only at hF
 unfold VJ at hF
 split at hF
 ·rename_i h
  injection hF with hF
  subst hF
  exact Tryz.strings_LastIndex_one x y h.1 (Nat.lt_of_le_of_lt h.2 (by decide)) w
 ·cases hF
noncomputable def vi (x:cp [.lf (.str)]) : Option (a8 [.lf (.str)]):=fS ⟨prog,[(167,QV)],8,[.lf (.str)],[.tmp 2],[],[],[]⟩ ((Tryz.f151).body.getD .skip) (.n) [.lf (.str)] x
noncomputable def Gv:Ent:=⟨[.lf (.str)],[.lf (.str)],vi⟩
theorem Gu:bK prog 151 [.lf (.str)] [.lf (.str)] vi:=cd (n:=8) (.cons (QU) (.nil)) Tryz.mixed Tryz.func151 rfl (by kernel_rfl) rfl rfl rfl (fun _=>rfl)
noncomputable def vg (x:cp [.ag 4,.lf (.str)]) : Option (a8 [.lf (.bool)]):=fS ⟨prog,[(151,Gv)],14,[.lf (.bool)],[.tmp 4],[],[],[]⟩ ((Tryz.f132).body.getD .skip) (.n) [.ag 4,.lf (.str)] x
noncomputable def Gp:Ent:=⟨[.ag 4,.lf (.str)],[.lf (.bool)],vg⟩
theorem Gn:bK prog 132 [.ag 4,.lf (.str)] [.lf (.bool)] vg:=cd (n:=14) (.cons (Gu) (.nil)) Tryz.mixed Tryz.func132 rfl (by kernel_rfl) rfl rfl rfl (fun _=>rfl)
noncomputable def wO (x:cp [.ag 5,.lf (.str)]) : Option (a8 [.lf (.sl (.str))]):=fS ⟨prog,[(132,Gp),(73,sr)],25,[.lf (.sl (.str))],[.tmp 4],[],[],[]⟩ ((Tryz.f109).body.getD .skip) (.s (.n) (.s (.s (.n) (.s (.lp [.row 4 4 9 1 (.str),.leaf 10 (.int .i64)] 0 false (.n)) .n)) (.n))) [.ag 5,.lf (.str)] x
noncomputable def Hg:Ent:=⟨[.ag 5,.lf (.str)],[.lf (.sl (.str))],wO⟩
theorem Hf:bK prog 109 [.ag 5,.lf (.str)] [.lf (.sl (.str))] wO:=cd (n:=25) (.cons (Gn) (.cons (sq) (.nil))) Tryz.mixed Tryz.func109 rfl (by kernel_rfl) rfl rfl rfl (fun _=>rfl)
noncomputable def tF (x:cp [.ag 4,.pl .str]) : Option (a8 [.lf (.bool)]):=fS ⟨prog,[],8,[.lf (.bool)],[.tmp 3],[],[],[]⟩ ((Tryz.f131).body.getD .skip) (.n) [.ag 4,.pl .str] x
noncomputable def CR:Ent:=⟨[.ag 4,.pl .str],[.lf (.bool)],tF⟩
theorem CQ:bK prog 131 [.ag 4,.pl .str] [.lf (.bool)] tF:=cd (n:=8) (.nil) Tryz.mixed Tryz.func131 rfl (by kernel_rfl) rfl rfl rfl (fun _=>rfl)
noncomputable def NM (x:cp [.lf (.sl (.st 4)),.fn 131 [] [.pl .str]]) : Option (a8 [.lf (.int .i64)]):=fS ⟨prog,[(131,CR)],19,[.lf (.int .i64)],[.tmp 4],[],[],[]⟩ ((Tryz.f130).body.getD .skip) (.s (.n) (.s (.s (.n) (.s (.lp [.leaf 4 (.int .i64),.leaf 8 (.int .i64)] 0 true (.n)) .n)) (.n))) [.lf (.sl (.st 4)),.fn 131 [] [.pl .str]] x
noncomputable def WW:Ent:=⟨[.lf (.sl (.st 4)),.fn 131 [] [.pl .str]],[.lf (.int .i64)],NM⟩
theorem WV:bK prog 130 [.lf (.sl (.st 4)),.fn 131 [] [.pl .str]] [.lf (.int .i64)] NM:=cd (n:=19) (.cons (CQ) (.nil)) Tryz.mixed Tryz.func130 rfl (by kernel_rfl) rfl rfl rfl (fun _=>rfl)
noncomputable def vh (x:cp [.ag 5,.lf (.str)]) : Option (a8 [.lf (.int .i64)]):=fS ⟨prog,[(130,WW)],9,[.lf (.int .i64)],[.tmp 4],[],[],[(0,[3])]⟩ ((Tryz.f108).body.getD .skip) (.n) [.ag 5,.lf (.str)] x
noncomputable def Gs:Ent:=⟨[.ag 5,.lf (.str)],[.lf (.int .i64)],vh⟩
theorem Gq:bK prog 108 [.ag 5,.lf (.str)] [.lf (.int .i64)] vh:=cd (n:=9) (.cons (WV) (.nil)) Tryz.mixed Tryz.func108 rfl (by kernel_rfl) rfl rfl rfl (fun _=>rfl)
noncomputable def wN (x:cp [.ag 5,.lf (.str)]) : Option (a8 [.lf (.bool)]):=fS ⟨prog,[(108,Gs),(109,Hg)],16,[.lf (.bool)],[.tmp 4],[],[],[]⟩ ((Tryz.f69).body.getD .skip) (.n) [.ag 5,.lf (.str)] x
noncomputable def He:Ent:=⟨[.ag 5,.lf (.str)],[.lf (.bool)],wN⟩
theorem Hc:bK prog 69 [.ag 5,.lf (.str)] [.lf (.bool)] wN:=cd (n:=16) (.cons (Gq) (.cons (Hf) (.nil))) Tryz.mixed Tryz.func69 rfl (by kernel_rfl) rfl rfl rfl (fun _=>rfl)
noncomputable def rf (x:cp [.ag 2]) : Option (a8 [.lf (.bool)]):=fS ⟨prog,[],11,[.lf (.bool)],[.tmp 2],[],[],[]⟩ ((Tryz.f18).body.getD .skip) (.n) [.ag 2] x
noncomputable def rg:Ent:=⟨[.ag 2],[.lf (.bool)],rf⟩
theorem rc:bK prog 18 [.ag 2] [.lf (.bool)] rf:=cd (n:=11) (.nil) Tryz.mixed Tryz.func18 rfl (by kernel_rfl) rfl rfl rfl (fun _=>rfl)
noncomputable def tI (x:cp [.lf (.int .i64),.lf (.int .i64),.lf (.int .i64)]) : Option (a8 [.lf (.bool)]):=fS ⟨prog,[],15,[.lf (.bool)],[.tmp 6],[],[],[]⟩ ((Tryz.f107).body.getD .skip) (.n) [.lf (.int .i64),.lf (.int .i64),.lf (.int .i64)] x
noncomputable def C2:Ent:=⟨[.lf (.int .i64),.lf (.int .i64),.lf (.int .i64)],[.lf (.bool)],tI⟩
theorem C1:bK prog 107 [.lf (.int .i64),.lf (.int .i64),.lf (.int .i64)] [.lf (.bool)] tI:=cd (n:=15) (.nil) Tryz.mixed Tryz.func107 rfl (by kernel_rfl) rfl rfl rfl (fun _=>rfl)
noncomputable def so (x:cp [.ag 2]) : Option (a8 [.lf (.bool)]):=fS ⟨prog,[(107,C2)],28,[.lf (.bool)],[.tmp 2],[],[],[]⟩ ((Tryz.f67).body.getD .skip) (.n) [.ag 2] x
noncomputable def BF:Ent:=⟨[.ag 2],[.lf (.bool)],so⟩
theorem BE:bK prog 67 [.ag 2] [.lf (.bool)] so:=cd (n:=28) (.cons (C1) (.nil)) Tryz.mixed Tryz.func67 rfl (by kernel_rfl) rfl rfl rfl (fun _=>rfl)
noncomputable def qg (x:cp [.lf (.sl (.st 2))]) : Option (a8 [.lf (.int .i64)]):=fS ⟨prog,[(18,rg)],17,[.lf (.int .i64)],[.tmp 2],[],[],[]⟩ ((Tryz.f68).body.getD .skip) (.s (.n) (.s (.s (.n) (.s (.lp [.leaf 2 (.int .i64),.leaf 7 (.int .i64)] 0 false (.n)) .n)) (.n))) [.lf (.sl (.st 2))] x
noncomputable def xT:Ent:=⟨[.lf (.sl (.st 2))],[.lf (.int .i64)],qg⟩
theorem xS:bK prog 68 [.lf (.sl (.st 2))] [.lf (.int .i64)] qg:=cd (n:=17) (.cons (rc) (.nil)) Tryz.mixed Tryz.func68 rfl (by kernel_rfl) rfl rfl rfl (fun _=>rfl)
noncomputable def tM (x:cp [.ag 2,.pl (.int .i64)]) : Option (a8 [.lf (.bool)]):=fS ⟨prog,[],8,[.lf (.bool)],[.tmp 3],[],[],[]⟩ ((Tryz.f77).body.getD .skip) (.n) [.ag 2,.pl (.int .i64)] x
noncomputable def C6:Ent:=⟨[.ag 2,.pl (.int .i64)],[.lf (.bool)],tM⟩
theorem C5:bK prog 77 [.ag 2,.pl (.int .i64)] [.lf (.bool)] tM:=cd (n:=8) (.nil) Tryz.mixed Tryz.func77 rfl (by kernel_rfl) rfl rfl rfl (fun _=>rfl)
noncomputable def NN (x:cp [.lf (.sl (.st 2)),.fn 77 [] [.pl (.int .i64)]]) : Option (a8 [.lf (.int .i64)]):=fS ⟨prog,[(77,C6)],19,[.lf (.int .i64)],[.tmp 4],[],[],[]⟩ ((Tryz.f70).body.getD .skip) (.s (.n) (.s (.s (.n) (.s (.lp [.leaf 4 (.int .i64),.leaf 8 (.int .i64)] 0 true (.n)) .n)) (.n))) [.lf (.sl (.st 2)),.fn 77 [] [.pl (.int .i64)]] x
noncomputable def WY:Ent:=⟨[.lf (.sl (.st 2)),.fn 77 [] [.pl (.int .i64)]],[.lf (.int .i64)],NN⟩
theorem WX:bK prog 70 [.lf (.sl (.st 2)),.fn 77 [] [.pl (.int .i64)]] [.lf (.int .i64)] NN:=cd (n:=19) (.cons (C5) (.nil)) Tryz.mixed Tryz.func70 rfl (by kernel_rfl) rfl rfl rfl (fun _=>rfl)
noncomputable def qe (x:cp [.lf (.sl (.st 2)),.lf (.int .i64)]) : Option (a8 [.lf (.int .i64)]):=fS ⟨prog,[(70,WY)],8,[.lf (.int .i64)],[.tmp 4],[],[],[(0,[3])]⟩ ((Tryz.f42).body.getD .skip) (.n) [.lf (.sl (.st 2)),.lf (.int .i64)] x
noncomputable def qf:Ent:=⟨[.lf (.sl (.st 2)),.lf (.int .i64)],[.lf (.int .i64)],qe⟩
theorem qd:bK prog 42 [.lf (.sl (.st 2)),.lf (.int .i64)] [.lf (.int .i64)] qe:=cd (n:=8) (.cons (WX) (.nil)) Tryz.mixed Tryz.func42 rfl (by kernel_rfl) rfl rfl rfl (fun _=>rfl)
noncomputable def vj (x:cp [.ag 12,.ag 2]) : Option (a8 [.lf (.int .i64)]):=fS ⟨prog,[(67,BF),(42,qf),(68,xT),(69,He)],28,[.lf (.int .i64)],[.tmp 4],[],[],[]⟩ ((Tryz.f32).body.getD .skip) (.n) [.ag 12,.ag 2] x
noncomputable def Gz:Ent:=⟨[.ag 12,.ag 2],[.lf (.int .i64)],vj⟩
theorem Gy:bK prog 32 [.ag 12,.ag 2] [.lf (.int .i64)] vj:=cd (n:=28) (.cons (BE) (.cons (qd) (.cons (xS) (.cons (Hc) (.nil))))) Tryz.mixed Tryz.func32 rfl (by kernel_rfl) rfl rfl rfl (fun _=>rfl)
noncomputable def qH (x:cp [.lf (.sl (.st 2))]) : Option (a8 [.lf (.sl (.st 2))]):=fS ⟨prog,[],15,[.lf (.sl (.st 2))],[.tmp 2],[],[],[]⟩ ((Tryz.f34).body.getD .skip) (.n) [.lf (.sl (.st 2))] x
noncomputable def Am:Ent:=⟨[.lf (.sl (.st 2))],[.lf (.sl (.st 2))],qH⟩
theorem Al:bK prog 34 [.lf (.sl (.st 2))] [.lf (.sl (.st 2))] qH:=cd (n:=15) (.nil) Tryz.mixed Tryz.func34 rfl (by kernel_rfl) rfl rfl rfl (fun _=>rfl)
noncomputable def sn (x:cp [.ag 2,.lf (.int .i64)]) : Option (a8 [.ag 2]):=fS ⟨prog,[],23,[.ag 2],[.cell 4 30],[],[4],[]⟩ ((Tryz.f35).body.getD .skip) (.n) [.ag 2,.lf (.int .i64)] x
noncomputable def BD:Ent:=⟨[.ag 2,.lf (.int .i64)],[.ag 2],sn⟩
theorem BC:bK prog 35 [.ag 2,.lf (.int .i64)] [.ag 2] sn:=cd (n:=23) (.nil) Tryz.mixed Tryz.func35 rfl (by kernel_rfl) rfl rfl rfl (fun _=>rfl)
noncomputable def ou (x:cp [.lf (.sl (.st 2)),.ag 2]) : Option (a8 [.lf (.sl (.st 2))]):=fS ⟨prog,[],45,[.lf (.sl (.st 2))],[.tmp 4],[],[],[]⟩ ((Tryz.f33).body.getD .skip) (.s (.n) (.s (.n) (.s (.s (.lp [.leaf 5 (.int .i64)] 0 false (.n)) .n) (.n)))) [.lf (.sl (.st 2)),.ag 2] x
noncomputable def tK:Ent:=⟨[.lf (.sl (.st 2)),.ag 2],[.lf (.sl (.st 2))],ou⟩
theorem tJ:bK prog 33 [.lf (.sl (.st 2)),.ag 2] [.lf (.sl (.st 2))] ou:=cd (n:=45) (.nil) Tryz.mixed Tryz.func33 rfl (by kernel_rfl) rfl rfl rfl (fun _=>rfl)
noncomputable def tq (x:cp [.ag 12,.ag 2]) : Option (a8 [.ag 12]):=fS ⟨prog,[(31,tH),(42,qf),(36,nu),(33,tK)],29,[.ag 12],[.cell 4 43],[(5,[500513])],[4],[]⟩ ((Tryz.f20).body.getD .skip) (.n) [.ag 12,.ag 2] x
noncomputable def KS:Ent:=⟨[.ag 12,.ag 2],[.ag 12],tq⟩
theorem KR:bK prog 20 [.ag 12,.ag 2] [.ag 12] tq:=cd (n:=29) (.cons (tG) (.cons (qd) (.cons (nr) (.cons (tJ) (.nil))))) Tryz.mixed Tryz.func20 rfl (by kernel_rfl) rfl rfl rfl (fun _=>rfl)
noncomputable def tN (x:cp [.ag 12,.ag 2]) : Option (a8 [.ag 12,.lf (.int .i64)]):=fS ⟨prog,[(31,tH),(32,Gz),(34,Am),(36,nu),(35,BD),(33,tK)],27,[.ag 12,.lf (.int .i64)],[.cell 4 43,.tmp 5],[(3,[500577])],[4],[]⟩ ((Tryz.f12).body.getD .skip) (.n) [.ag 12,.ag 2] x
noncomputable def C8:Ent:=⟨[.ag 12,.ag 2],[.ag 12,.lf (.int .i64)],tN⟩
theorem C7:bK prog 12 [.ag 12,.ag 2] [.ag 12,.lf (.int .i64)] tN:=cd (n:=27) (.cons (tG) (.cons (Gy) (.cons (Al) (.cons (nr) (.cons (BC) (.cons (tJ) (.nil))))))) Tryz.mixed Tryz.func12 rfl (by kernel_rfl) rfl rfl rfl (fun _=>rfl)
noncomputable def rh (x:cp [.ag 12,.lf (.int .i64)]) : Option (a8 [.ag 2,.lf (.bool)]):=fS ⟨prog,[(42,qf),(36,nu)],20,[.ag 2,.lf (.bool)],[.cell 4 30,.tmp 5],[],[4],[]⟩ ((Tryz.f15).body.getD .skip) (.n) [.ag 12,.lf (.int .i64)] x
noncomputable def wQ:Ent:=⟨[.ag 12,.lf (.int .i64)],[.ag 2,.lf (.bool)],rh⟩
theorem wP:bK prog 15 [.ag 12,.lf (.int .i64)] [.ag 2,.lf (.bool)] rh:=cd (n:=20) (.cons (qd) (.cons (nr) (.nil))) Tryz.mixed Tryz.func15 rfl (by kernel_rfl) rfl rfl rfl (fun _=>rfl)
noncomputable def ot (x:cp [.lf (.int .i64),.lf (.int .i64)]) : Option (a8 [.lf (.int .u64)]):=fS ⟨prog,[],13,[.lf (.int .u64)],[.tmp 4],[],[],[]⟩ ((Tryz.f43).body.getD .skip) (.n) [.lf (.int .i64),.lf (.int .i64)] x
noncomputable def C4:Ent:=⟨[.lf (.int .i64),.lf (.int .i64)],[.lf (.int .u64)],ot⟩
theorem C3:bK prog 43 [.lf (.int .i64),.lf (.int .i64)] [.lf (.int .u64)] ot:=cd (n:=13) (.nil) Tryz.mixed Tryz.func43 rfl (by kernel_rfl) rfl rfl rfl (fun _=>rfl)
noncomputable def ow (x:cp [.ag 12]) : Option (a8 [.lf (.sl (.int .i64))]):=fS ⟨prog,[(43,C4)],30,[.lf (.sl (.int .i64))],[.tmp 2],[],[],[]⟩ ((Tryz.f23).body.getD .skip) (.s (.n) (.s (.s (.n) (.s (.lp [.row 2 2 3 1 (.int .i64),.leaf 8 (.int .i64)] 0 false (.n)) .n)) (.n))) [.ag 12] x
noncomputable def Da:Ent:=⟨[.ag 12],[.lf (.sl (.int .i64))],ow⟩
theorem C9:bK prog 23 [.ag 12] [.lf (.sl (.int .i64))] ow:=cd (n:=30) (.cons (C3) (.nil)) Tryz.mixed Tryz.func23 rfl (by kernel_rfl) rfl rfl rfl (fun _=>rfl)
abbrev EOk (P:Program) (f:FuncId) (e:Ent) : Prop:=bK P f e.ps e.rs e.f
theorem aE {P:Program} {T:List (Nat×Ent)} {e:Ent} {f:FuncId} {fn:Func} (h:tU) (fz:List (Nat×List Nat)) (sc:List Nat) (fb:List (Nat×List Nat)) (hT:qF P T) (hm:P.follows .mixedOrders=true) (hf:P.funcs[f]? = some fn) (hb:fn.body=some (fn.body.getD .skip):=by kernel_rfl) (hcb:dN P f=true:=by kernel_rfl) (hl:((decide (e.ps.length≤fn.ntmps)&&ul e.ps) && !(oN e.ps||oN e.rs))=true:=by kernel_rfl)
  (hF:∀ x,fS ⟨P,T,fn.ntmps,e.rs,fn.results.toList,fz,sc,fb⟩ (fn.body.getD .skip) h e.ps x=e.f x:=by intro x; kernel_rfl) : bK P f e.ps e.rs e.f:=cd hT hm hf hb hcb rfl rfl hl hF
def zh (v_n:Int) : Option (Bool) :=
 (if (decide (v_n≥0))=true then some (decide (v_n≤1125899906842624)) else some false).bind fun q1=>some q1
def tf (v_a:ax) : Option (Bool) :=
 (zh v_a.bD).bind fun c1=>(if c1=true then (zh v_a.bj).bind fun c2=>some c2 else some false).bind fun q3=>some q3
def fL (v_a:ax) (v_b:ax) : Option (Bool) :=
 (if (decide (v_a.bD≤v_b.bD))=true then some (decide (v_a.bj≤v_b.bj)) else some false).bind fun q1=>some q1
def vK (v_a:ax) (v_b:ax) : Option (ax) :=
 some (⟨(if 0 > (i64.wrap (v_a.bD - v_b.bD)) then 0 else (i64.wrap (v_a.bD - v_b.bD))),(if 0 > (i64.wrap (v_a.bj - v_b.bj)) then 0 else (i64.wrap (v_a.bj - v_b.bj)))⟩ : ax)
def dc (v_a:ax) (v_b:ax) : Option (ax) :=
 some (⟨(i64.wrap (v_a.bD + v_b.bD)),(i64.wrap (v_a.bj + v_b.bj))⟩ : ax)
def uQ (v_n:Int) (Ax:Int) : Option (Int) :=
 some (i64.wrap ((i64.wrap ((i64.wrap (Int.tdiv v_n 10000)) * Ax)) + (i64.wrap (Int.tdiv (i64.wrap ((Int.tmod v_n 10000) * Ax)) 10000))))
def uR (v_a:ax) (Ax:Int) : Option (ax×Int) :=
 (tf v_a).bind fun c1=>(if (!c1)=true then some true else some (decide (Ax < 0))).bind fun q2=>(if q2=true then some true else some (decide (Ax > 1000000))).bind fun q3=>if q3=true then
 some ((⟨0,0⟩ : ax),1)
 else
 (uQ v_a.bD Ax).bind fun c4=>(uQ v_a.bj Ax).bind fun c5=>let v_c:ax:=(⟨c4,c5⟩ : ax)
 (tf v_c).bind fun c6=>if (!c6)=true then
 some ((⟨0,0⟩ : ax),11)
 else
 some (v_c,0)
def ze (v_a:Int) (v_b:Int) : Option (Int×Int) :=
 let t1:Int:=(Int.fdiv v_a (2 ^ (min (Int.toNat 25) (IntKind.i64.bits))))
 let t2:Int:=(bits .and .i64 v_a 33554431)
 let t3:Int:=(Int.fdiv v_b (2 ^ (min (Int.toNat 25) (IntKind.i64.bits))))
 let t4:Int:=(bits .and .i64 v_b 33554431)
 let Sh:Int:=t1
 let UU:Int:=t2
 let Sg:Int:=t3
 let UT:Int:=t4
 let YD:Int:=(i64.wrap ((i64.wrap (Sh * UT)) + (i64.wrap (UU * Sg))))
 let YF:Int:=(i64.wrap ((i64.wrap (UU * UT)) + (i64.wrap ((bits .and .i64 YD 33554431) * 2 ^ (min (Int.toNat 25) (IntKind.i64.bits))))))
 let Y3:Int:=(i64.wrap ((i64.wrap ((i64.wrap (Sh * Sg)) + (Int.fdiv YD (2 ^ (min (Int.toNat 25) (IntKind.i64.bits)))))) + (Int.fdiv YF (2 ^ (min (Int.toNat 50) (IntKind.i64.bits))))))
 some (Y3,(bits .and .i64 YF 1125899906842623))
def pM (v_x:bb) (v_y:bb) : Option (Int) :=
 (if (v_x.fA==0)=true then
 let v_x:bb:={ v_x with fP:=1 }
 some v_x
 else
 some v_x).bind fun j1=>let v_x:=j1
 (if (v_y.fA==0)=true then
 let v_y:bb:={ v_y with fP:=1 }
 some v_y
 else
 some v_y).bind fun j2=>let v_y:=j2
 (if (v_x.fP==0)=true then some true else some (v_y.fP==0)).bind fun q3=>if q3=true then
 (if (v_x.fP==0)=true then some (v_y.fP==0) else some false).bind fun q4=>if q4=true then
 some 0
 else
 if (v_x.fP==0)=true then
 some 1
 else
 some (-1)
 else
 (ze v_x.fA v_y.fP).bind fun c5=>let Sh:Int:=c5.1
 let UU:Int:=c5.2
 (ze v_y.fA v_x.fP).bind fun c6=>let Sg:Int:=c6.1
 let UT:Int:=c6.2
 (if (decide (Sh < Sg))=true then some true else (if (Sh==Sg)=true then some (decide (UU < UT)) else some false).bind fun q7=>some q7).bind fun q8=>if q8=true then
 some (-1)
 else
 (if (Sh==Sg)=true then some (UU==UT) else some false).bind fun q9=>if q9=true then
 some 0
 else
 some 1
def zi (v_a:ax) (v_p:ax) : Option (bb) :=
 let t1:bb:=(⟨v_a.bD,v_p.bD⟩ : bb)
 let t2:bb:=(⟨v_a.bj,v_p.bj⟩ : bb)
 let v_x:bb:=t1
 let v_y:bb:=t2
 (pM v_x v_y).bind fun c3=>if (decide (c3 < 0))=true then
 some v_y
 else
 some v_x
def zj (v_a:ax) (v_p:ax) (v_b:ax) (v_q:ax) : Option (Int) :=
 (tf v_a).bind fun c1=>(if (!c1)=true then some true else (tf v_p).bind fun c2=>some (!c2)).bind fun q3=>(if q3=true then some true else (tf v_b).bind fun c4=>some (!c4)).bind fun q5=>(if q5=true then some true else (tf v_q).bind fun c6=>some (!c6)).bind fun q7=>if q7=true then
 some 0
 else
 (zi v_a v_p).bind fun c8=>(zi v_b v_q).bind fun c9=>(pM c8 c9).bind fun c10=>some c10
def qR (v_s:ByteArray) (st:Int) : Option ((Int)⊕((Int)⊕(Bool))) :=
 let v_i:=st
 if (decide (v_i < (v_s.size:Int)))=true then
 (kW v_s v_i).bind fun b2=>let v_c:Int:=b2
 (if (decide (v_c < 97))=true then some true else some (decide (v_c > 122))).bind fun q3=>(if q3=true then (if (decide (v_c < 48))=true then some true else some (decide (v_c > 57))).bind fun q4=>some q4 else some false).bind fun q5=>(if q5=true then some (v_c != 45) else some false).bind fun q6=>if q6=true then
 some (.inr (.inr false))
 else
 let v_i:Int:=(i64.wrap (v_i + 1))
 some (.inl v_i)
 else
 some (.inr (.inl v_i))
def vI (v_s:ByteArray) : Option (Bool) :=
 (if (decide ((v_s.size:Int) < 1))=true then some true else some (decide ((v_s.size:Int) > 12))).bind fun q1=>if q1=true then
 some false
 else
 let v_i:Int:=0
 (ah (qR v_s) ab v_i).bind fun r7=>match r7 with
 | .inr m8=>some m8
 | .inl m8 =>
 let v_i:=m8
 some true
def iZ (au:ByteArray) (st:Int) : Option ((Int)⊕((Int))) :=
 let v_k:=st
 (if (decide (v_k≥0))=true then (kW au v_k).bind fun b1=>some (b1 != 46) else some false).bind fun q2=>if q2=true then
 let v_k:Int:=(i64.wrap (v_k - 1))
 some (.inl v_k)
 else
 some (.inr v_k)
def dQ (au:ByteArray) : Option (ByteArray) :=
 let v_k:Int:=(i64.wrap ((au.size:Int) - 1))
 (ah (iZ au) ab v_k).bind fun r3 =>
 let v_k:=r3
 if (decide (v_k < 0))=true then
 some (⟨#[]⟩ : ByteArray)
 else
 (Od au v_k).bind fun b4=>some b4
def nN (st:(List ByteArray)×ByteArray) : Option (((List ByteArray)×ByteArray)⊕(((List ByteArray)×ByteArray))) :=
 let v_l:=st.1
 let au:=st.2
 if (!(au.toList==(⟨#[]⟩ : ByteArray).toList))=true then
 (aU v_l [au]).bind fun b1=>let v_l:(List ByteArray):=b1
 (dQ au).bind fun c2=>let au:ByteArray:=c2
 some (.inl (v_l,au))
 else
 some (.inr (v_l,au))
def y5 (au:ByteArray) : Option ((List ByteArray)) :=
 let v_l:(List ByteArray):=[]
 (ah (nN) ab (v_l,au)).bind fun r3 =>
 let v_l:=r3.1
 let au:=r3.2
 some v_l
def n8 (v_s:ByteArray) (st:Int×Int×Int) : Option ((Int×Int×Int)⊕((Int×Int×Int)⊕(Bool))) :=
 let oC:=st.1
 let v_n:=st.2.1
 let v_i:=st.2.2
 if (decide (v_i≤(v_s.size:Int)))=true then
 (if (decide (v_i < (v_s.size:Int)))=true then (kW v_s v_i).bind fun b3=>some (b3 != 46) else some false).bind fun q4=>if q4=true then
 let v_i:Int:=(i64.wrap (v_i + 1))
 some (.inl (oC,v_n,v_i))
 else
 (Jk v_s oC v_i).bind fun b5=>(vI b5).bind fun c6=>(if (!c6)=true then some true else (if (v_n==0)=true then (Jk v_s oC v_i).bind fun b7=>some (!(b7.toList==(⟨#[114,111,111,116]⟩ : ByteArray).toList)) else some false).bind fun q8=>some q8).bind fun q9=>if q9=true then
 some (.inr (.inr false))
 else
 let oC:Int:=(i64.wrap (v_i + 1))
 let v_n:Int:=(i64.wrap (v_n + 1))
 let v_i:Int:=(i64.wrap (v_i + 1))
 some (.inl (oC,v_n,v_i))
 else
 some (.inr (.inl (oC,v_n,v_i)))
def vH (v_s:ByteArray) : Option (Bool) :=
 let t1:Int:=0
 let t2:Int:=0
 let oC:Int:=t1
 let v_n:Int:=t2
 let v_i:Int:=0
 (ah (n8 v_s) ab (oC,v_n,v_i)).bind fun r10=>match r10 with
 | .inr m11=>some m11
 | .inl m11 =>
 let oC:=m11.1
 let v_n:=m11.2.1
 let v_i:=m11.2.2
 some (decide (v_n≤4))
def nj (v_c:aw) (au:ByteArray) (st:Int) : Option ((Int)⊕((Int)⊕(az×Bool))) :=
 let v_i:=st
 if (decide (v_i < (v_c.ae.length:Int)))=true then
 (av v_c.ae v_i).bind fun b1=>if (b1.aF.toList==au.toList)=true then
 (av v_c.ae v_i).bind fun b2=>let v_q:az:=b2
 (aU ([] : (List ei)) v_q.bl).bind fun b3=>let v_q:az:={ v_q with bl:=b3 }
 some (.inr (.inr (v_q,true)))
 else
 let v_i:Int:=(i64.wrap (v_i + 1))
 some (.inl v_i)
 else
 some (.inr (.inl v_i))
def jq (v_c:aw) (au:ByteArray) : Option (az×Bool) :=
 let v_i:Int:=0
 (ah (nj v_c au) ab v_i).bind fun r4=>match r4 with
 | .inr m5=>some m5
 | .inl m5 =>
 let v_i:=m5
 some ((⟨⟨#[]⟩,[],0⟩ : az),false)
def ni (v_c:aw) (au:ByteArray) (st:(List ByteArray)×Int) : Option (((List ByteArray)×Int)⊕(((List ByteArray)×Int))) :=
 let v_l:=st.1
 let v_i:=st.2
 if (decide (v_i < (v_c.ae.length:Int)))=true then
 (if (!(au.toList==(⟨#[]⟩ : ByteArray).toList))=true then (av v_c.ae v_i).bind fun b1=>(dQ b1.aF).bind fun c2=>some (c2.toList==au.toList) else some false).bind fun q3=>if q3=true then
 (av v_c.ae v_i).bind fun b4=>(aU v_l [b4.aF]).bind fun b5=>let v_l:(List ByteArray):=b5
 let v_i:Int:=(i64.wrap (v_i + 1))
 some (.inl (v_l,v_i))
 else
 let v_i:Int:=(i64.wrap (v_i + 1))
 some (.inl (v_l,v_i))
 else
 some (.inr (v_l,v_i))
def ff (v_c:aw) (au:ByteArray) : Option ((List ByteArray)) :=
 let v_l:(List ByteArray):=[]
 let v_i:Int:=0
 (ah (ni v_c au) ab (v_l,v_i)).bind fun r6 =>
 let v_l:=r6.1
 let v_i:=r6.2
 some v_l
def jV (v_c:aw) (au:ByteArray) : Option (Bool) :=
 (jq v_c au).bind fun c1=>let bS:Bool:=c1.2
 (if bS=true then (ff v_c au).bind fun c2=>some ((c2.length:Int)==0) else some false).bind fun q3=>some q3
def n7 (v_c:aw) (st:Int) : Option ((Int)⊕((Int)⊕(Int))) :=
 let v_i:=st
 if (decide (v_i < (v_c.ak.length:Int)))=true then
 (av v_c.ak v_i).bind fun b4=>(vI b4).bind fun c5=>if (!c5)=true then
 some (.inr (.inr 12))
 else
 let v_i:Int:=(i64.wrap (v_i + 1))
 some (.inl v_i)
 else
 some (.inr (.inl v_i))
def n5 (aI:Int) (v_c:aw) (st:Int) : Option ((Int)⊕((Int)⊕(Int))) :=
 let v_k:=st
 if (decide (v_k < aI))=true then
 (av v_c.ak aI).bind fun b8=>(av v_c.ak v_k).bind fun b9=>if (b8.toList==b9.toList)=true then
 some (.inr (.inr 7))
 else
 let v_k:Int:=(i64.wrap (v_k + 1))
 some (.inl v_k)
 else
 some (.inr (.inl v_k))
def n6 (v_c:aw) (st:Int) : Option ((Int)⊕((Int)⊕(Int))) :=
 let aI:=st
 if (decide (aI < (v_c.ak.length:Int)))=true then
 let v_k:Int:=1
 (ah (n5 aI v_c) ab v_k).bind fun r10=>match r10 with
 | .inr m11=>some (.inr (.inr m11))
 | .inl m11 =>
 let v_k:=m11
 let aI:Int:=(i64.wrap (aI + 1))
 some (.inl aI)
 else
 some (.inr (.inl aI))
def rX (v_c:aw) : Option (Int) :=
 (if (decide ((v_c.ak.length:Int) < 1))=true then some true else some (decide ((v_c.ak.length:Int) > 3))).bind fun q1=>(if q1=true then some true else some (decide ((v_c.ae.length:Int) > 16))).bind fun q2=>if q2=true then
 some 4
 else
 (av v_c.ak 0).bind fun b3=>if (!(b3.toList==(⟨#[]⟩ : ByteArray).toList))=true then
 some 12
 else
 let v_i:Int:=1
 (ah (n7 v_c) ab v_i).bind fun r6=>match r6 with
 | .inr m7=>some m7
 | .inl m7 =>
 let v_i:=m7
 let aI:Int:=1
 (ah (n6 v_c) ab aI).bind fun r12=>match r12 with
 | .inr m13=>some m13
 | .inl m13 =>
 let aI:=m13
 some 0
def lr (v_q:az) (st:Int) : Option ((Int)⊕((Int)⊕(Int))) :=
 let v_k:=st
 if (decide (v_k < (v_q.bl.length:Int)))=true then
 (av v_q.bl v_k).bind fun b10=>let v_x:ei:=b10
 (if (decide (v_x.kt < 0))=true then some true else some (decide (v_x.kt > 10000))).bind fun q11=>(if q11=true then some true else some (decide (v_x.rN < 0))).bind fun q12=>(if q12=true then some true else some (decide (v_x.rN > 10000))).bind fun q13=>(if q13=true then some true else some (decide (v_x.kt > v_x.rN))).bind fun q14=>if q14=true then
 some (.inr (.inr 1))
 else
 let v_k:Int:=(i64.wrap (v_k + 1))
 some (.inl v_k)
 else
 some (.inr (.inl v_k))
def uN (v_c:aw) (v_i:Int) : Option (Int) :=
 (av v_c.ae v_i).bind fun b1=>let v_q:az:=b1
 (vH v_q.aF).bind fun c2=>if (!c2)=true then
 some 12
 else
 (if (decide (v_i > 0))=true then (av v_c.ae (i64.wrap (v_i - 1))).bind fun b3=>some (Op.bytesLess v_q.aF.toList b3.aF.toList||(v_q.aF.toList==b3.aF.toList)) else some false).bind fun q4=>if q4=true then
 some 7
 else
 (dQ v_q.aF).bind fun c5=>(jq v_c c5).bind fun c6=>let bS:Bool:=c6.2
 (if (decide (v_i > 0))=true then some (!bS) else some false).bind fun q7=>if q7=true then
 some 12
 else
 (if (decide (v_q.cW < 1))=true then some true else some (decide (v_q.cW > 1000000))).bind fun q8=>(if q8=true then some true else some ((v_q.bl.length:Int) != (v_c.ak.length:Int))).bind fun q9=>if q9=true then
 some 1
 else
 let v_k:Int:=0
 (ah (lr v_q) ab v_k).bind fun r15=>match r15 with
 | .inr m16=>some m16
 | .inl m16 =>
 let v_k:=m16
 some 0
def jR (bw:(List ByteArray)) (v_c:aw) (v_k:Int) (st:Int×Int) : Option ((Int×Int)⊕((Int×Int))) :=
 let v_n:=st.1
 let v_j:=st.2
 if (decide (v_j < (bw.length:Int)))=true then
 (av bw v_j).bind fun b4=>(jq v_c b4).bind fun c5=>let v_q:az:=c5.1
 (av v_q.bl v_k).bind fun b6=>let v_n:Int:=(i64.wrap (v_n + b6.kt))
 let v_j:Int:=(i64.wrap (v_j + 1))
 some (.inl (v_n,v_j))
 else
 some (.inr (v_n,v_j))
def ng (v_c:aw) (bw:(List ByteArray)) (st:Int) : Option ((Int)⊕((Int)⊕(Bool))) :=
 let v_k:=st
 (if (decide (v_k < (v_c.ak.length:Int)))=true then some (decide ((bw.length:Int) > 0)) else some false).bind fun q3=>if q3=true then
 let v_n:Int:=0
 let v_j:Int:=0
 (ah (jR bw v_c v_k) ab (v_n,v_j)).bind fun r7 =>
 let v_n:=r7.1
 let v_j:=r7.2
 if (v_n != 10000)=true then
 some (.inr (.inr false))
 else
 let v_k:Int:=(i64.wrap (v_k + 1))
 some (.inl v_k)
 else
 some (.inr (.inl v_k))
def nh (v_c:aw) (st:Int) : Option ((Int)⊕((Int)⊕(Bool))) :=
 let v_i:=st
 if (decide (v_i < (v_c.ae.length:Int)))=true then
 (av v_c.ae v_i).bind fun b1=>(ff v_c b1.aF).bind fun c2=>let bw:(List ByteArray):=c2
 let v_k:Int:=0
 (ah (ng v_c bw) ab v_k).bind fun r8=>match r8 with
 | .inr m9=>some (.inr (.inr m9))
 | .inl m9 =>
 let v_k:=m9
 let v_i:Int:=(i64.wrap (v_i + 1))
 some (.inl v_i)
 else
 some (.inr (.inl v_i))
def DB (v_c:aw) : Option (Bool) :=
 let v_i:Int:=0
 (ah (nh v_c) ab v_i).bind fun r10=>match r10 with
 | .inr m11=>some m11
 | .inl m11 =>
 let v_i:=m11
 some true
def pF (v_c:aw) (st:Int) : Option ((Int)⊕((Int)⊕(Int))) :=
 let v_i:=st
 if (decide (v_i < (v_c.ae.length:Int)))=true then
 (uN v_c v_i).bind fun c5=>if (c5 != 0)=true then
 (uN v_c v_i).bind fun c6=>some (.inr (.inr c6))
 else
 let v_i:Int:=(i64.wrap (v_i + 1))
 some (.inl v_i)
 else
 some (.inr (.inl v_i))
def pE (v_c:aw) (st:Int) : Option ((Int)⊕((Int)⊕(Int))) :=
 let v_k:=st
 if (decide (v_k < (v_c.ak.length:Int)))=true then
 (av v_c.ae 0).bind fun b9=>(av b9.bl v_k).bind fun b10=>if (!((b10.kt==(⟨10000,10000⟩ : ei).kt)&&(b10.rN==(⟨10000,10000⟩ : ei).rN)))=true then
 some (.inr (.inr 13))
 else
 let v_k:Int:=(i64.wrap (v_k + 1))
 some (.inl v_k)
 else
 some (.inr (.inl v_k))
def uP (v_c:aw) : Option (Int) :=
 (rX v_c).bind fun c1=>if (c1 != 0)=true then
 (rX v_c).bind fun c2=>some c2
 else
 (if ((v_c.ae.length:Int)==0)=true then some true else (av v_c.ae 0).bind fun b3=>some (!(b3.aF.toList==(⟨#[114,111,111,116]⟩ : ByteArray).toList))).bind fun q4=>if q4=true then
 some 12
 else
 let v_i:Int:=0
 (ah (pF v_c) ab v_i).bind fun r7=>match r7 with
 | .inr m8=>some m8
 | .inl m8 =>
 let v_i:=m8
 let v_k:Int:=0
 (ah (pE v_c) ab v_k).bind fun r11=>match r11 with
 | .inr m12=>some m12
 | .inl m12 =>
 let v_k:=m12
 (DB v_c).bind fun c13=>if (!c13)=true then
 some 13
 else
 some 0
def ln (v_s:aa) (af:Int) (st:ax×Int) : Option ((ax×Int)⊕((ax×Int))) :=
 let v_v:=st.1
 let v_i:=st.2
 if (decide (v_i < (v_s.aB.length:Int)))=true then
 (av v_s.aB v_i).bind fun b1=>(if b1.fUp=true then (av v_s.aB v_i).bind fun b2=>some (b2.aY==af) else some false).bind fun q3=>if q3=true then
 (av v_s.aB v_i).bind fun b4=>(dc v_v b4.kJ).bind fun c5=>let v_v:ax:=c5
 let v_i:Int:=(i64.wrap (v_i + 1))
 some (.inl (v_v,v_i))
 else
 let v_i:Int:=(i64.wrap (v_i + 1))
 some (.inl (v_v,v_i))
 else
 some (.inr (v_v,v_i))
def iY (v_s:aa) (af:Int) : Option (ax) :=
 let v_v:ax:=(⟨0,0⟩ : ax)
 let v_i:Int:=0
 (ah (ln v_s af) ab (v_v,v_i)).bind fun r6 =>
 let v_v:=r6.1
 let v_i:=r6.2
 some v_v
def nf (v_s:aa) (af:Int) (st:ax×Int) : Option ((ax×Int)⊕((ax×Int))) :=
 let v_v:=st.1
 let v_i:=st.2
 if (decide (v_i < (v_s.bg.length:Int)))=true then
 (av v_s.bg v_i).bind fun b1=>let v_p:a7:=b1
 (if (v_p.aY==af)=true then some (decide (v_p.nG≤v_s.bW)) else some false).bind fun q2=>(if q2=true then some (decide (v_s.bW < v_p.jJ)) else some false).bind fun q3=>if q3=true then
 (dc v_v v_p.iH).bind fun c4=>let v_v:ax:=c4
 let v_i:Int:=(i64.wrap (v_i + 1))
 some (.inl (v_v,v_i))
 else
 let v_i:Int:=(i64.wrap (v_i + 1))
 some (.inl (v_v,v_i))
 else
 some (.inr (v_v,v_i))
def tb (v_s:aa) (af:Int) : Option (ax) :=
 let v_v:ax:=(⟨0,0⟩ : ax)
 let v_i:Int:=0
 (ah (nf v_s af) ab (v_v,v_i)).bind fun r5 =>
 let v_v:=r5.1
 let v_i:=r5.2
 some v_v
def qQ (v_s:aa) (iP:(List ByteArray)) (af:Int) (bV:Bool) (st:ax×Int) : Option ((ax×Int)⊕((ax×Int))) :=
 let v_v:=st.1
 let v_i:=st.2
 if (decide (v_i≥0))=true then
 (av iP v_i).bind fun b6=>(jq v_s.bN b6).bind fun c7=>let v_q:az:=c7.1
 (av v_q.bl af).bind fun b8=>let Ax:Int:=b8.rN
 (if bV=true then
 (av v_q.bl af).bind fun b10=>let Ax:Int:=b10.kt
 some Ax
 else
 some Ax).bind fun j9=>let Ax:=j9
 (uR v_v Ax).bind fun c11=>let v_v:ax:=c11.1
 let v_i:Int:=(i64.wrap (v_i - 1))
 some (.inl (v_v,v_i))
 else
 some (.inr (v_v,v_i))
def ta (v_s:aa) (au:ByteArray) (af:Int) (bV:Bool) : Option (ax) :=
 (jq v_s.bN au).bind fun c1=>let bS:Bool:=c1.2
 (if (!bS)=true then some true else some (decide (af < 0))).bind fun q2=>(if q2=true then some true else some (decide (af≥(v_s.bN.ak.length:Int)))).bind fun q3=>if q3=true then
 some (⟨0,0⟩ : ax)
 else
 (iY v_s af).bind fun c4=>let v_v:ax:=c4
 (y5 au).bind fun c5=>let iP:(List ByteArray):=c5
 let v_i:Int:=(i64.wrap ((iP.length:Int) - 2))
 (ah (qQ v_s iP af bV) ab (v_v,v_i)).bind fun r12 =>
 let v_v:=r12.1
 let v_i:=r12.2
 some v_v
def lq (v_s:aa) (au:ByteArray) (af:Int) : Option (ax) :=
 (ta v_s au af true).bind fun c1=>some c1
def vG (v_s:aa) (au:ByteArray) (af:Int) : Option (ax) :=
 (ta v_s au af false).bind fun c1=>some c1
def DA (v_s:aa) (au:ByteArray) (af:Int) : Option (ax) :=
 (jq v_s.bN au).bind fun c1=>let v_q:az:=c1.1
 let bS:Bool:=c1.2
 if (!bS)=true then
 some (⟨0,0⟩ : ax)
 else
 (lq v_s au af).bind fun c2=>(uR c2 v_q.cW).bind fun c3=>let v_v:ax:=c3.1
 some v_v
def lX (v_s:aa) (bA:Int) (st:Int) : Option ((Int)⊕((Int)⊕(aq×Bool))) :=
 let v_i:=st
 if (decide (v_i < (v_s.ai.length:Int)))=true then
 (av v_s.ai v_i).bind fun b1=>if (b1.fId==bA)=true then
 (av v_s.ai v_i).bind fun b2=>some (.inr (.inr (b2,true)))
 else
 let v_i:Int:=(i64.wrap (v_i + 1))
 some (.inl v_i)
 else
 some (.inr (.inl v_i))
def dV (v_s:aa) (bA:Int) : Option (aq×Bool) :=
 let v_i:Int:=0
 (ah (lX v_s bA) ab v_i).bind fun r3=>match r3 with
 | .inr m4=>some m4
 | .inl m4 =>
 let v_i:=m4
 some ((⟨0,0,⟨#[]⟩,0,0,ax.zero,[],0,0,[],[],[],[]⟩ : aq),false)
def nq (v_s:aa) (v_a:aq) (st:Int) : Option ((Int)⊕((Int))) :=
 let v_k:=st
 (if (decide (v_k < (v_s.ai.length:Int)))=true then (av v_s.ai v_k).bind fun b1=>some (decide (b1.fId < v_a.fId)) else some false).bind fun q2=>if q2=true then
 let v_k:Int:=(i64.wrap (v_k + 1))
 some (.inl v_k)
 else
 some (.inr v_k)
def eb (v_s:aa) (v_a:aq) : Option (aa) :=
 let v_k:Int:=0
 (ah (nq v_s v_a) ab v_k).bind fun r3 =>
 let v_k:=r3
 (hiO v_s.ai v_k).bind fun b4=>(aU ([] : (List aq)) b4).bind fun b5=>let v_l:(List aq):=b5
 (aU v_l [v_a]).bind fun b6=>let v_l:(List aq):=b6
 (if (decide (v_k < (v_s.ai.length:Int)))=true then (av v_s.ai v_k).bind fun b7=>some (b7.fId==v_a.fId) else some false).bind fun q8=>(if q8=true then
 let v_k:Int:=(i64.wrap (v_k + 1))
 some v_k
 else
 some v_k).bind fun j9=>let v_k:=j9
 (loO v_s.ai v_k).bind fun b10=>(aU v_l b10).bind fun b11=>let v_s:aa:={ v_s with ai:=b11 }
 some v_s
def cX (v_a:aq) : Option (Bool) :=
 (if (v_a.cw==1)=true then some true else some (v_a.cw==2)).bind fun q1=>some q1
def vb (v_n:Int) : Option (Bool) :=
 (if (decide (v_n≥1))=true then some (decide (v_n≤1073741824)) else some false).bind fun q1=>some q1
def pa (v_a:aq) : Option ((List aL)) :=
 some ([(⟨0,0,v_a.bB,1,(-1),(-1),0⟩ : aL)] : (List aL))
def jB (v_s:aa) (st:Bool×(List aq)×Int) : Option ((Bool×(List aq)×Int)⊕((Bool×(List aq)×Int))) :=
 let cu:=st.1
 let v_l:=st.2.1
 let v_i:=st.2.2
 if (decide (v_i < (v_s.ai.length:Int)))=true then
 (if (!cu)=true then (av v_s.ai v_i).bind fun b1=>(cX b1).bind fun c2=>some (!c2) else some false).bind fun q3=>if q3=true then
 let cu:Bool:=true
 let v_i:Int:=(i64.wrap (v_i + 1))
 some (.inl (cu,v_l,v_i))
 else
 (av v_s.ai v_i).bind fun b4=>(aU v_l [b4]).bind fun b5=>let v_l:(List aq):=b5
 let v_i:Int:=(i64.wrap (v_i + 1))
 some (.inl (cu,v_l,v_i))
 else
 some (.inr (cu,v_l,v_i))
def tn (v_s:aa) : Option (aa) :=
 let v_l:(List aq):=[]
 let cu:Bool:=false
 let v_i:Int:=0
 (ah (jB v_s) ab (cu,v_l,v_i)).bind fun r6 =>
 let cu:=r6.1
 let v_l:=r6.2.1
 let v_i:=r6.2.2
 let v_s:aa:={ v_s with ai:=v_l }
 some v_s
def jC (v_s:aa) (st:Int×Int) : Option ((Int×Int)⊕((Int×Int))) :=
 let kQ:=st.1
 let v_i:=st.2
 if (decide (v_i < (v_s.ai.length:Int)))=true then
 (av v_s.ai v_i).bind fun b11=>(cX b11).bind fun c12=>if c12=true then
 let kQ:Int:=(i64.wrap (kQ + 1))
 let v_i:Int:=(i64.wrap (v_i + 1))
 some (.inl (kQ,v_i))
 else
 let v_i:Int:=(i64.wrap (v_i + 1))
 some (.inl (kQ,v_i))
 else
 some (.inr (kQ,v_i))
def tp (v_s:aa) (v_a:aq) : Option (aa×Int) :=
 (if (decide (v_a.fId < 0))=true then some true else some (decide (v_a.fId > 9999))).bind fun q1=>(if q1=true then some true else some (decide (v_a.cW < 0))).bind fun q2=>(if q2=true then some true else some (decide (v_a.cW > 99))).bind fun q3=>(if q3=true then some true else some (decide (v_a.bu < 0))).bind fun q4=>(if q4=true then some true else some (decide (v_a.bu > 9))).bind fun q5=>(if q5=true then some true else (vb v_a.bB.bD).bind fun c6=>some (!c6)).bind fun q7=>(if q7=true then some true else (vb v_a.bB.bj).bind fun c8=>some (!c8)).bind fun q9=>if q9=true then
 some (v_s,1)
 else
 (dV v_s v_a.fId).bind fun c10=>let bS:Bool:=c10.2
 if bS=true then
 some (v_s,7)
 else
 let kQ:Int:=0
 let v_i:Int:=0
 (ah (jC v_s) ab (kQ,v_i)).bind fun r13 =>
 let kQ:=r13.1
 let v_i:=r13.2
 if (decide (kQ≥16))=true then
 some (v_s,4)
 else
 (jV v_s.bN v_a.bF).bind fun c14=>if (!c14)=true then
 some (v_s,19)
 else
 (if (decide ((v_s.ai.length:Int)≥16))=true then
 (tn v_s).bind fun c16=>let v_s:aa:=c16
 some v_s
 else
 some v_s).bind fun j15=>let v_s:=j15
 (pa v_a).bind fun c17=>(eb v_s (⟨v_a.fId,1,v_a.bF,v_a.cW,v_a.bu,v_a.bB,c17,v_s.bW,0,[],[],[],[]⟩ : aq)).bind fun c18=>some (c18,0)
def lV (v_s:aa) (bA:Int) (st:(List Int)×(List am)×Int) : Option (((List Int)×(List am)×Int)⊕(((List Int)×(List am)×Int))) :=
 let jI:=st.1
 let v_l:=st.2.1
 let v_i:=st.2.2
 if (decide (v_i < (v_s.ac.length:Int)))=true then
 (av v_s.ac v_i).bind fun b1=>if (b1.bC==bA)=true then
 (av v_s.ac v_i).bind fun b2=>(aU jI [b2.fId]).bind fun b3=>let jI:(List Int):=b3
 let v_i:Int:=(i64.wrap (v_i + 1))
 some (.inl (jI,v_l,v_i))
 else
 (av v_s.ac v_i).bind fun b4=>(aU v_l [b4]).bind fun b5=>let v_l:(List am):=b5
 let v_i:Int:=(i64.wrap (v_i + 1))
 some (.inl (jI,v_l,v_i))
 else
 some (.inr (jI,v_l,v_i))
def lU (v_s:aa) (bA:Int) (st:(List bt)×Int) : Option (((List bt)×Int)⊕(((List bt)×Int))) :=
 let iC:=st.1
 let aI:=st.2
 if (decide (aI < (v_s.aQ.length:Int)))=true then
 (av v_s.aQ aI).bind fun b7=>if (b7.bC != bA)=true then
 (av v_s.aQ aI).bind fun b8=>(aU iC [b8]).bind fun b9=>let iC:(List bt):=b9
 let aI:Int:=(i64.wrap (aI + 1))
 some (.inl (iC,aI))
 else
 let aI:Int:=(i64.wrap (aI + 1))
 some (.inl (iC,aI))
 else
 some (.inr (iC,aI))
def sk (v_s:aa) (bA:Int) : Option (aa×(List Int)) :=
 let v_l:(List am):=[]
 let iC:(List bt):=[]
 let jI:(List Int):=[]
 let v_i:Int:=0
 (ah (lV v_s bA) ab (jI,v_l,v_i)).bind fun r6 =>
 let jI:=r6.1
 let v_l:=r6.2.1
 let v_i:=r6.2.2
 let aI:Int:=0
 (ah (lU v_s bA) ab (iC,aI)).bind fun r10 =>
 let iC:=r10.1
 let aI:=r10.2
 let t11:(List am):=v_l
 let t12:(List bt):=iC
 let v_s:aa:={ v_s with ac:=t11 }
 let v_s:aa:={ v_s with aQ:=t12 }
 some (v_s,jI)
def KQ (v_s:aa) (bA:Int) (I8:Int) : Option (aa×(List Int)) :=
 (dV v_s bA).bind fun c1=>let v_a:aq:=c1.1
 let bS:Bool:=c1.2
 (if (!bS)=true then some true else (cX v_a).bind fun c2=>some (!c2)).bind fun q3=>if q3=true then
 some (v_s,[])
 else
 let v_a:aq:={ v_a with cw:=I8 }
 let t4:(List aL):=[]
 let t5:(List Int):=[]
 let t6:(List Int):=[]
 let t7:(List Int):=[]
 let t8:(List Int):=[]
 let v_a:aq:={ v_a with bE:=t4 }
 let v_a:aq:={ v_a with bM:=t5 }
 let v_a:aq:={ v_a with dj:=t6 }
 let v_a:aq:={ v_a with jH:=t7 }
 let v_a:aq:={ v_a with jP:=t8 }
 (eb v_s v_a).bind fun c9=>(sk c9 bA).bind fun c10=>some c10
def lY (v_s:aa) (bA:Int) (st:Int) : Option ((Int)⊕((Int)⊕(am×Bool))) :=
 let v_i:=st
 if (decide (v_i < (v_s.ac.length:Int)))=true then
 (av v_s.ac v_i).bind fun b1=>if (b1.fId==bA)=true then
 (av v_s.ac v_i).bind fun b2=>some (.inr (.inr (b2,true)))
 else
 let v_i:Int:=(i64.wrap (v_i + 1))
 some (.inl v_i)
 else
 some (.inr (.inl v_i))
def eL (v_s:aa) (bA:Int) : Option (am×Bool) :=
 let v_i:Int:=0
 (ah (lY v_s bA) ab v_i).bind fun r3=>match r3 with
 | .inr m4=>some m4
 | .inl m4 =>
 let v_i:=m4
 some ((⟨0,0,0,ax.zero,0,0,false,0⟩ : am),false)
def lZ (v_s:aa) (bA:Int) (st:(List am)×Int) : Option (((List am)×Int)⊕(((List am)×Int))) :=
 let v_l:=st.1
 let v_i:=st.2
 if (decide (v_i < (v_s.ac.length:Int)))=true then
 (av v_s.ac v_i).bind fun b1=>if (b1.fId != bA)=true then
 (av v_s.ac v_i).bind fun b2=>(aU v_l [b2]).bind fun b3=>let v_l:(List am):=b3
 let v_i:Int:=(i64.wrap (v_i + 1))
 some (.inl (v_l,v_i))
 else
 let v_i:Int:=(i64.wrap (v_i + 1))
 some (.inl (v_l,v_i))
 else
 some (.inr (v_l,v_i))
def qa (v_s:aa) (bA:Int) : Option (aa) :=
 let v_l:(List am):=[]
 let v_i:Int:=0
 (ah (lZ v_s bA) ab (v_l,v_i)).bind fun r4 =>
 let v_l:=r4.1
 let v_i:=r4.2
 let v_s:aa:={ v_s with ac:=v_l }
 some v_s
def iL (v_l:(List Int)) (v_n:Int) (st:(List Int)×Int) : Option (((List Int)×Int)⊕(((List Int)×Int))) :=
 let al:=st.1
 let v_i:=st.2
 if (decide (v_i < (v_l.length:Int)))=true then
 (av v_l v_i).bind fun b1=>if (b1 != v_n)=true then
 (av v_l v_i).bind fun b2=>(aU al [b2]).bind fun b3=>let al:(List Int):=b3
 let v_i:Int:=(i64.wrap (v_i + 1))
 some (.inl (al,v_i))
 else
 let v_i:Int:=(i64.wrap (v_i + 1))
 some (.inl (al,v_i))
 else
 some (.inr (al,v_i))
def je (v_l:(List Int)) (v_n:Int) : Option ((List Int)×Bool) :=
 let al:(List Int):=[]
 let v_i:Int:=0
 (ah (iL v_l v_n) ab (al,v_i)).bind fun r4 =>
 let al:=r4.1
 let v_i:=r4.2
 some (al,(decide ((al.length:Int) < (v_l.length:Int))))
def lW (cj:(List Int)) (st:aa×Int) : Option ((aa×Int)⊕((aa×Int))) :=
 let v_s:=st.1
 let v_i:=st.2
 if (decide (v_i < (cj.length:Int)))=true then
 (av cj v_i).bind fun b1=>(eL v_s b1).bind fun c2=>let v_c:am:=c2.1
 let bS:Bool:=c2.2
 if (!bS)=true then
 let v_i:Int:=(i64.wrap (v_i + 1))
 some (.inl (v_s,v_i))
 else
 (dV v_s v_c.bC).bind fun c3=>let v_a:aq:=c3.1
 if v_c.bB=true then
 (pa v_a).bind fun c4=>let t5:Int:=1
 let t6:(List aL):=c4
 let v_a:aq:={ v_a with cw:=t5 }
 let v_a:aq:={ v_a with bE:=t6 }
 let t7:(List Int):=[]
 let t8:(List Int):=[]
 let t9:(List Int):=[]
 let t10:(List Int):=[]
 let v_a:aq:={ v_a with bM:=t7 }
 let v_a:aq:={ v_a with dj:=t8 }
 let v_a:aq:={ v_a with jH:=t9 }
 let v_a:aq:={ v_a with jP:=t10 }
 let t11:Int:=0
 let t12:Int:=v_s.bW
 let v_a:aq:={ v_a with ce:=t11 }
 let v_a:aq:={ v_a with bL:=t12 }
 (eb v_s v_a).bind fun c13=>(sk c13 v_c.bC).bind fun c14=>let v_s:aa:=c14.1
 let v_i:Int:=(i64.wrap (v_i + 1))
 some (.inl (v_s,v_i))
 else
 (qa v_s v_c.fId).bind fun c15=>let v_s:aa:=c15
 let tX:Bool:=false
 (je v_a.bM v_c.fId).bind fun c16=>let v_a:aq:={ v_a with bM:=c16.1 }
 let tX:Bool:=c16.2
 (if (!tX)=true then
 (aU ([] : (List Int)) v_a.dj).bind fun b18=>(aU b18 [v_c.fId]).bind fun b19=>let v_a:aq:={ v_a with dj:=b19 }
 some v_a
 else
 some v_a).bind fun j17=>let v_a:=j17
 (eb v_s v_a).bind fun c20=>let v_s:aa:=c20
 let v_i:Int:=(i64.wrap (v_i + 1))
 some (.inl (v_s,v_i))
 else
 some (.inr (v_s,v_i))
def jg (v_s:aa) (cj:(List Int)) : Option (aa) :=
 let v_i:Int:=0
 (ah (lW cj) ab (v_s,v_i)).bind fun r21 =>
 let v_s:=r21.1
 let v_i:=r21.2
 some v_s
def jD (v_s:aa) (st:(List Int)×Int) : Option (((List Int)×Int)⊕(((List Int)×Int))) :=
 let v_l:=st.1
 let v_i:=st.2
 if (decide (v_i < (v_s.ai.length:Int)))=true then
 (av v_s.ai v_i).bind fun b1=>(if (b1.cw==2)=true then (av v_s.ai v_i).bind fun b2=>some (decide ((i64.wrap (v_s.bW - b2.bL))≥15)) else some false).bind fun q3=>if q3=true then
 (av v_s.ai v_i).bind fun b4=>(aU v_l [b4.fId]).bind fun b5=>let v_l:(List Int):=b5
 let v_i:Int:=(i64.wrap (v_i + 1))
 some (.inl (v_l,v_i))
 else
 let v_i:Int:=(i64.wrap (v_i + 1))
 some (.inl (v_l,v_i))
 else
 some (.inr (v_l,v_i))
def p9 (v_s:aa) : Option ((List Int)) :=
 let v_l:(List Int):=[]
 let v_i:Int:=0
 (ah (jD v_s) ab (v_l,v_i)).bind fun r6 =>
 let v_l:=r6.1
 let v_i:=r6.2
 some v_l
def yV (v_n:Int) : Option (Bool) :=
 (if (decide (v_n≥1))=true then some (decide (v_n≤1073741824)) else some false).bind fun q1=>some q1
def pB (v_a:aL) (rn:Int) : Option (Int) :=
 (if (decide (v_a.bu < 0))=true then some true else some (decide (v_a.bu > 9))).bind fun q1=>(if q1=true then some true else some (decide (v_a.aY < 0))).bind fun q2=>(if q2=true then some true else some (decide (v_a.aY≥rn))).bind fun q3=>(if q3=true then some true else (yV v_a.cC.bD).bind fun c4=>some (!c4)).bind fun q5=>(if q5=true then some true else (yV v_a.cC.bj).bind fun c6=>some (!c6)).bind fun q7=>(if q7=true then some true else some (decide (v_a.bG < (-1)))).bind fun q8=>(if q8=true then some true else some (decide (v_a.bG > 999))).bind fun q9=>(if q9=true then some true else some (decide (v_a.eR < (-1)))).bind fun q10=>(if q10=true then some true else some (decide (v_a.eR > 99))).bind fun q11=>(if q11=true then some true else (if (decide (v_a.bG≥0))=true then some (decide (v_a.eR < 0)) else some false).bind fun q12=>some q12).bind fun q13=>if q13=true then
 some 1
 else
 (if (decide (v_a.fX < 0))=true then some true else some (decide (v_a.fX > 50))).bind fun q14=>if q14=true then
 some 4
 else
 some 0
def oO (v_l:(List aL)) (v_a:aL) (st:(List aL)×Bool×Int) : Option (((List aL)×Bool×Int)⊕(((List aL)×Bool×Int))) :=
 let al:=st.1
 let cu:=st.2.1
 let v_i:=st.2.2
 if (decide (v_i < (v_l.length:Int)))=true then
 (if (!cu)=true then (av v_l v_i).bind fun b1=>some (decide (b1.bu > v_a.bu)) else some false).bind fun q2=>(if q2=true then
 (aU al [v_a]).bind fun b4=>let al:(List aL):=b4
 let cu:Bool:=true
 some (al,cu)
 else
 some (al,cu)).bind fun j3=>let al:=j3.1
 let cu:=j3.2
 (av v_l v_i).bind fun b5=>if (b5.bu != v_a.bu)=true then
 (av v_l v_i).bind fun b6=>(aU al [b6]).bind fun b7=>let al:(List aL):=b7
 let v_i:Int:=(i64.wrap (v_i + 1))
 some (.inl (al,cu,v_i))
 else
 let v_i:Int:=(i64.wrap (v_i + 1))
 some (.inl (al,cu,v_i))
 else
 some (.inr (al,cu,v_i))
def FD (v_l:(List aL)) (v_a:aL) : Option ((List aL)×Int) :=
 let al:(List aL):=[]
 let cu:Bool:=(v_a.fX==0)
 let v_a:aL:={ v_a with gM:=0 }
 let v_i:Int:=0
 (ah (oO v_l v_a) ab (al,cu,v_i)).bind fun r8 =>
 let al:=r8.1
 let cu:=r8.2.1
 let v_i:=r8.2.2
 (if (!cu)=true then
 (aU al [v_a]).bind fun b10=>let al:(List aL):=b10
 some al
 else
 some al).bind fun j9=>let al:=j9
 if (decide ((al.length:Int) > 8))=true then
 some ([],4)
 else
 some (al,0)
def oP (v_l:(List aL)) (cH:Int) (st:Int) : Option ((Int)⊕((Int)⊕(aL×Bool))) :=
 let v_i:=st
 if (decide (v_i < (v_l.length:Int)))=true then
 (av v_l v_i).bind fun b1=>if (b1.bu==cH)=true then
 (av v_l v_i).bind fun b2=>some (.inr (.inr (b2,true)))
 else
 let v_i:Int:=(i64.wrap (v_i + 1))
 some (.inl v_i)
 else
 some (.inr (.inl v_i))
def Kl (v_l:(List aL)) (cH:Int) : Option (aL×Bool) :=
 let v_i:Int:=0
 (ah (oP v_l cH) ab v_i).bind fun r3=>match r3 with
 | .inr m4=>some m4
 | .inl m4 =>
 let v_i:=m4
 some ((⟨0,0,ax.zero,0,0,0,0⟩ : aL),false)
def mY (v_l:(List aL)) (cH:Int) (st:Bool×(List aL)×Int) : Option ((Bool×(List aL)×Int)⊕((Bool×(List aL)×Int))) :=
 let bS:=st.1
 let al:=st.2.1
 let v_i:=st.2.2
 if (decide (v_i < (v_l.length:Int)))=true then
 (av v_l v_i).bind fun b1=>let v_a:aL:=b1
 if (v_a.bu==cH)=true then
 let bS:Bool:=true
 let t2:Int:=(i64.wrap (v_a.fX - 1))
 let t3:Int:=0
 let v_a:aL:={ v_a with fX:=t2 }
 let v_a:aL:={ v_a with gM:=t3 }
 if (decide (v_a.fX≤0))=true then
 let v_i:Int:=(i64.wrap (v_i + 1))
 some (.inl (bS,al,v_i))
 else
 (aU al [v_a]).bind fun b4=>let al:(List aL):=b4
 let v_i:Int:=(i64.wrap (v_i + 1))
 some (.inl (bS,al,v_i))
 else
 (aU al [v_a]).bind fun b5=>let al:(List aL):=b5
 let v_i:Int:=(i64.wrap (v_i + 1))
 some (.inl (bS,al,v_i))
 else
 some (.inr (bS,al,v_i))
def Dv (v_l:(List aL)) (cH:Int) : Option ((List aL)×Bool) :=
 let al:(List aL):=[]
 let bS:Bool:=false
 let v_i:Int:=0
 (ah (mY v_l cH) ab (bS,al,v_i)).bind fun r6 =>
 let bS:=r6.1
 let al:=r6.2.1
 let v_i:=r6.2.2
 some (al,bS)
def qP (cH:Int) (st:(List aL)×Int) : Option (((List aL)×Int)⊕(((List aL)×Int))) :=
 let al:=st.1
 let v_i:=st.2
 if (decide (v_i < (al.length:Int)))=true then
 (av al v_i).bind fun b2=>if (b2.bu==cH)=true then
 (av al v_i).bind fun b3=>(av al v_i).bind fun b4=>let al:(List aL):=(List.set al (Int.toNat v_i) ({ b4 with gM:=(if 100 < (i64.wrap (b3.gM + 1)) then 100 else (i64.wrap (b3.gM + 1))) }))
 let v_i:Int:=(i64.wrap (v_i + 1))
 some (.inl (al,v_i))
 else
 let v_i:Int:=(i64.wrap (v_i + 1))
 some (.inl (al,v_i))
 else
 some (.inr (al,v_i))
def Dw (v_l:(List aL)) (cH:Int) : Option ((List aL)) :=
 (aU ([] : (List aL)) v_l).bind fun b1=>let al:(List aL):=b1
 let v_i:Int:=0
 (ah (qP cH) ab (al,v_i)).bind fun r5 =>
 let al:=r5.1
 let v_i:=r5.2
 some al
def jo (v_l:(List aL)) (af:Int) (st:ax×Int) : Option ((ax×Int)⊕((ax×Int))) :=
 let v_v:=st.1
 let v_i:=st.2
 if (decide (v_i < (v_l.length:Int)))=true then
 (av v_l v_i).bind fun b1=>if (b1.aY==af)=true then
 (av v_l v_i).bind fun b2=>(av v_l v_i).bind fun b3=>(av v_l v_i).bind fun b4=>(av v_l v_i).bind fun b5=>(dc v_v (⟨(i64.wrap (b2.cC.bD * b3.fX)),(i64.wrap (b4.cC.bj * b5.fX))⟩ : ax)).bind fun c6=>let v_v:ax:=c6
 let v_i:Int:=(i64.wrap (v_i + 1))
 some (.inl (v_v,v_i))
 else
 let v_i:Int:=(i64.wrap (v_i + 1))
 some (.inl (v_v,v_i))
 else
 some (.inr (v_v,v_i))
def kw (v_l:(List aL)) (af:Int) : Option (ax) :=
 let v_v:ax:=(⟨0,0⟩ : ax)
 let v_i:Int:=0
 (ah (jo v_l af) ab (v_v,v_i)).bind fun r7 =>
 let v_v:=r7.1
 let v_i:=r7.2
 some v_v
def kg (iP:(List ByteArray)) (au:ByteArray) (st:Int) : Option ((Int)⊕((Int)⊕(Bool))) :=
 let v_i:=st
 if (decide (v_i < (iP.length:Int)))=true then
 (av iP v_i).bind fun b2=>if (b2.toList==au.toList)=true then
 some (.inr (.inr true))
 else
 let v_i:Int:=(i64.wrap (v_i + 1))
 some (.inl v_i)
 else
 some (.inr (.inl v_i))
def mQ (wU:ByteArray) (au:ByteArray) : Option (Bool) :=
 (y5 wU).bind fun c1=>let iP:(List ByteArray):=c1
 let v_i:Int:=0
 (ah (kg iP au) ab v_i).bind fun r3=>match r3 with
 | .inr m4=>some m4
 | .inl m4 =>
 let v_i:=m4
 some false
def lR (v_s:aa) (af:Int) (au:ByteArray) (yh:Bool) (mj:Int) (st:ax×Int) : Option ((ax×Int)⊕((ax×Int))) :=
 let v_v:=st.1
 let v_i:=st.2
 if (decide (v_i < (v_s.ac.length:Int)))=true then
 (av v_s.ac v_i).bind fun b1=>(dV v_s b1.bC).bind fun c2=>let v_a:aq:=c2.1
 let bS:Bool:=c2.2
 (if bS=true then (av v_s.ac v_i).bind fun b3=>some (b3.aY==af) else some false).bind fun q4=>(if q4=true then (mQ v_a.bF au).bind fun c5=>some c5 else some false).bind fun q6=>(if q6=true then (if yh=true then some true else some (v_a.cW==mj)).bind fun q7=>some q7 else some false).bind fun q8=>if q8=true then
 (av v_s.ac v_i).bind fun b9=>(dc v_v b9.cC).bind fun c10=>let v_v:ax:=c10
 let v_i:Int:=(i64.wrap (v_i + 1))
 some (.inl (v_v,v_i))
 else
 let v_i:Int:=(i64.wrap (v_i + 1))
 some (.inl (v_v,v_i))
 else
 some (.inr (v_v,v_i))
def u6 (v_s:aa) (au:ByteArray) (af:Int) (yh:Bool) (mj:Int) : Option (ax) :=
 let v_v:ax:=(⟨0,0⟩ : ax)
 let v_i:Int:=0
 (ah (lR v_s af au yh mj) ab (v_v,v_i)).bind fun r11 =>
 let v_v:=r11.1
 let v_i:=r11.2
 some v_v
def eG (v_s:aa) (au:ByteArray) (af:Int) : Option (ax) :=
 (u6 v_s au af true 0).bind fun c1=>some c1
def oV (v_s:aa) (au:ByteArray) (af:Int) (mj:Int) : Option (ax) :=
 (u6 v_s au af false mj).bind fun c1=>some c1
def iK (v_s:aa) (af:Int) (au:ByteArray) (st:ax×Int) : Option ((ax×Int)⊕((ax×Int))) :=
 let v_v:=st.1
 let v_i:=st.2
 if (decide (v_i < (v_s.ai.length:Int)))=true then
 (av v_s.ai v_i).bind fun b1=>(cX b1).bind fun c2=>(if c2=true then (av v_s.ai v_i).bind fun b3=>(mQ b3.bF au).bind fun c4=>some c4 else some false).bind fun q5=>if q5=true then
 (av v_s.ai v_i).bind fun b6=>(kw b6.bE af).bind fun c7=>(dc v_v c7).bind fun c8=>let v_v:ax:=c8
 let v_i:Int:=(i64.wrap (v_i + 1))
 some (.inl (v_v,v_i))
 else
 let v_i:Int:=(i64.wrap (v_i + 1))
 some (.inl (v_v,v_i))
 else
 some (.inr (v_v,v_i))
def nR (v_s:aa) (au:ByteArray) (af:Int) : Option (ax) :=
 let v_v:ax:=(⟨0,0⟩ : ax)
 let v_i:Int:=0
 (ah (iK v_s af au) ab (v_v,v_i)).bind fun r9 =>
 let v_v:=r9.1
 let v_i:=r9.2
 some v_v
def lS (iP:(List ByteArray)) (v_s:aa) (af:Int) (su:ax) (st:Int) : Option ((Int)⊕((Int)⊕(Bool))) :=
 let v_i:=st
 if (decide (v_i < (iP.length:Int)))=true then
 (av iP v_i).bind fun b2=>(eG v_s b2 af).bind fun c3=>(dc c3 su).bind fun c4=>let v_v:ax:=c4
 (av iP v_i).bind fun b5=>(vG v_s b5 af).bind fun c6=>(fL v_v c6).bind fun c7=>if (!c7)=true then
 some (.inr (.inr false))
 else
 (av iP v_i).bind fun b8=>(if (b8.toList==(⟨#[114,111,111,116]⟩ : ByteArray).toList)=true then (iY v_s af).bind fun c9=>(tb v_s af).bind fun c10=>(vK c9 c10).bind fun c11=>(fL v_v c11).bind fun c12=>some (!c12) else some false).bind fun q13=>if q13=true then
 some (.inr (.inr false))
 else
 let v_i:Int:=(i64.wrap (v_i + 1))
 some (.inl v_i)
 else
 some (.inr (.inl v_i))
def u7 (v_s:aa) (au:ByteArray) (af:Int) (su:ax) : Option (Bool) :=
 (y5 au).bind fun c1=>let iP:(List ByteArray):=c1
 let v_i:Int:=0
 (ah (lS iP v_s af su) ab v_i).bind fun r14=>match r14 with
 | .inr m15=>some m15
 | .inl m15 =>
 let v_i:=m15
 some true
def vT (v_s:aa) (v_a:ByteArray) (v_b:ByteArray) (af:Int) : Option (Bool) :=
 (eG v_s v_a af).bind fun c1=>(lq v_s v_a af).bind fun c2=>(eG v_s v_b af).bind fun c3=>(lq v_s v_b af).bind fun c4=>(zj c1 c2 c3 c4).bind fun c5=>let v_o:Int:=c5
 (if (decide (v_o < 0))=true then some true else (if (v_o==0)=true then some (Op.bytesLess v_a.toList v_b.toList) else some false).bind fun q6=>some q6).bind fun q7=>some q7
def jc (al:(List ByteArray)) (v_s:aa) (v_i:Int) (v_l:(List ByteArray)) (af:Int) (st:Int) : Option ((Int)⊕((Int))) :=
 let v_k:=st
 (if (decide (v_k < (al.length:Int)))=true then (av v_l v_i).bind fun b2=>(av al v_k).bind fun b3=>(vT v_s b2 b3 af).bind fun c4=>some (!c4) else some false).bind fun q5=>if q5=true then
 let v_k:Int:=(i64.wrap (v_k + 1))
 some (.inl v_k)
 else
 some (.inr v_k)
def lN (v_l:(List ByteArray)) (v_s:aa) (af:Int) (st:(List ByteArray)×Int) : Option (((List ByteArray)×Int)⊕(((List ByteArray)×Int))) :=
 let al:=st.1
 let v_i:=st.2
 if (decide (v_i < (v_l.length:Int)))=true then
 let v_k:Int:=0
 (ah (jc al v_s v_i v_l af) ab v_k).bind fun r6 =>
 let v_k:=r6
 (hiO al v_k).bind fun b7=>(aU ([] : (List ByteArray)) b7).bind fun b8=>let v_x:(List ByteArray):=b8
 (av v_l v_i).bind fun b9=>(aU v_x [b9]).bind fun b10=>let v_x:(List ByteArray):=b10
 (loO al v_k).bind fun b11=>(aU v_x b11).bind fun b12=>let al:(List ByteArray):=b12
 let v_i:Int:=(i64.wrap (v_i + 1))
 some (.inl (al,v_i))
 else
 some (.inr (al,v_i))
def zS (v_s:aa) (au:ByteArray) (af:Int) : Option ((List ByteArray)) :=
 (ff v_s.bN au).bind fun c1=>let v_l:(List ByteArray):=c1
 let al:(List ByteArray):=[]
 let v_i:Int:=0
 (ah (lN v_l v_s af) ab (al,v_i)).bind fun r13 =>
 let al:=r13.1
 let v_i:=r13.2
 some al
def jA (self:(aa→ByteArray→Int→Option ((List ByteArray)))) (v_l:(List ByteArray)) (v_s:aa) (af:Int) (st:(List ByteArray)×Int) : Option (((List ByteArray)×Int)⊕(((List ByteArray)×Int))) :=
 let al:=st.1
 let v_i:=st.2
 if (decide (v_i < (v_l.length:Int)))=true then
 (av v_l v_i).bind fun b2=>(self v_s b2 af).bind fun c3=>(aU al c3).bind fun b4=>let al:(List ByteArray):=b4
 let v_i:Int:=(i64.wrap (v_i + 1))
 some (.inl (al,v_i))
 else
 some (.inr (al,v_i))
def jb:Nat→aa→ByteArray→Int→Option ((List ByteArray))
 | 0=>fun _ _ _=>none
 | fuel + 1=>fun v_s au af =>
 let self:=jb fuel
 (zS v_s au af).bind fun c1=>let v_l:(List ByteArray):=c1
 if ((v_l.length:Int)==0)=true then
 some ([au] : (List ByteArray))
 else
 let al:(List ByteArray):=[]
 let v_i:Int:=0
 (ah (jA self v_l v_s af) ab (al,v_i)).bind fun r5 =>
 let al:=r5.1
 let v_i:=r5.2
 some al
def tm (v_s:aa) (af:Int) : Option ((List ByteArray)) :=
 (jb ab v_s (⟨#[114,111,111,116]⟩ : ByteArray) af).bind fun c1=>some c1
def jd (al:(List aq)) (v_a:aq) (st:Int) : Option ((Int)⊕((Int))) :=
 let v_k:=st
 (if (decide (v_k < (al.length:Int)))=true then (av al v_k).bind fun b4=>some (decide (b4.bu≥v_a.bu)) else some false).bind fun q5=>if q5=true then
 let v_k:Int:=(i64.wrap (v_k + 1))
 some (.inl v_k)
 else
 some (.inr v_k)
def lQ (v_s:aa) (oA:ByteArray) (st:(List aq)×Int) : Option (((List aq)×Int)⊕(((List aq)×Int))) :=
 let al:=st.1
 let v_i:=st.2
 if (decide (v_i < (v_s.ai.length:Int)))=true then
 (av v_s.ai v_i).bind fun b1=>let v_a:aq:=b1
 (cX v_a).bind fun c2=>(if (!c2)=true then some true else some (!(v_a.bF.toList==oA.toList))).bind fun q3=>if q3=true then
 let v_i:Int:=(i64.wrap (v_i + 1))
 some (.inl (al,v_i))
 else
 let v_k:Int:=0
 (ah (jd al v_a) ab v_k).bind fun r6 =>
 let v_k:=r6
 (hiO al v_k).bind fun b7=>(aU ([] : (List aq)) b7).bind fun b8=>let v_x:(List aq):=b8
 (aU v_x [v_a]).bind fun b9=>let v_x:(List aq):=b9
 (loO al v_k).bind fun b10=>(aU v_x b10).bind fun b11=>let al:(List aq):=b11
 let v_i:Int:=(i64.wrap (v_i + 1))
 some (.inl (al,v_i))
 else
 some (.inr (al,v_i))
def lO (al:(List aq)) (st:(List Int)×Int) : Option (((List Int)×Int)⊕(((List Int)×Int))) :=
 let v_l:=st.1
 let aI:=st.2
 if (decide (aI < (al.length:Int)))=true then
 (av al aI).bind fun b13=>(aU v_l [b13.fId]).bind fun b14=>let v_l:(List Int):=b14
 let aI:Int:=(i64.wrap (aI + 1))
 some (.inl (v_l,aI))
 else
 some (.inr (v_l,aI))
def zV (v_s:aa) (oA:ByteArray) : Option ((List Int)) :=
 let al:(List aq):=[]
 let v_i:Int:=0
 (ah (lQ v_s oA) ab (al,v_i)).bind fun r12 =>
 let al:=r12.1
 let v_i:=r12.2
 let v_l:(List Int):=[]
 let aI:Int:=0
 (ah (lO al) ab (v_l,aI)).bind fun r15 =>
 let v_l:=r15.1
 let aI:=r15.2
 some v_l
def mP (v_a:aL) (v_n:aX) : Option (Int) :=
 (if (!v_n.fUp)=true then some true else some (v_n.aY != v_a.aY)).bind fun q1=>if q1=true then
 some 4
 else
 (if (v_a.eR==(-1))=true then some true else some (v_a.bG==v_n.fId)).bind fun q2=>(if q2=true then some true else (if (v_a.bG==(-1))=true then some (v_a.eR==v_n.eR) else some false).bind fun q3=>some q3).bind fun q4=>if q4=true then
 some 1
 else
 if (v_a.eR==v_n.eR)=true then
 some 2
 else
 some 3
def tj (v_a:aL) (v_n:aX) : Option (Bool) :=
 (mP v_a v_n).bind fun c1=>if (c1==1)=true then
 some true
 else
 if (c1==2)=true then
 some (decide (v_a.gM≥2))
 else
 if (c1==3)=true then
 some (decide (v_a.gM≥4))
 else
 some false
def na (v_s:aa) (bA:Int) (st:Int) : Option ((Int)⊕((Int)⊕(aX×Bool))) :=
 let v_i:=st
 if (decide (v_i < (v_s.aB.length:Int)))=true then
 (av v_s.aB v_i).bind fun b1=>if (b1.fId==bA)=true then
 (av v_s.aB v_i).bind fun b2=>some (.inr (.inr (b2,true)))
 else
 let v_i:Int:=(i64.wrap (v_i + 1))
 some (.inl v_i)
 else
 some (.inr (.inl v_i))
def nc (v_s:aa) (bA:Int) : Option (aX×Bool) :=
 let v_i:Int:=0
 (ah (na v_s bA) ab v_i).bind fun r3=>match r3 with
 | .inr m4=>some m4
 | .inl m4 =>
 let v_i:=m4
 some ((⟨0,0,0,ax.zero,0,0,false⟩ : aX),false)
def yW (v_n:Int) : Option (Bool) :=
 (if (decide (v_n≥0))=true then some (decide (v_n≤1073741824)) else some false).bind fun q1=>some q1
def oQ (v_s:aa) (v_n:aX) (st:Int) : Option ((Int)⊕((Int))) :=
 let v_k:=st
 (if (decide (v_k < (v_s.aB.length:Int)))=true then (av v_s.aB v_k).bind fun b1=>some (decide (b1.fId < v_n.fId)) else some false).bind fun q2=>if q2=true then
 let v_k:Int:=(i64.wrap (v_k + 1))
 some (.inl v_k)
 else
 some (.inr v_k)
def Bq (v_s:aa) (v_n:aX) : Option (aa) :=
 let v_k:Int:=0
 (ah (oQ v_s v_n) ab v_k).bind fun r3 =>
 let v_k:=r3
 (hiO v_s.aB v_k).bind fun b4=>(aU ([] : (List aX)) b4).bind fun b5=>let v_l:(List aX):=b5
 (aU v_l [v_n]).bind fun b6=>let v_l:(List aX):=b6
 (if (decide (v_k < (v_s.aB.length:Int)))=true then (av v_s.aB v_k).bind fun b7=>some (b7.fId==v_n.fId) else some false).bind fun q8=>(if q8=true then
 let v_k:Int:=(i64.wrap (v_k + 1))
 some v_k
 else
 some v_k).bind fun j9=>let v_k:=j9
 (loO v_s.aB v_k).bind fun b10=>(aU v_l b10).bind fun b11=>let v_s:aa:={ v_s with aB:=b11 }
 some v_s
def qG (v_s:aa) (v_n:aX) : Option (aa×Int) :=
 (if (decide (v_n.fId < 0))=true then some true else some (decide (v_n.fId > 999))).bind fun q1=>(if q1=true then some true else some (decide (v_n.aY < 0))).bind fun q2=>(if q2=true then some true else some (decide (v_n.aY≥(v_s.bN.ak.length:Int)))).bind fun q3=>(if q3=true then some true else some (decide (v_n.eR < 0))).bind fun q4=>(if q4=true then some true else some (decide (v_n.eR > 99))).bind fun q5=>(if q5=true then some true else (yW v_n.kJ.bD).bind fun c6=>some (!c6)).bind fun q7=>(if q7=true then some true else (yW v_n.kJ.bj).bind fun c8=>some (!c8)).bind fun q9=>if q9=true then
 some (v_s,1)
 else
 (nc v_s v_n.fId).bind fun c10=>let v_x:aX:=c10.1
 let bS:Bool:=c10.2
 (if bS=true then some v_x.fUp else some false).bind fun q11=>if q11=true then
 some (v_s,7)
 else
 (if (!bS)=true then some (decide ((v_s.aB.length:Int)≥12)) else some false).bind fun q12=>if q12=true then
 some (v_s,4)
 else
 (Bq v_s (⟨v_n.fId,v_n.aY,v_n.eR,v_n.kJ,v_s.bW,0,true⟩ : aX)).bind fun c13=>some (c13,0)
def Dy (v_s:aa) (bA:Int) (I9:Int) : Option (aa×Int) :=
 (nc v_s bA).bind fun c1=>let v_n:aX:=c1.1
 let bS:Bool:=c1.2
 if (!bS)=true then
 some (v_s,2)
 else
 if (!v_n.fUp)=true then
 some (v_s,18)
 else
 if (decide (I9 < 0))=true then
 some (v_s,15)
 else
 if (decide (I9 < v_n.ce))=true then
 some (v_s,15)
 else
 if (decide ((i64.wrap (I9 - v_n.ce)) > 1))=true then
 some (v_s,1)
 else
 let t2:Int:=v_s.bW
 let t3:Int:=I9
 let v_n:aX:={ v_n with bL:=t2 }
 let v_n:aX:={ v_n with ce:=t3 }
 (Bq v_s v_n).bind fun c4=>some (c4,0)
def yY (v_s:aa) (bA:Int) : Option (aa) :=
 (nc v_s bA).bind fun c1=>let v_n:aX:=c1.1
 let bS:Bool:=c1.2
 if (!bS)=true then
 some v_s
 else
 let v_n:aX:={ v_n with fUp:=false }
 (Bq v_s v_n).bind fun c2=>some c2
def mZ (v_s:aa) (bA:Int) (st:ax×Int) : Option ((ax×Int)⊕((ax×Int))) :=
 let v_v:=st.1
 let v_i:=st.2
 if (decide (v_i < (v_s.ac.length:Int)))=true then
 (av v_s.ac v_i).bind fun b1=>if (b1.bG==bA)=true then
 (av v_s.ac v_i).bind fun b2=>(dc v_v b2.cC).bind fun c3=>let v_v:ax:=c3
 let v_i:Int:=(i64.wrap (v_i + 1))
 some (.inl (v_v,v_i))
 else
 let v_i:Int:=(i64.wrap (v_i + 1))
 some (.inl (v_v,v_i))
 else
 some (.inr (v_v,v_i))
def Dx (v_s:aa) (bA:Int) : Option (ax) :=
 let v_v:ax:=(⟨0,0⟩ : ax)
 let v_i:Int:=0
 (ah (mZ v_s bA) ab (v_v,v_i)).bind fun r4 =>
 let v_v:=r4.1
 let v_i:=r4.2
 some v_v
def yX (v_s:aa) (bA:Int) : Option (ax) :=
 (nc v_s bA).bind fun c1=>let v_n:aX:=c1.1
 let bS:Bool:=c1.2
 (if (!bS)=true then some true else some (!v_n.fUp)).bind fun q2=>if q2=true then
 some (⟨0,0⟩ : ax)
 else
 (Dx v_s bA).bind fun c3=>(vK v_n.kJ c3).bind fun c4=>some c4
def jU (v_s:aa) (st:(List Int)×Int) : Option (((List Int)×Int)⊕(((List Int)×Int))) :=
 let v_l:=st.1
 let v_i:=st.2
 if (decide (v_i < (v_s.aB.length:Int)))=true then
 (av v_s.aB v_i).bind fun b1=>(if b1.fUp=true then (av v_s.aB v_i).bind fun b2=>some (decide ((i64.wrap (v_s.bW - b2.bL))≥10)) else some false).bind fun q3=>if q3=true then
 (av v_s.aB v_i).bind fun b4=>(aU v_l [b4.fId]).bind fun b5=>let v_l:(List Int):=b5
 let v_i:Int:=(i64.wrap (v_i + 1))
 some (.inl (v_l,v_i))
 else
 let v_i:Int:=(i64.wrap (v_i + 1))
 some (.inl (v_l,v_i))
 else
 some (.inr (v_l,v_i))
def vF (v_s:aa) : Option ((List Int)) :=
 let v_l:(List Int):=[]
 let v_i:Int:=0
 (ah (jU v_s) ab (v_l,v_i)).bind fun r6 =>
 let v_l:=r6.1
 let v_i:=r6.2
 some v_l
def zN (v_s:aa) (wU:ByteArray) (v_a:aL) : Option (Bool) :=
 (eG v_s wU v_a.aY).bind fun c1=>(dc c1 v_a.cC).bind fun c2=>(lq v_s wU v_a.aY).bind fun c3=>(fL c2 c3).bind fun c4=>some c4
def u5 (v_s:aa) (wU:ByteArray) (af:Int) (mj:Int) : Option (Bool) :=
 (oV v_s wU af mj).bind fun c1=>(DA v_s wU af).bind fun c2=>(fL c1 c2).bind fun c3=>some c3
def ik (v_s:aa) (v_c:am) (st:Int) : Option ((Int)⊕((Int))) :=
 let v_k:=st
 (if (decide (v_k < (v_s.ac.length:Int)))=true then (av v_s.ac v_k).bind fun b9=>some (decide (b9.fId < v_c.fId)) else some false).bind fun q10=>if q10=true then
 let v_k:Int:=(i64.wrap (v_k + 1))
 some (.inl v_k)
 else
 some (.inr v_k)
def mO (v_s:aa) (v_n:aX) (v_a:aq) (v_x:aL) : Option (aa×am) :=
 let v_s:aa:={ v_s with rM:=(i64.wrap (v_s.rM + 1)) }
 let v_c:am:=(⟨(i64.wrap ((i64.wrap (v_s.pw * 2 ^ (min (Int.toNat 20) (IntKind.i64.bits)))) + v_s.rM)),v_a.fId,v_n.fId,v_x.cC,v_x.bu,v_n.aY,(v_a.cw==1),0⟩ : am)
 (Dv v_a.bE v_x.bu).bind fun c1=>let v_a:aq:={ v_a with bE:=c1.1 }
 (if v_c.bB=true then
 let t3:Int:=2
 let t4:(List aL):=[]
 let t5:Int:=v_s.bW
 let t6:Int:=0
 let v_a:aq:={ v_a with cw:=t3 }
 let v_a:aq:={ v_a with bE:=t4 }
 let v_a:aq:={ v_a with bL:=t5 }
 let v_a:aq:={ v_a with ce:=t6 }
 some v_a
 else
 (aU ([] : (List Int)) v_a.bM).bind fun b7=>(aU b7 [v_c.fId]).bind fun b8=>let v_a:aq:={ v_a with bM:=b8 }
 some v_a).bind fun j2=>let v_a:=j2
 let v_k:Int:=0
 (ah (ik v_s v_c) ab v_k).bind fun r11 =>
 let v_k:=r11
 (hiO v_s.ac v_k).bind fun b12=>(aU ([] : (List am)) b12).bind fun b13=>let v_l:(List am):=b13
 (aU v_l [v_c]).bind fun b14=>let v_l:(List am):=b14
 (loO v_s.ac v_k).bind fun b15=>(aU v_l b15).bind fun b16=>let v_s:aa:={ v_s with ac:=b16 }
 (eb v_s v_a).bind fun c17=>some (c17,v_c)
def jz (v_s:aa) (ct:Int) (st:(List bt)×Int) : Option (((List bt)×Int)⊕(((List bt)×Int))) :=
 let v_l:=st.1
 let v_i:=st.2
 if (decide (v_i < (v_s.aQ.length:Int)))=true then
 (av v_s.aQ v_i).bind fun b1=>if (b1.bG != ct)=true then
 (av v_s.aQ v_i).bind fun b2=>(aU v_l [b2]).bind fun b3=>let v_l:(List bt):=b3
 let v_i:Int:=(i64.wrap (v_i + 1))
 some (.inl (v_l,v_i))
 else
 let v_i:Int:=(i64.wrap (v_i + 1))
 some (.inl (v_l,v_i))
 else
 some (.inr (v_l,v_i))
def fF (v_s:aa) (ct:Int) : Option (aa) :=
 let v_l:(List bt):=[]
 let v_i:Int:=0
 (ah (jz v_s ct) ab (v_l,v_i)).bind fun r4 =>
 let v_l:=r4.1
 let v_i:=r4.2
 let v_s:aa:={ v_s with aQ:=v_l }
 some v_s
def lL (v_s:aa) (ct:Int) (st:Int) : Option ((Int)⊕((Int)⊕(bt×Bool))) :=
 let v_i:=st
 if (decide (v_i < (v_s.aQ.length:Int)))=true then
 (av v_s.aQ v_i).bind fun b1=>if (b1.bG==ct)=true then
 (av v_s.aQ v_i).bind fun b2=>some (.inr (.inr (b2,true)))
 else
 let v_i:Int:=(i64.wrap (v_i + 1))
 some (.inl v_i)
 else
 some (.inr (.inl v_i))
def zK (v_s:aa) (ct:Int) : Option (bt×Bool) :=
 let v_i:Int:=0
 (ah (lL v_s ct) ab v_i).bind fun r3=>match r3 with
 | .inr m4=>some m4
 | .inl m4 =>
 let v_i:=m4
 some ((⟨0,0,0⟩ : bt),false)
def ke (v_s:aa) (eW:Int) (cH:Int) (st:Int) : Option ((Int)⊕((Int)⊕(Bool))) :=
 let v_i:=st
 if (decide (v_i < (v_s.aQ.length:Int)))=true then
 (av v_s.aQ v_i).bind fun b1=>(if (b1.bC==eW)=true then (av v_s.aQ v_i).bind fun b2=>some (b2.bu==cH) else some false).bind fun q3=>if q3=true then
 some (.inr (.inr true))
 else
 let v_i:Int:=(i64.wrap (v_i + 1))
 some (.inl v_i)
 else
 some (.inr (.inl v_i))
def vQ (v_s:aa) (eW:Int) (cH:Int) : Option (Bool) :=
 let v_i:Int:=0
 (ah (ke v_s eW cH) ab v_i).bind fun r4=>match r4 with
 | .inr m5=>some m5
 | .inl m5 =>
 let v_i:=m5
 some false
def lM (v_s:aa) (v_x:bt) (st:Int) : Option ((Int)⊕((Int))) :=
 let v_k:=st
 (if (decide (v_k < (v_s.aQ.length:Int)))=true then (av v_s.aQ v_k).bind fun b1=>some (decide (b1.bG < v_x.bG)) else some false).bind fun q2=>if q2=true then
 let v_k:Int:=(i64.wrap (v_k + 1))
 some (.inl v_k)
 else
 some (.inr v_k)
def si (v_s:aa) (v_x:bt) : Option (aa) :=
 let v_k:Int:=0
 (ah (lM v_s v_x) ab v_k).bind fun r3 =>
 let v_k:=r3
 (hiO v_s.aQ v_k).bind fun b4=>(aU ([] : (List bt)) b4).bind fun b5=>let v_l:(List bt):=b5
 (aU v_l [v_x]).bind fun b6=>let v_l:(List bt):=b6
 (loO v_s.aQ v_k).bind fun b7=>(aU v_l b7).bind fun b8=>let v_s:aa:={ v_s with aQ:=b8 }
 some v_s
def sg (v_s:aa) (v_n:aX) (v_x:bt) : Option (aa×Int×am×Bool) :=
 (dV v_s v_x.bC).bind fun c1=>let v_a:aq:=c1.1
 let bS:Bool:=c1.2
 (Kl v_a.bE v_x.bu).bind fun c2=>let v_k:aL:=c2.1
 let yg:Bool:=c2.2
 (if (!bS)=true then some true else (cX v_a).bind fun c3=>some (!c3)).bind fun q4=>(if q4=true then some true else some (!yg)).bind fun q5=>(if q5=true then some true else (tj v_k v_n).bind fun c6=>some (!c6)).bind fun q7=>(if q7=true then some true else (fL v_k.cC v_n.kJ).bind fun c8=>some (!c8)).bind fun q9=>(if q9=true then some true else (zN v_s v_a.bF v_k).bind fun c10=>some (!c10)).bind fun q11=>(if q11=true then some true else (u5 v_s v_a.bF v_n.aY v_a.cW).bind fun c12=>some (!c12)).bind fun q13=>if q13=true then
 (fF v_s v_n.fId).bind fun c14=>some (c14,0,(⟨0,0,0,ax.zero,0,0,false,0⟩ : am),false)
 else
 (yX v_s v_n.fId).bind fun c15=>(fL v_k.cC c15).bind fun c16=>(if (!c16)=true then some true else (u7 v_s v_a.bF v_n.aY v_k.cC).bind fun c17=>some (!c17)).bind fun q18=>if q18=true then
 some (v_s,3,(⟨0,0,0,ax.zero,0,0,false,0⟩ : am),true)
 else
 (fF v_s v_n.fId).bind fun c19=>(mO c19 v_n v_a v_k).bind fun c20=>let v_t:aa:=c20.1
 let v_c:am:=c20.2
 some (v_t,1,v_c,true)
def vR (v_s:aa) (v_n:aX) (v_a:aq) (v_x:aL) (kS:Bool) : Option (aa×Int×am) :=
 (zN v_s v_a.bF v_x).bind fun c1=>let bS:Bool:=c1
 (mP v_x v_n).bind fun c2=>(if (c2==4)=true then some true else (fL v_x.cC v_n.kJ).bind fun c3=>some (!c3)).bind fun q4=>(if q4=true then some true else (if kS=true then some (!bS) else some false).bind fun q5=>some q5).bind fun q6=>if q6=true then
 some (v_s,0,(⟨0,0,0,ax.zero,0,0,false,0⟩ : am))
 else
 (tj v_x v_n).bind fun c7=>if (!c7)=true then
 (if (kS==bS)=true then
 (Dw v_a.bE v_x.bu).bind fun c9=>let v_a:aq:={ v_a with bE:=c9 }
 (eb v_s v_a).bind fun c10=>let v_s:aa:=c10
 some (v_a,v_s)
 else
 some (v_a,v_s)).bind fun j8=>let v_a:=j8.1
 let v_s:=j8.2
 some (v_s,0,(⟨0,0,0,ax.zero,0,0,false,0⟩ : am))
 else
 (u7 v_s v_a.bF v_n.aY v_x.cC).bind fun c11=>if (!c11)=true then
 some (v_s,0,(⟨0,0,0,ax.zero,0,0,false,0⟩ : am))
 else
 (yX v_s v_n.fId).bind fun c12=>(fL v_x.cC c12).bind fun c13=>if c13=true then
 (mO v_s v_n v_a v_x).bind fun c14=>let v_t:aa:=c14.1
 let v_c:am:=c14.2
 some (v_t,1,v_c)
 else
 (if kS=true then (vQ v_s v_a.fId v_x.bu).bind fun c15=>some (!c15) else some false).bind fun q16=>if q16=true then
 (si v_s (⟨v_n.fId,v_a.fId,v_x.bu⟩ : bt)).bind fun c17=>some (c17,2,(⟨0,0,0,ax.zero,0,0,false,0⟩ : am))
 else
 some (v_s,0,(⟨0,0,0,ax.zero,0,0,false,0⟩ : am))
def ic (v_a:aq) (v_j:Int) (cj:(List Int)) (v_n:aX) (kS:Bool) (st:aa×Int) : Option ((aa×Int)⊕((aa×Int)⊕(aa×Int×am))) :=
 let v_s:=st.1
 let v_k:=st.2
 if (decide (v_k < (v_a.bE.length:Int)))=true then
 (av cj v_j).bind fun b8=>(dV v_s b8).bind fun c9=>let v_b:aq:=c9.1
 (av v_a.bE v_k).bind fun b10=>(vR v_s v_n v_b b10 kS).bind fun c11=>let v_t:aa:=c11.1
 let Aw:Int:=c11.2.1
 let v_c:am:=c11.2.2
 let v_s:aa:=v_t
 if (Aw != 0)=true then
 some (.inr (.inr (v_s,Aw,v_c)))
 else
 let v_k:Int:=(i64.wrap (v_k + 1))
 some (.inl (v_s,v_k))
 else
 some (.inr (.inl (v_s,v_k)))
def ig (cj:(List Int)) (v_i:Int) (jL:(List ByteArray)) (v_n:aX) (kS:Bool) (st:aa×Int) : Option ((aa×Int)⊕((aa×Int)⊕(aa×Int×am))) :=
 let v_s:=st.1
 let v_j:=st.2
 if (decide (v_j < (cj.length:Int)))=true then
 (av cj v_j).bind fun b4=>(dV v_s b4).bind fun c5=>let v_a:aq:=c5.1
 (av jL v_i).bind fun b6=>(u5 v_s b6 v_n.aY v_a.cW).bind fun c7=>if (!c7)=true then
 let v_j:Int:=(i64.wrap (v_j + 1))
 some (.inl (v_s,v_j))
 else
 let v_k:Int:=0
 (ah (ic v_a v_j cj v_n kS) ab (v_s,v_k)).bind fun r12=>match r12 with
 | .inr m13=>some (.inr (.inr m13))
 | .inl m13 =>
 let v_s:=m13.1
 let v_k:=m13.2
 let v_j:Int:=(i64.wrap (v_j + 1))
 some (.inl (v_s,v_j))
 else
 some (.inr (.inl (v_s,v_j)))
def ij (jL:(List ByteArray)) (v_n:aX) (kS:Bool) (st:aa×Int) : Option ((aa×Int)⊕((aa×Int)⊕(aa×Int×am))) :=
 let v_s:=st.1
 let v_i:=st.2
 if (decide (v_i < (jL.length:Int)))=true then
 (av jL v_i).bind fun b2=>(zV v_s b2).bind fun c3=>let cj:(List Int):=c3
 let v_j:Int:=0
 (ah (ig cj v_i jL v_n kS) ab (v_s,v_j)).bind fun r14=>match r14 with
 | .inr m15=>some (.inr (.inr m15))
 | .inl m15 =>
 let v_s:=m15.1
 let v_j:=m15.2
 let v_i:Int:=(i64.wrap (v_i + 1))
 some (.inl (v_s,v_i))
 else
 some (.inr (.inl (v_s,v_i)))
def eh (v_s:aa) (v_n:aX) (kS:Bool) : Option (aa×Int×am) :=
 (tm v_s v_n.aY).bind fun c1=>let jL:(List ByteArray):=c1
 let v_i:Int:=0
 (ah (ij jL v_n kS) ab (v_s,v_i)).bind fun r16=>match r16 with
 | .inr m17=>some m17
 | .inl m17 =>
 let v_s:=m17.1
 let v_i:=m17.2
 some (v_s,0,(⟨0,0,0,ax.zero,0,0,false,0⟩ : am))
def vS (v_s:aa) (ct:Int) : Option (aa×Int×am) :=
 (nc v_s ct).bind fun c1=>let v_n:aX:=c1.1
 let bS:Bool:=c1.2
 (if (!bS)=true then some true else some (!v_n.fUp)).bind fun q2=>(if q2=true then some true else some (decide ((v_s.ac.length:Int)≥200))).bind fun q3=>(if q3=true then some true else some (decide (v_s.rM≥1048575))).bind fun q4=>if q4=true then
 some (v_s,0,(⟨0,0,0,ax.zero,0,0,false,0⟩ : am))
 else
 (zK v_s ct).bind fun c5=>let v_x:bt:=c5.1
 let Y4:Bool:=c5.2
 if Y4=true then
 (sg v_s v_n v_x).bind fun c6=>let v_t:aa:=c6.1
 let Aw:Int:=c6.2.1
 let v_c:am:=c6.2.2.1
 let cu:Bool:=c6.2.2.2
 let v_s:aa:=v_t
 if cu=true then
 some (v_s,Aw,v_c)
 else
 (eh v_s v_n true).bind fun c7=>let v_s:aa:=c7.1
 let yf:Int:=c7.2.1
 let wV:am:=c7.2.2
 if (yf != 0)=true then
 some (v_s,yf,wV)
 else
 (eh v_s v_n false).bind fun c8=>some c8
 else
 (eh v_s v_n true).bind fun c9=>let v_s:aa:=c9.1
 let yf:Int:=c9.2.1
 let wV:am:=c9.2.2
 if (yf != 0)=true then
 some (v_s,yf,wV)
 else
 (eh v_s v_n false).bind fun c10=>some c10
def ja (ct:Int) (st:aa×(List am)×Int) : Option ((aa×(List am)×Int)⊕((aa×(List am)×Int))) :=
 let v_s:=st.1
 let v_l:=st.2.1
 let v_k:=st.2.2
 if (decide (v_k < 3))=true then
 (vS v_s ct).bind fun c1=>let v_t:aa:=c1.1
 let Aw:Int:=c1.2.1
 let v_c:am:=c1.2.2
 let v_s:aa:=v_t
 if (Aw != 1)=true then
 some (.inr (v_s,v_l,v_k))
 else
 (aU v_l [v_c]).bind fun b2=>let v_l:(List am):=b2
 let v_k:Int:=(i64.wrap (v_k + 1))
 some (.inl (v_s,v_l,v_k))
 else
 some (.inr (v_s,v_l,v_k))
def p8 (v_s:aa) (ct:Int) : Option (aa×(List am)) :=
 let v_l:(List am):=[]
 let v_k:Int:=0
 (ah (ja ct) ab (v_s,v_l,v_k)).bind fun r3 =>
 let v_s:=r3.1
 let v_l:=r3.2.1
 let v_k:=r3.2.2
 some (v_s,v_l)
def lH (v_n:Int) : Option (Int) :=
 (if (decide (v_n < 0))=true then some true else some (decide (v_n > 1125899906842624))).bind fun q1=>if q1=true then
 some 0
 else
 some v_n
def od (v_n:Int) (bV:(List Int)) (gJ:(List Int)) (cm:(List Int)) (st:(List Int)×Int×Int) : Option (((List Int)×Int×Int)⊕(((List Int)×Int×Int))) :=
 let al:=st.1
 let cn:=st.2.1
 let v_i:=st.2.2
 if (decide (v_i < v_n))=true then
 (av bV v_i).bind fun b2=>(lH b2).bind fun c3=>(av gJ v_i).bind fun b4=>(lH b4).bind fun c5=>(av cm v_i).bind fun b6=>(lH b6).bind fun c7=>let v_x:Int:=(if cn < (if c7 < (if c5 < c3 then c5 else c3) then c7 else (if c5 < c3 then c5 else c3)) then cn else (if c7 < (if c5 < c3 then c5 else c3) then c7 else (if c5 < c3 then c5 else c3)))
 (aU al [v_x]).bind fun b8=>let al:(List Int):=b8
 let cn:Int:=(i64.wrap (cn - v_x))
 let v_i:Int:=(i64.wrap (v_i + 1))
 some (.inl (al,cn,v_i))
 else
 some (.inr (al,cn,v_i))
def ob (v_n:Int) (gJ:(List Int)) (cm:(List Int)) (st:(List Int)×Int×Int) : Option (((List Int)×Int×Int)⊕(((List Int)×Int×Int))) :=
 let al:=st.1
 let cn:=st.2.1
 let aI:=st.2.2
 if (decide (aI < v_n))=true then
 (av gJ aI).bind fun b10=>(lH b10).bind fun c11=>(av cm aI).bind fun b12=>(lH b12).bind fun c13=>(av al aI).bind fun b14=>let ZH:Int:=(if cn < (if 0 > (i64.wrap ((if c13 < c11 then c13 else c11) - b14)) then 0 else (i64.wrap ((if c13 < c11 then c13 else c11) - b14))) then cn else (if 0 > (i64.wrap ((if c13 < c11 then c13 else c11) - b14)) then 0 else (i64.wrap ((if c13 < c11 then c13 else c11) - b14))))
 (av al aI).bind fun b15=>(av al aI).bind fun b16=>let al:(List Int):=(List.set al (Int.toNat aI) (i64.wrap (b15 + ZH)))
 let cn:Int:=(i64.wrap (cn - ZH))
 let aI:Int:=(i64.wrap (aI + 1))
 some (.inl (al,cn,aI))
 else
 some (.inr (al,cn,aI))
def vO (fJ:Int) (bV:(List Int)) (gJ:(List Int)) (cm:(List Int)) : Option ((List Int)) :=
 let v_n:Int:=(if (cm.length:Int) < (if (gJ.length:Int) < (bV.length:Int) then (gJ.length:Int) else (bV.length:Int)) then (cm.length:Int) else (if (gJ.length:Int) < (bV.length:Int) then (gJ.length:Int) else (bV.length:Int)))
 (lH fJ).bind fun c1=>let cn:Int:=c1
 let al:(List Int):=[]
 let v_i:Int:=0
 (ah (od v_n bV gJ cm) ab (al,cn,v_i)).bind fun r9 =>
 let al:=r9.1
 let cn:=r9.2.1
 let v_i:=r9.2.2
 let aI:Int:=0
 (ah (ob v_n gJ cm) ab (al,cn,aI)).bind fun r17 =>
 let al:=r17.1
 let cn:=r17.2.1
 let aI:=r17.2.2
 some al
def p6 (self:(aa→ByteArray→Int→Int→Option ((List aj)))) (bw:(List ByteArray)) (v_s:aa) (af:Int) (st:(List Int)×(List Int)×(List Int)×Int) : Option (((List Int)×(List Int)×(List Int)×Int)⊕(((List Int)×(List Int)×(List Int)×Int))) :=
 let bV:=st.1
 let cm:=st.2.1
 let gJ:=st.2.2.1
 let v_i:=st.2.2.2
 if (decide (v_i < (bw.length:Int)))=true then
 (av bw v_i).bind fun b2=>(lq v_s b2 af).bind fun c3=>(aU bV [c3.bD]).bind fun b4=>let bV:(List Int):=b4
 (av bw v_i).bind fun b5=>(vG v_s b5 af).bind fun c6=>(aU cm [c6.bD]).bind fun b7=>let cm:(List Int):=b7
 (av bw v_i).bind fun b8=>(eG v_s b8 af).bind fun c9=>(av bw v_i).bind fun b10=>(nR v_s b10 af).bind fun c11=>(aU gJ [(i64.wrap (c9.bD + c11.bD))]).bind fun b12=>let gJ:(List Int):=b12
 let v_i:Int:=(i64.wrap (v_i + 1))
 some (.inl (bV,cm,gJ,v_i))
 else
 some (.inr (bV,cm,gJ,v_i))
def p5 (self:(aa→ByteArray→Int→Int→Option ((List aj)))) (bw:(List ByteArray)) (v_s:aa) (af:Int) (v_x:(List Int)) (st:(List aj)×Int) : Option (((List aj)×Int)⊕(((List aj)×Int))) :=
 let al:=st.1
 let aI:=st.2
 if (decide (aI < (bw.length:Int)))=true then
 (av bw aI).bind fun b15=>(av v_x aI).bind fun b16=>(self v_s b15 af b16).bind fun c17=>(aU al c17).bind fun b18=>let al:(List aj):=b18
 let aI:Int:=(i64.wrap (aI + 1))
 some (.inl (al,aI))
 else
 some (.inr (al,aI))
def lI:Nat→aa→ByteArray→Int→Int→Option ((List aj))
 | 0=>fun _ _ _ _=>none
 | fuel + 1=>fun v_s au af YE =>
 let self:=lI fuel
 (ff v_s.bN au).bind fun c1=>let bw:(List ByteArray):=c1
 if ((bw.length:Int)==0)=true then
 some ([(⟨au,YE⟩ : aj)] : (List aj))
 else
 let bV:(List Int):=[]
 let gJ:(List Int):=[]
 let cm:(List Int):=[]
 let v_i:Int:=0
 (ah (p6 self bw v_s af) ab (bV,cm,gJ,v_i)).bind fun r13 =>
 let bV:=r13.1
 let cm:=r13.2.1
 let gJ:=r13.2.2.1
 let v_i:=r13.2.2.2
 (vO YE bV gJ cm).bind fun c14=>let v_x:(List Int):=c14
 let al:(List aj):=[]
 let aI:Int:=0
 (ah (p5 self bw v_s af v_x) ab (al,aI)).bind fun r19 =>
 let al:=r19.1
 let aI:=r19.2
 some al
def gr (al:(List aj)) (v_i:Int) (v_l:(List aj)) (st:Int) : Option ((Int)⊕((Int))) :=
 let v_k:=st
 (if (decide (v_k < (al.length:Int)))=true then (av al v_k).bind fun b3=>(av v_l v_i).bind fun b4=>some (Op.bytesLess b3.aF.toList b4.aF.toList) else some false).bind fun q5=>if q5=true then
 let v_k:Int:=(i64.wrap (v_k + 1))
 some (.inl v_k)
 else
 some (.inr v_k)
def jx (v_l:(List aj)) (st:(List aj)×Int) : Option (((List aj)×Int)⊕(((List aj)×Int))) :=
 let al:=st.1
 let v_i:=st.2
 if (decide (v_i < (v_l.length:Int)))=true then
 let v_k:Int:=0
 (ah (gr al v_i v_l) ab v_k).bind fun r6 =>
 let v_k:=r6
 (hiO al v_k).bind fun b7=>(aU ([] : (List aj)) b7).bind fun b8=>let v_x:(List aj):=b8
 (av v_l v_i).bind fun b9=>(aU v_x [b9]).bind fun b10=>let v_x:(List aj):=b10
 (loO al v_k).bind fun b11=>(aU v_x b11).bind fun b12=>let al:(List aj):=b12
 let v_i:Int:=(i64.wrap (v_i + 1))
 some (.inl (al,v_i))
 else
 some (.inr (al,v_i))
def p7 (v_s:aa) (af:Int) : Option ((List aj)) :=
 let al:(List aj):=[]
 (iY v_s af).bind fun c1=>(lI ab v_s (⟨#[114,111,111,116]⟩ : ByteArray) af c1.bD).bind fun c2=>let v_l:(List aj):=c2
 let v_i:Int:=0
 (ah (jx v_l) ab (al,v_i)).bind fun r13 =>
 let al:=r13.1
 let v_i:=r13.2
 some al
def nn (v_l:(List aj)) (au:ByteArray) (st:Int) : Option ((Int)⊕((Int)⊕(Int))) :=
 let v_i:=st
 if (decide (v_i < (v_l.length:Int)))=true then
 (av v_l v_i).bind fun b2=>if (b2.aF.toList==au.toList)=true then
 (av v_l v_i).bind fun b3=>some (.inr (.inr b3.bD))
 else
 let v_i:Int:=(i64.wrap (v_i + 1))
 some (.inl v_i)
 else
 some (.inr (.inl v_i))
def zE (v_s:aa) (af:Int) (au:ByteArray) : Option (Int) :=
 (p7 v_s af).bind fun c1=>let v_l:(List aj):=c1
 let v_i:Int:=0
 (ah (nn v_l au) ab v_i).bind fun r4=>match r4 with
 | .inr m5=>some m5
 | .inl m5 =>
 let v_i:=m5
 some 0
def i7 (v_s:aa) (v_c:am) : Option (ByteArray) :=
 (dV v_s v_c.bC).bind fun c1=>let v_a:aq:=c1.1
 some v_a.bF
def jY (v_a:aq) (au:ByteArray) (v_s:aa) (af:Int) (bV:Int) (ml:Int) (st:Int) : Option ((Int)⊕((Int)⊕(Int))) :=
 let v_k:=st
 (if (decide (v_k < (v_a.bE.length:Int)))=true then (cX v_a).bind fun c6=>some c6 else some false).bind fun q7=>(if q7=true then some (v_a.bF.toList==au.toList) else some false).bind fun q8=>if q8=true then
 (av v_a.bE v_k).bind fun b9=>(if (b9.aY==af)=true then (av v_a.bE v_k).bind fun b10=>some (decide ((i64.wrap (b10.cC.bD + ml))≤bV)) else some false).bind fun q11=>if q11=true then
 (nR v_s au af).bind fun c12=>some (.inr (.inr (if (i64.wrap (bV - ml)) < c12.bD then (i64.wrap (bV - ml)) else c12.bD)))
 else
 let v_k:Int:=(i64.wrap (v_k + 1))
 some (.inl v_k)
 else
 some (.inr (.inl v_k))
def jZ (v_s:aa) (au:ByteArray) (af:Int) (bV:Int) (ml:Int) (st:Int) : Option ((Int)⊕((Int)⊕(Int))) :=
 let v_i:=st
 if (decide (v_i < (v_s.ai.length:Int)))=true then
 (av v_s.ai v_i).bind fun b5=>let v_a:aq:=b5
 let v_k:Int:=0
 (ah (jY v_a au v_s af bV ml) ab v_k).bind fun r13=>match r13 with
 | .inr m14=>some (.inr (.inr m14))
 | .inl m14 =>
 let v_k:=m14
 let v_i:Int:=(i64.wrap (v_i + 1))
 some (.inl v_i)
 else
 some (.inr (.inl v_i))
def se (v_s:aa) (au:ByteArray) (af:Int) : Option (Int) :=
 (eG v_s au af).bind fun c1=>(lq v_s au af).bind fun c2=>let t3:Int:=c1.bD
 let t4:Int:=c2.bD
 let ml:Int:=t3
 let bV:Int:=t4
 let v_i:Int:=0
 (ah (jZ v_s au af bV ml) ab v_i).bind fun r15=>match r15 with
 | .inr m16=>some m16
 | .inl m16 =>
 let v_i:=m16
 some 0
def oT (v_l:(List Int)) (v_n:Int) (st:Int) : Option ((Int)⊕((Int)⊕(Bool))) :=
 let v_i:=st
 if (decide (v_i < (v_l.length:Int)))=true then
 (av v_l v_i).bind fun b1=>if (b1==v_n)=true then
 some (.inr (.inr true))
 else
 let v_i:Int:=(i64.wrap (v_i + 1))
 some (.inl v_i)
 else
 some (.inr (.inl v_i))
def xN (v_l:(List Int)) (v_n:Int) : Option (Bool) :=
 let v_i:Int:=0
 (ah (oT v_l v_n) ab v_i).bind fun r2=>match r2 with
 | .inr m3=>some m3
 | .inl m3 =>
 let v_i:=m3
 some false
def jw (v_s:aa) (af:Int) (au:ByteArray) (v_l:(List Int)) (st:Int×Int) : Option ((Int×Int)⊕((Int×Int))) :=
 let v_n:=st.1
 let v_i:=st.2
 if (decide (v_i < (v_s.ac.length:Int)))=true then
 (av v_s.ac v_i).bind fun b1=>let v_c:am:=b1
 (if (v_c.aY==af)=true then (if (au.toList==(⟨#[]⟩ : ByteArray).toList)=true then some true else (i7 v_s v_c).bind fun c2=>some (c2.toList==au.toList)).bind fun q3=>some q3 else some false).bind fun q4=>(if q4=true then (if (v_c.jm != 0)=true then some true else (xN v_l v_c.fId).bind fun c5=>some c5).bind fun q6=>some q6 else some false).bind fun q7=>if q7=true then
 let v_n:Int:=(i64.wrap (v_n + v_c.cC.bD))
 let v_i:Int:=(i64.wrap (v_i + 1))
 some (.inl (v_n,v_i))
 else
 let v_i:Int:=(i64.wrap (v_i + 1))
 some (.inl (v_n,v_i))
 else
 some (.inr (v_n,v_i))
def mN (v_s:aa) (au:ByteArray) (af:Int) (v_l:(List Int)) : Option (Int) :=
 let v_n:Int:=0
 let v_i:Int:=0
 (ah (jw v_s af au v_l) ab (v_n,v_i)).bind fun r8 =>
 let v_n:=r8.1
 let v_i:=r8.2
 some v_n
def jv (v_s:aa) (af:Int) (au:ByteArray) (v_l:(List Int)) (st:am×Bool×Int) : Option ((am×Bool×Int)⊕((am×Bool×Int))) :=
 let cL:=st.1
 let bS:=st.2.1
 let v_i:=st.2.2
 if (decide (v_i < (v_s.ac.length:Int)))=true then
 (av v_s.ac v_i).bind fun b3=>let v_c:am:=b3
 (if (v_c.aY != af)=true then some true else (i7 v_s v_c).bind fun c4=>some (!(c4.toList==au.toList))).bind fun q5=>(if q5=true then some true else some (v_c.jm != 0)).bind fun q6=>(if q6=true then some true else (xN v_l v_c.fId).bind fun c7=>some c7).bind fun q8=>if q8=true then
 let v_i:Int:=(i64.wrap (v_i + 1))
 some (.inl (cL,bS,v_i))
 else
 (if (!bS)=true then some true else (if cL.bB=true then some (!v_c.bB) else some false).bind fun q9=>some q9).bind fun q10=>(if q10=true then some true else (if (cL.bB==v_c.bB)=true then some (decide (v_c.fId > cL.fId)) else some false).bind fun q11=>some q11).bind fun q12=>if q12=true then
 let t13:am:=v_c
 let t14:Bool:=true
 let cL:am:=t13
 let bS:Bool:=t14
 let v_i:Int:=(i64.wrap (v_i + 1))
 some (.inl (cL,bS,v_i))
 else
 let v_i:Int:=(i64.wrap (v_i + 1))
 some (.inl (cL,bS,v_i))
 else
 some (.inr (cL,bS,v_i))
def pX (v_s:aa) (au:ByteArray) (af:Int) (v_l:(List Int)) : Option (am×Bool) :=
 let t1:am:=(⟨0,0,0,ax.zero,0,0,false,0⟩ : am)
 let t2:Bool:=false
 let cL:am:=t1
 let bS:Bool:=t2
 let v_i:Int:=0
 (ah (jv v_s af au v_l) ab (cL,bS,v_i)).bind fun r15 =>
 let cL:=r15.1
 let bS:=r15.2.1
 let v_i:=r15.2.2
 some (cL,bS)
def lD (bP:(List aj)) (v_s:aa) (af:Int) (st:Int×Int) : Option ((Int×Int)⊕((Int×Int))) :=
 let kP:=st.1
 let v_i:=st.2
 if (decide (v_i < (bP.length:Int)))=true then
 (av bP v_i).bind fun b4=>(se v_s b4.aF af).bind fun c5=>let kP:Int:=(i64.wrap (kP + c5))
 let v_i:Int:=(i64.wrap (v_i + 1))
 some (.inl (kP,v_i))
 else
 some (.inr (kP,v_i))
def lC (bP:(List aj)) (v_s:aa) (af:Int) (v_l:(List Int)) (st:Int×am×Int) : Option ((Int×am×Int)⊕((Int×am×Int))) :=
 let cm:=st.1
 let v_x:=st.2.1
 let aI:=st.2.2
 if (decide (aI < (bP.length:Int)))=true then
 (av bP aI).bind fun b10=>let v_p:ByteArray:=b10.aF
 (eG v_s v_p af).bind fun c11=>(av bP aI).bind fun b12=>(mN v_s v_p af v_l).bind fun c13=>let DI:Int:=(i64.wrap ((i64.wrap (c11.bD - b12.bD)) - c13))
 (pX v_s v_p af v_l).bind fun c14=>let v_c:am:=c14.1
 let bS:Bool:=c14.2
 (if bS=true then some (decide (DI > cm)) else some false).bind fun q15=>if q15=true then
 let t16:Int:=DI
 let t17:am:=v_c
 let cm:Int:=t16
 let v_x:am:=t17
 let aI:Int:=(i64.wrap (aI + 1))
 some (.inl (cm,v_x,aI))
 else
 let aI:Int:=(i64.wrap (aI + 1))
 some (.inl (cm,v_x,aI))
 else
 some (.inr (cm,v_x,aI))
def pZ (v_s:aa) (af:Int) (kP:Int) (bP:(List aj)) (st:(List Int)) : Option (((List Int))⊕(((List Int))⊕((List Int)))) :=
 let v_l:=st
 (mN v_s (⟨#[]⟩ : ByteArray) af v_l).bind fun c7=>if (decide (c7 < kP))=true then
 let t8:Int:=0
 let t9:am:=(⟨0,0,0,ax.zero,0,0,false,0⟩ : am)
 let cm:Int:=t8
 let v_x:am:=t9
 let aI:Int:=0
 (ah (lC bP v_s af v_l) ab (cm,v_x,aI)).bind fun r18 =>
 let cm:=r18.1
 let v_x:=r18.2.1
 let aI:=r18.2.2
 if (cm==0)=true then
 some (.inr (.inr v_l))
 else
 (aU v_l [v_x.fId]).bind fun b19=>let v_l:(List Int):=b19
 some (.inl v_l)
 else
 some (.inr (.inl v_l))
def zC (v_s:aa) (af:Int) : Option ((List Int)) :=
 (p7 v_s af).bind fun c1=>let bP:(List aj):=c1
 (iY v_s af).bind fun c2=>(eG v_s (⟨#[114,111,111,116]⟩ : ByteArray) af).bind fun c3=>let kP:Int:=(i64.wrap (0 - (if 0 > (i64.wrap (c2.bD - c3.bD)) then 0 else (i64.wrap (c2.bD - c3.bD)))))
 let v_i:Int:=0
 (ah (lD bP v_s af) ab (kP,v_i)).bind fun r6 =>
 let kP:=r6.1
 let v_i:=r6.2
 let v_l:(List Int):=[]
 (ah (pZ v_s af kP bP) ab v_l).bind fun r20=>match r20 with
 | .inr m21=>some m21
 | .inl m21 =>
 let v_l:=m21
 some v_l
def pW (v_t:Int) (bA:Int) (st:(List am)×Int) : Option (((List am)×Int)⊕(((List am)×Int))) :=
 let v_l:=st.1
 let v_i:=st.2
 if (decide (v_i < (v_l.length:Int)))=true then
 (av v_l v_i).bind fun b2=>if (b2.fId==bA)=true then
 (av v_l v_i).bind fun b3=>let v_l:(List am):=(List.set v_l (Int.toNat v_i) ({ b3 with jm:=v_t }))
 let v_i:Int:=(i64.wrap (v_i + 1))
 some (.inl (v_l,v_i))
 else
 let v_i:Int:=(i64.wrap (v_i + 1))
 some (.inl (v_l,v_i))
 else
 some (.inr (v_l,v_i))
def nQ (v_s:aa) (bA:Int) (v_t:Int) : Option (aa) :=
 (aU ([] : (List am)) v_s.ac).bind fun b1=>let v_l:(List am):=b1
 let v_i:Int:=0
 (ah (pW v_t bA) ab (v_l,v_i)).bind fun r4 =>
 let v_l:=r4.1
 let v_i:=r4.2
 let v_s:aa:={ v_s with ac:=v_l }
 some v_s
def lG (kO:aa) (ye:aa) (st:(List Int)×Int) : Option (((List Int)×Int)⊕(((List Int)×Int))) :=
 let v_l:=st.1
 let v_i:=st.2
 if (decide (v_i < (kO.ac.length:Int)))=true then
 (av kO.ac v_i).bind fun b1=>(eL ye b1.fId).bind fun c2=>let bS:Bool:=c2.2
 if (!bS)=true then
 (av kO.ac v_i).bind fun b3=>(aU v_l [b3.fId]).bind fun b4=>let v_l:(List Int):=b4
 let v_i:Int:=(i64.wrap (v_i + 1))
 some (.inl (v_l,v_i))
 else
 let v_i:Int:=(i64.wrap (v_i + 1))
 some (.inl (v_l,v_i))
 else
 some (.inr (v_l,v_i))
def uW (kO:aa) (ye:aa) : Option ((List Int)) :=
 let v_l:(List Int):=[]
 let v_i:Int:=0
 (ah (lG kO ye) ab (v_l,v_i)).bind fun r5 =>
 let v_l:=r5.1
 let v_i:=r5.2
 some v_l
def mM (v_s:aa) (v_c:am) (st:Int×Int) : Option ((Int×Int)⊕((Int×Int))) :=
 let v_n:=st.1
 let v_i:=st.2
 (if (decide (v_i < (v_s.ac.length:Int)))=true then some v_c.bB else some false).bind fun q1=>if q1=true then
 (av v_s.ac v_i).bind fun b2=>(if (b2.bC==v_c.bC)=true then (av v_s.ac v_i).bind fun b3=>some (b3.fId != v_c.fId) else some false).bind fun q4=>(if q4=true then (av v_s.ac v_i).bind fun b5=>some (b5.aY==v_c.aY) else some false).bind fun q6=>if q6=true then
 (av v_s.ac v_i).bind fun b7=>let v_n:Int:=(i64.wrap (v_n + b7.cC.bD))
 let v_i:Int:=(i64.wrap (v_i + 1))
 some (.inl (v_n,v_i))
 else
 let v_i:Int:=(i64.wrap (v_i + 1))
 some (.inl (v_n,v_i))
 else
 some (.inr (v_n,v_i))
def pV (v_s:aa) (v_c:am) : Option (Int) :=
 let v_n:Int:=0
 let v_i:Int:=0
 (ah (mM v_s v_c) ab (v_n,v_i)).bind fun r8 =>
 let v_n:=r8.1
 let v_i:=r8.2
 some v_n
def pY (v_s:aa) (af:Int) (st:(List am)×Int) : Option (((List am)×Int)⊕(((List am)×Int))) :=
 let v_l:=st.1
 let v_i:=st.2
 if (decide (v_i≥0))=true then
 (av v_s.ac v_i).bind fun b1=>let v_c:am:=b1
 (if (v_c.aY==af)=true then some (v_c.jm != 0) else some false).bind fun q2=>(if q2=true then some (decide ((i64.wrap (v_c.jm + 3))≤v_s.bW)) else some false).bind fun q3=>if q3=true then
 (aU v_l [v_c]).bind fun b4=>let v_l:(List am):=b4
 let v_i:Int:=(i64.wrap (v_i - 1))
 some (.inl (v_l,v_i))
 else
 let v_i:Int:=(i64.wrap (v_i - 1))
 some (.inl (v_l,v_i))
 else
 some (.inr (v_l,v_i))
def lA (v_l:(List am)) (af:Int) (st:aa×Int) : Option ((aa×Int)⊕((aa×Int))) :=
 let v_s:=st.1
 let aI:=st.2
 if (decide (aI < (v_l.length:Int)))=true then
 (av v_l aI).bind fun b6=>(eL v_s b6.fId).bind fun c7=>let wV:am:=c7.1
 let bS:Bool:=c7.2
 if (!bS)=true then
 let aI:Int:=(i64.wrap (aI + 1))
 some (.inl (v_s,aI))
 else
 (i7 v_s wV).bind fun c8=>(eG v_s c8 af).bind fun c9=>(pV v_s wV).bind fun c10=>(i7 v_s wV).bind fun c11=>(zE v_s af c11).bind fun c12=>if (decide ((i64.wrap (c9.bD - c10)) > c12))=true then
 (jg v_s ([wV.fId] : (List Int))).bind fun c13=>let v_s:aa:=c13
 let aI:Int:=(i64.wrap (aI + 1))
 some (.inl (v_s,aI))
 else
 (nQ v_s wV.fId 0).bind fun c14=>let v_s:aa:=c14
 let aI:Int:=(i64.wrap (aI + 1))
 some (.inl (v_s,aI))
 else
 some (.inr (v_s,aI))
def zy (v_s:aa) (af:Int) : Option (aa) :=
 let v_l:(List am):=[]
 let v_i:Int:=(i64.wrap ((v_s.ac.length:Int) - 1))
 (ah (pY v_s af) ab (v_l,v_i)).bind fun r5 =>
 let v_l:=r5.1
 let v_i:=r5.2
 let aI:Int:=0
 (ah (lA v_l af) ab (v_s,aI)).bind fun r15 =>
 let v_s:=r15.1
 let aI:=r15.2
 some v_s
def j7 (v_l:(List Int)) (st:aa×Int) : Option ((aa×Int)⊕((aa×Int))) :=
 let v_s:=st.1
 let v_i:=st.2
 if (decide (v_i < (v_l.length:Int)))=true then
 (av v_l v_i).bind fun b3=>(nQ v_s b3 (if 1 > v_s.bW then 1 else v_s.bW)).bind fun c4=>let v_s:aa:=c4
 let v_i:Int:=(i64.wrap (v_i + 1))
 some (.inl (v_s,v_i))
 else
 some (.inr (v_s,v_i))
def oa (st:aa×Int) : Option ((aa×Int)⊕((aa×Int))) :=
 let v_s:=st.1
 let af:=st.2
 if (decide (af < (v_s.bN.ak.length:Int)))=true then
 (zy v_s af).bind fun c1=>let v_s:aa:=c1
 (zC v_s af).bind fun c2=>let v_l:(List Int):=c2
 let v_i:Int:=0
 (ah (j7 v_l) ab (v_s,v_i)).bind fun r5 =>
 let v_s:=r5.1
 let v_i:=r5.2
 let af:Int:=(i64.wrap (af + 1))
 some (.inl (v_s,af))
 else
 some (.inr (v_s,af))
def vN (v_s:aa) : Option (aa×(List Int)) :=
 let kO:aa:=v_s
 let af:Int:=0
 (ah (oa) ab (v_s,af)).bind fun r6 =>
 let v_s:=r6.1
 let af:=r6.2
 (uW kO v_s).bind fun c7=>some (v_s,c7)
def oU (v_l:(List a7)) (af:Int) (v_t:Int) (st:ax×Int) : Option ((ax×Int)⊕((ax×Int))) :=
 let v_v:=st.1
 let v_i:=st.2
 if (decide (v_i < (v_l.length:Int)))=true then
 (av v_l v_i).bind fun b1=>(if (b1.aY==af)=true then (av v_l v_i).bind fun b2=>some (decide (b2.nG≤v_t)) else some false).bind fun q3=>(if q3=true then (av v_l v_i).bind fun b4=>some (decide (v_t < b4.jJ)) else some false).bind fun q5=>if q5=true then
 (av v_l v_i).bind fun b6=>(dc v_v b6.iH).bind fun c7=>let v_v:ax:=c7
 let v_i:Int:=(i64.wrap (v_i + 1))
 some (.inl (v_v,v_i))
 else
 let v_i:Int:=(i64.wrap (v_i + 1))
 some (.inl (v_v,v_i))
 else
 some (.inr (v_v,v_i))
def u4 (v_l:(List a7)) (af:Int) (v_t:Int) : Option (ax) :=
 let v_v:ax:=(⟨0,0⟩ : ax)
 let v_i:Int:=0
 (ah (oU v_l af v_t) ab (v_v,v_i)).bind fun r8 =>
 let v_v:=r8.1
 let v_i:=r8.2
 some v_v
def uY (v_n:Int) : Option (Bool) :=
 (if (decide (v_n≥0))=true then some (decide (v_n≤1073741824)) else some false).bind fun q1=>some q1
def lJ (v_l:(List a7)) (v_t:Int) (gK:Int) (v_p:a7) (fJ:ax) (st:Int) : Option ((Int)⊕((Int)⊕(Bool))) :=
 let v_i:=st
 if (decide (v_i < (v_l.length:Int)))=true then
 (av v_l v_i).bind fun b4=>let v_u:Int:=b4.nG
 (if (decide (v_u > v_t))=true then some (decide ((i64.wrap (v_u - v_t)) < gK)) else some false).bind fun q5=>(if q5=true then (u4 v_l v_p.aY v_u).bind fun c6=>(dc c6 v_p.iH).bind fun c7=>(fL c7 fJ).bind fun c8=>some (!c8) else some false).bind fun q9=>if q9=true then
 some (.inr (.inr false))
 else
 let v_i:Int:=(i64.wrap (v_i + 1))
 some (.inl v_i)
 else
 some (.inr (.inl v_i))
def sf (v_l:(List a7)) (fJ:ax) (v_p:a7) (v_t:Int) (gK:Int) : Option (Bool) :=
 (u4 v_l v_p.aY v_t).bind fun c1=>(dc c1 v_p.iH).bind fun c2=>(fL c2 fJ).bind fun c3=>if (!c3)=true then
 some false
 else
 let v_i:Int:=0
 (ah (lJ v_l v_t gK v_p fJ) ab v_i).bind fun r10=>match r10 with
 | .inr m11=>some m11
 | .inl m11 =>
 let v_i:=m11
 some true
def oe (v_l:(List a7)) (v_p:a7) (gK:Int) (fJ:ax) (st:Int×Int) : Option ((Int×Int)⊕((Int×Int))) :=
 let cL:=st.1
 let v_i:=st.2
 if (decide (v_i < (v_l.length:Int)))=true then
 let v_t:Int:=v_p.nG
 (if (decide (v_i≥0))=true then
 (av v_l v_i).bind fun b11=>let v_t:Int:=b11.jJ
 some v_t
 else
 some v_t).bind fun j10=>let v_t:=j10
 (if (decide (v_t≥v_p.nG))=true then some (decide (v_t≤1000000)) else some false).bind fun q12=>(if q12=true then some (decide ((i64.wrap (v_t + gK))≤v_p.jJ)) else some false).bind fun q13=>(if q13=true then (if (decide (cL < 0))=true then some true else some (decide (v_t < cL))).bind fun q14=>some q14 else some false).bind fun q15=>(if q15=true then (sf v_l fJ v_p v_t gK).bind fun c16=>some c16 else some false).bind fun q17=>if q17=true then
 let cL:Int:=v_t
 let v_i:Int:=(i64.wrap (v_i + 1))
 some (.inl (cL,v_i))
 else
 let v_i:Int:=(i64.wrap (v_i + 1))
 some (.inl (cL,v_i))
 else
 some (.inr (cL,v_i))
def vP (v_l:(List a7)) (fJ:ax) (v_p:a7) (gK:Int) : Option (Int×Int) :=
 (if (decide (gK < 1))=true then some true else some (decide (gK > 1000))).bind fun q1=>(if q1=true then some true else some (decide (v_p.nG < 0))).bind fun q2=>(if q2=true then some true else some (decide (v_p.nG > 1000000))).bind fun q3=>(if q3=true then some true else some (decide (v_p.jJ < 0))).bind fun q4=>(if q4=true then some true else some (decide (v_p.jJ > 1000000))).bind fun q5=>(if q5=true then some true else (uY v_p.iH.bD).bind fun c6=>some (!c6)).bind fun q7=>(if q7=true then some true else (uY v_p.iH.bj).bind fun c8=>some (!c8)).bind fun q9=>if q9=true then
 some (0,1)
 else
 let cL:Int:=(-1)
 let v_i:Int:=(-1)
 (ah (oe v_l v_p gK fJ) ab (cL,v_i)).bind fun r18 =>
 let cL:=r18.1
 let v_i:=r18.2
 if (decide (cL < 0))=true then
 some (0,16)
 else
 some (cL,0)
def np (v_s:aa) (v_p:a7) (st:Int×Int) : Option ((Int×Int)⊕((Int×Int)⊕(aa×Int×Int))) :=
 let v_k:=st.1
 let v_i:=st.2
 if (decide (v_i < (v_s.bg.length:Int)))=true then
 (av v_s.bg v_i).bind fun b5=>if (b5.fId==v_p.fId)=true then
 some (.inr (.inr (v_s,0,7)))
 else
 (av v_s.bg v_i).bind fun b6=>if (decide (b6.fId < v_p.fId))=true then
 let v_k:Int:=(i64.wrap (v_i + 1))
 let v_i:Int:=(i64.wrap (v_i + 1))
 some (.inl (v_k,v_i))
 else
 let v_i:Int:=(i64.wrap (v_i + 1))
 some (.inl (v_k,v_i))
 else
 some (.inr (.inl (v_k,v_i)))
def zI (v_s:aa) (v_p:a7) (gK:Int) : Option (aa×Int×Int) :=
 (if (decide (v_p.fId < 0))=true then some true else some (decide (v_p.fId > 999))).bind fun q1=>(if q1=true then some true else some (decide (v_p.aY < 0))).bind fun q2=>(if q2=true then some true else some (decide (v_p.aY≥(v_s.bN.ak.length:Int)))).bind fun q3=>(if q3=true then some true else some ((v_p.iH.bD==(⟨0,0⟩ : ax).bD)&&(v_p.iH.bj==(⟨0,0⟩ : ax).bj))).bind fun q4=>if q4=true then
 some (v_s,0,1)
 else
 let v_k:Int:=0
 let v_i:Int:=0
 (ah (np v_s v_p) ab (v_k,v_i)).bind fun r7=>match r7 with
 | .inr m8=>some m8
 | .inl m8 =>
 let v_k:=m8.1
 let v_i:=m8.2
 if (decide ((v_s.bg.length:Int)≥12))=true then
 some (v_s,0,4)
 else
 if (decide (v_p.nG < v_s.bW))=true then
 some (v_s,0,15)
 else
 (iY v_s v_p.aY).bind fun c9=>(vP v_s.bg c9 v_p gK).bind fun c10=>let v_t:Int:=c10.1
 let v_e:Int:=c10.2
 if (v_e != 0)=true then
 some (v_s,0,v_e)
 else
 (hiO v_s.bg v_k).bind fun b11=>(aU ([] : (List a7)) b11).bind fun b12=>let v_l:(List a7):=b12
 (aU v_l [(⟨v_p.fId,v_p.aY,v_t,(i64.wrap (v_t + gK)),v_p.iH⟩ : a7)]).bind fun b13=>let v_l:(List a7):=b13
 (loO v_s.bg v_k).bind fun b14=>(aU v_l b14).bind fun b15=>let v_s:aa:={ v_s with bg:=b15 }
 some (v_s,v_t,0)
def lK (v_s:aa) (bA:Int) (st:(List a7)×Int) : Option (((List a7)×Int)⊕(((List a7)×Int))) :=
 let v_l:=st.1
 let v_i:=st.2
 if (decide (v_i < (v_s.bg.length:Int)))=true then
 (av v_s.bg v_i).bind fun b1=>if (b1.fId != bA)=true then
 (av v_s.bg v_i).bind fun b2=>(aU v_l [b2]).bind fun b3=>let v_l:(List a7):=b3
 let v_i:Int:=(i64.wrap (v_i + 1))
 some (.inl (v_l,v_i))
 else
 let v_i:Int:=(i64.wrap (v_i + 1))
 some (.inl (v_l,v_i))
 else
 some (.inr (v_l,v_i))
def uZ (v_s:aa) (bA:Int) : Option (aa×Int) :=
 let v_l:(List a7):=[]
 let v_i:Int:=0
 (ah (lK v_s bA) ab (v_l,v_i)).bind fun r4 =>
 let v_l:=r4.1
 let v_i:=r4.2
 if ((v_l.length:Int)==(v_s.bg.length:Int))=true then
 some (v_s,2)
 else
 let v_s:aa:={ v_s with bg:=v_l }
 some (v_s,0)
def te (v_s:ByteArray) (v_c:Int) (st:(List ByteArray)×Int×Int) : Option (((List ByteArray)×Int×Int)⊕(((List ByteArray)×Int×Int))) :=
 let v_l:=st.1
 let oC:=st.2.1
 let v_i:=st.2.2
 if (decide (v_i < (v_s.size:Int)))=true then
 (kW v_s v_i).bind fun b1=>if (b1==v_c)=true then
 (Jk v_s oC v_i).bind fun b2=>(aU v_l [b2]).bind fun b3=>let v_l:(List ByteArray):=b3
 let oC:Int:=(i64.wrap (v_i + 1))
 let v_i:Int:=(i64.wrap (v_i + 1))
 some (.inl (v_l,oC,v_i))
 else
 let v_i:Int:=(i64.wrap (v_i + 1))
 some (.inl (v_l,oC,v_i))
 else
 some (.inr (v_l,oC,v_i))
def FO (v_s:ByteArray) (v_c:Int) : Option ((List ByteArray)) :=
 let v_l:(List ByteArray):=[]
 let oC:Int:=0
 let v_i:Int:=0
 (ah (te v_s v_c) ab (v_l,oC,v_i)).bind fun r4 =>
 let v_l:=r4.1
 let oC:=r4.2.1
 let v_i:=r4.2.2
 (if (decide (oC < (v_s.size:Int)))=true then
 (Ss v_s oC).bind fun b6=>(aU v_l [b6]).bind fun b7=>let v_l:(List ByteArray):=b7
 some v_l
 else
 some v_l).bind fun j5=>let v_l:=j5
 some v_l
def pG (v_l:(List ByteArray)) (st:(List ByteArray)×Int) : Option (((List ByteArray)×Int)⊕(((List ByteArray)×Int))) :=
 let al:=st.1
 let v_i:=st.2
 if (decide (v_i < (v_l.length:Int)))=true then
 (av v_l v_i).bind fun b2=>if (!(b2.toList==(⟨#[]⟩ : ByteArray).toList))=true then
 (av v_l v_i).bind fun b3=>(aU al [b3]).bind fun b4=>let al:(List ByteArray):=b4
 let v_i:Int:=(i64.wrap (v_i + 1))
 some (.inl (al,v_i))
 else
 let v_i:Int:=(i64.wrap (v_i + 1))
 some (.inl (al,v_i))
 else
 some (.inr (al,v_i))
def y6 (v_s:ByteArray) : Option ((List ByteArray)) :=
 let al:(List ByteArray):=[]
 (FO v_s 32).bind fun c1=>let v_l:(List ByteArray):=c1
 let v_i:Int:=0
 (ah (pG v_l) ab (al,v_i)).bind fun r5 =>
 let al:=r5.1
 let v_i:=r5.2
 some al
def n9 (v_s:ByteArray) (st:Int×Int) : Option ((Int×Int)⊕((Int×Int)⊕(Int×Bool))) :=
 let v_n:=st.1
 let v_i:=st.2
 if (decide (v_i < (v_s.size:Int)))=true then
 (kW v_s v_i).bind fun b5=>(if (decide (b5 < 48))=true then some true else (kW v_s v_i).bind fun b6=>some (decide (b6 > 57))).bind fun q7=>if q7=true then
 some (.inr (.inr (0,false)))
 else
 (kW v_s v_i).bind fun b8=>let v_n:Int:=(i64.wrap ((i64.wrap (v_n * 10)) + (i64.wrap (IntKind.u8.wrap (b8 - 48)))))
 let v_i:Int:=(i64.wrap (v_i + 1))
 some (.inl (v_n,v_i))
 else
 some (.inr (.inl (v_n,v_i)))
def o7 (v_s:ByteArray) : Option (Int×Bool) :=
 (if (decide ((v_s.size:Int) < 1))=true then some true else some (decide ((v_s.size:Int) > 7))).bind fun q1=>(if q1=true then some true else (kW v_s 0).bind fun b2=>(if (b2==48)=true then some (decide ((v_s.size:Int) > 1)) else some false).bind fun q3=>some q3).bind fun q4=>if q4=true then
 some (0,false)
 else
 let v_n:Int:=0
 let v_i:Int:=0
 (ah (n9 v_s) ab (v_n,v_i)).bind fun r9=>match r9 with
 | .inr m10=>some m10
 | .inl m10 =>
 let v_n:=m10.1
 let v_i:=m10.2
 some (v_n,true)
def pH (v_s:ByteArray) (st:Int) : Option ((Int)⊕((Int))) :=
 let v_k:=st
 (if (decide (v_k < (v_s.size:Int)))=true then (kW v_s v_k).bind fun b1=>some (b1 != 47) else some false).bind fun q2=>if q2=true then
 let v_k:Int:=(i64.wrap (v_k + 1))
 some (.inl v_k)
 else
 some (.inr v_k)
def y7 (v_s:ByteArray) : Option (ei×Bool) :=
 let v_k:Int:=0
 (ah (pH v_s) ab v_k).bind fun r3 =>
 let v_k:=r3
 if (v_k==(v_s.size:Int))=true then
 some ((⟨0,0⟩ : ei),false)
 else
 (Od v_s v_k).bind fun b4=>(o7 b4).bind fun c5=>let v_a:Int:=c5.1
 let v_p:Bool:=c5.2
 (Ss v_s (i64.wrap (v_k + 1))).bind fun b6=>(o7 b6).bind fun c7=>let v_b:Int:=c7.1
 let v_q:Bool:=c7.2
 (if v_p=true then some v_q else some false).bind fun q8=>some ((⟨v_a,v_b⟩ : ei),q8)
def pI (v_w:(List ByteArray)) (st:Bool×az×Int) : Option ((Bool×az×Int)⊕((Bool×az×Int))) :=
 let ek:=st.1
 let v_q:=st.2.1
 let v_i:=st.2.2
 (if (decide (v_i < (v_w.length:Int)))=true then some ek else some false).bind fun q6=>if q6=true then
 let v_c:ei:=(⟨0,0⟩ : ei)
 (av v_w v_i).bind fun b7=>(y7 b7).bind fun c8=>let v_c:ei:=c8.1
 let ek:Bool:=c8.2
 (aU v_q.bl [v_c]).bind fun b9=>let v_q:az:={ v_q with bl:=b9 }
 let v_i:Int:=(i64.wrap (v_i + 1))
 some (.inl (ek,v_q,v_i))
 else
 some (.inr (ek,v_q,v_i))
def y8 (v_w:(List ByteArray)) (rn:Int) : Option (az×Bool) :=
 (if ((v_w.length:Int) != (i64.wrap (3 + rn)))=true then some true else (av v_w 0).bind fun b1=>some (!(b1.toList==(⟨#[113,117,101,117,101]⟩ : ByteArray).toList))).bind fun q2=>if q2=true then
 some ((⟨⟨#[]⟩,[],0⟩ : az),false)
 else
 (av v_w 2).bind fun b3=>(o7 b3).bind fun c4=>let v_n:Int:=c4.1
 let ek:Bool:=c4.2
 (av v_w 1).bind fun b5=>let v_q:az:=(⟨b5,[],v_n⟩ : az)
 let v_i:Int:=3
 (ah (pI v_w) ab (ek,v_q,v_i)).bind fun r10 =>
 let ek:=r10.1
 let v_q:=r10.2.1
 let v_i:=r10.2.2
 some (v_q,ek)
def pJ (v_c:aw) (v_q:az) (st:Int) : Option ((Int)⊕((Int))) :=
 let v_k:=st
 (if (decide (v_k < (v_c.ae.length:Int)))=true then (av v_c.ae v_k).bind fun b10=>some (Op.bytesLess b10.aF.toList v_q.aF.toList) else some false).bind fun q11=>if q11=true then
 let v_k:Int:=(i64.wrap (v_k + 1))
 some (.inl v_k)
 else
 some (.inr v_k)
def pK (v_l:(List ByteArray)) (st:aw×Bool×Int) : Option ((aw×Bool×Int)⊕((aw×Bool×Int)⊕(aw×Int))) :=
 let v_c:=st.1
 let mW:=st.2.1
 let v_i:=st.2.2
 if (decide (v_i < (v_l.length:Int)))=true then
 (av v_l v_i).bind fun b2=>(y6 b2).bind fun c3=>let v_w:(List ByteArray):=c3
 if ((v_w.length:Int)==0)=true then
 let v_i:Int:=(i64.wrap (v_i + 1))
 some (.inl (v_c,mW,v_i))
 else
 if ((v_c.ak.length:Int)==0)=true then
 (av v_w 0).bind fun b4=>if (!(b4.toList==(⟨#[108,97,98,101,108,115]⟩ : ByteArray).toList))=true then
 some (.inr (.inr ((⟨[],[]⟩ : aw),6)))
 else
 if (decide ((v_w.length:Int) > 3))=true then
 some (.inr (.inr ((⟨[],[]⟩ : aw),4)))
 else
 (loO v_w 1).bind fun b5=>(aU ([(⟨#[]⟩ : ByteArray)] : (List ByteArray)) b5).bind fun b6=>let v_c:aw:={ v_c with ak:=b6 }
 let v_i:Int:=(i64.wrap (v_i + 1))
 some (.inl (v_c,mW,v_i))
 else
 (if ((v_c.ae.length:Int)==16)=true then (av v_w 0).bind fun b7=>some (b7.toList==(⟨#[113,117,101,117,101]⟩ : ByteArray).toList) else some false).bind fun q8=>if q8=true then
 some (.inr (.inr ((⟨[],[]⟩ : aw),4)))
 else
 (y8 v_w (v_c.ak.length:Int)).bind fun c9=>let v_q:az:=c9.1
 let ek:Bool:=c9.2
 if (!ek)=true then
 some (.inr (.inr ((⟨[],[]⟩ : aw),6)))
 else
 let v_k:Int:=0
 (ah (pJ v_c v_q) ab v_k).bind fun r12 =>
 let v_k:=r12
 (if mW=true then some true else (if (decide (v_k < (v_c.ae.length:Int)))=true then (av v_c.ae v_k).bind fun b13=>some (b13.aF.toList==v_q.aF.toList) else some false).bind fun q14=>some q14).bind fun q15=>let mW:Bool:=q15
 (hiO v_c.ae v_k).bind fun b16=>(aU ([] : (List az)) b16).bind fun b17=>let v_x:(List az):=b17
 (aU v_x [v_q]).bind fun b18=>(loO v_c.ae v_k).bind fun b19=>(aU b18 b19).bind fun b20=>let v_c:aw:={ v_c with ae:=b20 }
 let v_i:Int:=(i64.wrap (v_i + 1))
 some (.inl (v_c,mW,v_i))
 else
 some (.inr (.inl (v_c,mW,v_i)))
def za (v_s:ByteArray) : Option (aw×Int) :=
 if (decide ((v_s.size:Int) > 2000))=true then
 some ((⟨[],[]⟩ : aw),5)
 else
 let v_c:aw:=(⟨[],[]⟩ : aw)
 let mW:Bool:=false
 (FO v_s 10).bind fun c1=>let v_l:(List ByteArray):=c1
 let v_i:Int:=0
 (ah (pK v_l) ab (v_c,mW,v_i)).bind fun r21=>match r21 with
 | .inr m22=>some m22
 | .inl m22 =>
 let v_c:=m22.1
 let mW:=m22.2.1
 let v_i:=m22.2.2
 if ((v_c.ak.length:Int)==0)=true then
 some ((⟨[],[]⟩ : aw),6)
 else
 if mW=true then
 some ((⟨[],[]⟩ : aw),7)
 else
 some (v_c,0)
def dn:Nat→Int→Option (ByteArray)
 | 0=>fun _=>none
 | fuel + 1=>fun v_n =>
 let self:=dn fuel
 if (decide (v_n < 0))=true then
 if (v_n==(-9223372036854775808))=true then
 some (⟨#[45,57,50,50,51,51,55,50,48,51,54,56,53,52,55,55,53,56,48,56]⟩ : ByteArray)
 else
 (self (i64.wrap (0 - v_n))).bind fun c1=>(me (⟨#[45]⟩ : ByteArray) c1).bind fun b2=>some b2
 else
 if (decide (v_n≥10))=true then
 (self (i64.wrap (Int.tdiv v_n 10))).bind fun c3=>(self (Int.tmod v_n 10)).bind fun c4=>(me c3 c4).bind fun b5=>some b5
 else
 (Xx ([(IntKind.u8.wrap (i64.wrap (48 + v_n)))] : (List Int))).bind fun b6=>some b6
def qU (v_c:aw) (st:ByteArray×Int) : Option ((ByteArray×Int)⊕((ByteArray×Int))) :=
 let al:=st.1
 let v_i:=st.2
 if (decide (v_i < (v_c.ak.length:Int)))=true then
 (me al (⟨#[32]⟩ : ByteArray)).bind fun b1=>(av v_c.ak v_i).bind fun b2=>(me b1 b2).bind fun b3=>let al:ByteArray:=b3
 let v_i:Int:=(i64.wrap (v_i + 1))
 some (.inl (al,v_i))
 else
 some (.inr (al,v_i))
def qS (v_q:az) (st:ByteArray×Int) : Option ((ByteArray×Int)⊕((ByteArray×Int))) :=
 let al:=st.1
 let v_k:=st.2
 if (decide (v_k < (v_q.bl.length:Int)))=true then
 (me al (⟨#[32]⟩ : ByteArray)).bind fun b12=>(av v_q.bl v_k).bind fun b13=>(dn ab b13.kt).bind fun c14=>(me b12 c14).bind fun b15=>(me b15 (⟨#[47]⟩ : ByteArray)).bind fun b16=>(av v_q.bl v_k).bind fun b17=>(dn ab b17.rN).bind fun c18=>(me b16 c18).bind fun b19=>let al:ByteArray:=b19
 let v_k:Int:=(i64.wrap (v_k + 1))
 some (.inl (al,v_k))
 else
 some (.inr (al,v_k))
def qT (v_c:aw) (st:ByteArray×Int) : Option ((ByteArray×Int)⊕((ByteArray×Int))) :=
 let al:=st.1
 let aI:=st.2
 if (decide (aI < (v_c.ae.length:Int)))=true then
 (av v_c.ae aI).bind fun b6=>let v_q:az:=b6
 (me al (⟨#[113,117,101,117,101,32]⟩ : ByteArray)).bind fun b7=>(me b7 v_q.aF).bind fun b8=>(me b8 (⟨#[32]⟩ : ByteArray)).bind fun b9=>(dn ab v_q.cW).bind fun c10=>(me b9 c10).bind fun b11=>let al:ByteArray:=b11
 let v_k:Int:=0
 (ah (qS v_q) ab (al,v_k)).bind fun r20 =>
 let al:=r20.1
 let v_k:=r20.2
 (me al (⟨#[10]⟩ : ByteArray)).bind fun b21=>let al:ByteArray:=b21
 let aI:Int:=(i64.wrap (aI + 1))
 some (.inl (al,aI))
 else
 some (.inr (al,aI))
def y9 (v_c:aw) : Option (ByteArray) :=
 let al:ByteArray:=(⟨#[108,97,98,101,108,115]⟩ : ByteArray)
 let v_i:Int:=1
 (ah (qU v_c) ab (al,v_i)).bind fun r4 =>
 let al:=r4.1
 let v_i:=r4.2
 (me al (⟨#[10]⟩ : ByteArray)).bind fun b5=>let al:ByteArray:=b5
 let aI:Int:=0
 (ah (qT v_c) ab (al,aI)).bind fun r22 =>
 let al:=r22.1
 let aI:=r22.2
 some al
def qX (v_a:aw) (v_b:aw) (st:Int) : Option ((Int)⊕((Int)⊕(Bool))) :=
 let v_i:=st
 if (decide (v_i < (v_a.ak.length:Int)))=true then
 (av v_a.ak v_i).bind fun b2=>(av v_b.ak v_i).bind fun b3=>if (!(b2.toList==b3.toList))=true then
 some (.inr (.inr false))
 else
 let v_i:Int:=(i64.wrap (v_i + 1))
 some (.inl v_i)
 else
 some (.inr (.inl v_i))
def qV (v_x:az) (v_y:az) (st:Int) : Option ((Int)⊕((Int)⊕(Bool))) :=
 let v_k:=st
 if (decide (v_k < (v_x.bl.length:Int)))=true then
 (av v_x.bl v_k).bind fun b12=>(av v_y.bl v_k).bind fun b13=>if (!((b12.kt==b13.kt)&&(b12.rN==b13.rN)))=true then
 some (.inr (.inr false))
 else
 let v_k:Int:=(i64.wrap (v_k + 1))
 some (.inl v_k)
 else
 some (.inr (.inl v_k))
def qW (v_a:aw) (v_b:aw) (st:Int) : Option ((Int)⊕((Int)⊕(Bool))) :=
 let aI:=st
 if (decide (aI < (v_a.ae.length:Int)))=true then
 (av v_a.ae aI).bind fun b6=>(av v_b.ae aI).bind fun b7=>let t8:az:=b6
 let t9:az:=b7
 let v_x:az:=t8
 let v_y:az:=t9
 (if (!(v_x.aF.toList==v_y.aF.toList))=true then some true else some (v_x.cW != v_y.cW)).bind fun q10=>(if q10=true then some true else some ((v_x.bl.length:Int) != (v_y.bl.length:Int))).bind fun q11=>if q11=true then
 some (.inr (.inr false))
 else
 let v_k:Int:=0
 (ah (qV v_x v_y) ab v_k).bind fun r14=>match r14 with
 | .inr m15=>some (.inr (.inr m15))
 | .inl m15 =>
 let v_k:=m15
 let aI:Int:=(i64.wrap (aI + 1))
 some (.inl aI)
 else
 some (.inr (.inl aI))
def DC (v_a:aw) (v_b:aw) : Option (Bool) :=
 (if ((v_a.ak.length:Int) != (v_b.ak.length:Int))=true then some true else some ((v_a.ae.length:Int) != (v_b.ae.length:Int))).bind fun q1=>if q1=true then
 some false
 else
 let v_i:Int:=0
 (ah (qX v_a v_b) ab v_i).bind fun r4=>match r4 with
 | .inr m5=>some m5
 | .inl m5 =>
 let v_i:=m5
 let aI:Int:=0
 (ah (qW v_a v_b) ab aI).bind fun r16=>match r16 with
 | .inr m17=>some m17
 | .inl m17 =>
 let aI:=m17
 some true
def zw:Option (aa) :=
 some (⟨(⟨([(⟨#[]⟩ : ByteArray)] : (List ByteArray)),([(⟨(⟨#[114,111,111,116]⟩ : ByteArray),([(⟨10000,10000⟩ : ei)] : (List ei)),10000⟩ : az)] : (List az))⟩ : aw),[],[],[],[],[],0,0,0⟩ : aa)
def dE (v_s:aa) (v_e:Int) : Option (aa×br) :=
 some (v_s,(⟨v_e,[],[],[],0⟩ : br))
def ju (v_s:aa) (v_c:aw) (st:Int) : Option ((Int)⊕((Int)⊕(aa×br))) :=
 let v_i:=st
 if (decide (v_i < (v_s.bN.ak.length:Int)))=true then
 (av v_c.ak v_i).bind fun b6=>(av v_s.bN.ak v_i).bind fun b7=>if (!(b6.toList==b7.toList))=true then
 (dE v_s 14).bind fun c8=>some (.inr (.inr c8))
 else
 let v_i:Int:=(i64.wrap (v_i + 1))
 some (.inl v_i)
 else
 some (.inr (.inl v_i))
def jt (v_s:aa) (v_c:aw) (st:Int) : Option ((Int)⊕((Int)⊕(aa×br))) :=
 let aI:=st
 if (decide (aI < (v_s.ai.length:Int)))=true then
 (av v_s.ai aI).bind fun b11=>(cX b11).bind fun c12=>(if c12=true then (av v_s.ai aI).bind fun b13=>(jV v_c b13.bF).bind fun c14=>some (!c14) else some false).bind fun q15=>if q15=true then
 (dE v_s 14).bind fun c16=>some (.inr (.inr c16))
 else
 let aI:Int:=(i64.wrap (aI + 1))
 some (.inl aI)
 else
 some (.inr (.inl aI))
def th (v_s:aa) (Y0:ByteArray) : Option (aa×br) :=
 (za Y0).bind fun c1=>let v_c:aw:=c1.1
 let v_e:Int:=c1.2
 (if (v_e==0)=true then
 (uP v_c).bind fun c3=>let v_e:Int:=c3
 some v_e
 else
 some v_e).bind fun j2=>let v_e:=j2
 if (v_e != 0)=true then
 (dE v_s v_e).bind fun c4=>some c4
 else
 if (decide ((v_c.ak.length:Int) < (v_s.bN.ak.length:Int)))=true then
 (dE v_s 14).bind fun c5=>some c5
 else
 let v_i:Int:=0
 (ah (ju v_s v_c) ab v_i).bind fun r9=>match r9 with
 | .inr m10=>some m10
 | .inl m10 =>
 let v_i:=m10
 let aI:Int:=0
 (ah (jt v_s v_c) ab aI).bind fun r17=>match r17 with
 | .inr m18=>some m18
 | .inl m18 =>
 let aI:=m18
 let v_s:aa:={ v_s with bN:=v_c }
 some (v_s,(⟨0,[],[],[],0⟩ : br))
def oS (v_s:aa) (ct:Int) (st:(List Int)×Int) : Option (((List Int)×Int)⊕(((List Int)×Int))) :=
 let v_l:=st.1
 let v_i:=st.2
 if (decide (v_i < (v_s.ac.length:Int)))=true then
 (av v_s.ac v_i).bind fun b1=>if (b1.bG==ct)=true then
 (av v_s.ac v_i).bind fun b2=>(aU v_l [b2.fId]).bind fun b3=>let v_l:(List Int):=b3
 let v_i:Int:=(i64.wrap (v_i + 1))
 some (.inl (v_l,v_i))
 else
 let v_i:Int:=(i64.wrap (v_i + 1))
 some (.inl (v_l,v_i))
 else
 some (.inr (v_l,v_i))
def xI (v_s:aa) (ct:Int) : Option ((List Int)) :=
 let v_l:(List Int):=[]
 let v_i:Int:=0
 (ah (oS v_s ct) ab (v_l,v_i)).bind fun r4 =>
 let v_l:=r4.1
 let v_i:=r4.2
 some v_l
def lz (v_x:aJ) (v_t:aa) (st:(List Int)×Int) : Option (((List Int)×Int)⊕(((List Int)×Int))) :=
 let cj:=st.1
 let v_i:=st.2
 if (decide (v_i < (v_x.fW.length:Int)))=true then
 (av v_x.fW v_i).bind fun b7=>(eL v_t b7).bind fun c8=>let v_c:am:=c8.1
 let yg:Bool:=c8.2
 (if yg=true then some (v_c.bG==v_x.fId) else some false).bind fun q9=>if q9=true then
 (aU cj [v_c.fId]).bind fun b10=>let cj:(List Int):=b10
 let v_i:Int:=(i64.wrap (v_i + 1))
 some (.inl (cj,v_i))
 else
 let v_i:Int:=(i64.wrap (v_i + 1))
 some (.inl (cj,v_i))
 else
 some (.inr (cj,v_i))
def zv (v_s:aa) (v_x:aJ) : Option (aa×br) :=
 (nc v_s v_x.fId).bind fun c1=>let v_n:aX:=c1.1
 let bS:Bool:=c1.2
 (if bS=true then some v_n.fUp else some false).bind fun q2=>(if q2=true then some (v_n.ce==v_x.ce) else some false).bind fun q3=>if q3=true then
 (xI v_s v_x.fId).bind fun c4=>some (v_s,(⟨0,[],c4,[],0⟩ : br))
 else
 (Dy v_s v_x.fId v_x.ce).bind fun c5=>let v_t:aa:=c5.1
 let v_e:Int:=c5.2
 if (v_e != 0)=true then
 (dE v_s v_e).bind fun c6=>some c6
 else
 let cj:(List Int):=[]
 let v_i:Int:=0
 (ah (lz v_x v_t) ab (cj,v_i)).bind fun r11 =>
 let cj:=r11.1
 let v_i:=r11.2
 (jg v_t cj).bind fun c12=>let v_t:aa:=c12
 (p8 v_t v_x.fId).bind fun c13=>let v_t:aa:=c13.1
 (xI v_t v_x.fId).bind fun c14=>some (v_t,(⟨0,[],c14,[],0⟩ : br))
def jX (cj:(List Int)) (v_s:aa) (st:(List am)×Int) : Option (((List am)×Int)⊕(((List am)×Int))) :=
 let v_l:=st.1
 let v_i:=st.2
 if (decide (v_i < (cj.length:Int)))=true then
 (av cj v_i).bind fun b1=>(eL v_s b1).bind fun c2=>let v_c:am:=c2.1
 let bS:Bool:=c2.2
 if bS=true then
 (aU v_l [v_c]).bind fun b3=>let v_l:(List am):=b3
 let v_i:Int:=(i64.wrap (v_i + 1))
 some (.inl (v_l,v_i))
 else
 let v_i:Int:=(i64.wrap (v_i + 1))
 some (.inl (v_l,v_i))
 else
 some (.inr (v_l,v_i))
def sa (v_s:aa) (cj:(List Int)) : Option ((List am)) :=
 let v_l:(List am):=[]
 let v_i:Int:=0
 (ah (jX cj v_s) ab (v_l,v_i)).bind fun r4 =>
 let v_l:=r4.1
 let v_i:=r4.2
 some v_l
def iI (v_s:aa) (eW:Int) (st:(List Int)×Int) : Option (((List Int)×Int)⊕(((List Int)×Int))) :=
 let v_l:=st.1
 let v_i:=st.2
 if (decide (v_i < (v_s.ac.length:Int)))=true then
 (av v_s.ac v_i).bind fun b1=>(if (b1.bC==eW)=true then (av v_s.ac v_i).bind fun b2=>some (b2.jm != 0) else some false).bind fun q3=>if q3=true then
 (av v_s.ac v_i).bind fun b4=>(aU v_l [b4.fId]).bind fun b5=>let v_l:(List Int):=b5
 let v_i:Int:=(i64.wrap (v_i + 1))
 some (.inl (v_l,v_i))
 else
 let v_i:Int:=(i64.wrap (v_i + 1))
 some (.inl (v_l,v_i))
 else
 some (.inr (v_l,v_i))
def nP (v_s:aa) (eW:Int) : Option ((List Int)) :=
 let v_l:(List Int):=[]
 let v_i:Int:=0
 (ah (iI v_s eW) ab (v_l,v_i)).bind fun r6 =>
 let v_l:=r6.1
 let v_i:=r6.2
 some v_l
def jW (kj:(List aL)) (v_s:aa) (st:(List aL)×Int) : Option (((List aL)×Int)⊕(((List aL)×Int)⊕((List aL)×Int))) :=
 let v_l:=st.1
 let v_i:=st.2
 if (decide (v_i < (kj.length:Int)))=true then
 (av kj v_i).bind fun b1=>(pB b1 (v_s.bN.ak.length:Int)).bind fun c2=>let v_e:Int:=c2
 if (v_e != 0)=true then
 some (.inr (.inr ([],v_e)))
 else
 (av kj v_i).bind fun b3=>(FD v_l b3).bind fun c4=>let v_l:(List aL):=c4.1
 let v_e:Int:=c4.2
 if (v_e != 0)=true then
 some (.inr (.inr ([],v_e)))
 else
 let v_i:Int:=(i64.wrap (v_i + 1))
 some (.inl (v_l,v_i))
 else
 some (.inr (.inl (v_l,v_i)))
def vL (v_s:aa) (v_l:(List aL)) (kj:(List aL)) : Option ((List aL)×Int) :=
 let v_i:Int:=0
 (ah (jW kj v_s) ab (v_l,v_i)).bind fun r5=>match r5 with
 | .inr m6=>some m6
 | .inl m6 =>
 let v_l:=m6.1
 let v_i:=m6.2
 some (v_l,0)
def jr (v_x:aJ) (st:aa×aq×Int) : Option ((aa×aq×Int)⊕((aa×aq×Int))) :=
 let v_s:=st.1
 let v_a:=st.2.1
 let v_i:=st.2.2
 if (decide (v_i < (v_x.fW.length:Int)))=true then
 (av v_x.fW v_i).bind fun b11=>(eL v_s b11).bind fun c12=>let v_c:am:=c12.1
 let yg:Bool:=c12.2
 (if yg=true then some (v_c.bC==v_a.fId) else some false).bind fun q13=>(if q13=true then some (!v_c.bB) else some false).bind fun q14=>if q14=true then
 (qa v_s v_c.fId).bind fun c15=>let v_s:aa:=c15
 (je v_a.bM v_c.fId).bind fun c16=>let v_a:aq:={ v_a with bM:=c16.1 }
 let v_i:Int:=(i64.wrap (v_i + 1))
 some (.inl (v_s,v_a,v_i))
 else
 let v_i:Int:=(i64.wrap (v_i + 1))
 some (.inl (v_s,v_a,v_i))
 else
 some (.inr (v_s,v_a,v_i))
def tg (v_s:aa) (v_x:aJ) : Option (aa×br) :=
 (dV v_s v_x.fId).bind fun c1=>let v_a:aq:=c1.1
 let bS:Bool:=c1.2
 if (!bS)=true then
 (dE v_s 2).bind fun c2=>some c2
 else
 if (v_a.cw != 2)=true then
 (dE v_s 14).bind fun c3=>some c3
 else
 if (decide (v_x.ce < v_a.ce))=true then
 (dE v_s 15).bind fun c4=>some c4
 else
 if (v_x.ce==v_a.ce)=true then
 (sa v_s v_a.jH).bind fun c5=>(nP v_s v_a.fId).bind fun c6=>(aU ([] : (List Int)) v_a.jP).bind fun b7=>some (v_s,(⟨0,c5,c6,b7,0⟩ : br))
 else
 if (decide ((i64.wrap (v_x.ce - 1)) > v_a.ce))=true then
 (dE v_s 1).bind fun c8=>some c8
 else
 (vL v_s v_a.bE v_x.bE).bind fun c9=>let v_l:(List aL):=c9.1
 let v_e:Int:=c9.2
 if (v_e != 0)=true then
 (dE v_s v_e).bind fun c10=>some c10
 else
 let v_i:Int:=0
 (ah (jr v_x) ab (v_s,v_a,v_i)).bind fun r17 =>
 let v_s:=r17.1
 let v_a:=r17.2.1
 let v_i:=r17.2.2
 (sa v_s v_a.bM).bind fun c18=>(nP v_s v_a.fId).bind fun c19=>(aU ([] : (List Int)) v_a.dj).bind fun b20=>let v_o:br:=(⟨0,c18,c19,b20,0⟩ : br)
 let t21:(List aL):=v_l
 let t22:Int:=v_s.bW
 let t23:Int:=v_x.ce
 let v_a:aq:={ v_a with bE:=t21 }
 let v_a:aq:={ v_a with bL:=t22 }
 let v_a:aq:={ v_a with ce:=t23 }
 let t24:(List Int):=v_a.bM
 let t25:(List Int):=v_a.dj
 let t26:(List Int):=[]
 let t27:(List Int):=[]
 let v_a:aq:={ v_a with jH:=t24 }
 let v_a:aq:={ v_a with jP:=t25 }
 let v_a:aq:={ v_a with bM:=t26 }
 let v_a:aq:={ v_a with dj:=t27 }
 (eb v_s v_a).bind fun c28=>some (c28,v_o)
def zp (v_s:aa) (bA:Int) (I8:Int) : Option (aa×br) :=
 (dV v_s bA).bind fun c1=>let v_a:aq:=c1.1
 let bS:Bool:=c1.2
 if (!bS)=true then
 (dE v_s 2).bind fun c2=>some c2
 else
 (cX v_a).bind fun c3=>if (!c3)=true then
 (dE v_s 14).bind fun c4=>some c4
 else
 (KQ v_s bA I8).bind fun c5=>let v_t:aa:=c5.1
 let jI:(List Int):=c5.2
 some (v_t,(⟨0,[],[],jI,0⟩ : br))
def ly (v_s:aa) (eW:Int) (st:Int) : Option ((Int)⊕((Int)⊕(Int))) :=
 let v_i:=st
 if (decide (v_i < (v_s.ac.length:Int)))=true then
 (av v_s.ac v_i).bind fun b1=>(if (b1.bC==eW)=true then (av v_s.ac v_i).bind fun b2=>some b2.bB else some false).bind fun q3=>if q3=true then
 (av v_s.ac v_i).bind fun b4=>some (.inr (.inr b4.fId))
 else
 let v_i:Int:=(i64.wrap (v_i + 1))
 some (.inl v_i)
 else
 some (.inr (.inl v_i))
def uT (v_s:aa) (eW:Int) : Option (Int) :=
 let v_i:Int:=0
 (ah (ly v_s eW) ab v_i).bind fun r5=>match r5 with
 | .inr m6=>some m6
 | .inl m6 =>
 let v_i:=m6
 some (-1)
def lx (v_l:(List Int)) (st:aa×Int) : Option ((aa×Int)⊕((aa×Int))) :=
 let v_s:=st.1
 let v_i:=st.2
 if (decide (v_i < (v_l.length:Int)))=true then
 (av v_l v_i).bind fun b5=>(yY v_s b5).bind fun c6=>(av v_l v_i).bind fun b7=>(fF c6 b7).bind fun c8=>let v_s:aa:=c8
 (av v_l v_i).bind fun b9=>(xI v_s b9).bind fun c10=>(jg v_s c10).bind fun c11=>let v_s:aa:=c11
 let v_i:Int:=(i64.wrap (v_i + 1))
 some (.inl (v_s,v_i))
 else
 some (.inr (v_s,v_i))
def lw (v_l:(List Int)) (st:aa×Int) : Option ((aa×Int)⊕((aa×Int))) :=
 let v_s:=st.1
 let aI:=st.2
 if (decide (aI < (v_l.length:Int)))=true then
 (av v_l aI).bind fun b14=>(uT v_s b14).bind fun c15=>(jg v_s ([c15] : (List Int))).bind fun c16=>let v_s:aa:=c16
 let aI:Int:=(i64.wrap (aI + 1))
 some (.inl (v_s,aI))
 else
 some (.inr (v_s,aI))
def lu (v_s:aa) (st:(List a7)×Int) : Option (((List a7)×Int)⊕(((List a7)×Int))) :=
 let yd:=st.1
 let oB:=st.2
 if (decide (oB < (v_s.bg.length:Int)))=true then
 (av v_s.bg oB).bind fun b18=>if (decide (b18.jJ > v_s.bW))=true then
 (av v_s.bg oB).bind fun b19=>(aU yd [b19]).bind fun b20=>let yd:(List a7):=b20
 let oB:Int:=(i64.wrap (oB + 1))
 some (.inl (yd,oB))
 else
 let oB:Int:=(i64.wrap (oB + 1))
 some (.inl (yd,oB))
 else
 some (.inr (yd,oB))
def zo (v_s:aa) (v_n:Int) : Option (aa×br) :=
 (if (decide (v_n < 1))=true then some true else some (decide (v_n > 100))).bind fun q1=>if q1=true then
 (dE v_s 1).bind fun c2=>some c2
 else
 if (decide ((i64.wrap (v_s.bW + v_n)) > 1000000000))=true then
 (dE v_s 11).bind fun c3=>some c3
 else
 let kO:aa:=v_s
 let v_s:aa:={ v_s with bW:=(i64.wrap (v_s.bW + v_n)) }
 (vF v_s).bind fun c4=>let v_l:(List Int):=c4
 let v_i:Int:=0
 (ah (lx v_l) ab (v_s,v_i)).bind fun r12 =>
 let v_s:=r12.1
 let v_i:=r12.2
 (p9 v_s).bind fun c13=>let v_l:(List Int):=c13
 let aI:Int:=0
 (ah (lw v_l) ab (v_s,aI)).bind fun r17 =>
 let v_s:=r17.1
 let aI:=r17.2
 let yd:(List a7):=[]
 let oB:Int:=0
 (ah (lu v_s) ab (yd,oB)).bind fun r21 =>
 let yd:=r21.1
 let oB:=r21.2
 let v_s:aa:={ v_s with bg:=yd }
 (vN v_s).bind fun c22=>let v_s:aa:=c22.1
 (uW kO v_s).bind fun c23=>some (v_s,(⟨0,[],[],c23,0⟩ : br))
def sd (v_s:aa) (v_x:aJ) : Option (aa×br) :=
 if (v_x.g6==1)=true then
 (th v_s v_x.Md).bind fun c1=>some c1
 else
 if (v_x.g6==2)=true then
 (qG v_s v_x.bG).bind fun c2=>let v_t:aa:=c2.1
 let v_e:Int:=c2.2
 some (v_t,(⟨v_e,[],[],[],0⟩ : br))
 else
 if (v_x.g6==3)=true then
 (zv v_s v_x).bind fun c3=>some c3
 else
 if (v_x.g6==4)=true then
 (tp v_s v_x.bC).bind fun c4=>let aao:aa:=c4.1
 let aar:Int:=c4.2
 some (aao,(⟨aar,[],[],[],0⟩ : br))
 else
 if (v_x.g6==5)=true then
 (tg v_s v_x).bind fun c5=>some c5
 else
 if (v_x.g6==6)=true then
 (zp v_s v_x.fId 3).bind fun c6=>some c6
 else
 if (v_x.g6==7)=true then
 (zp v_s v_x.fId 4).bind fun c7=>some c7
 else
 if (v_x.g6==8)=true then
 (zo v_s v_x.fN).bind fun c8=>some c8
 else
 if (v_x.g6==9)=true then
 (zI v_s v_x.pv v_x.fN).bind fun c9=>let aan:aa:=c9.1
 let v_n:Int:=c9.2.1
 let aaq:Int:=c9.2.2
 some (aan,(⟨aaq,[],[],[],v_n⟩ : br))
 else
 if (v_x.g6==10)=true then
 (uZ v_s v_x.fId).bind fun c10=>let aam:aa:=c10.1
 let aap:Int:=c10.2
 some (aam,(⟨aap,[],[],[],0⟩ : br))
 else
 if (v_x.g6==11)=true then
 if (decide (v_s.pw≥1048576))=true then
 (dE v_s 11).bind fun c11=>some c11
 else
 let t12:Int:=(i64.wrap (v_s.pw + 1))
 let t13:Int:=0
 let v_s:aa:={ v_s with pw:=t12 }
 let v_s:aa:={ v_s with rM:=t13 }
 some (v_s,(⟨0,[],[],[],0⟩ : br))
 else
 (dE v_s 3).bind fun c14=>some c14
def pN (v_a:(List Int)) (v_b:(List Int)) (st:Int) : Option ((Int)⊕((Int)⊕(Bool))) :=
 let v_i:=st
 if (decide (v_i < (v_a.length:Int)))=true then
 (av v_a v_i).bind fun b1=>(av v_b v_i).bind fun b2=>if (b1 != b2)=true then
 some (.inr (.inr false))
 else
 let v_i:Int:=(i64.wrap (v_i + 1))
 some (.inl v_i)
 else
 some (.inr (.inl v_i))
def pO (v_a:(List Int)) (v_b:(List Int)) : Option (Bool) :=
 if ((v_a.length:Int) != (v_b.length:Int))=true then
 some false
 else
 let v_i:Int:=0
 (ah (pN v_a v_b) ab v_i).bind fun r3=>match r3 with
 | .inr m4=>some m4
 | .inl m4 =>
 let v_i:=m4
 some true
def qZ (v_a:aq) (v_b:aq) (st:Int) : Option ((Int)⊕((Int)⊕(Bool))) :=
 let v_i:=st
 if (decide (v_i < (v_a.bE.length:Int)))=true then
 (av v_a.bE v_i).bind fun b9=>(av v_b.bE v_i).bind fun b10=>if (!((b9.bu==b10.bu)&&((b9.aY==b10.aY)&&((b9.cC.bD==b10.cC.bD)&&((b9.cC.bj==b10.cC.bj)&&((b9.fX==b10.fX)&&((b9.bG==b10.bG)&&((b9.eR==b10.eR)&&(b9.gM==b10.gM)))))))))=true then
 some (.inr (.inr false))
 else
 let v_i:Int:=(i64.wrap (v_i + 1))
 some (.inl v_i)
 else
 some (.inr (.inl v_i))
def DD (v_a:aq) (v_b:aq) : Option (Bool) :=
 (if (v_a.fId != v_b.fId)=true then some true else some (v_a.cw != v_b.cw)).bind fun q1=>(if q1=true then some true else some (!(v_a.bF.toList==v_b.bF.toList))).bind fun q2=>(if q2=true then some true else some (v_a.cW != v_b.cW)).bind fun q3=>(if q3=true then some true else some (v_a.bu != v_b.bu)).bind fun q4=>(if q4=true then some true else some (!((v_a.bB.bD==v_b.bB.bD)&&(v_a.bB.bj==v_b.bB.bj)))).bind fun q5=>(if q5=true then some true else some (v_a.bL != v_b.bL)).bind fun q6=>(if q6=true then some true else some (v_a.ce != v_b.ce)).bind fun q7=>(if q7=true then some true else some ((v_a.bE.length:Int) != (v_b.bE.length:Int))).bind fun q8=>if q8=true then
 some false
 else
 let v_i:Int:=0
 (ah (qZ v_a v_b) ab v_i).bind fun r11=>match r11 with
 | .inr m12=>some m12
 | .inl m12 =>
 let v_i:=m12
 (pO v_a.bM v_b.bM).bind fun c13=>(if c13=true then (pO v_a.dj v_b.dj).bind fun c14=>some c14 else some false).bind fun q15=>(if q15=true then (pO v_a.jH v_b.jH).bind fun c16=>some c16 else some false).bind fun q17=>(if q17=true then (pO v_a.jP v_b.jP).bind fun c18=>some c18 else some false).bind fun q19=>some q19
def pU (v_a:aa) (v_b:aa) (st:Bool×Int) : Option ((Bool×Int)⊕((Bool×Int))) :=
 let ek:=st.1
 let v_i:=st.2
 if (decide (v_i < (v_a.aB.length:Int)))=true then
 (if ek=true then (av v_a.aB v_i).bind fun b10=>(av v_b.aB v_i).bind fun b11=>some ((b10.fId==b11.fId)&&((b10.aY==b11.aY)&&((b10.eR==b11.eR)&&((b10.kJ.bD==b11.kJ.bD)&&((b10.kJ.bj==b11.kJ.bj)&&((b10.bL==b11.bL)&&((b10.ce==b11.ce)&&(b10.fUp==b11.fUp)))))))) else some false).bind fun q12=>let ek:Bool:=q12
 let v_i:Int:=(i64.wrap (v_i + 1))
 some (.inl (ek,v_i))
 else
 some (.inr (ek,v_i))
def pT (v_a:aa) (v_b:aa) (st:Bool×Int) : Option ((Bool×Int)⊕((Bool×Int))) :=
 let ek:=st.1
 let aI:=st.2
 if (decide (aI < (v_a.ai.length:Int)))=true then
 (if ek=true then (av v_a.ai aI).bind fun b14=>(av v_b.ai aI).bind fun b15=>(DD b14 b15).bind fun c16=>some c16 else some false).bind fun q17=>let ek:Bool:=q17
 let aI:Int:=(i64.wrap (aI + 1))
 some (.inl (ek,aI))
 else
 some (.inr (ek,aI))
def pR (v_a:aa) (v_b:aa) (st:Bool×Int) : Option ((Bool×Int)⊕((Bool×Int))) :=
 let ek:=st.1
 let oB:=st.2
 if (decide (oB < (v_a.ac.length:Int)))=true then
 (if ek=true then (av v_a.ac oB).bind fun b19=>(av v_b.ac oB).bind fun b20=>some ((b19.fId==b20.fId)&&((b19.bC==b20.bC)&&((b19.bG==b20.bG)&&((b19.cC.bD==b20.cC.bD)&&((b19.cC.bj==b20.cC.bj)&&((b19.bu==b20.bu)&&((b19.aY==b20.aY)&&((b19.bB==b20.bB)&&(b19.jm==b20.jm))))))))) else some false).bind fun q21=>let ek:Bool:=q21
 let oB:Int:=(i64.wrap (oB + 1))
 some (.inl (ek,oB))
 else
 some (.inr (ek,oB))
def pQ (v_a:aa) (v_b:aa) (st:Bool×Int) : Option ((Bool×Int)⊕((Bool×Int))) :=
 let ek:=st.1
 let GL:=st.2
 if (decide (GL < (v_a.aQ.length:Int)))=true then
 (if ek=true then (av v_a.aQ GL).bind fun b23=>(av v_b.aQ GL).bind fun b24=>some ((b23.bG==b24.bG)&&((b23.bC==b24.bC)&&(b23.bu==b24.bu))) else some false).bind fun q25=>let ek:Bool:=q25
 let GL:Int:=(i64.wrap (GL + 1))
 some (.inl (ek,GL))
 else
 some (.inr (ek,GL))
def pP (v_a:aa) (v_b:aa) (st:Bool×Int) : Option ((Bool×Int)⊕((Bool×Int))) :=
 let ek:=st.1
 let GH:=st.2
 if (decide (GH < (v_a.bg.length:Int)))=true then
 (if ek=true then (av v_a.bg GH).bind fun b27=>(av v_b.bg GH).bind fun b28=>some ((b27.fId==b28.fId)&&((b27.aY==b28.aY)&&((b27.nG==b28.nG)&&((b27.jJ==b28.jJ)&&((b27.iH.bD==b28.iH.bD)&&(b27.iH.bj==b28.iH.bj)))))) else some false).bind fun q29=>let ek:Bool:=q29
 let GH:Int:=(i64.wrap (GH + 1))
 some (.inl (ek,GH))
 else
 some (.inr (ek,GH))
def uU (v_a:aa) (v_b:aa) : Option (Bool) :=
 (DC v_a.bN v_b.bN).bind fun c1=>(if (!c1)=true then some true else some (v_a.bW != v_b.bW)).bind fun q2=>(if q2=true then some true else some (v_a.pw != v_b.pw)).bind fun q3=>(if q3=true then some true else some (v_a.rM != v_b.rM)).bind fun q4=>(if q4=true then some true else some ((v_a.aB.length:Int) != (v_b.aB.length:Int))).bind fun q5=>(if q5=true then some true else some ((v_a.ai.length:Int) != (v_b.ai.length:Int))).bind fun q6=>(if q6=true then some true else some ((v_a.ac.length:Int) != (v_b.ac.length:Int))).bind fun q7=>(if q7=true then some true else some ((v_a.aQ.length:Int) != (v_b.aQ.length:Int))).bind fun q8=>(if q8=true then some true else some ((v_a.bg.length:Int) != (v_b.bg.length:Int))).bind fun q9=>if q9=true then
 some false
 else
 let ek:Bool:=true
 let v_i:Int:=0
 (ah (pU v_a v_b) ab (ek,v_i)).bind fun r13 =>
 let ek:=r13.1
 let v_i:=r13.2
 let aI:Int:=0
 (ah (pT v_a v_b) ab (ek,aI)).bind fun r18 =>
 let ek:=r18.1
 let aI:=r18.2
 let oB:Int:=0
 (ah (pR v_a v_b) ab (ek,oB)).bind fun r22 =>
 let ek:=r22.1
 let oB:=r22.2
 let GL:Int:=0
 (ah (pQ v_a v_b) ab (ek,GL)).bind fun r26 =>
 let ek:=r26.1
 let GL:=r26.2
 let GH:Int:=0
 (ah (pP v_a v_b) ab (ek,GH)).bind fun r30 =>
 let ek:=r30.1
 let GH:=r30.2
 some ek
def Uc:Ent:=⟨[.lf (.int .i64)],[.lf (.bool)],fun x=>zh x.1⟩
theorem Ub:EOk prog 194 Uc:=aE .n [] [] [] .nil Tryz.mixed Tryz.func194
def WP:Ent:=⟨[.ag 0],[.lf (.bool)],fun x=>tf x.1⟩
theorem M7:EOk prog 191 WP:=aE .n [] [] [] (.cons Ub .nil) Tryz.mixed Tryz.func191
def Uh:Ent:=⟨[.ag 0,.ag 0],[.lf (.bool)],fun x=>fL x.1 x.2.1⟩
theorem o8:EOk prog 149 Uh:=aE .n [] [] [] .nil Tryz.mixed Tryz.func149
def Ug:Ent:=⟨[.ag 0,.ag 0],[.ag 0],fun x=>vK x.1 x.2.1⟩
theorem IY:EOk prog 171 Ug:=aE .n [] [4] [] .nil Tryz.mixed Tryz.func171
def Ua:Ent:=⟨[.lf (.int .i64),.lf (.int .i64)],[.lf (.int .i64),.lf (.int .i64)],fun x=>ze x.1 x.2.1⟩
theorem T9:EOk prog 198 Ua:=aE .n [] [] [] .nil Tryz.mixed Tryz.func198
def PQ:Ent:=⟨[.ag 17,.ag 17],[.lf (.int .i64)],fun x=>pM x.1 x.2.1⟩
theorem FQ:EOk prog 196 PQ:=aE (.s .n (.s (.s .n (.j [.box 2 243 17 []] .n)) (.s (.s .n (.j [.box 3 243 17 []] .n)) .n))) [] [] [] (.cons T9 .nil) Tryz.mixed Tryz.func196
def Ue:Ent:=⟨[.ag 0,.ag 0],[.ag 17],fun x=>zi x.1 x.2.1⟩
theorem Ud:EOk prog 197 Ue:=aE .n [] [4] [] (.cons FQ .nil) Tryz.mixed Tryz.func197
def PX:Ent:=⟨[.ag 0,.ag 0,.ag 0,.ag 0],[.lf (.int .i64)],fun x=>zj x.1 x.2.1 x.2.2.1 x.2.2.2.1⟩
theorem PW:EOk prog 195 PX:=aE .n [] [] [] (.cons M7 (.cons Ud (.cons FQ .nil))) Tryz.mixed Tryz.func195
def Uf:Ent:=⟨[.ag 0,.ag 0],[.ag 0],fun x=>dc x.1 x.2.1⟩
theorem iz:EOk prog 126 Uf:=aE .n [] [4] [] .nil Tryz.mixed Tryz.func126
def PO:Ent:=⟨[.lf (.int .i64),.lf (.int .i64)],[.lf (.int .i64)],fun x=>uQ x.1 x.2.1⟩
theorem PN:EOk prog 192 PO:=aE .n [] [] [] .nil Tryz.mixed Tryz.func192
def PU:Ent:=⟨[.ag 0,.lf (.int .i64)],[.ag 0,.lf (.int .i64)],fun x=>uR x.1 x.2.1⟩
theorem FR:EOk prog 187 PU:=aE .n [] [4] [] (.cons M7 (.cons PN .nil)) Tryz.mixed Tryz.func187
def T3:Ent:=⟨[.lf (.str)],[.lf (.bool)],fun x=>vI x.1⟩
theorem IT:EOk prog 135 T3:=aE (.s .n (.s .n (.s (.s .n (.s (.lp [.leaf 3 (.int .i64)] 0 true .n) .n)) .n))) [] [] [] .nil Tryz.mixed Tryz.func135
def MW:Ent:=⟨[.ag 5],[.lf (.int .i64)],fun x=>rX x.1⟩
theorem MT:EOk prog 114 MW:=aE (.s .n (.s .n (.s .n (.s (.s .n (.s (.lp [.leaf 3 (.int .i64)] 0 true .n) .n)) (.s (.s .n (.s (.lp [.leaf 4 (.int .i64)] 2 true (.s .n (.s (.s (.s .n (.s (.lp [.leaf 5 (.int .i64)] 4 true .n) .n)) .n) .n))) .n)) .n))))) [] [] [] (.cons IT .nil) Tryz.mixed Tryz.func114
def MY:Ent:=⟨[.lf (.str)],[.lf (.bool)],fun x=>vH x.1⟩
theorem MX:EOk prog 136 MY:=aE (.s .n (.s .n (.s (.s .n (.s (.lp [.leaf 3 (.int .i64),.leaf 4 (.int .i64),.leaf 5 (.int .i64)] 0 true .n) .n)) .n))) [] [] [] (.cons IT .nil) Tryz.mixed Tryz.func136
def Pz:Ent:=⟨[.lf (.str)],[.lf (.str)],fun x=>dQ x.1⟩
theorem xF:EOk prog 102 Pz:=aE (.s .n (.s .n (.s (.s (.lp [.leaf 3 (.int .i64)] 0 false .n) .n) .n))) [] [] [] .nil Tryz.mixed Tryz.func102
def T6:Ent:=⟨[.ag 5,.lf (.str)],[.ag 4,.lf (.bool)],fun x=>jq x.1 x.2.1⟩
theorem rZ:EOk prog 60 T6:=aE (.s .n (.s (.s .n (.s (.lp [.leaf 6 (.int .i64)] 0 true .n) .n)) .n)) [] [4] [] .nil Tryz.mixed Tryz.func60
def Py:Ent:=⟨[.ag 5,.lf (.int .i64)],[.lf (.int .i64)],fun x=>uN x.1 x.2.1⟩
theorem Px:EOk prog 115 Py:=aE (.s .n (.s .n (.s .n (.s .n (.s .n (.s .n (.s .n (.s (.s .n (.s (.lp [.leaf 8 (.int .i64)] 0 true .n) .n)) .n)))))))) [] [] [] (.cons MX (.cons xF (.cons rZ .nil))) Tryz.mixed Tryz.func115
def IU:Ent:=⟨[.ag 5,.lf (.str)],[.lf (.sl (.str))],fun x=>ff x.1 x.2.1⟩
theorem vJ:EOk prog 55 IU:=aE (.s .n (.s .n (.s (.s .n (.s (.lp [.row 5 5 9 1 (.str),.leaf 6 (.int .i64)] 0 false .n) .n)) .n))) [] [] [] (.cons xF .nil) Tryz.mixed Tryz.func55
def T2:Ent:=⟨[.ag 5],[.lf (.bool)],fun x=>DB x.1⟩
theorem T1:EOk prog 116 T2:=aE (.s .n (.s (.s .n (.s (.lp [.leaf 3 (.int .i64)] 0 true (.s .n (.s (.s (.s .n (.s .n (.s (.lp [.leaf 5 (.int .i64)] 2 true (.s .n (.s (.s (.s .n (.s (.s .n (.s (.lp [.leaf 6 (.int .i64),.leaf 7 (.int .i64)] 4 false .n) .n)) .n)) .n) .n))) .n))) .n) .n))) .n)) .n)) [] [] [] (.cons vJ (.cons rZ .nil)) Tryz.mixed Tryz.func116
def PB:Ent:=⟨[.ag 5],[.lf (.int .i64)],fun x=>uP x.1⟩
theorem PA:EOk prog 79 PB:=aE (.s .n (.s .n (.s .n (.s (.s .n (.s (.lp [.leaf 3 (.int .i64)] 0 true .n) .n)) (.s (.s .n (.s (.lp [.leaf 4 (.int .i64)] 2 true .n) .n)) .n))))) [] [] [] (.cons MT (.cons Px (.cons T1 .nil))) Tryz.mixed Tryz.func79
def T4:Ent:=⟨[.ag 5,.lf (.str)],[.lf (.bool)],fun x=>jV x.1 x.2.1⟩
theorem Bv:EOk prog 30 T4:=aE .n [] [] [] (.cons rZ (.cons vJ .nil)) Tryz.mixed Tryz.func30
def Yz:Ent:=⟨[.lf (.str)],[.lf (.sl (.str))],fun x=>y5 x.1⟩
theorem Kp:EOk prog 173 Yz:=aE (.s .n (.s .n (.s (.s (.lp [.row 3 3 9 1 (.str),.leaf 0 (.str)] 0 false .n) .n) .n))) [] [] [] (.cons xF .nil) Tryz.mixed Tryz.func173
def T0:Ent:=⟨[.ag 12,.lf (.int .i64)],[.ag 0],fun x=>tb x.1 x.2.1⟩
theorem TZ:EOk prog 175 T0:=aE (.s .n (.s .n (.s (.s .n (.s (.lp [.box 5 27 0 [],.leaf 6 (.int .i64)] 0 false .n) .n)) .n))) [] [4] [] (.cons iz .nil) Tryz.mixed Tryz.func175
def Pu:Ent:=⟨[.ag 12,.lf (.int .i64)],[.ag 0],fun x=>iY x.1 x.2.1⟩
theorem pC:EOk prog 101 Pu:=aE (.s .n (.s .n (.s (.s .n (.s (.lp [.box 5 27 0 [],.leaf 6 (.int .i64)] 0 false .n) .n)) .n))) [] [4] [] (.cons iz .nil) Tryz.mixed Tryz.func101
def TW:Ent:=⟨[.ag 12,.lf (.str),.lf (.int .i64),.lf (.bool)],[.ag 0],fun x=>ta x.1 x.2.1 x.2.2.1 x.2.2.2.1⟩
theorem IP:EOk prog 183 TW:=aE (.s .n (.s .n (.s .n (.s .n (.s .n (.s (.s .n (.s (.lp [.box 11 27 0 [],.leaf 13 (.int .i64)] 0 false (.s .n (.s (.s (.s .n (.s .n (.s (.s .n (.j [.leaf 16 (.int .i64)] .n)) .n))) .n) .n))) .n)) .n)))))) [] [8] [] (.cons rZ (.cons pC (.cons Kp (.cons FR .nil)))) Tryz.mixed Tryz.func183
def FK:Ent:=⟨[.ag 12,.lf (.str),.lf (.int .i64)],[.ag 0],fun x=>lq x.1 x.2.1 x.2.2.1⟩
theorem pD:EOk prog 164 FK:=aE .n [] [6] [] (.cons IP .nil) Tryz.mixed Tryz.func164
def IR:Ent:=⟨[.ag 12,.lf (.str),.lf (.int .i64)],[.ag 0],fun x=>vG x.1 x.2.1 x.2.2.1⟩
theorem IQ:EOk prog 174 IR:=aE .n [] [6] [] (.cons IP .nil) Tryz.mixed Tryz.func174
def TY:Ent:=⟨[.ag 12,.lf (.str),.lf (.int .i64)],[.ag 0],fun x=>DA x.1 x.2.1 x.2.2.1⟩
theorem TX:EOk prog 170 TY:=aE .n [] [6] [] (.cons rZ (.cons pD (.cons FR .nil))) Tryz.mixed Tryz.func170
def QO:Ent:=⟨[.ag 12,.lf (.int .i64)],[.ag 12],fun x=>qa x.1 x.2.1⟩
theorem Gl:EOk prog 91 QO:=aE (.s .n (.s .n (.s (.s .n (.s (.lp [.row 5 5 91 9 (.st 6),.leaf 6 (.int .i64)] 0 false .n) .n)) .n))) [] [4] [] .nil Tryz.mixed Tryz.func91
def QN:Ent:=⟨[.ag 12,.lf (.int .i64)],[.ag 6,.lf (.bool)],fun x=>eL x.1 x.2.1⟩
theorem mS:EOk prog 85 QN:=aE (.s .n (.s (.s .n (.s (.lp [.leaf 6 (.int .i64)] 0 true .n) .n)) .n)) [] [4] [] .nil Tryz.mixed Tryz.func85
def Gk:Ent:=⟨[.ag 12,.lf (.int .i64)],[.ag 2,.lf (.bool)],fun x=>dV x.1 x.2.1⟩
theorem fH:EOk prog 16 Gk:=aE (.s .n (.s (.s .n (.s (.lp [.leaf 6 (.int .i64)] 0 true .n) .n)) .n)) [] [4] [] .nil Tryz.mixed Tryz.func16
def Gj:Ent:=⟨[.ag 2],[.lf (.bool)],fun x=>cX x.1⟩
theorem fG:EOk prog 19 Gj:=aE .n [] [] [] .nil Tryz.mixed Tryz.func19
def I3:Ent:=⟨[.ag 12,.ag 2],[.ag 12],fun x=>eb x.1 x.2.1⟩
theorem mR:EOk prog 21 I3:=aE (.s .n (.s .n (.s (.s (.lp [.leaf 5 (.int .i64)] 0 false .n) .n) (.s .n (.s .n (.s (.s .n (.j [.leaf 5 (.int .i64)] .n)) .n)))))) [] [4] [] .nil Tryz.mixed Tryz.func21
def QJ:Ent:=⟨[.ag 12,.lf (.int .i64)],[.ag 12,.lf (.sl (.int .i64))],fun x=>sk x.1 x.2.1⟩
theorem Gh:EOk prog 117 QJ:=aE (.s .n (.s .n (.s .n (.s .n (.s (.s .n (.s (.lp [.row 8 8 3 1 (.int .i64),.row 6 6 91 9 (.st 6),.leaf 9 (.int .i64)] 0 false .n) .n)) (.s (.s .n (.s (.lp [.row 7 7 93 3 (.st 11),.leaf 10 (.int .i64)] 2 false .n) .n)) .n)))))) [] [4] [] .nil Tryz.mixed Tryz.func117
def Uz:Ent:=⟨[.ag 12,.lf (.int .i64),.lf (.int .i64)],[.ag 12,.lf (.sl (.int .i64))],fun x=>KQ x.1 x.2.1 x.2.2.1⟩
theorem Uy:EOk prog 93 Uz:=aE .n [] [6] [] (.cons fH (.cons fG (.cons mR (.cons Gh .nil)))) Tryz.mixed Tryz.func93
def NL:Ent:=⟨[.ag 2],[.lf (.sl (.st 1))],fun x=>pa x.1⟩
theorem Cu:EOk prog 39 NL:=aE .n [] [] [] .nil Tryz.mixed Tryz.func39
def Hb:Ent:=⟨[.lf (.sl (.int .i64)),.lf (.int .i64)],[.lf (.sl (.int .i64)),.lf (.bool)],fun x=>je x.1 x.2.1⟩
theorem wJ:EOk prog 92 Hb:=aE (.s .n (.s .n (.s (.s .n (.s (.lp [.row 6 6 3 1 (.int .i64),.leaf 7 (.int .i64)] 0 false .n) .n)) .n))) [] [] [] .nil Tryz.mixed Tryz.func92
def QM:Ent:=⟨[.ag 12,.lf (.sl (.int .i64))],[.ag 12],fun x=>jg x.1 x.2.1⟩
theorem xR:EOk prog 86 QM:=aE (.s .n (.s (.s .n (.s (.lp [.box 2 43 12 [],.leaf 5 (.int .i64)] 0 false (.s .n (.s (.s (.s .n (.s .n (.s .n (.s .n (.s .n (.s .n (.s .n (.s (.s .n (.j [.box 8 30 2 []] .n)) .n)))))))) .n) .n))) .n)) .n)) [(4,[73,76,79,80]),(6,[73,76,79,80]),(8,[73,76,79,80]),(11,[73,76,79,80]),(12,[73,76,79,80]),(14,[73,76,79,80]),(17,[73,76,79,80])] [4] [] (.cons mS (.cons fH (.cons Cu (.cons mR (.cons Gh (.cons Gl (.cons wJ .nil))))))) Tryz.mixed Tryz.func86
def Ae:Ent:=⟨[.ag 12],[.lf (.sl (.int .i64))],fun x=>p9 x.1⟩
theorem Ad:EOk prog 24 Ae:=aE (.s .n (.s .n (.s (.s .n (.s (.lp [.row 3 3 3 1 (.int .i64),.leaf 4 (.int .i64)] 0 false .n) .n)) .n))) [] [] [] .nil Tryz.mixed Tryz.func24
def QL:Ent:=⟨[.lf (.int .i64)],[.lf (.bool)],fun x=>vb x.1⟩
theorem QK:EOk prog 37 QL:=aE .n [] [] [] .nil Tryz.mixed Tryz.func37
def KN:Ent:=⟨[.ag 12],[.ag 12],fun x=>tn x.1⟩
theorem KM:EOk prog 38 KN:=aE (.s .n (.s .n (.s .n (.s (.s .n (.s (.lp [.leaf 4 (.bool),.row 3 3 30 14 (.st 2),.leaf 5 (.int .i64)] 0 false .n) .n)) .n)))) [(6,[30,31])] [2] [] (.cons fG .nil) Tryz.mixed Tryz.func38
def KP:Ent:=⟨[.ag 12,.ag 2],[.ag 12,.lf (.int .i64)],fun x=>tp x.1 x.2.1⟩
theorem KO:EOk prog 13 KP:=aE (.s .n (.s .n (.s .n (.s .n (.s .n (.s (.s .n (.s (.lp [.leaf 8 (.int .i64),.leaf 9 (.int .i64)] 0 false .n) .n)) (.s .n (.s .n (.s (.s .n (.j [.box 2 43 12 []] .n)) .n))))))))) [] [4] [] (.cons QK (.cons fH (.cons fG (.cons Bv (.cons KM (.cons Cu (.cons mR .nil))))))) Tryz.mixed Tryz.func13
def TD:Ent:=⟨[.lf (.int .i64)],[.lf (.bool)],fun x=>yV x.1⟩
theorem TC:EOk prog 140 TD:=aE .n [] [] [] .nil Tryz.mixed Tryz.func140
def Pm:Ent:=⟨[.ag 1,.lf (.int .i64)],[.lf (.int .i64)],fun x=>pB x.1 x.2.1⟩
theorem Pk:EOk prog 119 Pm:=aE .n [] [] [] (.cons TC .nil) Tryz.mixed Tryz.func119
def WL:Ent:=⟨[.lf (.sl (.st 1)),.lf (.int .i64)],[.ag 1,.lf (.bool)],fun x=>Kl x.1 x.2.1⟩
theorem WK:EOk prog 152 WL:=aE (.s .n (.s (.s .n (.s (.lp [.leaf 6 (.int .i64)] 0 true .n) .n)) .n)) [] [4] [] .nil Tryz.mixed Tryz.func152
def TJ:Ent:=⟨[.lf (.sl (.st 1)),.lf (.int .i64)],[.lf (.sl (.st 1))],fun x=>Dw x.1 x.2.1⟩
theorem TH:EOk prog 178 TJ:=aE (.s .n (.s .n (.s (.s .n (.s (.lp [.row 5 7 123 8 (.st 1),.leaf 6 (.int .i64)] 0 false .n) .n)) .n))) [] [] [] .nil Tryz.mixed Tryz.func178
def Kk:Ent:=⟨[.lf (.sl (.st 1)),.lf (.int .i64)],[.ag 0],fun x=>kw x.1 x.2.1⟩
theorem Kj:EOk prog 184 Kk:=aE (.s .n (.s .n (.s (.s .n (.s (.lp [.box 5 27 0 [],.leaf 6 (.int .i64)] 0 false .n) .n)) .n))) [] [4] [] (.cons iz .nil) Tryz.mixed Tryz.func184
def WJ:Ent:=⟨[.lf (.sl (.st 1)),.ag 1],[.lf (.sl (.st 1)),.lf (.int .i64)],fun x=>FD x.1 x.2.1⟩
theorem WI:EOk prog 120 WJ:=aE (.s .n (.s .n (.s .n (.s .n (.s (.s .n (.s (.lp [.row 6 6 123 8 (.st 1),.leaf 7 (.bool),.leaf 8 (.int .i64)] 0 false (.s .n (.s (.s (.s (.s .n (.j [.row 6 6 123 8 (.st 1),.leaf 7 (.bool)] .n)) .n) .n) .n))) .n)) (.s (.s .n (.j [.row 6 6 123 8 (.st 1)] .n)) .n)))))) [] [] [] .nil Tryz.mixed Tryz.func120
def TF:Ent:=⟨[.lf (.sl (.st 1)),.lf (.int .i64)],[.lf (.sl (.st 1)),.lf (.bool)],fun x=>Dv x.1 x.2.1⟩
theorem TE:EOk prog 176 TF:=aE (.s .n (.s .n (.s .n (.s (.s .n (.s (.lp [.leaf 7 (.bool),.row 6 6 123 8 (.st 1),.leaf 8 (.int .i64)] 0 false .n) .n)) .n)))) [] [] [] .nil Tryz.mixed Tryz.func176
def NJ:Ent:=⟨[.lf (.str),.lf (.str)],[.lf (.bool)],fun x=>mQ x.1 x.2.1⟩
theorem Cr:EOk prog 181 NJ:=aE (.s .n (.s .n (.s (.s .n (.s (.lp [.leaf 6 (.int .i64)] 0 true .n) .n)) .n))) [] [] [] (.cons Kp .nil) Tryz.mixed Tryz.func181
def wI:Ent:=⟨[.ag 12,.lf (.str),.lf (.int .i64)],[.ag 0],fun x=>nR x.1 x.2.1 x.2.2.1⟩
theorem wH:EOk prog 165 wI:=aE (.s .n (.s .n (.s (.s .n (.s (.lp [.box 7 27 0 [],.leaf 8 (.int .i64)] 0 false .n) .n)) .n))) [] [6] [] (.cons fG (.cons Cr (.cons Kj (.cons iz .nil)))) Tryz.mixed Tryz.func165
def QH:Ent:=⟨[.ag 12,.lf (.str),.lf (.int .i64),.lf (.bool),.lf (.int .i64)],[.ag 0],fun x=>u6 x.1 x.2.1 x.2.2.1 x.2.2.2.1 x.2.2.2.2.1⟩
theorem Ga:EOk prog 162 QH:=aE (.s .n (.s .n (.s (.s .n (.s (.lp [.box 11 27 0 [],.leaf 12 (.int .i64)] 0 false .n) .n)) .n))) [] [10] [] (.cons fH (.cons Cr (.cons iz .nil))) Tryz.mixed Tryz.func162
def Gf:Ent:=⟨[.ag 12,.lf (.str),.lf (.int .i64)],[.ag 0],fun x=>eG x.1 x.2.1 x.2.2.1⟩
theorem kz:EOk prog 141 Gf:=aE .n [] [6] [] (.cons Ga .nil) Tryz.mixed Tryz.func141
def QI:Ent:=⟨[.ag 12,.lf (.str),.lf (.int .i64),.ag 0],[.lf (.bool)],fun x=>u7 x.1 x.2.1 x.2.2.1 x.2.2.2.1⟩
theorem Gg:EOk prog 157 QI:=aE (.s .n (.s .n (.s (.s .n (.s (.lp [.leaf 10 (.int .i64)] 0 true .n) .n)) .n))) [] [] [] (.cons Kp (.cons kz (.cons iz (.cons IQ (.cons o8 (.cons pC (.cons TZ (.cons IY .nil)))))))) Tryz.mixed Tryz.func157
def Gc:Ent:=⟨[.ag 12,.lf (.str),.lf (.int .i64),.lf (.int .i64)],[.ag 0],fun x=>oV x.1 x.2.1 x.2.2.1 x.2.2.2.1⟩
theorem Gb:EOk prog 169 Gc:=aE .n [] [8] [] (.cons Ga .nil) Tryz.mixed Tryz.func169
def QF:Ent:=⟨[.ag 12,.lf (.str)],[.lf (.sl (.int .i64))],fun x=>zV x.1 x.2.1⟩
theorem QE:EOk prog 160 QF:=aE (.s .n (.s .n (.s (.s .n (.s (.lp [.leaf 5 (.sl (.st 2)),.leaf 6 (.int .i64)] 0 false (.s .n (.s (.s (.s .n (.s .n (.s .n (.s (.s (.lp [.leaf 8 (.int .i64)] 2 false .n) .n) .n)))) .n) .n))) .n)) (.s .n (.s (.s .n (.s (.lp [.row 10 10 3 1 (.int .i64),.leaf 11 (.int .i64)] 4 false .n) .n)) .n))))) [(6,[5,53,56,57,62,75,76])] [] [] (.cons fG .nil) Tryz.mixed Tryz.func160
def NG:Ent:=⟨[.ag 12,.lf (.str),.lf (.str),.lf (.int .i64)],[.lf (.bool)],fun x=>vT x.1 x.2.1 x.2.2.1 x.2.2.2.1⟩
theorem NF:EOk prog 193 NG:=aE .n [] [] [] (.cons kz (.cons pD (.cons PW .nil))) Tryz.mixed Tryz.func193
def F9:Ent:=⟨[.ag 12,.lf (.str),.lf (.int .i64)],[.lf (.sl (.str))],fun x=>zS x.1 x.2.1 x.2.2.1⟩
theorem QB:EOk prog 188 F9:=aE (.s .n (.s .n (.s .n (.s (.s .n (.s (.lp [.leaf 8 (.sl (.str)),.leaf 9 (.int .i64)] 0 false (.s .n (.s (.s (.s .n (.s (.s (.lp [.leaf 10 (.int .i64)] 2 false .n) .n) .n)) .n) .n))) .n)) .n)))) [(1,[8,46,52,53,58]),(7,[8,46,52,53,58])] [] [] (.cons vJ (.cons NF .nil)) Tryz.mixed Tryz.func188
theorem KI (k:Nat) (x:cp [.ag 12,.lf (.str),.lf (.int .i64)]) : fS ⟨prog,[(177,⟨[.ag 12,.lf (.str),.lf (.int .i64)],[.lf (.sl (.str))],fun x=>jb k x.1 x.2.1 x.2.2.1⟩),(188,F9)],35,[.lf (.sl (.str))],[.tmp 6],[(1,[18,33]),(8,[18])],[],[]⟩ ((Tryz.f177).body.getD .skip) (.s (.n) (.s (.n) (.s (.n) (.s (.n) (.s (.s (.n) (.s (.lp [.row 8 8 9 1 (.str),.leaf 9 (.int .i64)] 0 false (.n)) .n)) (.n)))))) [.ag 12,.lf (.str),.lf (.int .i64)] x=jb (k + 1) x.1 x.2.1 x.2.2.1:=by kernel_rfl
theorem zQ:∀ k:Nat,bK prog 177 [.ag 12,.lf (.str),.lf (.int .i64)] [.lf (.sl (.str))] (fun x=>jb k x.1 x.2.1 x.2.2.1)
 | 0=>fun x r h=>by cases h
 | k + 1=>cd (n:=35) (.cons (zQ k) (.cons (QB) (.nil))) Tryz.mixed Tryz.func177 rfl (by kernel_rfl) rfl rfl rfl (KI k)
def KL:Ent:=⟨[.ag 12,.lf (.int .i64)],[.lf (.sl (.str))],fun x=>tm x.1 x.2.1⟩
theorem KK:EOk prog 159 KL:=aE .n [] [] [] (.cons (zQ ab) .nil) Tryz.mixed Tryz.func159
def ND:Ent:=⟨[.ag 1,.ag 7],[.lf (.int .i64)],fun x=>mP x.1 x.2.1⟩
theorem Cp:EOk prog 168 ND:=aE .n [] [] [] .nil Tryz.mixed Tryz.func168
def Ux:Ent:=⟨[.ag 1,.ag 7],[.lf (.bool)],fun x=>tj x.1 x.2.1⟩
theorem I2:EOk prog 153 Ux:=aE .n [] [] [] (.cons Cp .nil) Tryz.mixed Tryz.func153
def TR:Ent:=⟨[.ag 12,.lf (.int .i64)],[.ag 7,.lf (.bool)],fun x=>nc x.1 x.2.1⟩
theorem o6:EOk prog 81 TR:=aE (.s .n (.s (.s .n (.s (.lp [.leaf 6 (.int .i64)] 0 true .n) .n)) .n)) [] [4] [] .nil Tryz.mixed Tryz.func81
def WN:Ent:=⟨[.ag 12,.ag 7],[.ag 12],fun x=>Bq x.1 x.2.1⟩
theorem FF:EOk prog 82 WN:=aE (.s .n (.s .n (.s (.s (.lp [.leaf 5 (.int .i64)] 0 false .n) .n) (.s .n (.s .n (.s (.s .n (.j [.leaf 5 (.int .i64)] .n)) .n)))))) [] [4] [] .nil Tryz.mixed Tryz.func82
def TV:Ent:=⟨[.ag 12,.lf (.int .i64),.lf (.int .i64)],[.ag 12,.lf (.int .i64)],fun x=>Dy x.1 x.2.1 x.2.2.1⟩
theorem TU:EOk prog 84 TV:=aE .n [] [6] [] (.cons o6 (.cons FF .nil)) Tryz.mixed Tryz.func84
def TT:Ent:=⟨[.ag 12,.lf (.int .i64)],[.ag 12],fun x=>yY x.1 x.2.1⟩
theorem TS:EOk prog 96 TT:=aE .n [] [4] [] (.cons o6 (.cons FF .nil)) Tryz.mixed Tryz.func96
def TP:Ent:=⟨[.ag 12,.lf (.int .i64)],[.ag 0],fun x=>Dx x.1 x.2.1⟩
theorem TO:EOk prog 172 TP:=aE (.s .n (.s .n (.s (.s .n (.s (.lp [.box 5 27 0 [],.leaf 6 (.int .i64)] 0 false .n) .n)) .n))) [] [4] [] (.cons iz .nil) Tryz.mixed Tryz.func172
def TQ:Ent:=⟨[.ag 12,.lf (.int .i64)],[.ag 0],fun x=>yX x.1 x.2.1⟩
theorem IM:EOk prog 156 TQ:=aE .n [] [4] [] (.cons o6 (.cons TO (.cons IY .nil))) Tryz.mixed Tryz.func156
def TN:Ent:=⟨[.lf (.int .i64)],[.lf (.bool)],fun x=>yW x.1⟩
theorem TM:EOk prog 80 TN:=aE .n [] [] [] .nil Tryz.mixed Tryz.func80
def G3:Ent:=⟨[.ag 12,.ag 7],[.ag 12,.lf (.int .i64)],fun x=>qG x.1 x.2.1⟩
theorem G2:EOk prog 45 G3:=aE .n [] [4] [] (.cons TM (.cons o6 (.cons FF .nil))) Tryz.mixed Tryz.func45
def MR:Ent:=⟨[.ag 12],[.lf (.sl (.int .i64))],fun x=>vF x.1⟩
theorem MQ:EOk prog 94 MR:=aE (.s .n (.s .n (.s (.s .n (.s (.lp [.row 3 3 3 1 (.int .i64),.leaf 4 (.int .i64)] 0 false .n) .n)) .n))) [] [] [] .nil Tryz.mixed Tryz.func94
def Qq:Ent:=⟨[.ag 12,.lf (.int .i64)],[.ag 11,.lf (.bool)],fun x=>zK x.1 x.2.1⟩
theorem Qp:EOk prog 137 Qq:=aE (.s .n (.s (.s .n (.s (.lp [.leaf 6 (.int .i64)] 0 true .n) .n)) .n)) [] [4] [] .nil Tryz.mixed Tryz.func137
def Us:Ent:=⟨[.ag 12,.lf (.str),.ag 1],[.lf (.bool)],fun x=>zN x.1 x.2.1 x.2.2.1⟩
theorem I1:EOk prog 154 Us:=aE .n [] [] [] (.cons kz (.cons iz (.cons pD (.cons o8 .nil)))) Tryz.mixed Tryz.func154
def Qr:Ent:=⟨[.ag 12,.lf (.str),.lf (.int .i64),.lf (.int .i64)],[.lf (.bool)],fun x=>u5 x.1 x.2.1 x.2.2.1 x.2.2.2.1⟩
theorem F3:EOk prog 155 Qr:=aE .n [] [] [] (.cons Gb (.cons TX (.cons o8 .nil))) Tryz.mixed Tryz.func155
def KH:Ent:=⟨[.ag 12,.lf (.int .i64)],[.ag 12],fun x=>fF x.1 x.2.1⟩
theorem zO:EOk prog 95 KH:=aE (.s .n (.s .n (.s (.s .n (.s (.lp [.row 5 5 93 3 (.st 11),.leaf 6 (.int .i64)] 0 false .n) .n)) .n))) [] [4] [] .nil Tryz.mixed Tryz.func95
def NB:Ent:=⟨[.ag 12,.ag 7,.ag 2,.ag 1],[.ag 12,.ag 6],fun x=>mO x.1 x.2.1 x.2.2.1 x.2.2.2.1⟩
theorem Co:EOk prog 158 NB:=aE (.s .n (.s .n (.s .n (.s .n (.s (.s .n (.j [.box 6 30 2 []] .n)) (.s .n (.s (.s (.lp [.leaf 11 (.int .i64)] 0 false .n) .n) .n))))))) [(3,[54,57,60,61,86,89,90,96]),(13,[54,57,60,61,81,86,89,90,96])] [8,9] [] (.cons TE (.cons mR .nil)) Tryz.mixed Tryz.func158
def Qu:Ent:=⟨[.ag 12,.ag 7,.ag 11],[.ag 12,.lf (.int .i64),.ag 6,.lf (.bool)],fun x=>sg x.1 x.2.1 x.2.2.1⟩
theorem Qt:EOk prog 138 Qu:=aE .n [] [6,8] [] (.cons fH (.cons WK (.cons fG (.cons I2 (.cons o8 (.cons I1 (.cons F3 (.cons zO (.cons IM (.cons Gg (.cons Co .nil))))))))))) Tryz.mixed Tryz.func138
def Nz:Ent:=⟨[.ag 12,.lf (.int .i64),.lf (.int .i64)],[.lf (.bool)],fun x=>vQ x.1 x.2.1 x.2.2.1⟩
theorem Ny:EOk prog 179 Nz:=aE (.s .n (.s (.s .n (.s (.lp [.leaf 7 (.int .i64)] 0 true .n) .n)) .n)) [] [] [] .nil Tryz.mixed Tryz.func179
def Qw:Ent:=⟨[.ag 12,.ag 11],[.ag 12],fun x=>si x.1 x.2.1⟩
theorem Qv:EOk prog 180 Qw:=aE (.s .n (.s .n (.s (.s (.lp [.leaf 5 (.int .i64)] 0 false .n) .n) .n))) [] [4] [] .nil Tryz.mixed Tryz.func180
def Uu:Ent:=⟨[.ag 12,.ag 7,.ag 2,.ag 1,.lf (.bool)],[.ag 12,.lf (.int .i64),.ag 6],fun x=>vR x.1 x.2.1 x.2.2.1 x.2.2.2.1 x.2.2.2.2.1⟩
theorem Ut:EOk prog 161 Uu:=aE (.s .n (.s .n (.s .n (.s (.s .n (.s (.s (.s .n (.j [.box 7 30 2 [],.box 5 43 12 []] .n)) .n) .n)) .n)))) [] [10,12] [] (.cons I1 (.cons Cp (.cons o8 (.cons I2 (.cons TH (.cons mR (.cons Gg (.cons IM (.cons Co (.cons Ny (.cons Qv .nil))))))))))) Tryz.mixed Tryz.func161
def Nw:Ent:=⟨[.ag 12,.ag 7,.lf (.bool)],[.ag 12,.lf (.int .i64),.ag 6],fun x=>eh x.1 x.2.1 x.2.2.1⟩
theorem Nv:EOk prog 139 Nw:=aE (.s .n (.s .n (.s (.s .n (.s (.lp [.box 3 43 12 [],.leaf 10 (.int .i64)] 0 true (.s .n (.s (.s (.s .n (.s .n (.s (.lp [.box 3 43 12 [],.leaf 12 (.int .i64)] 2 true (.s .n (.s (.s (.s .n (.s .n (.s .n (.s (.lp [.box 3 43 12 [],.leaf 15 (.int .i64)] 4 true .n) .n)))) .n) .n))) .n))) .n) .n))) .n)) .n))) [] [6,8] [] (.cons KK (.cons QE (.cons fH (.cons F3 (.cons Ut .nil))))) Tryz.mixed Tryz.func139
def Uw:Ent:=⟨[.ag 12,.lf (.int .i64)],[.ag 12,.lf (.int .i64),.ag 6],fun x=>vS x.1 x.2.1⟩
theorem Uv:EOk prog 118 Uw:=aE .n [] [4,6] [] (.cons o6 (.cons Qp (.cons Qt (.cons Nv .nil)))) Tryz.mixed Tryz.func118
def QA:Ent:=⟨[.ag 12,.lf (.int .i64)],[.ag 12,.lf (.sl (.st 6))],fun x=>p8 x.1 x.2.1⟩
theorem Qz:EOk prog 87 QA:=aE (.s .n (.s .n (.s (.s .n (.s (.lp [.box 2 43 12 [],.row 6 6 91 9 (.st 6),.leaf 7 (.int .i64)] 0 false .n) .n)) .n))) [(5,[27,28])] [4] [] (.cons Uv .nil) Tryz.mixed Tryz.func87
def Qf:Ent:=⟨[.lf (.int .i64)],[.lf (.int .i64)],fun x=>lH x.1⟩
theorem Qe:EOk prog 189 Qf:=aE .n [] [] [] .nil Tryz.mixed Tryz.func189
def Cm:Ent:=⟨[.lf (.int .i64),.lf (.sl (.int .i64)),.lf (.sl (.int .i64)),.lf (.sl (.int .i64))],[.lf (.sl (.int .i64))],fun x=>vO x.1 x.2.1 x.2.2.1 x.2.2.2.1⟩
theorem Nn:EOk prog 182 Cm:=aE (.s .n (.s .n (.s .n (.s .n (.s (.s .n (.s (.lp [.row 11 11 3 1 (.int .i64),.leaf 10 (.int .i64),.leaf 12 (.int .i64)] 0 false .n) .n)) (.s (.s .n (.s (.lp [.row 11 11 3 1 (.int .i64),.leaf 10 (.int .i64),.leaf 14 (.int .i64)] 2 false .n) .n)) .n)))))) [(2,[49,50]),(7,[49,50]),(13,[49,50])] [] [] (.cons Qe .nil) Tryz.mixed Tryz.func182
theorem Qg (k:Nat) (x:cp [.ag 12,.lf (.str),.lf (.int .i64),.lf (.int .i64)]) : fS ⟨prog,[(163,⟨[.ag 12,.lf (.str),.lf (.int .i64),.lf (.int .i64)],[.lf (.sl (.st 18))],fun x=>lI k x.1 x.2.1 x.2.2.1 x.2.2.2.1⟩),(55,IU),(164,FK),(174,IR),(141,Gf),(165,wI),(182,Cm)],101,[.lf (.sl (.st 18))],[.tmp 8],[(1,[27,43,44,54,55,74,75,99]),(8,[27,54,55,74,75,99]),(9,[27,43,44,74,75,99]),(10,[27,43,44,54,55,99]),(11,[10,11,12,27,43,44,54,55,74,75,99]),(16,[10,11,12,27,43,44,54,55,74,75])],[],[]⟩ ((Tryz.f163).body.getD .skip) (.s (.n) (.s (.n) (.s (.n) (.s (.n) (.s (.s (.n) (.s (.lp [.row 10 10 3 1 (.int .i64),.row 12 12 3 1 (.int .i64),.row 11 11 3 1 (.int .i64),.leaf 13 (.int .i64)] 0 false (.n)) .n)) (.s (.n) (.s (.n) (.s (.s (.n) (.s (.lp [.row 15 15 199 2 (.st 18),.leaf 16 (.int .i64)] 2 false (.n)) .n)) (.n))))))))) [.ag 12,.lf (.str),.lf (.int .i64),.lf (.int .i64)] x=lI (k + 1) x.1 x.2.1 x.2.2.1 x.2.2.2.1:=by kernel_rfl
theorem FY:∀ k:Nat,bK prog 163 [.ag 12,.lf (.str),.lf (.int .i64),.lf (.int .i64)] [.lf (.sl (.st 18))] (fun x=>lI k x.1 x.2.1 x.2.2.1 x.2.2.2.1)
 | 0=>fun x r h=>by cases h
 | k + 1=>cd (n:=101) (.cons (FY k) (.cons (vJ) (.cons (pD) (.cons (IQ) (.cons (kz) (.cons (wH) (.cons (Nn) (.nil)))))))) Tryz.mixed Tryz.func163 rfl (by kernel_rfl) rfl rfl rfl (Qg k)
def KE:Ent:=⟨[.ag 12,.lf (.int .i64)],[.lf (.sl (.st 18))],fun x=>p7 x.1 x.2.1⟩
theorem zF:EOk prog 145 KE:=aE (.s .n (.s .n (.s .n (.s (.s .n (.s (.lp [.leaf 5 (.sl (.st 18)),.leaf 7 (.int .i64)] 0 false (.s .n (.s (.s (.s .n (.s (.s (.lp [.leaf 8 (.int .i64)] 2 false .n) .n) .n)) .n) .n))) .n)) .n)))) [(2,[5,46,52,53,58])] [] [] (.cons pC (.cons (FY ab) .nil)) Tryz.mixed Tryz.func145
def Uo:Ent:=⟨[.ag 12,.lf (.int .i64),.lf (.str)],[.lf (.int .i64)],fun x=>zE x.1 x.2.1 x.2.2.1⟩
theorem Un:EOk prog 144 Uo:=aE (.s .n (.s .n (.s (.s .n (.s (.lp [.leaf 8 (.int .i64)] 0 true .n) .n)) .n))) [] [] [] (.cons zF .nil) Tryz.mixed Tryz.func144
def Qd:Ent:=⟨[.ag 12,.ag 12],[.lf (.sl (.int .i64))],fun x=>uW x.1 x.2.1⟩
theorem FX:EOk prog 99 Qd:=aE (.s .n (.s .n (.s (.s .n (.s (.lp [.row 5 5 3 1 (.int .i64),.leaf 6 (.int .i64)] 0 false .n) .n)) .n))) [(5,[36,37])] [] [] (.cons mS .nil) Tryz.mixed Tryz.func99
def Nh:Ent:=⟨[.ag 12,.lf (.str),.lf (.int .i64)],[.lf (.int .i64)],fun x=>se x.1 x.2.1 x.2.2.1⟩
theorem Ng:EOk prog 146 Nh:=aE (.s .n (.s .n (.s (.s .n (.s (.lp [.leaf 9 (.int .i64)] 0 true (.s .n (.s (.s (.s .n (.s .n (.s (.lp [.leaf 11 (.int .i64)] 2 true .n) .n))) .n) .n))) .n)) .n))) [] [] [] (.cons kz (.cons pD (.cons fG (.cons wH .nil)))) Tryz.mixed Tryz.func146
def P8:Ent:=⟨[.ag 12,.ag 6],[.lf (.str)],fun x=>i7 x.1 x.2.1⟩
theorem xM:EOk prog 142 P8:=aE .n [] [] [] (.cons fH .nil) Tryz.mixed Tryz.func142
def WS:Ent:=⟨[.lf (.sl (.int .i64)),.lf (.int .i64)],[.lf (.bool)],fun x=>xN x.1 x.2.1⟩
theorem Nj:EOk prog 166 WS:=aE (.s .n (.s (.s .n (.s (.lp [.leaf 5 (.int .i64)] 0 true .n) .n)) .n)) [] [] [] .nil Tryz.mixed Tryz.func166
def KB:Ent:=⟨[.ag 12,.lf (.str),.lf (.int .i64),.lf (.sl (.int .i64))],[.lf (.int .i64)],fun x=>mN x.1 x.2.1 x.2.2.1 x.2.2.2.1⟩
theorem KA:EOk prog 147 KB:=aE (.s .n (.s .n (.s (.s .n (.s (.lp [.leaf 9 (.int .i64),.leaf 10 (.int .i64)] 0 false .n) .n)) .n))) [] [] [] (.cons xM (.cons Nj .nil)) Tryz.mixed Tryz.func147
def Ky:Ent:=⟨[.ag 12,.lf (.str),.lf (.int .i64),.lf (.sl (.int .i64))],[.ag 6,.lf (.bool)],fun x=>pX x.1 x.2.1 x.2.2.1 x.2.2.2.1⟩
theorem Kx:EOk prog 148 Ky:=aE (.s .n (.s .n (.s (.s .n (.s (.lp [.box 10 91 6 [],.leaf 11 (.bool),.leaf 12 (.int .i64)] 0 false .n) .n)) .n))) [] [8] [] (.cons xM (.cons Nj .nil)) Tryz.mixed Tryz.func148
def Qc:Ent:=⟨[.ag 12,.lf (.int .i64)],[.lf (.sl (.int .i64))],fun x=>zC x.1 x.2.1⟩
theorem Qb:EOk prog 122 Qc:=aE (.s .n (.s .n (.s .n (.s (.s .n (.s (.lp [.leaf 6 (.int .i64),.leaf 7 (.int .i64)] 0 false .n) .n)) (.s .n (.s (.s (.lp [.row 8 8 3 1 (.int .i64)] 2 true (.s .n (.s (.s .n (.s (.s .n (.s (.lp [.leaf 9 (.int .i64),.box 10 91 6 [],.leaf 11 (.int .i64)] 4 false .n) .n)) .n)) .n))) .n) .n)))))) [(1,[103,104]),(2,[103,104]),(6,[103,104]),(8,[103,104]),(14,[103,104]),(15,[103,104])] [] [] (.cons zF (.cons pC (.cons kz (.cons Ng (.cons KA (.cons Kx .nil)))))) Tryz.mixed Tryz.func122
def Kw:Ent:=⟨[.ag 12,.ag 6],[.lf (.int .i64)],fun x=>pV x.1 x.2.1⟩
theorem Kv:EOk prog 143 Kw:=aE (.s .n (.s .n (.s (.s .n (.s (.lp [.leaf 5 (.int .i64),.leaf 6 (.int .i64)] 0 false .n) .n)) .n))) [] [] [] .nil Tryz.mixed Tryz.func143
def P7:Ent:=⟨[.ag 12,.lf (.int .i64),.lf (.int .i64)],[.ag 12],fun x=>nQ x.1 x.2.1 x.2.2.1⟩
theorem FW:EOk prog 123 P7:=aE (.s .n (.s .n (.s (.s .n (.s (.lp [.row 7 9 91 9 (.st 6),.leaf 8 (.int .i64)] 0 false .n) .n)) .n))) [] [6] [] .nil Tryz.mixed Tryz.func123
def Qa:Ent:=⟨[.ag 12,.lf (.int .i64)],[.ag 12],fun x=>zy x.1 x.2.1⟩
theorem P9:EOk prog 121 Qa:=aE (.s .n (.s .n (.s (.s .n (.s (.lp [.row 5 5 91 9 (.st 6),.leaf 6 (.int .i64)] 0 false .n) .n)) (.s (.s .n (.s (.lp [.box 2 43 12 [],.leaf 8 (.int .i64)] 2 false .n) .n)) .n)))) [(11,[5,43,44,84]),(13,[5,43,44,84]),(14,[5,43,44]),(15,[5,43,44,84])] [4] [] (.cons mS (.cons xM (.cons kz (.cons Kv (.cons Un (.cons xR (.cons FW .nil))))))) Tryz.mixed Tryz.func121
def Nl:Ent:=⟨[.ag 12],[.ag 12,.lf (.sl (.int .i64))],fun x=>vN x.1⟩
theorem Nk:EOk prog 98 Nl:=aE (.s .n (.s .n (.s (.s .n (.s (.lp [.box 1 43 12 [],.leaf 5 (.int .i64)] 0 false (.s .n (.s (.s (.s .n (.s .n (.s .n (.s (.lp [.box 1 43 12 [],.leaf 7 (.int .i64)] 2 false .n) .n)))) .n) .n))) .n)) .n))) [] [2] [] (.cons P9 (.cons Qb (.cons FW (.cons FX .nil)))) Tryz.mixed Tryz.func98
def Qj:Ent:=⟨[.lf (.int .i64)],[.lf (.bool)],fun x=>uY x.1⟩
theorem Qi:EOk prog 124 Qj:=aE .n [] [] [] .nil Tryz.mixed Tryz.func124
def WU:Ent:=⟨[.lf (.sl (.st 8)),.lf (.int .i64),.lf (.int .i64)],[.ag 0],fun x=>u4 x.1 x.2.1 x.2.2.1⟩
theorem WT:EOk prog 150 WU:=aE (.s .n (.s .n (.s (.s .n (.s (.lp [.box 7 27 0 [],.leaf 8 (.int .i64)] 0 false .n) .n)) .n))) [] [6] [] (.cons iz .nil) Tryz.mixed Tryz.func150
def Ql:Ent:=⟨[.lf (.sl (.st 8)),.ag 0,.ag 8,.lf (.int .i64),.lf (.int .i64)],[.lf (.bool)],fun x=>sf x.1 x.2.1 x.2.2.1 x.2.2.2.1 x.2.2.2.2.1⟩
theorem Qk:EOk prog 125 Ql:=aE (.s .n (.s .n (.s (.s .n (.s (.lp [.leaf 11 (.int .i64)] 0 true .n) .n)) .n))) [] [] [] (.cons WT (.cons iz (.cons o8 .nil))) Tryz.mixed Tryz.func125
def Ns:Ent:=⟨[.lf (.sl (.st 8)),.ag 0,.ag 8,.lf (.int .i64)],[.lf (.int .i64),.lf (.int .i64)],fun x=>vP x.1 x.2.1 x.2.2.1 x.2.2.2.1⟩
theorem Nr:EOk prog 100 Ns:=aE (.s .n (.s .n (.s .n (.s (.s .n (.s (.lp [.leaf 10 (.int .i64),.leaf 11 (.int .i64)] 0 false (.s .n (.s (.s (.s .n (.s (.s .n (.j [.leaf 12 (.int .i64)] .n)) .n)) .n) .n))) .n)) .n)))) [] [] [] (.cons Qi (.cons Qk .nil)) Tryz.mixed Tryz.func100
def Ur:Ent:=⟨[.ag 12,.ag 8,.lf (.int .i64)],[.ag 12,.lf (.int .i64),.lf (.int .i64)],fun x=>zI x.1 x.2.1 x.2.2.1⟩
theorem Uq:EOk prog 50 Ur:=aE (.s .n (.s .n (.s .n (.s (.s .n (.s (.lp [.leaf 9 (.int .i64),.leaf 10 (.int .i64)] 0 true .n) .n)) .n)))) [] [6] [] (.cons pC (.cons Nr .nil)) Tryz.mixed Tryz.func50
def Qn:Ent:=⟨[.ag 12,.lf (.int .i64)],[.ag 12,.lf (.int .i64)],fun x=>uZ x.1 x.2.1⟩
theorem Qm:EOk prog 51 Qn:=aE (.s .n (.s .n (.s (.s .n (.s (.lp [.row 6 6 74 6 (.st 8),.leaf 7 (.int .i64)] 0 false .n) .n)) .n))) [] [4] [] .nil Tryz.mixed Tryz.func51
theorem Kq (k:Nat) (x:cp [.lf (.int .i64)]) : fS ⟨prog,[(53,⟨[.lf (.int .i64)],[.lf (.str)],fun x=>dn k x.1⟩)],25,[.lf (.str)],[.tmp 2],[],[],[]⟩ ((Tryz.f53).body.getD .skip) (.n) [.lf (.int .i64)] x=dn (k + 1) x.1:=by kernel_rfl
theorem zc:∀ k:Nat,bK prog 53 [.lf (.int .i64)] [.lf (.str)] (fun x=>dn k x.1)
 | 0=>fun x r h=>by cases h
 | k + 1=>cd (n:=25) (.cons (zc k) (.nil)) Tryz.mixed Tryz.func53 rfl (by kernel_rfl) rfl rfl rfl (Kq k)
def WO:Ent:=⟨[.lf (.str),.lf (.int .u8)],[.lf (.sl (.str))],fun x=>FO x.1 x.2.1⟩
theorem M4:EOk prog 111 WO:=aE (.s .n (.s .n (.s .n (.s (.s .n (.s (.lp [.row 5 5 9 1 (.str),.leaf 6 (.int .i64),.leaf 7 (.int .i64)] 0 false .n) .n)) (.s (.s .n (.j [.row 5 5 9 1 (.str)] .n)) .n))))) [] [] [] .nil Tryz.mixed Tryz.func111
def PE:Ent:=⟨[.lf (.str)],[.lf (.sl (.str))],fun x=>y6 x.1⟩
theorem PD:EOk prog 112 PE:=aE (.s .n (.s .n (.s .n (.s (.s .n (.s (.lp [.row 3 3 9 1 (.str),.leaf 5 (.int .i64)] 0 false .n) .n)) .n)))) [] [] [] (.cons M4 .nil) Tryz.mixed Tryz.func112
def M3:Ent:=⟨[.lf (.str)],[.lf (.int .i64),.lf (.bool)],fun x=>o7 x.1⟩
theorem Ch:EOk prog 133 M3:=aE (.s .n (.s .n (.s .n (.s (.s .n (.s (.lp [.leaf 4 (.int .i64),.leaf 5 (.int .i64)] 0 true .n) .n)) .n)))) [] [] [] .nil Tryz.mixed Tryz.func133
def PG:Ent:=⟨[.lf (.str)],[.ag 3,.lf (.bool)],fun x=>y7 x.1⟩
theorem PF:EOk prog 134 PG:=aE (.s .n (.s .n (.s (.s (.lp [.leaf 4 (.int .i64)] 0 false .n) .n) .n))) [] [2] [] (.cons Ch .nil) Tryz.mixed Tryz.func134
def PI:Ent:=⟨[.lf (.sl (.str)),.lf (.int .i64)],[.ag 4,.lf (.bool)],fun x=>y8 x.1 x.2.1⟩
theorem PH:EOk prog 113 PI:=aE (.s .n (.s .n (.s .n (.s .n (.s (.s .n (.s (.lp [.leaf 7 (.bool),.box 8 63 4 [(1,1161,98,2,.st 3)],.leaf 9 (.int .i64)] 0 false .n) .n)) .n))))) [] [4] [] (.cons Ch (.cons PF .nil)) Tryz.mixed Tryz.func113
def PK:Ent:=⟨[.lf (.str)],[.ag 5,.lf (.int .i64)],fun x=>za x.1⟩
theorem PJ:EOk prog 78 PK:=aE (.s .n (.s .n (.s .n (.s .n (.s .n (.s (.s .n (.s (.lp [.box 4 36 5 [],.leaf 5 (.bool),.leaf 7 (.int .i64)] 0 true (.s .n (.s (.s (.s .n (.s .n (.s .n (.s .n (.s .n (.s .n (.s .n (.s (.s (.lp [.leaf 11 (.int .i64)] 2 false .n) .n) .n)))))))) .n) .n))) .n)) .n)))))) [] [2] [] (.cons M4 (.cons PD (.cons PH .nil))) Tryz.mixed Tryz.func78
def T8:Ent:=⟨[.ag 5,.ag 5],[.lf (.bool)],fun x=>DC x.1 x.2.1⟩
theorem T7:EOk prog 40 T8:=aE (.s .n (.s .n (.s (.s .n (.s (.lp [.leaf 5 (.int .i64)] 0 true .n) .n)) (.s (.s .n (.s (.lp [.leaf 6 (.int .i64)] 2 true (.s .n (.s (.s (.s .n (.s .n (.s .n (.s (.lp [.leaf 9 (.int .i64)] 4 true .n) .n)))) .n) .n))) .n)) .n)))) [] [] [] .nil Tryz.mixed Tryz.func40
def Bw:Ent:=⟨[.ag 5],[.lf (.str)],fun x=>y9 x.1⟩
theorem IW:EOk prog 27 Bw:=aE (.s .n (.s .n (.s (.s .n (.s (.lp [.leaf 3 (.str),.leaf 4 (.int .i64)] 0 false .n) .n)) (.s .n (.s (.s .n (.s (.lp [.leaf 3 (.str),.leaf 5 (.int .i64)] 2 false (.s .n (.s (.s (.s .n (.s .n (.s (.s .n (.s (.lp [.leaf 3 (.str),.leaf 7 (.int .i64)] 4 false .n) .n)) .n))) .n) .n))) .n)) .n))))) [] [] [] (.cons (zc ab) .nil) Tryz.mixed Tryz.func27
def vM:Ent:=⟨[],[.ag 12],fun x=>zw ⟩
theorem Bz:EOk prog 25 vM:=aE .n [] [0] [] .nil Tryz.mixed Tryz.func25
def P1:Ent:=⟨[.lf (.sl (.int .i64)),.lf (.sl (.int .i64))],[.lf (.bool)],fun x=>pO x.1 x.2.1⟩
theorem P0:EOk prog 76 P1:=aE (.s .n (.s .n (.s (.s .n (.s (.lp [.leaf 5 (.int .i64)] 0 true .n) .n)) .n))) [] [] [] .nil Tryz.mixed Tryz.func76
def Um:Ent:=⟨[.ag 2,.ag 2],[.lf (.bool)],fun x=>DD x.1 x.2.1⟩
theorem Ul:EOk prog 41 Um:=aE (.s .n (.s .n (.s (.s .n (.s (.lp [.leaf 5 (.int .i64)] 0 true .n) .n)) .n))) [] [] [] (.cons P0 .nil) Tryz.mixed Tryz.func41
def xK:Ent:=⟨[.ag 12,.ag 12],[.lf (.bool)],fun x=>uU x.1 x.2.1⟩
theorem FU:EOk prog 14 xK:=aE (.s .n (.s .n (.s .n (.s (.s .n (.s (.lp [.leaf 5 (.bool),.leaf 6 (.int .i64)] 0 false .n) .n)) (.s (.s .n (.s (.lp [.leaf 5 (.bool),.leaf 7 (.int .i64)] 2 false .n) .n)) (.s (.s .n (.s (.lp [.leaf 5 (.bool),.leaf 8 (.int .i64)] 4 false .n) .n)) (.s (.s .n (.s (.lp [.leaf 5 (.bool),.leaf 9 (.int .i64)] 6 false .n) .n)) (.s (.s .n (.s (.lp [.leaf 5 (.bool),.leaf 10 (.int .i64)] 8 false .n) .n)) .n)))))))) [] [] [] (.cons T7 (.cons Ul .nil)) Tryz.mixed Tryz.func14
def Uk:Ent:=⟨[.ag 12,.lf (.int .i64)],[.ag 12,.ag 10],fun x=>dE x.1 x.2.1⟩
theorem o9:EOk prog 52 Uk:=aE .n [] [4,5] [] .nil Tryz.mixed Tryz.func52
def Ku:Ent:=⟨[.ag 12,.lf (.str)],[.ag 12,.ag 10],fun x=>th x.1 x.2.1⟩
theorem Kt:EOk prog 44 Ku:=aE (.s .n (.s .n (.s (.s .n (.j [.leaf 7 (.int .i64)] .n)) (.s .n (.s .n (.s (.s .n (.s (.lp [.leaf 8 (.int .i64)] 0 true .n) .n)) (.s (.s .n (.s (.lp [.leaf 9 (.int .i64)] 2 true .n) .n)) .n))))))) [] [4,5] [] (.cons PJ (.cons PA (.cons o9 (.cons fG (.cons Bv .nil))))) Tryz.mixed Tryz.func44
def WR:Ent:=⟨[.ag 12,.lf (.int .i64)],[.lf (.sl (.int .i64))],fun x=>xI x.1 x.2.1⟩
theorem Nb:EOk prog 83 WR:=aE (.s .n (.s .n (.s (.s .n (.s (.lp [.row 5 5 3 1 (.int .i64),.leaf 6 (.int .i64)] 0 false .n) .n)) .n))) [] [] [] .nil Tryz.mixed Tryz.func83
def P5:Ent:=⟨[.ag 12,.ag 9],[.ag 12,.ag 10],fun x=>zv x.1 x.2.1⟩
theorem P4:EOk prog 46 P5:=aE (.s .n (.s .n (.s .n (.s .n (.s .n (.s .n (.s (.s .n (.s (.lp [.row 10 10 3 1 (.int .i64),.leaf 11 (.int .i64)] 0 false .n) .n)) .n))))))) [(1,[83,84]),(3,[83,84]),(4,[83,84]),(6,[83,84]),(11,[83,84]),(14,[10,83,84]),(15,[10,83,84]),(16,[10,83,84])] [4,5] [] (.cons o6 (.cons Nb (.cons TU (.cons o9 (.cons mS (.cons xR (.cons Qz .nil))))))) Tryz.mixed Tryz.func46
def Nd:Ent:=⟨[.ag 12,.lf (.sl (.int .i64))],[.lf (.sl (.st 6))],fun x=>sa x.1 x.2.1⟩
theorem Nc:EOk prog 88 Nd:=aE (.s .n (.s .n (.s (.s .n (.s (.lp [.row 5 5 91 9 (.st 6),.leaf 6 (.int .i64)] 0 false .n) .n)) .n))) [(5,[27,28])] [] [] (.cons mS .nil) Tryz.mixed Tryz.func88
def G5:Ent:=⟨[.ag 12,.lf (.int .i64)],[.lf (.sl (.int .i64))],fun x=>nP x.1 x.2.1⟩
theorem G4:EOk prog 89 G5:=aE (.s .n (.s .n (.s (.s .n (.s (.lp [.row 5 5 3 1 (.int .i64),.leaf 6 (.int .i64)] 0 false .n) .n)) .n))) [] [] [] .nil Tryz.mixed Tryz.func89
def Na:Ent:=⟨[.ag 12,.lf (.sl (.st 1)),.lf (.sl (.st 1))],[.lf (.sl (.st 1)),.lf (.int .i64)],fun x=>vL x.1 x.2.1 x.2.2.1⟩
theorem M9:EOk prog 90 Na:=aE (.s .n (.s (.s .n (.s (.lp [.leaf 1 (.sl (.st 1)),.leaf 8 (.int .i64)] 0 true .n) .n)) .n)) [] [] [] (.cons Pk (.cons WI .nil)) Tryz.mixed Tryz.func90
def Ks:Ent:=⟨[.ag 12,.ag 9],[.ag 12,.ag 10],fun x=>tg x.1 x.2.1⟩
theorem Kr:EOk prog 47 Ks:=aE (.s .n (.s .n (.s .n (.s .n (.s .n (.s (.s .n (.s (.lp [.box 2 43 12 [],.box 6 30 2 [],.leaf 10 (.int .i64)] 1 false .n) .n)) .n)))))) [(1,[61,64,144,147]),(3,[61,64,144,147]),(5,[61,64,144,147]),(7,[61,64,144,147]),(9,[144,147]),(11,[61,64,144,147]),(12,[61,64,144,147]),(14,[61,64,144,147]),(18,[61,64,144,147]),(20,[61,64,144,147]),(21,[61,64,144,147]),(22,[61,64]),(25,[61,64,144,147])] [4,5] [] (.cons fH (.cons o9 (.cons Nc (.cons G4 (.cons M9 (.cons mS (.cons Gl (.cons wJ (.cons mR .nil))))))))) Tryz.mixed Tryz.func47
def Uj:Ent:=⟨[.ag 12,.lf (.int .i64),.lf (.int .i64)],[.ag 12,.ag 10],fun x=>zp x.1 x.2.1 x.2.2.1⟩
theorem Ui:EOk prog 48 Uj:=aE .n [] [6,7] [] (.cons fH (.cons o9 (.cons fG (.cons Uy .nil)))) Tryz.mixed Tryz.func48
def P3:Ent:=⟨[.ag 12,.lf (.int .i64)],[.lf (.int .i64)],fun x=>uT x.1 x.2.1⟩
theorem P2:EOk prog 97 P3:=aE (.s .n (.s (.s .n (.s (.lp [.leaf 5 (.int .i64)] 0 true .n) .n)) .n)) [] [] [] .nil Tryz.mixed Tryz.func97
def PZ:Ent:=⟨[.ag 12,.lf (.int .i64)],[.ag 12,.ag 10],fun x=>zo x.1 x.2.1⟩
theorem PY:EOk prog 49 PZ:=aE (.s .n (.s .n (.s .n (.s .n (.s .n (.s .n (.s (.s .n (.s (.lp [.box 2 43 12 [],.leaf 8 (.int .i64)] 0 false .n) .n)) (.s .n (.s (.s .n (.s (.lp [.box 2 43 12 [],.leaf 9 (.int .i64)] 2 false .n) .n)) (.s .n (.s (.s .n (.s (.lp [.row 10 10 74 6 (.st 8),.leaf 11 (.int .i64)] 4 false .n) .n)) .n))))))))))) [(2,[79,103,104]),(4,[79,103,104]),(7,[79,103,104]),(11,[79,103,104]),(12,[79,103,104]),(13,[79,103,104]),(17,[103,104]),(25,[10,79,103,104]),(26,[10,79,103,104])] [4,5] [] (.cons o9 (.cons MQ (.cons TS (.cons zO (.cons Nb (.cons xR (.cons Ad (.cons P2 (.cons Nk (.cons FX .nil)))))))))) Tryz.mixed Tryz.func49
def FT:Ent:=⟨[.ag 12,.ag 9],[.ag 12,.ag 10],fun x=>sd x.1 x.2.1⟩
theorem P6:EOk prog 26 FT:=aE .n [] [4,5] [] (.cons Kt (.cons G2 (.cons P4 (.cons KO (.cons Kr (.cons Ui (.cons PY (.cons Uq (.cons Qm (.cons o9 .nil)))))))))) Tryz.mixed Tryz.func26
abbrev Tx:=List UInt8
def sv (l:Tx) : Value:=.string ⟨l.toArray⟩
theorem ZJ (S:ByteArray) : sv S.data.toList = .string S:=by cases S; rfl
structure QD where
 path:Tx
 caps:List (Int×Int)
 user:Int
def above (l:Tx) : Tx:=((l.reverse.dropWhile (fun b=>b != 46)).drop 1).reverse
theorem WE {l:Tx} (h:(46:UInt8) ∉ l) : above l = []:=by
 unfold above
 have hp:∀ x∈l.reverse,(x != 46)=true:=fun x hx=>by
  simp
  intro e
  subst e
  exact h (List.mem_reverse.1 hx)
 have:=List.dropWhile_append_of_pos (l₂:=[]) hp
 rw [List.append_nil] at this
 rw [this]
 rfl
theorem WF {a t:Tx} (h:(46:UInt8) ∉ t) : above (a++46::t)=a:=by
 unfold above
 have hp:∀ x∈t.reverse,(x != 46)=true:=fun x hx=>by simp; intro e; subst e; exact h (List.mem_reverse.1 hx)
 rw [List.reverse_append,List.reverse_cons,List.append_assoc,List.dropWhile_append_of_pos hp]
 simp
def ld (p:Tx) (q:QD) : Bool:=decide (p≠[])&&decide (above q.path=p)
def cz (p:Tx) (l:List QD) : List Tx:=(l.filter (ld p)).map (·.path)
theorem Ew (l:List QD) : cz [] l = []:=by
 unfold cz
 have:l.filter (ld []) = []:=by
  rw [List.filter_eq_nil_iff]
  intro q _
  simp [ld]
 rw [this]; rfl
theorem S0 {p:Tx} {l:List QD} {k:Nat} (h:k < l.length) : cz p (l.take (k + 1))=cz p (l.take k)++if ld p l[k] then [l[k].path] else []:=by
 unfold cz
 rw [List.take_succ_eq_append_getElem h,List.filter_append,List.map_append]
 congr 1
 by_cases hk:ld p l[k] = true
 ·simp [hk]
 ·simp [hk]
theorem VK (p:Tx) (l:List QD) : (cz p l).length≤l.length:=by
 unfold cz
 rw [List.length_map]
 exact List.length_filter_le _ _
theorem X3 {p:Tx} {q:QD} (h0:p≠[]) (h:above q.path=p) : ld p q=true:=by simp [ld,h0,h]
theorem Zp {p:Tx} {q:QD} (h : ¬ above q.path=p) : ld p q=false:=by simp [ld,h]
theorem YR {z x:ByteArray} (h : ¬ z=x) : (z.toList==x.toList)=false:=by
 rw [beq_eq_false_iff_ne]
 intro e
 rw [ByteArray.toList_eq,ByteArray.toList_eq] at e
 apply h
 cases z; cases x
 simp only at e
 rw [Array.toList_inj] at e
 rw [e]
theorem vE (S:ByteArray) : S.size=S.data.toList.length:=by cases S; rfl
theorem Wx (S:ByteArray) (k:Nat) (h:k < S.size) : S[k] = S.data.toList[k]'(by rw [← vE]; exact h):=by cases S; rfl
theorem ZB {S:ByteArray} : S=⟨#[]⟩↔S.data.toList = []:=by
 cases S with
 | mk d => constructor
           ·intro h; injection h with h; rw [h]
           ·intro h; simp at h; rw [h]
theorem RP (S:ByteArray) (i j:Nat) : (S.extract i j).data.toList=(S.data.toList.drop i).take (j - i):=by
 cases S with
 | mk d=>simp [ByteArray.extract,ByteArray.copySlice,Array.toList_extract,List.extract_eq_take_drop]
theorem YS {T S:ByteArray} (e:T.data.toList=S.data.toList) : T=S:=by
 cases T; cases S; simp only at e; rw [Array.toList_inj] at e; rw [e]
def cf (cs:List (Int×Int)) : List Value:=cs.flatMap fun p=>[.int .i64 p.1,.int .i64 p.2]
theorem GZ (cs:List (Int×Int)) (a b:Int) : cf (cs ++ [(a,b)])=cf cs ++ [.int .i64 a,.int .i64 b]:=by simp [cf]
structure QC where
 p:ByteArray
 A:Option Addr
 n:Nat
 c:Nat
 u:Int
def Lr (q:QC) : List Value:=[.string q.p,.slice q.A q.n q.c,.int .i64 q.u]
def fT (qs:List QC) : List Value:=qs.flatMap Lr
theorem Ls (qs:List QC) (q:QC) : fT (qs ++ [q])=fT qs++Lr q:=by simp [fT]
theorem Tryz.infoStr:(prog.info? 9).map (fun i=>(i.zero,i.size,i.bytes))=some (some (.string ⟨#[]⟩),1,16):=by kernel_rfl
theorem Tryz.infoQ:(prog.info? 63).map (fun i=>(i.zero,i.size,i.bytes))=some (some (.agg #[.string ⟨#[]⟩,.slice none 0 0,.int .i64 0]),3,48):=by kernel_rfl
theorem aau {s:ByteArray} {A:Option Addr} {n c:Nat} {i:Int} : ∀ u∈[Value.string s,Value.slice A n c,Value.int .i64 i],u.oneCell' = true:=by
 intro u hu
 simp only [List.mem_cons,List.mem_nil_iff,or_false] at hu
 rcases hu with rfl | rfl | rfl <;> rfl
structure YV (w:World) (g k:Nat) (q:QD) : Prop where
 ex:∃ (P:ByteArray) (A:Option Addr) (c:Nat),w.cell? ⟨g,k * 3,none⟩=some (.string P)∧w.cell? ⟨g,k * 3 + 1,none⟩=some (.slice A q.caps.length c)∧w.cell? ⟨g,k * 3 + 2,none⟩=some (.int .i64 q.user)∧P.data.toList=q.path∧RdK 2 w (.slice A q.caps.length c) q.caps.length (cf q.caps)
def QAt (w:World) (v:Value) (ds:List QD) : Prop:=∃ A c,v = .slice A ds.length c∧ds.length≤c∧c≤maxLen∧(0 < ds.length→∃ g,A=some ⟨g,0,none⟩∧g < w.heap.size∧∀ k (h:k < ds.length),YV w g k ds[k])
theorem QAt.open {w:World} {v:Value} {ds:List QD} (h:QAt w v ds) : ∃ A N c,v = .slice A N c∧N=ds.length∧N≤c∧c≤9223372036854775807∧(0 < N→∃ g,A=some ⟨g,0,none⟩∧g < w.heap.size∧∀ k (h:k < ds.length),YV w g k ds[k]):=by
 obtain ⟨A,c,rfl,h1,h2,h3⟩:=h
 unfold maxLen at h2
 exact ⟨A,_,c,rfl,rfl,h1,by omega,h3⟩
theorem K2 (a n:Int) (w:World) (hn : 0 < n∧n≤1125899906842625) :
  Calls prog 54 #[.int .i64 a,.int .i64 n] w fun e w'=>e = .returned (.int .i64 (a % n))∧w=w':=by
 obtain ⟨n0,n1⟩:=hn
 have hz:(n==0)=false:=by simp; omega
 have l1:a.tmod n < n:=Int.tmod_lt_of_pos a n0
 have l2 : -n < a.tmod n:=by have:=Int.lt_tmod_of_pos a n0; omega
 by_cases hneg:a.tmod n < 0
 ·rw [Ml n0 hneg]
  go_enter Tryz.func54,Tryz.ntmps54
  go_wp2
  go_ret
  exact ⟨rfl,rfl⟩
 ·rw [Mj n0 hneg]
  go_enter Tryz.func54,Tryz.ntmps54
  go_wp2
  go_ret
  exact ⟨rfl,rfl⟩
theorem gI (a:Int) (n:Nat) (m:Int) (w:World) (hm:m=(n:Int)) (hn : 0 < n∧n≤1125899906842625) :
  Calls prog 54 #[.int .i64 a,.int .i64 m] w fun e w'=>∃ y:Nat,e = .returned (.int .i64 (y:Int))∧(y:Int)=a % (n:Int)∧y < n∧w=w':=by
 subst hm
 refine (K2 a n w ⟨by omega,by omega⟩).mono ?_
 rintro e w' ⟨rfl,rfl⟩
 have h0:=Int.emod_nonneg a (show (n:Int)≠0 by omega)
 have h1:=Int.emod_lt_of_pos a (show (0:Int) < n by omega)
 refine ⟨(a % (n:Int)).toNat,?_,by omega,by omega,rfl⟩
 rw [show (((a % (n:Int)).toNat:Nat) : Int)=a % (n:Int) from by omega]
theorem Ou {w:World} {base:Nat} {e:TypeId} {k:Nat} {v:Value} {n:Nat} {xs:List Value} (h:w.ownsRow base e k v n xs) {B:Nat} (hB:B≤base) : ∀ k,v.ownBlock=some k→B≤k :=
 fun k hk=>Nat.le_trans hB (h.lt k hk).1
theorem Oj (S:ByteArray) (w:World) (hs:S.size≤1000000000) : Calls prog 102 #[.string S] w fun e w'=>∃ T:ByteArray,e = .returned (.string T)∧T.data.toList=above S.data.toList∧T.size≤S.size∧w=w':=by
 go_enter Tryz.func102,Tryz.ntmps102
 go_wp2
 go_loop [3] (fun i=>∃ k:Nat,k≤S.size∧i = .int .i64 ((k:Int) - 1)∧(46:UInt8) ∉ S.data.toList.drop k) (fun i=>(intOf i + 1).toNat)
 case atStart=>exact ⟨S.size,Nat.le_refl _,rfl,by rw [List.drop_of_length_le (by rw [vE]; omega)]; simp⟩
 case round =>
  obtain ⟨k,hk,rfl,hno⟩:=hrel
  have HNO:=Lib.hid hno
  clear hno
  cases k with
  | zero =>
   have H2:=Lib.hid (WE (l:=S.data.toList) (by have:=HNO.out; simpa using this))
   go_wp2
   go_ret
   exact ⟨⟨#[]⟩,rfl,H2.out.symm,Nat.zero_le _,rfl⟩
  | succ k =>
   have hkl:k < S.data.toList.length:=by rw [← vE]; omega
   have e1:((k + 1:Nat) : Int) - 1=(k:Int):=by omega
   rw [e1]
   have i0:(0:Int)≤(k:Int):=by omega
   have i1:(k:Int) < (S.size:Int):=by omega
   have i2:(k:Int)≤1000000000:=by omega
   clear e1
   by_cases hd:S[k]'(by omega)=46
   ·have H2:=Lib.hid (show above S.data.toList=S.data.toList.take k by
     have e:S.data.toList=S.data.toList.take k++46::S.data.toList.drop (k + 1):=by
      have h4:S.data.toList[k] = 46:=by rw [← Wx S k (by omega)]; exact hd
      have:=List.take_append_drop k S.data.toList
      rw [List.drop_eq_getElem_cons hkl,h4] at this
      exact this.symm
     have:=WF (a:=S.data.toList.take k) HNO.out
     rw [← e] at this
     exact this)
    have hq:(((S[k]'(by omega)).toNat:Int) != 46)=false:=by rw [hd]; rfl
    have hq2:((S[k]'(by omega)).toNat:Int)=46:=by rw [hd]; rfl
    clear hd
    go_wp2
    go_ret
    refine ⟨_,rfl,?_,?_,rfl⟩
    ·rw [RP,H2.out]; simp
    ·rw [vE,RP,vE]; simp; omega
   ·have hq : ¬ ((S[k]'(by omega)).toNat:Int)=46:=fun h=>hd (UInt8.toNat.inj (by have:(46:UInt8).toNat=46:=rfl; omega))
    have hq2:(((S[k]'(by omega)).toNat:Int) != 46)=true:=by simpa using hq
    have HN2:=Lib.hid (show (46:UInt8) ∉ S.data.toList.drop k by
     rw [List.drop_eq_getElem_cons hkl,List.mem_cons,not_or]
     exact ⟨fun e=>hd (by rw [Wx S k (by omega)]; exact e.symm),HNO.out⟩)
    clear hd
    go_wp2
    go_round
    case rel=>exact ⟨k,by omega,by simp,HN2.out⟩
    case measure=>simp [intOf]
def W6 (p:Tx) (ds:List QD) (w:World) (e:Ending) (w':World) : Prop:=∃ A n c,e = .returned (.slice A n c)∧n=(cz p ds).length∧w'.ownsRow w.heap.size 9 1 (.slice A n c) n ((cz p ds).map sv)∧Ext w w'
theorem Ed {w:World} {B B':Nat} {e:TypeId} {k:Nat} {v:Value} {n:Nat} {xs:List Value} (h:w.ownsRow B e k v n xs) (hB:B'≤B) : w.ownsRow B' e k v n xs:=by
 refine ⟨h.1,?_⟩
 rcases h.2 with hn | ⟨g,cap,cur,rfl,hb,hr⟩
 ·exact .inl hn
 ·exact .inr ⟨g,cap,cur,rfl,Nat.le_trans hB hb,hr⟩
theorem Ki {w wr V w3:World} {B n:Nat} {v v':Value} {l:List Tx} {T:ByteArray} (HX:Ext w wr) (hV:Ext wr V) (hn:n=l.length) (HO:wr.ownsRow B 9 1 v n (l.map sv)) (hB:w.heap.size≤B)
  (ho3:w3.ownsRow B 9 1 v' (n + 1) (l.map sv ++ [.string T])) (hg3:V.grownBy w3 v.ownBlock) : w3.ownsRow B 9 1 v' (l ++ [T.data.toList]).length ((l ++ [T.data.toList]).map sv)∧Ext w w3:=by
 refine ⟨?_,(HX.trans hV).trans' (cJ hg3 ?_ (Ou HO hB))⟩
 ·rw [List.length_append,List.length_singleton,← hn,List.map_append,List.map_singleton,ZJ]
  exact ho3
 ·exact Nat.le_trans HX.size hV.size
theorem SB (ds:List QD) (vl vq:Value) (S:ByteArray) (w:World) (hq:QAt w vq ds) (hlen:ds.length≤1000) (hp:∀ q∈ds,q.path.length≤1000000000) :
  Calls prog 55 #[.agg #[vl,vq],.string S] w (W6 S.data.toList ds w):=by
 obtain ⟨j0,hj,hy0,hy1,hy2⟩:=info_parts Tryz.infoStr
 obtain ⟨A,N,c,rfl,hN,hc1,hc2,hcell⟩:=hq.open
 have HC:=Lib.hid hcell
 have HN:=Lib.hid hN
 have HP:=Lib.hid hp
 have hN1:N≤1000:=by omega
 clear hcell hN hq hp
 go_enter Tryz.func55,Tryz.ntmps55
 go_wp2
 refine Wz (fun W0 hW0=>?_)
 have X0:=Lib.hid (show Ext w W0 by rw [hW0]; exact aO _ _)
 have b1:W0.cell? ⟨w.heap.size,1,none⟩=some (.slice A N c):=by rw [hW0]; simp [go_sem]
 clear hW0
 go_loopw [5,6] (fun v i wr=>∃ (k:Nat),k≤N∧i = .int .i64 k∧wr.ownsRow W0.heap.size 9 1 v (cz S.data.toList (ds.take k)).length ((cz S.data.toList (ds.take k)).map sv)∧Ext W0 wr) (fun _ i _=>N - (intOf i).toNat)
 case atStart=>exact ⟨0,by omega,rfl,World.ownsRow_nil W0 _ _ 1,Ext.refl _⟩
 case round =>
  obtain ⟨k,hkN,rfl,ho,hx⟩:=hrel
  have HX:=Lib.hid hx
  have b1r:=hx.cell' b1
  have hkd:=VK S.data.toList (ds.take k)
  rw [List.length_take] at hkd
  obtain ⟨n,hn⟩ : ∃ n,n=(cz S.data.toList (ds.take k)).length:=⟨_,rfl⟩
  rw [← hn] at ho hkd
  obtain ⟨Av,cv,rfl,hv1,hv2⟩:=cD ho
  have HNN:=Lib.hid hn
  have HO:=Lib.hid ho
  have hn1:n≤1000:=by omega
  clear hx ho hn hkd
  have i0:(0:Int)≤(k:Int):=by omega
  by_cases hlt:k < N
  ·have i1:(k:Int) < (N:Int):=by omega
   have hkl:k < ds.length:=by have:=HN.out; omega
   have HS:=Lib.hid (S0 (p:=S.data.toList) hkl)
   by_cases hS:S=⟨#[]⟩
   ·have hE:S.toList = []:=by rw [hS,ByteArray.toList_eq]
    have HK:=Lib.hid (show cz S.data.toList (ds.take (k + 1))=cz S.data.toList (ds.take k) by rw [hS]; show cz [] _ = cz [] _; rw [Ew,Ew])
    clear hS
    go_wp2
    go_roundw
    case rel=>exact ⟨k + 1,by omega,by simp,by rw [HK.out,← HNN.out]; exact HO.out,HX.out⟩
    case measure=>simp [intOf]; omega
   ·have hne:S.data.toList≠[]:=fun h=>hS (ZB.2 h)
    have hE : ¬ S.toList = []:=by rw [ByteArray.toList_eq]; exact hne
    have hE2:S.toList.isEmpty=false:=by simp [hE]
    have hE3:(!S.toList.isEmpty)=true:=by simp [hE]
    obtain ⟨g,rfl,hg,hqc⟩:=HC.out (by omega)
    obtain ⟨P,Ac,cc,h1,h2,h3,h4,h5⟩:=(hqc k hkl).ex
    have c0:=(X0.out.trans HX.out).cell h1
    have HPP:=Lib.hid h4
    have hPs:P.size≤1000000000:=by rw [vE,h4]; exact HP.out _ (List.getElem_mem hkl)
    clear hqc h1 h2 h3 h4 h5 hS
    go_wp2_with fail
    (with_reducible refine (Oj P _ hPs).mono ?_)
    rintro e w2 ⟨T,rfl,hT,hTs,rfl⟩
    have HT:=Lib.hid hT
    clear hT
    by_cases hTS:T=S
    ·have HK:=Lib.hid (show cz S.data.toList (ds.take (k + 1))=cz S.data.toList (ds.take k) ++ [P.data.toList] by
      rw [HS.out,X3 hne (by rw [← HPP.out,← HT.out,hTS]),HPP.out]; rfl)
     have q1:(T.toList==S.toList)=true:=by rw [hTS]; simp
     clear hTS hne
     go_wp2_with (at_builtin; refine DH _ rfl (.tmp 27) (.tmp 34) 33 33 rfl W0.heap.size 9 j0 (.string ⟨#[]⟩) 16 Tryz.underlying33 hj hy0 hy1 hy2 rfl _ n ((cz S.data.toList (ds.take k)).map sv) rfl (HO.out.alloc _) _ 1 _ rfl ((Rd.one _ _ _ _ _ rfl rfl).src ?c1 Tryz.underlying33) ?c3 ?c4 ?c5 ?_)
     case c1=>first | rfl | (intro u hu; simp at hu; subst hu; rfl)
     case c3=>simp [maxLen]; omega
     case c4=>omega
     case c5=>have h2:=HX.out.size; simp; omega
     intro v' w3 ho3 hg3 _ _
     obtain ⟨y1,y2⟩:=Ki HX.out (aO wr _) HNN.out HO.out (Nat.le_refl _) ho3 hg3
     have Y1:=Lib.hid y1
     have Y2:=Lib.hid y2
     obtain ⟨A3,c3,rfl,_,_⟩:=cD ho3
     clear y1 y2 ho3 hg3
     go_wp2
     go_roundw
     case rel=>exact ⟨k + 1,by omega,by simp,by rw [HK.out]; exact Y1.out,Y2.out⟩
     case measure=>simp [intOf]; omega
    ·have HK:=Lib.hid (show cz S.data.toList (ds.take (k + 1))=cz S.data.toList (ds.take k) by
      rw [HS.out,Zp (by intro e; apply hTS; rw [← HPP.out,← HT.out] at e; cases T; cases S; simp only at e; rw [Array.toList_inj] at e; rw [e])]; simp)
     have q1:(T.toList==S.toList)=false:=YR hTS
     clear hTS hne
     go_wp2
     go_roundw
     case rel=>exact ⟨k + 1,by omega,by simp,by rw [HK.out,← HNN.out]; exact HO.out,HX.out⟩
     case measure=>simp [intOf]; omega
  ·have i1 : ¬ (k:Int) < (N:Int):=by omega
   have HK:=Lib.hid (show cz S.data.toList (ds.take k)=cz S.data.toList ds by rw [List.take_of_length_le (by have:=HN.out; omega)])
   go_wp2
   go_ret
   exact ⟨Av,n,cv,rfl,by rw [← HK.out]; exact HNN.out,by rw [← HK.out]; exact Ed HO.out X0.out.size,X0.out.trans HX.out⟩
theorem yQ:∀ (cs:List (Int×Int)) (k:Nat) (a b:Int),k < cs.length→cf (cs.set k (a,b))=((cf cs).set (k * 2) (.int .i64 a)).set (k * 2 + 1) (.int .i64 b)
 | [],k,_,_,h=>by simp at h
 | p::cs,0,a,b,_=>rfl
 | p::cs,k + 1,a,b,h=>by
  have ih:=yQ cs k a b (by simpa using h)
  rw [List.set_cons_succ]
  show [Value.int .i64 p.1,.int .i64 p.2] ++ cf (cs.set k (a,b))=((([Value.int .i64 p.1,.int .i64 p.2] ++ cf cs).set ((k + 1) * 2) (.int .i64 a)).set ((k + 1) * 2 + 1) (.int .i64 b))
  rw [ih,show (k + 1) * 2=k * 2 + 1 + 1 by omega]
  rfl
theorem Ka (cs:List (Int×Int)) (k:Nat) (h:k < cs.length) : (cf cs)[k * 2]? = some (.int .i64 cs[k].1)∧(cf cs)[k * 2 + 1]? = some (.int .i64 cs[k].2):=by
 induction cs generalizing k with
 | nil=>simp at h
 | cons p cs ih =>
  cases k with
  | zero=>exact ⟨rfl,rfl⟩
  | succ k =>
   obtain ⟨h1,h2⟩:=ih k (by simpa using h)
   have e:cf (p::cs) = .int .i64 p.1 :: .int .i64 p.2::cf cs:=rfl
   rw [e,show (k + 1) * 2=k * 2 + 1 + 1 by omega]
   exact ⟨h1,h2⟩
theorem uf (qs:List QC) (k:Nat) (q:QC) (h:qs[k]? = some q) : (fT qs)[k * 3]? = some (.string q.p)∧(fT qs)[k * 3 + 1]? = some (.slice q.A q.n q.c)∧(fT qs)[k * 3 + 2]? = some (.int .i64 q.u):=by
 induction qs generalizing k with
 | nil=>simp at h
 | cons p qs ih =>
  have e:fT (p::qs) = .string p.p :: .slice p.A p.n p.c :: .int .i64 p.u::fT qs:=rfl
  cases k with
  | zero =>
   simp at h
   subst h
   exact ⟨rfl,rfl,rfl⟩
  | succ k =>
   obtain ⟨h1,h2,h3⟩:=ih k (by simpa using h)
   rw [e,show (k + 1) * 3=k * 3 + 1 + 1 + 1 by omega]
   exact ⟨h1,h2,h3⟩
def cb (q:QC) : Option Nat:=(Value.slice q.A q.n q.c).ownBlock
def wR (w:World) (B:Nat) (q:QC) (d:QD) : Prop:=q.p.data.toList=d.path∧q.u=d.user∧q.n=d.caps.length∧w.ownsRow B 98 2 (.slice q.A q.n q.c) q.n (cf d.caps)
theorem wR.ext {w w':World} {B:Nat} {q:QC} {d:QD} (h:wR w B q d) (x:Ext w w') : wR w' B q d:=⟨h.1,h.2.1,h.2.2.1,kZ h.2.2.2 x⟩
theorem wR.kept {w w':World} {B:Nat} {row:Option Nat} {q:QC} {d:QD} (h:wR w B q d) (x:w.grownBy w' row) (hr:cb q=none∨cb q≠row) : wR w' B q d:=⟨h.1,h.2.1,h.2.2.1,h.2.2.2.kept x hr⟩
structure iM (w:World) (B:Nat) (v:Value) (ds:List QD) (qs:List QC) : Prop where
 row:w.ownsRow B 63 3 v ds.length (fT qs)
 len:qs.length=ds.length
 each:∀ (k:Nat) (q:QC) (h:k < ds.length),qs[k]? = some q→wR w B q ds[k]
 apart:∀ (i j:Nat) (qi qj:QC),i≠j→qs[i]? = some qi→qs[j]? = some qj→∀ g,cb qi=some g→cb qj≠some g
theorem iM.nil (w:World) (B:Nat) : iM w B (.slice none 0 0) [] []:=⟨World.ownsRow_nil w _ _ 3,rfl,fun k _ h=>absurd h (by simp),fun i j qi qj _ h=>by simp at h⟩
theorem iM.ext {w w':World} {B:Nat} {v:Value} {ds:List QD} {qs:List QC} (h:iM w B v ds qs) (x:Ext w w') : iM w' B v ds qs :=
 ⟨kZ h.row x,h.len,fun k q hk hq=>(h.each k q hk hq).ext x,h.apart⟩
theorem o0 {w:World} {B e e' k n R:Nat} {v:Value} {xs:List Value} {cur:Array Value} {f:Nat×Nat} (h:w.ownsRow B e k v n xs) (hR:w.heap[R]? = some (.cells cur e' f)) (he:e≠e') : v.ownBlock≠some R:=by
 rcases h.2 with ⟨rfl,_⟩ | ⟨g,cap,cur',rfl,_,hg,_⟩
 ·intro e1; cases e1
 ·intro e1
  simp [Value.ownBlock] at e1
  subst e1
  rw [hg] at hR
  injection hR with hR
  injection hR with _ h2
  exact he h2
theorem iM.kept {w w':World} {B R:Nat} {v:Value} {ds:List QD} {qs:List QC} {cur:Array Value} {e':TypeId} {f:Nat×Nat} (h:iM w B v ds qs) (x:w.grownBy w' (some R)) (hR:w.heap[R]? = some (.cells cur e' f)) (h1 : 63≠e') (h2 : 98≠e') : iM w' B v ds qs :=
 ⟨h.row.kept x (.inr (o0 h.row hR h1)),h.len,fun k q hk hq=>(h.each k q hk hq).kept x (.inr (o0 (h.each k q hk hq).2.2.2 hR h2)),h.apart⟩
theorem iM.rd {w:World} {B:Nat} {v:Value} {ds:List QD} {qs:List QC} (h:iM w B v ds qs) : QAt w v ds:=by
 have hl:=h.len
 rcases h.row.2 with ⟨rfl,h0⟩ | ⟨g,cap,cur,rfl,hb,hg,hc,hm,_⟩
 ·exact ⟨none,0,by rw [h0],by omega,by simp [maxLen],fun hn=>by omega⟩
 ·refine ⟨_,cap,rfl,hc,hm,fun hn=>⟨g,rfl,(Array.getElem?_eq_some_iff.1 hg).1,fun k hk=>?_⟩⟩
  obtain ⟨q,hq⟩ : ∃ q,qs[k]? = some q:=⟨qs[k]'(by omega),by rw [zq]⟩
  obtain ⟨h1,h2,h3,h4⟩:=h.each k q hk hq
  obtain ⟨c1,c2,c3⟩:=uf qs k q hq
  have hat:=fun j (hj:j < ds.length * 3)=>h.row.cellAt j hj
  refine ⟨q.p,q.A,q.c,?_,?_,?_,h1,?_⟩
  ·rw [hat _ (by omega)]; exact c1
  ·rw [hat _ (by omega),← h3]; exact c2
  ·rw [hat _ (by omega),← h2]; exact c3
  ·rw [← h3]; exact RdK.of_own h4
theorem iM.snoc {w V w4:World} {B:Nat} {v v':Value} {ds:List QD} {qs:List QC} {q:QC} {d:QD} (h:iM w B v ds qs) (x:Ext w V) (hq:wR V B q d) (hnew:∀ g,cb q=some g→∀ (i:Nat) (qi:QC),qs[i]? = some qi→cb qi≠some g)
  (hown:w4.ownsRow B 63 3 v' (ds.length + 1) (fT qs++Lr q)) (hg:V.grownBy w4 v.ownBlock) : iM w4 B v' (ds ++ [d]) (qs ++ [q]):=by
 have hx:=h.ext x
 have hne:∀ q' d',wR V B q' d'→cb q' = none∨cb q'≠v.ownBlock:=fun q' d' h'=>Ze h'.2.2.2 hx.row (by decide)
 refine ⟨by rw [List.length_append,List.length_singleton,Ls]; exact hown,by simp [h.len],fun k q' hk hq'=>?_,fun i j qi qj hij hi hj g hgi=>?_⟩
 ·rw [List.length_append,List.length_singleton] at hk
  by_cases hlt:k < ds.length
  ·rw [List.getElem?_append_left (by rw [h.len]; exact hlt)] at hq'
   rw [List.getElem_append_left hlt]
   exact (hx.each k q' hlt hq').kept hg (hne _ _ (hx.each k q' hlt hq'))
  ·obtain rfl:k=ds.length:=by omega
   rw [List.getElem?_append_right (by rw [h.len]; exact Nat.le_refl _),h.len] at hq'
   simp at hq'
   subst hq'
   rw [List.getElem_append_right (Nat.le_refl _)]
   simp only [Nat.sub_self,List.getElem_cons_zero]
   exact hq.kept hg (hne _ _ hq)
 ·by_cases h1:i < qs.length
  ·rw [List.getElem?_append_left h1] at hi
   by_cases h2:j < qs.length
   ·rw [List.getElem?_append_left h2] at hj
    exact h.apart i j qi qj hij hi hj g hgi
   ·rw [List.getElem?_append_right (by omega)] at hj
    have h3:j - qs.length=0:=by
     have:=(zg.1 hj).1
     simp at this; omega
    rw [h3] at hj
    simp at hj
    subst hj
    intro e
    exact hnew g e i qi hi hgi
  ·rw [List.getElem?_append_right (by omega)] at hi
   have h3:i - qs.length=0:=by
    have:=(zg.1 hi).1
    simp at this; omega
   rw [h3] at hi
   simp at hi
   subst hi
   by_cases h2:j < qs.length
   ·rw [List.getElem?_append_left h2] at hj
    exact hnew g hgi j qj hj
   ·exfalso
    have:=(zg.1 hj).1
    simp at this
    omega
def Jt (ds:List QD) (m k:Nat) (a b:Int) : List QD:=ds.modify m fun q=>⟨q.path,q.caps.set k (a,b),q.user⟩
theorem qN (ds:List QD) (m k:Nat) (a b:Int) : (Jt ds m k a b).length=ds.length:=by simp [Jt]
theorem iM.put {w:World} {B:Nat} {v:Value} {ds:List QD} {qs:List QC} (h:iM w B v ds qs) {m k:Nat} (hm:m < ds.length) (hk:k < (ds[m]).caps.length) :
  ∃ gq cq g c,v = .slice (some ⟨gq,0,none⟩) ds.length cq∧w.cell? ⟨gq,m * 3 + 1,none⟩=some (.slice (some ⟨g,0,none⟩) (ds[m]).caps.length c)∧B≤g∧g < w.heap.size∧(∃ cur,w.heap[g]? = some (.cells cur 98 (0,0))) ∧
   (∀ j,w.frozen? ⟨g,j,none⟩=false)∧w.cell? ⟨g,k * 2,none⟩=some (.int .i64 ((ds[m]).caps[k]).1)∧w.cell? ⟨g,k * 2 + 1,none⟩=some (.int .i64 ((ds[m]).caps[k]).2) ∧
   ∀ a b,iM ((w.setCell ⟨g,k * 2,none⟩ (.int .i64 a)).setCell ⟨g,k * 2 + 1,none⟩ (.int .i64 b)) B v (Jt ds m k a b) qs∧w.grownBy ((w.setCell ⟨g,k * 2,none⟩ (.int .i64 a)).setCell ⟨g,k * 2 + 1,none⟩ (.int .i64 b)) (some g):=by
 have hl:=h.len
 obtain ⟨q,hq⟩ : ∃ q,qs[m]? = some q:=⟨qs[m]'(by omega),by rw [zq]⟩
 obtain ⟨h1,h2,h3,h4⟩:=h.each m q hm hq
 rcases h.row.2 with ⟨_,h0⟩ | ⟨gq,cq,cur,rfl,hb,hg,hc,hmx,_⟩
 ·omega
 rcases h4.2 with ⟨_,h0⟩ | ⟨g,c,cur',ev,hb',hg',hc',hm',_⟩
 ·omega
 injection ev with eA eN eC
 have h4':w.ownsRow B 98 2 (.slice (some ⟨g,0,none⟩) q.n q.c) q.n (cf ds[m].caps):=by rw [← eA]; exact h4
 have hcq:cb q=some g:=by unfold cb; rw [eA]; rfl
 have hcell:=h.row.cellAt (m * 3 + 1) (by omega)
 rw [(uf qs m q hq).2.1,h3,eA] at hcell
 obtain ⟨k1,k2⟩:=Ka ds[m].caps k hk
 have c1:=h4'.cellAt (k * 2) (by omega)
 have c2:=h4'.cellAt (k * 2 + 1) (by omega)
 rw [k1] at c1
 rw [k2] at c2
 refine ⟨gq,cq,g,q.c,rfl,hcell,hb',(Array.getElem?_eq_some_iff.1 hg').1,⟨cur',hg'⟩,h4'.frozenAt,c1,c2,fun a b=>?_⟩
 have hgr:w.grownBy ((w.setCell ⟨g,k * 2,none⟩ (.int .i64 a)).setCell ⟨g,k * 2 + 1,none⟩ (.int .i64 b)) (some g) :=
  ⟨rfl,rfl,rfl,by simp [World.setCell],fun i _ hi=>(Below.heap_setCell _ _ _ _ (fun e=>hi (by rw [e]))).trans (Below.heap_setCell _ _ _ _ (fun e=>hi (by rw [e])))⟩
 have st:=(h4'.stored (k * 2) (.int .i64 a)).1.stored (k * 2 + 1) (.int .i64 b)
 rw [← yQ _ _ _ _ hk] at st
 refine ⟨⟨?_,by rw [qN]; exact hl,fun i q' hi hq'=>?_,h.apart⟩,hgr⟩
 ·rw [qN]
  exact h.row.kept hgr (.inr (o0 h.row hg' (by decide)))
 ·rw [qN] at hi
  simp only [Jt,List.getElem_modify]
  by_cases him:m=i
  ·subst him
   rw [hq] at hq'
   injection hq' with hq'
   subst hq'
   rw [if_pos rfl]
   refine ⟨h1,h2,by simpa using h3,?_⟩
   rw [eA]
   exact st.1
  ·rw [if_neg him]
   exact (h.each i q' hi hq').kept hgr (.inr fun e=>h.apart m i q q' him hq hq' g hcq e)
def U8:Tx:=[114,111,111,116]
def mn:Nat→List Tx
 | 0=>[[114,111,111,116]]
 | 1=>[[114,111,111,116],[114,111,111,116,46,97],[114,111,111,116,46,98]]
 | 2=>[[114,111,111,116],[114,111,111,116,46,97],[114,111,111,116,46,97,46,120],[114,111,111,116,46,97,46,121],[114,111,111,116,46,98]]
 | 3=>[[114,111,111,116],[114,111,111,116,46,97],[114,111,111,116,46,98],[114,111,111,116,46,98,46,120],[114,111,111,116,46,98,46,120,46,112],[114,111,111,116,46,98,46,120,46,113],[114,111,111,116,46,99]]
 | _=>[[114,111,111,116],[114,111,111,116,46,97]]
def gpu:Tx:=[103,112,117]
def CE (nl:Nat) : List Tx:=([[],gpu] : List Tx).take nl
theorem qy {nl:Nat} (h:nl≤2) : (CE nl).length=nl:=by simp [CE]; omega
theorem K6 (y:Nat) : (mn y).length≤7:=by
 unfold mn
 split <;> decide
theorem K5 (y:Nat) : ∀ p∈mn y,p.length≤11:=by
 unfold mn
 split <;> decide
theorem N0 (y:Nat) : (mn y).Nodup:=by
 unfold mn
 split <;> decide
def B4 (p:Tx) (ps:List Tx) : List Tx:=ps.filter fun x=>decide (p≠[])&&decide (above x=p)
theorem Ex (p:Tx) (ds:List QD) : cz p ds=B4 p (ds.map (·.path)):=by
 unfold cz B4
 rw [List.filter_map]
 rfl
def rl:Int×Int:=(10000,10000)
structure G1 (nl:Nat) (ps:List Tx) (k:Nat) (ds:List QD) : Prop where
 paths:ds.map (·.path)=ps.take k
 each:∀ q∈ds,q.caps=List.replicate nl rl∧1≤q.user∧q.user≤1000000
theorem G1.nil (nl:Nat) (ps:List Tx) : G1 nl ps 0 []:=⟨rfl,by simp⟩
theorem G1.snoc {nl k:Nat} {ps:List Tx} {ds:List QD} (h:G1 nl ps k ds) (hk:k < ps.length) {u:Int} (h1 : 1≤u) (h2:u≤1000000) : G1 nl ps (k + 1) (ds ++ [⟨ps[k],List.replicate nl rl,u⟩]):=by
 refine ⟨?_,fun q hq=>?_⟩
 ·rw [List.map_append,h.paths,List.take_succ_eq_append_getElem hk]; rfl
 ·rcases List.mem_append.1 hq with hq | hq
  ·exact h.each q hq
  ·simp at hq; subst hq; exact ⟨rfl,h1,h2⟩
def aaj (c:Int×Int) : Prop:=0≤c.1∧c.1≤c.2∧c.2≤10000
structure Gd (nl:Nat) (ps:List Tx) (ds:List QD) : Prop where
 paths:ds.map (·.path)=ps
 each:∀ q∈ds,q.caps.length=nl∧1≤q.user∧q.user≤1000000∧∀ c∈q.caps,aaj c
 root:∀ q∈ds,q.path=U8→q.caps=List.replicate nl rl
theorem Gd.len {nl:Nat} {ps:List Tx} {ds:List QD} (h:Gd nl ps ds) : ds.length=ps.length:=by
 have:=congrArg List.length h.paths
 simpa using this
def HH (k:Nat) (q:QD) : Int:=(q.caps.getD k (0,0)).1
def OB (k:Nat) (l:List QD) : Int:=(l.map (HH k)).sum
def mE (p:Tx) (ds:List QD) : List QD:=ds.filter (ld p)
theorem uy (p:Tx) (ds:List QD) : (mE p ds).length=(cz p ds).length:=by simp [mE,cz]
def YB (k:Nat) (p:Tx) (ds:List QD) : Prop:=mE p ds≠[]→OB k (mE p ds)=10000
structure GI (nl:Nat) (ps:List Tx) (i:Nat) (ds:List QD) : Prop where
 gd:Gd nl ps ds
 done:∀ i' (h:i' < ps.length),i' < i→∀ k,k < nl→YB k ps[i'] ds
structure GK (nl:Nat) (ps:List Tx) (i k:Nat) (ds:List QD) : Prop where
 gi:GI nl ps i ds
 part:∀ h:i < ps.length,∀ k',k' < k→YB k' ps[i] ds
structure GJ (nl:Nat) (ps:List Tx) (i k j:Nat) (left:Int) (ds:List QD) : Prop where
 gk:GK nl ps i k ds
 lo : 0≤left
 hi:left≤10000
 sum:∀ h:i < ps.length,OB k ((mE ps[i] ds).take j)=10000 - left
 last:∀ h:i < ps.length,0 < j→j=(mE ps[i] ds).length→left=0
def qn (p:Tx) (k:Nat) (a b:Int) (q:QD) : QD:=if q.path=p then ⟨q.path,q.caps.set k (a,b),q.user⟩ else q
def iB (p:Tx) (k:Nat) (a b:Int) (ds:List QD) : List QD:=ds.map (qn p k a b)
def eO (p:Tx) (k:Nat) (a b:Int) (ds:List QD) (m:Nat) : List QD:=(ds.take m).map (qn p k a b)++ds.drop m
theorem DZ (p:Tx) (k:Nat) (a b:Int) (ds:List QD) : eO p k a b ds 0=ds:=by simp [eO]
theorem Hr (p:Tx) (k:Nat) (a b:Int) (ds:List QD) : eO p k a b ds ds.length=iB p k a b ds:=by simp [eO,iB]
theorem gL (p:Tx) (k:Nat) (a b:Int) (ds:List QD) (m:Nat) : (eO p k a b ds m).length=ds.length:=by simp [eO]; omega
theorem AC (p:Tx) (k:Nat) (a b:Int) (ds:List QD) (m:Nat) (hm:m < ds.length) (h:m < (eO p k a b ds m).length) : (eO p k a b ds m)[m] = ds[m]:=by
 have h2:(eO p k a b ds m)[m]? = ds[m]? := by
  unfold eO
  rw [List.getElem?_append_right (by simp; omega),List.getElem?_drop]
  congr 1
  simp
  omega
 rw [zq h,zq hm] at h2
 injection h2
theorem AH (p:Tx) (k:Nat) (a b:Int) (q:QD) : (qn p k a b q).path=q.path:=by unfold qn; split <;> rfl
theorem SH (p:Tx) (k:Nat) (a b:Int) (q:QD) : (qn p k a b q).caps.length=q.caps.length:=by unfold qn; split <;> simp
theorem Hu (p:Tx) (k:Nat) (a b:Int) (q:QD) : (qn p k a b q).user=q.user:=by unfold qn; split <;> rfl
theorem Js {p:Tx} {k:Nat} {a b:Int} {q:QD} (h:q.path≠p) : qn p k a b q=q:=by unfold qn; rw [if_neg h]
theorem Lh {p:Tx} {k:Nat} {a b:Int} {ds:List QD} {m:Nat} (hm:m < ds.length) (h:ds[m].path≠p) : eO p k a b ds (m + 1)=eO p k a b ds m:=by
 unfold eO
 rw [List.take_succ_eq_append_getElem hm,List.map_append,List.drop_eq_getElem_cons hm]
 simp [Js h]
theorem Em {α : Type} : ∀ (l:List α) (x : α) (r:List α) (f : α→α) (n:Nat),l.length=n→(l++x::r).modify n f=l++f x::r
 | [],x,r,f,_,h=>by subst h; rfl
 | y::l,x,r,f,n,h=>by
  subst h
  simp only [List.cons_append,List.length_cons,List.modify_succ_cons]
  rw [Em l x r f _ rfl]
theorem Hq {p:Tx} {k:Nat} {a b:Int} {ds:List QD} {m:Nat} (hm:m < ds.length) (h:ds[m].path=p) : eO p k a b ds (m + 1)=(eO p k a b ds m).modify m (fun q=>⟨q.path,q.caps.set k (a,b),q.user⟩):=by
 have hl:((ds.take m).map (qn p k a b)).length=m:=by simp; omega
 unfold eO
 rw [List.take_succ_eq_append_getElem hm,List.map_append,List.append_assoc]
 conv=>rhs; rw [List.drop_eq_getElem_cons hm]
 rw [Em _ _ _ _ _ hl]
 simp [qn,h]
theorem G1.start {nl:Nat} {ps:List Tx} {ds:List QD} (h:G1 nl ps ps.length ds) : GI nl ps 0 ds:=by
 refine ⟨⟨by rw [h.paths,List.take_length],fun q hq=>?_,fun q hq _=>(h.each q hq).1⟩,fun _ _ h=>by omega⟩
 obtain ⟨h1,h2,h3⟩:=h.each q hq
 refine ⟨by rw [h1]; simp,h2,h3,fun c hc=>?_⟩
 rw [h1] at hc
 have:=List.eq_of_mem_replicate hc
 subst this
 exact ⟨by decide,by decide,by decide⟩
theorem GI.toK {nl i:Nat} {ps:List Tx} {ds:List QD} (h:GI nl ps i ds) : GK nl ps i 0 ds:=⟨h,fun _ _ h=>by omega⟩
theorem GK.toJ {nl i k:Nat} {ps:List Tx} {ds:List QD} (h:GK nl ps i k ds) : GJ nl ps i k 0 10000 ds:=⟨h,by omega,by omega,fun _=>by simp [OB],fun _ h=>by omega⟩
theorem GJ.end {nl i k j:Nat} {left:Int} {ps:List Tx} {ds:List QD} (h:GJ nl ps i k j left ds) (hj:∀ h:i < ps.length,j=(cz ps[i] ds).length) : GK nl ps i (k + 1) ds:=by
 refine ⟨h.gk.gi,fun hi k' hk' hne=>?_⟩
 rcases Nat.lt_or_ge k' k with h1 | h1
 ·exact h.gk.part hi k' h1 hne
 ·obtain rfl:k' = k:=by omega
  have h2:=hj hi
  rw [← uy] at h2
  have h3:=h.sum hi
  have h4:=h.last hi (by
   have:(mE ps[i] ds).length≠0:=fun e=>hne (List.eq_nil_of_length_eq_zero e)
   omega) h2
  rw [h2,List.take_length] at h3
  omega
theorem GK.end {nl i:Nat} {ps:List Tx} {ds:List QD} (h:GK nl ps i nl ds) : GI nl ps (i + 1) ds:=by
 refine ⟨h.gi.gd,fun i' hi' hlt k hk=>?_⟩
 rcases Nat.lt_or_ge i' i with h1 | h1
 ·exact h.gi.done i' hi' h1 k hk
 ·obtain rfl:i' = i:=by omega
  exact h.part hi' k hk
theorem LH {α : Type} {l:List α} (h:l.Nodup) {i j:Nat} (hi:i < l.length) (hj:j < l.length) (e:l[i] = l[j]) : i=j:=by
 rcases Nat.lt_trichotomy i j with h1 | h1 | h1
 ·exact absurd e (List.pairwise_iff_getElem.1 h i j hi hj h1)
 ·exact h1
 ·exact absurd e.symm (List.pairwise_iff_getElem.1 h j i hj hi h1)
theorem GN {p:Tx} {k k':Nat} {a b:Int} {q:QD} (h:k'≠k) : HH k' (qn p k a b q)=HH k' q:=by
 unfold qn HH
 split
 ·simp only [List.getD_eq_getElem?_getD]
  rw [List.getElem?_set_ne (by omega)]
 ·rfl
theorem D7 {p:Tx} {k:Nat} {a b:Int} {q:QD} (h:q.path=p) (hk:k < q.caps.length) : HH k (qn p k a b q)=a:=by
 unfold qn HH
 rw [if_pos h]
 simp only [List.getD_eq_getElem?_getD]
 rw [List.getElem?_set_self (by simpa using hk)]
 rfl
theorem OJ (pp p:Tx) (k:Nat) (a b:Int) (q:QD) : ld pp (qn p k a b q)=ld pp q:=by unfold ld; rw [AH]
theorem yF (pp p:Tx) (k:Nat) (a b:Int) (ds:List QD) : mE pp (iB p k a b ds)=(mE pp ds).map (qn p k a b):=by
 unfold mE iB
 rw [List.filter_map]
 congr 1
 apply List.filter_congr
 intro q _
 exact OJ pp p k a b q
theorem XW {p:Tx} {k k':Nat} {a b:Int} (l:List QD) (h:k'≠k) : OB k' (l.map (qn p k a b))=OB k' l:=by
 unfold OB
 rw [List.map_map]
 congr 1
 apply List.map_congr_left
 intro q _
 exact GN h
theorem BW {p:Tx} {k:Nat} {a b:Int} (l:List QD) (h:∀ q∈l,q.path≠p) : l.map (qn p k a b)=l:=by
 conv=>rhs; rw [← List.map_id l]
 apply List.map_congr_left
 intro q hq
 exact Js (h q hq)
theorem xn {pp:Tx} {ds:List QD} {q:QD} (h:q∈mE pp ds) : above q.path=pp∧pp≠[]:=by
 unfold mE at h
 have:=(List.mem_filter.1 h).2
 simp [ld] at this
 exact ⟨this.2,this.1⟩
theorem Gd.set {nl k:Nat} {p:Tx} {n mo:Int} {ps:List Tx} {ds:List QD} (h:Gd nl ps ds) (hp:p≠U8) (h0 : 0≤n) (h2:n≤mo) (h3:mo≤10000) : Gd nl ps (iB p k n mo ds):=by
 refine ⟨?_,fun q hq=>?_,fun q hq hr=>?_⟩
 ·unfold iB
  rw [List.map_map,← h.paths]
  apply List.map_congr_left
  intro q _
  exact AH _ _ _ _ _
 ·unfold iB at hq
  obtain ⟨q',hq',rfl⟩:=List.mem_map.1 hq
  obtain ⟨h4,h5,h6,h7⟩:=h.each q' hq'
  refine ⟨by rw [SH]; exact h4,by rw [Hu]; exact h5,by rw [Hu]; exact h6,fun c hc=>?_⟩
  unfold qn at hc
  split at hc
  ·rcases List.mem_or_eq_of_mem_set hc with hc | hc
   ·exact h7 c hc
   ·subst hc; exact ⟨h0,h2,h3⟩
  ·exact h7 c hc
 ·unfold iB at hq
  obtain ⟨q',hq',rfl⟩:=List.mem_map.1 hq
  rw [AH] at hr
  rw [Js (by rw [hr]; exact fun e=>hp e.symm)]
  exact h.root q' hq' hr
theorem GJ.step {nl i k j:Nat} {left n mo:Int} {ps:List Tx} {ds:List QD} (h:GJ nl ps i k j left ds) (hps:ps.Nodup) (hi:i < ps.length) (hj:j < (cz ps[i] ds).length) (hk:k < nl) (h0 : 0≤n) (h1:n≤left) (hlast:j + 1=(cz ps[i] ds).length→n=left) (h2:n≤mo) (h3:mo≤10000) :
  GJ nl ps i k (j + 1) (left - n) (iB ((cz ps[i] ds)[j]) k n mo ds):=by
 have hgd:=h.gk.gi.gd
 have hjl:j < (mE ps[i] ds).length:=by rw [uy]; exact hj
 obtain ⟨p,hp⟩ : ∃ p,p=(cz ps[i] ds)[j]:=⟨_,rfl⟩
 have hpp:(mE ps[i] ds)[j].path=p:=by rw [hp]; simp [cz,mE]
 have hmem:(mE ps[i] ds)[j]∈mE ps[i] ds:=List.getElem_mem hjl
 have hab:above p=ps[i]:=by rw [← hpp]; exact (xn hmem).1
 have hne0:ps[i]≠[]:=(xn hmem).2
 have hroot:p≠U8:=by
  intro e
  rw [e] at hab
  exact hne0 (hab.symm.trans (by decide))
 rw [← hp]
 have hnd:((mE ps[i] ds).map (·.path)).Nodup:=by
  unfold mE
  have h5:(ds.map (·.path)).Nodup:=by rw [hgd.paths]; exact hps
  exact List.Nodup.sublist (List.Sublist.map _ List.filter_sublist) h5
 have other:∀ i' (hi':i' < ps.length),i'≠i→mE ps[i'] (iB p k n mo ds)=mE ps[i'] ds:=by
  intro i' hi' hne
  rw [yF,BW]
  intro q hq e
  have:=(xn hq).1
  rw [e,hab] at this
  exact hne (LH hps hi' hi this.symm)
 have hcap:k < ((mE ps[i] ds)[j]).caps.length:=by
  have:(mE ps[i] ds)[j]∈ds:=(List.mem_filter.1 hmem).1
  rw [(hgd.each _ this).1]; exact hk
 have before:((mE ps[i] ds).take j).map (qn p k n mo)=(mE ps[i] ds).take j:=by
  apply BW
  intro q hq e
  obtain ⟨j',hj',e2⟩:=List.mem_iff_getElem.1 hq
  rw [List.length_take] at hj'
  rw [List.getElem_take] at e2
  have e3:((mE ps[i] ds).map (·.path))[j']'(by simp; omega)=((mE ps[i] ds).map (·.path))[j]'(by simpa using hjl):=by
   simp only [List.getElem_map]
   rw [e2,e,hpp]
  have:=LH hnd _ _ e3
  omega
 refine ⟨⟨⟨hgd.set hroot h0 h2 h3,fun i' hi' hlt k' hk'=>?_⟩,fun _ k' hk'=>?_⟩,by omega,by have:=h.hi; omega,fun _=>?_,fun _ _ hjj=>?_⟩
 ·unfold YB
  rw [other i' hi' (by omega)]
  exact h.gk.gi.done i' hi' hlt k' hk'
 ·unfold YB
  rw [yF,XW _ (by omega)]
  intro hne
  exact h.gk.part hi k' hk' (fun e=>hne (by rw [e]; rfl))
 ·rw [yF,← List.map_take,List.take_succ_eq_append_getElem hjl,List.map_append,before]
  have hs:=h.sum hi
  unfold OB at hs ⊢
  rw [List.map_append,List.sum_append,hs]
  simp only [List.map_cons,List.map_nil,List.sum_cons,List.sum_nil]
  rw [D7 hpp hcap]
  omega
 ·rw [yF,List.length_map,uy] at hjj
  rw [hlast hjj]
  omega
end Go.Proofs.YtmjkjaahbgikjaaGreat
