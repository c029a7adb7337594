/- My texts, in one. -/
import Derived.Test.YtmjkjaahbgikjaaGreatZC
set_option linter.all false
set_option maxRecDepth 100000
set_option maxHeartbeats 4000000
namespace Go.Proofs.YtmjkjaahbgikjaaGreat
open Go.RowKit
open IntKind (i64)
open Go.Proofs.Tryz (prog)
theorem lI {w w':World} {base:Nat} {e:TypeId} {k:Nat} {v:Value} {n:Nat} {xs:List Value} (h:w.ownsRow base e k v n xs) (x:Ext w w') : w'.ownsRow base e k v n xs:=by
 refine ⟨h.1,?_⟩
 rcases h.2 with hn | ⟨g,cap,cur,rfl,hb,hg,hr⟩
 ·exact .inl hn
 ·exact .inr ⟨g,cap,cur,rfl,hb,(x.block g (Array.getElem?_eq_some_iff.1 hg).1).trans hg,hr⟩
def RdK (k:Nat) (w:World) (v:Value) (n:Nat) (xs:List Value) : Prop :=
 ∃ A c,v = .slice A n c∧n≤c∧c≤maxLen∧xs.length=n * k∧(0 < xs.length→∃ a,A=some a∧a.block < w.heap.size∧∀ j u,xs[j]? = some u→w.cell? (a.add j)=some u)
theorem RdK.of_own {k:Nat} {w:World} {base:Nat} {e:TypeId} {v:Value} {n:Nat} {xs:List Value} (h:w.ownsRow base e k v n xs) : RdK k w v n xs:=by
 have hl:=h.1
 rcases h.2 with ⟨rfl,h0⟩ | ⟨g,cap,cur,rfl,_,hg,hc,hm,_⟩
 ·subst h0; exact ⟨none,0,rfl,Nat.le_refl _,by simp [maxLen],hl,fun hn=>by omega⟩
 ·exact ⟨_,cap,rfl,hc,hm,hl,fun hn=>⟨⟨g,0,none⟩,rfl,(Array.getElem?_eq_some_iff.1 hg).1,h.cells (g:=g) rfl⟩⟩
theorem cK {w:World} {B e k n:Nat} {v:Value} {xs:List Value} (h:w.ownsRow B e k v n xs) : ∃ A c,v = .slice A n c∧n≤c∧c≤9223372036854775807:=by
 rcases h.2 with ⟨rfl,h0⟩ | ⟨g,cap,cur,rfl,_,_,hc,hm,_⟩
 ·subst h0; exact ⟨none,0,rfl,Nat.le_refl _,by omega⟩
 ·unfold maxLen at hm; exact ⟨_,cap,rfl,hc,by omega⟩
theorem GU (w:World) (x y z:Value) (t:TypeId) : ∀ j u,[x,y,z][j]? = some u→(w.alloc (.cells #[x,y,z] t)).cell? ((⟨w.heap.size,0,none⟩ : Addr).add j)=some u:=by
 intro j u hu
 have hadd:(⟨w.heap.size,0,none⟩ : Addr).add j=⟨w.heap.size,j,none⟩:=by unfold Addr.add; split <;> simp_all
 rw [hadd,cell_of_row _ w.heap.size j _ t (0,0) (heap_alloc_new w _),← Array.getElem?_toList]
 exact hu
theorem abi {w:World} {B B' e e' k k' n n':Nat} {v v':Value} {xs xs':List Value} (h:w.ownsRow B e k v n xs) (h':w.ownsRow B' e' k' v' n' xs') (he:e≠e') : v.ownBlock=none∨v.ownBlock≠v'.ownBlock:=by
 rcases h.2 with ⟨rfl,_⟩ | ⟨g,cap,cur,rfl,_,hg,_⟩
 ·exact .inl rfl
 ·refine .inr fun e1=>?_
  rcases h'.2 with ⟨rfl,_⟩ | ⟨g',cap',cur',rfl,_,hg',_⟩
  ·cases e1
  ·simp [Value.ownBlock] at e1
   subst e1
   rw [hg] at hg'
   injection hg' with hg'
   injection hg' with _ h2
   exact he h2
theorem fG (W:World) (B:Nat) (e:TypeId) (k:Nat) (h:B≤W.heap.size) : (W.alloc (.cells #[] e)).ownsRow B e k (.slice (some ⟨W.heap.size,0,none⟩) 0 0) 0 [] :=
 ⟨by simp,.inr ⟨W.heap.size,0,#[],rfl,h,heap_alloc_new W _,Nat.le_refl _,by simp [maxLen],by simp,by simp⟩⟩
section
section
variable {P:Program} (w:World)
end
end
def gU (k:Nat) (t:TypeId) (n:Nat) (xs:List Value) (w:World) (e:Ending) (w':World) : Prop:=∃ A' c',e = .returned (.slice A' n c')∧w'.ownsRow w.heap.size t k (.slice A' n c') n xs∧Ext w w'
theorem Tryz.infoClNode:(prog.info? 72).map (fun i=>(i.zero,i.size,i.bytes))=some (some (.agg #[.int .i64 0,.int .i64 0,.int .i64 0,.int .i64 0,.int .i64 0,.int .i64 0,.int .i64 0,.bool false]),8,64):=by kernel_rfl
theorem Iz (v:Value) (n:Nat) (xs:List Value) (w:World) (h:RdK 8 w v n xs) (h1:∀ u∈xs,u.oneCell' = true) (h2:n≤1000000) :
  Calls prog 62 #[v] w (gU 8 72 n xs w):=by
 obtain ⟨c0,hc,hcz0,hcz1,hcz2⟩:=info_parts Tryz.infoClNode
 obtain ⟨A,c,rfl,hc1,hc2,hl,hcell⟩:=h
 have hn:=fun (W:World) (A:Option Addr) (n c n' c':Nat)=>Lib.run_eql_slice_nil (P:=prog) W 37 72 A n c n' c' Tryz.underlying37
 have HL:=Lib.hid hl
 have H1:=Lib.hid h1
 cases A with
 | none =>
  have hx:xs = []:=by
   rcases xs with _ | ⟨x,xs⟩
   ·rfl
   ·obtain ⟨a,e,_⟩:=hcell (by simp)
    cases e
  subst hx
  have hn0:n=0:=by simp at hl; omega
  subst hn0
  clear hcell hl
  go_enter Tryz.func62,Tryz.ntmps62
  go_wp2
  go_ret
  exact ⟨none,0,rfl,World.ownsRow_nil _ _ _ 8,Ext.refl _⟩
 | some a =>
  have HO:=Lib.hid (fG w w.heap.size 72 8 (Nat.le_refl _))
  have HCS:=Lib.hid (show ∀ (j:Nat) (u:Value),xs[j]? = some u→(w.alloc (.cells #[] 72)).cell? (a.add j)=some u from fun j u hu=>by
   obtain ⟨a',e,hb,hcs⟩:=hcell (by have:=(zg.1 hu).1; omega)
   obtain rfl:a=a':=Option.some.inj e
   exact (Below.cell (aO w _) (p:=a.add j) (by rw [dk]; exact hb)).trans (hcs j u hu))
  clear hcell hl h1
  go_enter Tryz.func62,Tryz.ntmps62
  go_wp2_with (at_builtin; go_loud (refine wpList_append_own_at _ rfl (.tmp 5) (.tmp 6) 37 rfl w.heap.size 72 c0 _ 8 64 Tryz.underlying37 hc hcz0 hcz1 hcz2 rfl (by decide) _ 0 [] rfl HO.out a n c xs rfl HL.out HCS.out H1.out ?c3 ?c4 ?c5 ?_))
  case c3=>simp [maxLen]; omega
  case c4=>omega
  case c5=>simp
  intro v' w3 ho3 hg3 _ hat3
  have HE:=Lib.hid ((aO w (.cells #[] 72)).trans' (cP hg3 (by simp) (fun k hk=>by simp [Value.ownBlock] at hk; omega)))
  have HO3:=Lib.hid ho3
  obtain ⟨A3,c3,rfl,_,_⟩:=cK ho3
  clear ho3 hg3 hat3
  go_wp2
  go_ret
  exact ⟨_,_,rfl,HO3.out,HE.out⟩
theorem Tryz.infoClCont:(prog.info? 91).map (fun i=>(i.zero,i.size,i.bytes))=some (some (.agg #[.int .i64 0,.int .i64 0,.int .i64 0,.int .i64 0,.int .i64 0,.int .i64 0,.int .i64 0,.bool false,.int .i64 0]),9,72):=by kernel_rfl
theorem IA (v:Value) (n:Nat) (xs:List Value) (w:World) (h:RdK 9 w v n xs) (h1:∀ u∈xs,u.oneCell' = true) (h2:n≤1000000) :
  Calls prog 64 #[v] w (gU 9 91 n xs w):=by
 obtain ⟨c0,hc,hcz0,hcz1,hcz2⟩:=info_parts Tryz.infoClCont
 obtain ⟨A,c,rfl,hc1,hc2,hl,hcell⟩:=h
 have hn:=fun (W:World) (A:Option Addr) (n c n' c':Nat)=>Lib.run_eql_slice_nil (P:=prog) W 39 91 A n c n' c' Tryz.underlying39
 have HL:=Lib.hid hl
 have H1:=Lib.hid h1
 cases A with
 | none =>
  have hx:xs = []:=by
   rcases xs with _ | ⟨x,xs⟩
   ·rfl
   ·obtain ⟨a,e,_⟩:=hcell (by simp)
    cases e
  subst hx
  have hn0:n=0:=by simp at hl; omega
  subst hn0
  clear hcell hl
  go_enter Tryz.func64,Tryz.ntmps64
  go_wp2
  go_ret
  exact ⟨none,0,rfl,World.ownsRow_nil _ _ _ 9,Ext.refl _⟩
 | some a =>
  have HO:=Lib.hid (fG w w.heap.size 91 9 (Nat.le_refl _))
  have HCS:=Lib.hid (show ∀ (j:Nat) (u:Value),xs[j]? = some u→(w.alloc (.cells #[] 91)).cell? (a.add j)=some u from fun j u hu=>by
   obtain ⟨a',e,hb,hcs⟩:=hcell (by have:=(zg.1 hu).1; omega)
   obtain rfl:a=a':=Option.some.inj e
   exact (Below.cell (aO w _) (p:=a.add j) (by rw [dk]; exact hb)).trans (hcs j u hu))
  clear hcell hl h1
  go_enter Tryz.func64,Tryz.ntmps64
  go_wp2_with (at_builtin; go_loud (refine wpList_append_own_at _ rfl (.tmp 5) (.tmp 6) 39 rfl w.heap.size 91 c0 _ 9 72 Tryz.underlying39 hc hcz0 hcz1 hcz2 rfl (by decide) _ 0 [] rfl HO.out a n c xs rfl HL.out HCS.out H1.out ?c3 ?c4 ?c5 ?_))
  case c3=>simp [maxLen]; omega
  case c4=>omega
  case c5=>simp
  intro v' w3 ho3 hg3 _ hat3
  have HE:=Lib.hid ((aO w (.cells #[] 91)).trans' (cP hg3 (by simp) (fun k hk=>by simp [Value.ownBlock] at hk; omega)))
  have HO3:=Lib.hid ho3
  obtain ⟨A3,c3,rfl,_,_⟩:=cK ho3
  clear ho3 hg3 hat3
  go_wp2
  go_ret
  exact ⟨_,_,rfl,HO3.out,HE.out⟩
theorem Tryz.infoClSlot:(prog.info? 93).map (fun i=>(i.zero,i.size,i.bytes))=some (some (.agg #[.int .i64 0,.int .i64 0,.int .i64 0]),3,24):=by kernel_rfl
theorem Ix (v:Value) (n:Nat) (xs:List Value) (w:World) (h:RdK 3 w v n xs) (h1:∀ u∈xs,u.oneCell' = true) (h2:n≤1000000) :
  Calls prog 65 #[v] w (gU 3 93 n xs w):=by
 obtain ⟨c0,hc,hcz0,hcz1,hcz2⟩:=info_parts Tryz.infoClSlot
 obtain ⟨A,c,rfl,hc1,hc2,hl,hcell⟩:=h
 have hn:=fun (W:World) (A:Option Addr) (n c n' c':Nat)=>Lib.run_eql_slice_nil (P:=prog) W 40 93 A n c n' c' Tryz.underlying40
 have HL:=Lib.hid hl
 have H1:=Lib.hid h1
 cases A with
 | none =>
  have hx:xs = []:=by
   rcases xs with _ | ⟨x,xs⟩
   ·rfl
   ·obtain ⟨a,e,_⟩:=hcell (by simp)
    cases e
  subst hx
  have hn0:n=0:=by simp at hl; omega
  subst hn0
  clear hcell hl
  go_enter Tryz.func65,Tryz.ntmps65
  go_wp2
  go_ret
  exact ⟨none,0,rfl,World.ownsRow_nil _ _ _ 3,Ext.refl _⟩
 | some a =>
  have HO:=Lib.hid (fG w w.heap.size 93 3 (Nat.le_refl _))
  have HCS:=Lib.hid (show ∀ (j:Nat) (u:Value),xs[j]? = some u→(w.alloc (.cells #[] 93)).cell? (a.add j)=some u from fun j u hu=>by
   obtain ⟨a',e,hb,hcs⟩:=hcell (by have:=(zg.1 hu).1; omega)
   obtain rfl:a=a':=Option.some.inj e
   exact (Below.cell (aO w _) (p:=a.add j) (by rw [dk]; exact hb)).trans (hcs j u hu))
  clear hcell hl h1
  go_enter Tryz.func65,Tryz.ntmps65
  go_wp2_with (at_builtin; go_loud (refine wpList_append_own_at _ rfl (.tmp 5) (.tmp 6) 40 rfl w.heap.size 93 c0 _ 3 24 Tryz.underlying40 hc hcz0 hcz1 hcz2 rfl (by decide) _ 0 [] rfl HO.out a n c xs rfl HL.out HCS.out H1.out ?c3 ?c4 ?c5 ?_))
  case c3=>simp [maxLen]; omega
  case c4=>omega
  case c5=>simp
  intro v' w3 ho3 hg3 _ hat3
  have HE:=Lib.hid ((aO w (.cells #[] 93)).trans' (cP hg3 (by simp) (fun k hk=>by simp [Value.ownBlock] at hk; omega)))
  have HO3:=Lib.hid ho3
  obtain ⟨A3,c3,rfl,_,_⟩:=cK ho3
  clear ho3 hg3 hat3
  go_wp2
  go_ret
  exact ⟨_,_,rfl,HO3.out,HE.out⟩
theorem Tryz.infoClPlan:(prog.info? 74).map (fun i=>(i.zero,i.size,i.bytes))=some (some (.agg #[.int .i64 0,.int .i64 0,.int .i64 0,.int .i64 0,.int .i64 0,.int .i64 0]),6,48):=by kernel_rfl
theorem Iy (v:Value) (n:Nat) (xs:List Value) (w:World) (h:RdK 6 w v n xs) (h1:∀ u∈xs,u.oneCell' = true) (h2:n≤1000000) :
  Calls prog 66 #[v] w (gU 6 74 n xs w):=by
 obtain ⟨c0,hc,hcz0,hcz1,hcz2⟩:=info_parts Tryz.infoClPlan
 obtain ⟨A,c,rfl,hc1,hc2,hl,hcell⟩:=h
 have hn:=fun (W:World) (A:Option Addr) (n c n' c':Nat)=>Lib.run_eql_slice_nil (P:=prog) W 41 74 A n c n' c' Tryz.underlying41
 have HL:=Lib.hid hl
 have H1:=Lib.hid h1
 cases A with
 | none =>
  have hx:xs = []:=by
   rcases xs with _ | ⟨x,xs⟩
   ·rfl
   ·obtain ⟨a,e,_⟩:=hcell (by simp)
    cases e
  subst hx
  have hn0:n=0:=by simp at hl; omega
  subst hn0
  clear hcell hl
  go_enter Tryz.func66,Tryz.ntmps66
  go_wp2
  go_ret
  exact ⟨none,0,rfl,World.ownsRow_nil _ _ _ 6,Ext.refl _⟩
 | some a =>
  have HO:=Lib.hid (fG w w.heap.size 74 6 (Nat.le_refl _))
  have HCS:=Lib.hid (show ∀ (j:Nat) (u:Value),xs[j]? = some u→(w.alloc (.cells #[] 74)).cell? (a.add j)=some u from fun j u hu=>by
   obtain ⟨a',e,hb,hcs⟩:=hcell (by have:=(zg.1 hu).1; omega)
   obtain rfl:a=a':=Option.some.inj e
   exact (Below.cell (aO w _) (p:=a.add j) (by rw [dk]; exact hb)).trans (hcs j u hu))
  clear hcell hl h1
  go_enter Tryz.func66,Tryz.ntmps66
  go_wp2_with (at_builtin; go_loud (refine wpList_append_own_at _ rfl (.tmp 5) (.tmp 6) 41 rfl w.heap.size 74 c0 _ 6 48 Tryz.underlying41 hc hcz0 hcz1 hcz2 rfl (by decide) _ 0 [] rfl HO.out a n c xs rfl HL.out HCS.out H1.out ?c3 ?c4 ?c5 ?_))
  case c3=>simp [maxLen]; omega
  case c4=>omega
  case c5=>simp
  intro v' w3 ho3 hg3 _ hat3
  have HE:=Lib.hid ((aO w (.cells #[] 74)).trans' (cP hg3 (by simp) (fun k hk=>by simp [Value.ownBlock] at hk; omega)))
  have HO3:=Lib.hid ho3
  obtain ⟨A3,c3,rfl,_,_⟩:=cK ho3
  clear ho3 hg3 hat3
  go_wp2
  go_ret
  exact ⟨_,_,rfl,HO3.out,HE.out⟩
theorem Tryz.infoClStr:(prog.info? 9).map (fun i=>(i.zero,i.size,i.bytes))=some (some (.string ⟨#[]⟩),1,16):=by kernel_rfl
theorem LB (v:Value) (n:Nat) (xs:List Value) (w:World) (h:RdK 1 w v n xs) (h1:∀ u∈xs,u.oneCell' = true) (h2:n≤1000000) :
  Calls prog 127 #[v] w (gU 1 9 n xs w):=by
 obtain ⟨c0,hc,hcz0,hcz1,hcz2⟩:=info_parts Tryz.infoClStr
 obtain ⟨A,c,rfl,hc1,hc2,hl,hcell⟩:=h
 have hn:=fun (W:World) (A:Option Addr) (n c n' c':Nat)=>Lib.run_eql_slice_nil (P:=prog) W 33 9 A n c n' c' Tryz.underlying33
 have HL:=Lib.hid hl
 have H1:=Lib.hid h1
 cases A with
 | none =>
  have hx:xs = []:=by
   rcases xs with _ | ⟨x,xs⟩
   ·rfl
   ·obtain ⟨a,e,_⟩:=hcell (by simp)
    cases e
  subst hx
  have hn0:n=0:=by simp at hl; omega
  subst hn0
  clear hcell hl
  go_enter Tryz.func127,Tryz.ntmps127
  go_wp2
  go_ret
  exact ⟨none,0,rfl,World.ownsRow_nil _ _ _ 1,Ext.refl _⟩
 | some a =>
  have HO:=Lib.hid (fG w w.heap.size 9 1 (Nat.le_refl _))
  have HCS:=Lib.hid (show ∀ (j:Nat) (u:Value),xs[j]? = some u→(w.alloc (.cells #[] 9)).cell? (a.add j)=some u from fun j u hu=>by
   obtain ⟨a',e,hb,hcs⟩:=hcell (by have:=(zg.1 hu).1; omega)
   obtain rfl:a=a':=Option.some.inj e
   exact (Below.cell (aO w _) (p:=a.add j) (by rw [dk]; exact hb)).trans (hcs j u hu))
  clear hcell hl h1
  go_enter Tryz.func127,Tryz.ntmps127
  go_wp2_with (at_builtin; go_loud (refine wpList_append_own_at _ rfl (.tmp 5) (.tmp 6) 33 rfl w.heap.size 9 c0 _ 1 16 Tryz.underlying33 hc hcz0 hcz1 hcz2 rfl (by decide) _ 0 [] rfl HO.out a n c xs rfl HL.out HCS.out H1.out ?c3 ?c4 ?c5 ?_))
  case c3=>simp [maxLen]; omega
  case c4=>omega
  case c5=>simp
  intro v' w3 ho3 hg3 _ hat3
  have HE:=Lib.hid ((aO w (.cells #[] 9)).trans' (cP hg3 (by simp) (fun k hk=>by simp [Value.ownBlock] at hk; omega)))
  have HO3:=Lib.hid ho3
  obtain ⟨A3,c3,rfl,_,_⟩:=cK ho3
  clear ho3 hg3 hat3
  go_wp2
  go_ret
  exact ⟨_,_,rfl,HO3.out,HE.out⟩
theorem Tryz.infoClQueue:(prog.info? 63).map (fun i=>(i.zero,i.size,i.bytes))=some (some (.agg #[.string ⟨#[]⟩,.slice none 0 0,.int .i64 0]),3,48):=by kernel_rfl
theorem GN (v:Value) (n:Nat) (xs:List Value) (w:World) (h:RdK 3 w v n xs) (h1:∀ u∈xs,u.oneCell' = true) (h2:n≤1000000) :
  Calls prog 128 #[v] w (gU 3 63 n xs w):=by
 obtain ⟨c0,hc,hcz0,hcz1,hcz2⟩:=info_parts Tryz.infoClQueue
 obtain ⟨A,c,rfl,hc1,hc2,hl,hcell⟩:=h
 have hn:=fun (W:World) (A:Option Addr) (n c n' c':Nat)=>Lib.run_eql_slice_nil (P:=prog) W 34 63 A n c n' c' Tryz.underlying34
 have HL:=Lib.hid hl
 have H1:=Lib.hid h1
 cases A with
 | none =>
  have hx:xs = []:=by
   rcases xs with _ | ⟨x,xs⟩
   ·rfl
   ·obtain ⟨a,e,_⟩:=hcell (by simp)
    cases e
  subst hx
  have hn0:n=0:=by simp at hl; omega
  subst hn0
  clear hcell hl
  go_enter Tryz.func128,Tryz.ntmps128
  go_wp2
  go_ret
  exact ⟨none,0,rfl,World.ownsRow_nil _ _ _ 3,Ext.refl _⟩
 | some a =>
  have HO:=Lib.hid (fG w w.heap.size 63 3 (Nat.le_refl _))
  have HCS:=Lib.hid (show ∀ (j:Nat) (u:Value),xs[j]? = some u→(w.alloc (.cells #[] 63)).cell? (a.add j)=some u from fun j u hu=>by
   obtain ⟨a',e,hb,hcs⟩:=hcell (by have:=(zg.1 hu).1; omega)
   obtain rfl:a=a':=Option.some.inj e
   exact (Below.cell (aO w _) (p:=a.add j) (by rw [dk]; exact hb)).trans (hcs j u hu))
  clear hcell hl h1
  go_enter Tryz.func128,Tryz.ntmps128
  go_wp2_with (at_builtin; go_loud (refine wpList_append_own_at _ rfl (.tmp 5) (.tmp 6) 34 rfl w.heap.size 63 c0 _ 3 48 Tryz.underlying34 hc hcz0 hcz1 hcz2 rfl (by decide) _ 0 [] rfl HO.out a n c xs rfl HL.out HCS.out H1.out ?c3 ?c4 ?c5 ?_))
  case c3=>simp [maxLen]; omega
  case c4=>omega
  case c5=>simp
  intro v' w3 ho3 hg3 _ hat3
  have HE:=Lib.hid ((aO w (.cells #[] 63)).trans' (cP hg3 (by simp) (fun k hk=>by simp [Value.ownBlock] at hk; omega)))
  have HO3:=Lib.hid ho3
  obtain ⟨A3,c3,rfl,_,_⟩:=cK ho3
  clear ho3 hg3 hat3
  go_wp2
  go_ret
  exact ⟨_,_,rfl,HO3.out,HE.out⟩
theorem Tryz.infoClCap:(prog.info? 98).map (fun i=>(i.zero,i.size,i.bytes))=some (some (.agg #[.int .i64 0,.int .i64 0]),2,16):=by kernel_rfl
theorem LD (v:Value) (n:Nat) (xs:List Value) (w:World) (h:RdK 2 w v n xs) (h1:∀ u∈xs,u.oneCell' = true) (h2:n≤1000000) :
  Calls prog 129 #[v] w (gU 2 98 n xs w):=by
 obtain ⟨c0,hc,hcz0,hcz1,hcz2⟩:=info_parts Tryz.infoClCap
 obtain ⟨A,c,rfl,hc1,hc2,hl,hcell⟩:=h
 have hn:=fun (W:World) (A:Option Addr) (n c n' c':Nat)=>Lib.run_eql_slice_nil (P:=prog) W 61 98 A n c n' c' Tryz.underlying61
 have HL:=Lib.hid hl
 have H1:=Lib.hid h1
 cases A with
 | none =>
  have hx:xs = []:=by
   rcases xs with _ | ⟨x,xs⟩
   ·rfl
   ·obtain ⟨a,e,_⟩:=hcell (by simp)
    cases e
  subst hx
  have hn0:n=0:=by simp at hl; omega
  subst hn0
  clear hcell hl
  go_enter Tryz.func129,Tryz.ntmps129
  go_wp2
  go_ret
  exact ⟨none,0,rfl,World.ownsRow_nil _ _ _ 2,Ext.refl _⟩
 | some a =>
  have HO:=Lib.hid (fG w w.heap.size 98 2 (Nat.le_refl _))
  have HCS:=Lib.hid (show ∀ (j:Nat) (u:Value),xs[j]? = some u→(w.alloc (.cells #[] 98)).cell? (a.add j)=some u from fun j u hu=>by
   obtain ⟨a',e,hb,hcs⟩:=hcell (by have:=(zg.1 hu).1; omega)
   obtain rfl:a=a':=Option.some.inj e
   exact (Below.cell (aO w _) (p:=a.add j) (by rw [dk]; exact hb)).trans (hcs j u hu))
  clear hcell hl h1
  go_enter Tryz.func129,Tryz.ntmps129
  go_wp2_with (at_builtin; go_loud (refine wpList_append_own_at _ rfl (.tmp 5) (.tmp 6) 61 rfl w.heap.size 98 c0 _ 2 16 Tryz.underlying61 hc hcz0 hcz1 hcz2 rfl (by decide) _ 0 [] rfl HO.out a n c xs rfl HL.out HCS.out H1.out ?c3 ?c4 ?c5 ?_))
  case c3=>simp [maxLen]; omega
  case c4=>omega
  case c5=>simp
  intro v' w3 ho3 hg3 _ hat3
  have HE:=Lib.hid ((aO w (.cells #[] 98)).trans' (cP hg3 (by simp) (fun k hk=>by simp [Value.ownBlock] at hk; omega)))
  have HO3:=Lib.hid ho3
  obtain ⟨A3,c3,rfl,_,_⟩:=cK ho3
  clear ho3 hg3 hat3
  go_wp2
  go_ret
  exact ⟨_,_,rfl,HO3.out,HE.out⟩
theorem Tryz.infoClAsk:(prog.info? 123).map (fun i=>(i.zero,i.size,i.bytes))=some (some (.agg #[.int .i64 0,.int .i64 0,.int .i64 0,.int .i64 0,.int .i64 0,.int .i64 0,.int .i64 0,.int .i64 0]),8,64):=by kernel_rfl
theorem LG (v:Value) (n:Nat) (xs:List Value) (w:World) (h:RdK 8 w v n xs) (h1:∀ u∈xs,u.oneCell' = true) (h2:n≤1000000) :
  Calls prog 74 #[v] w (gU 8 123 n xs w):=by
 obtain ⟨c0,hc,hcz0,hcz1,hcz2⟩:=info_parts Tryz.infoClAsk
 obtain ⟨A,c,rfl,hc1,hc2,hl,hcell⟩:=h
 have hn:=fun (W:World) (A:Option Addr) (n c n' c':Nat)=>Lib.run_eql_slice_nil (P:=prog) W 28 123 A n c n' c' Tryz.underlying28
 have HL:=Lib.hid hl
 have H1:=Lib.hid h1
 cases A with
 | none =>
  have hx:xs = []:=by
   rcases xs with _ | ⟨x,xs⟩
   ·rfl
   ·obtain ⟨a,e,_⟩:=hcell (by simp)
    cases e
  subst hx
  have hn0:n=0:=by simp at hl; omega
  subst hn0
  clear hcell hl
  go_enter Tryz.func74,Tryz.ntmps74
  go_wp2
  go_ret
  exact ⟨none,0,rfl,World.ownsRow_nil _ _ _ 8,Ext.refl _⟩
 | some a =>
  have HO:=Lib.hid (fG w w.heap.size 123 8 (Nat.le_refl _))
  have HCS:=Lib.hid (show ∀ (j:Nat) (u:Value),xs[j]? = some u→(w.alloc (.cells #[] 123)).cell? (a.add j)=some u from fun j u hu=>by
   obtain ⟨a',e,hb,hcs⟩:=hcell (by have:=(zg.1 hu).1; omega)
   obtain rfl:a=a':=Option.some.inj e
   exact (Below.cell (aO w _) (p:=a.add j) (by rw [dk]; exact hb)).trans (hcs j u hu))
  clear hcell hl h1
  go_enter Tryz.func74,Tryz.ntmps74
  go_wp2_with (at_builtin; go_loud (refine wpList_append_own_at _ rfl (.tmp 5) (.tmp 6) 28 rfl w.heap.size 123 c0 _ 8 64 Tryz.underlying28 hc hcz0 hcz1 hcz2 rfl (by decide) _ 0 [] rfl HO.out a n c xs rfl HL.out HCS.out H1.out ?c3 ?c4 ?c5 ?_))
  case c3=>simp [maxLen]; omega
  case c4=>omega
  case c5=>simp
  intro v' w3 ho3 hg3 _ hat3
  have HE:=Lib.hid ((aO w (.cells #[] 123)).trans' (cP hg3 (by simp) (fun k hk=>by simp [Value.ownBlock] at hk; omega)))
  have HO3:=Lib.hid ho3
  obtain ⟨A3,c3,rfl,_,_⟩:=cK ho3
  clear ho3 hg3 hat3
  go_wp2
  go_ret
  exact ⟨_,_,rfl,HO3.out,HE.out⟩
theorem Tryz.infoClInt:(prog.info? 3).map (fun i=>(i.zero,i.size,i.bytes))=some (some (.int .i64 0),1,8):=by kernel_rfl
theorem LC (v:Value) (n:Nat) (xs:List Value) (w:World) (h:RdK 1 w v n xs) (h1:∀ u∈xs,u.oneCell' = true) (h2:n≤1000000) :
  Calls prog 75 #[v] w (gU 1 3 n xs w):=by
 obtain ⟨c0,hc,hcz0,hcz1,hcz2⟩:=info_parts Tryz.infoClInt
 obtain ⟨A,c,rfl,hc1,hc2,hl,hcell⟩:=h
 have hn:=fun (W:World) (A:Option Addr) (n c n' c':Nat)=>Lib.run_eql_slice_nil (P:=prog) W 22 3 A n c n' c' Tryz.underlying22
 have HL:=Lib.hid hl
 have H1:=Lib.hid h1
 cases A with
 | none =>
  have hx:xs = []:=by
   rcases xs with _ | ⟨x,xs⟩
   ·rfl
   ·obtain ⟨a,e,_⟩:=hcell (by simp)
    cases e
  subst hx
  have hn0:n=0:=by simp at hl; omega
  subst hn0
  clear hcell hl
  go_enter Tryz.func75,Tryz.ntmps75
  go_wp2
  go_ret
  exact ⟨none,0,rfl,World.ownsRow_nil _ _ _ 1,Ext.refl _⟩
 | some a =>
  have HO:=Lib.hid (fG w w.heap.size 3 1 (Nat.le_refl _))
  have HCS:=Lib.hid (show ∀ (j:Nat) (u:Value),xs[j]? = some u→(w.alloc (.cells #[] 3)).cell? (a.add j)=some u from fun j u hu=>by
   obtain ⟨a',e,hb,hcs⟩:=hcell (by have:=(zg.1 hu).1; omega)
   obtain rfl:a=a':=Option.some.inj e
   exact (Below.cell (aO w _) (p:=a.add j) (by rw [dk]; exact hb)).trans (hcs j u hu))
  clear hcell hl h1
  go_enter Tryz.func75,Tryz.ntmps75
  go_wp2_with (at_builtin; go_loud (refine wpList_append_own_at _ rfl (.tmp 5) (.tmp 6) 22 rfl w.heap.size 3 c0 _ 1 8 Tryz.underlying22 hc hcz0 hcz1 hcz2 rfl (by decide) _ 0 [] rfl HO.out a n c xs rfl HL.out HCS.out H1.out ?c3 ?c4 ?c5 ?_))
  case c3=>simp [maxLen]; omega
  case c4=>omega
  case c5=>simp
  intro v' w3 ho3 hg3 _ hat3
  have HE:=Lib.hid ((aO w (.cells #[] 3)).trans' (cP hg3 (by simp) (fun k hk=>by simp [Value.ownBlock] at hk; omega)))
  have HO3:=Lib.hid ho3
  obtain ⟨A3,c3,rfl,_,_⟩:=cK ho3
  clear ho3 hg3 hat3
  go_wp2
  go_ret
  exact ⟨_,_,rfl,HO3.out,HE.out⟩
theorem Tryz.infoClApp:(prog.info? 30).map (fun i=>(i.zero,i.size,i.bytes))=some (some (.agg #[.int .i64 0,.int .i64 0,.string ⟨#[]⟩,.int .i64 0,.int .i64 0,.int .i64 0,.int .i64 0,.slice none 0 0,.int .i64 0,.int .i64 0,.slice none 0 0,.slice none 0 0,.slice none 0 0,.slice none 0 0]),14,200):=by kernel_rfl
theorem LH (v:Value) (n:Nat) (xs:List Value) (w:World) (h:RdK 14 w v n xs) (h1:∀ u∈xs,u.oneCell' = true) (h2:n≤1000000) :
  Calls prog 106 #[v] w (gU 14 30 n xs w):=by
 obtain ⟨c0,hc,hcz0,hcz1,hcz2⟩:=info_parts Tryz.infoClApp
 obtain ⟨A,c,rfl,hc1,hc2,hl,hcell⟩:=h
 have hn:=fun (W:World) (A:Option Addr) (n c n' c':Nat)=>Lib.run_eql_slice_nil (P:=prog) W 38 30 A n c n' c' Tryz.underlying38
 have HL:=Lib.hid hl
 have H1:=Lib.hid h1
 cases A with
 | none =>
  have hx:xs = []:=by
   rcases xs with _ | ⟨x,xs⟩
   ·rfl
   ·obtain ⟨a,e,_⟩:=hcell (by simp)
    cases e
  subst hx
  have hn0:n=0:=by simp at hl; omega
  subst hn0
  clear hcell hl
  go_enter Tryz.func106,Tryz.ntmps106
  go_wp2
  go_ret
  exact ⟨none,0,rfl,World.ownsRow_nil _ _ _ 14,Ext.refl _⟩
 | some a =>
  have HO:=Lib.hid (fG w w.heap.size 30 14 (Nat.le_refl _))
  have HCS:=Lib.hid (show ∀ (j:Nat) (u:Value),xs[j]? = some u→(w.alloc (.cells #[] 30)).cell? (a.add j)=some u from fun j u hu=>by
   obtain ⟨a',e,hb,hcs⟩:=hcell (by have:=(zg.1 hu).1; omega)
   obtain rfl:a=a':=Option.some.inj e
   exact (Below.cell (aO w _) (p:=a.add j) (by rw [dk]; exact hb)).trans (hcs j u hu))
  clear hcell hl h1
  go_enter Tryz.func106,Tryz.ntmps106
  go_wp2_with (at_builtin; go_loud (refine wpList_append_own_at _ rfl (.tmp 5) (.tmp 6) 38 rfl w.heap.size 30 c0 _ 14 200 Tryz.underlying38 hc hcz0 hcz1 hcz2 rfl (by decide) _ 0 [] rfl HO.out a n c xs rfl HL.out HCS.out H1.out ?c3 ?c4 ?c5 ?_))
  case c3=>simp [maxLen]; omega
  case c4=>omega
  case c5=>simp
  intro v' w3 ho3 hg3 _ hat3
  have HE:=Lib.hid ((aO w (.cells #[] 30)).trans' (cP hg3 (by simp) (fun k hk=>by simp [Value.ownBlock] at hk; omega)))
  have HO3:=Lib.hid ho3
  obtain ⟨A3,c3,rfl,_,_⟩:=cK ho3
  clear ho3 hg3 hat3
  go_wp2
  go_ret
  exact ⟨_,_,rfl,HO3.out,HE.out⟩
end Go.Proofs.YtmjkjaahbgikjaaGreat
section
namespace Go.Proofs
open Go.Shelf
def Tryz.laysM316_ren:Go.Shelf.Ren:=⟨fun | 316=>110 | n=>n,fun | 9=>9 | 3=>3 | 4=>4 | 37=>154 | 0=>0 | 127=>180 | 5=>5 | n=>n,fun | n=>n⟩
theorem Tryz.laysM316:Go.Proofs.LaysM.n316 prog Tryz.laysM316_ren:={
 mixed:=by kernel_rfl
 f316:=Tryz.func110.trans (congrArg some (by kernel_rfl))
 t0:=Tryz.underlying0
 a0:=Tryz.isAgg0
 z0:=Tryz.sizeOf0
 v0:=Tryz.zeroValue0
 t3:=Tryz.underlying3
 a3:=Tryz.isAgg3
 z3:=Tryz.sizeOf3
 v3:=Tryz.zeroValue3
 t4:=Tryz.underlying4
 a4:=Tryz.isAgg4
 z4:=Tryz.sizeOf4
 v4:=Tryz.zeroValue4
 t9:=Tryz.underlying9
 a9:=Tryz.isAgg9
 z9:=Tryz.sizeOf9
 v9:=Tryz.zeroValue9
 t37:=Tryz.underlying154
 a37:=Tryz.isAgg154
 z37:=Tryz.sizeOf154
 v37:=Tryz.zeroValue154
 t127:=Tryz.underlying180
 a127:=Tryz.isAgg180
 z127:=Tryz.sizeOf180
 v127:=Tryz.zeroValue180
 t5:=Tryz.underlying5
 a5:=Tryz.isAgg5
 z5:=Tryz.sizeOf5
 v5:=Tryz.zeroValue5
 i0:=by kernel_rfl
 i3:=by kernel_rfl
 i4:=by kernel_rfl
 i5:=by kernel_rfl
 i9:=by kernel_rfl
 i37:=by kernel_rfl
 i127:=by kernel_rfl }
open Go.RowKit in
theorem Tryz.stringslite_Clone (s:ByteArray) (w:World) (hlim:s.size≤281474976710656) :
  Calls prog 110 #[.string s] w fun e w'=>e = .returned (.string s)∧Below w.heap.size w w':=Any.stringslite_Clone Tryz.laysM316 s w hlim
def Tryz.lays148_ren:Go.Shelf.Ren:=⟨fun | 148=>167 | 222=>185 | 223=>186 | 269=>190 | n=>n,fun | 9=>9 | 3=>3 | 4=>4 | 5=>5 | 146=>236 | 51=>235 | 46=>95 | n=>n,fun | n=>n⟩
theorem Tryz.lays148:Go.Proofs.Lays.n148 prog Tryz.lays148_ren:={
 mixed:=by kernel_rfl
 f148:=Tryz.func167.trans (congrArg some (by kernel_rfl))
 f222:=Tryz.func185.trans (congrArg some (by kernel_rfl))
 f223:=Tryz.func186.trans (congrArg some (by kernel_rfl))
 f269:=Tryz.func190.trans (congrArg some (by kernel_rfl))
 t3:=Tryz.underlying3
 a3:=Tryz.isAgg3
 z3:=Tryz.sizeOf3
 v3:=Tryz.zeroValue3
 t4:=Tryz.underlying4
 a4:=Tryz.isAgg4
 z4:=Tryz.sizeOf4
 v4:=Tryz.zeroValue4
 t5:=Tryz.underlying5
 a5:=Tryz.isAgg5
 z5:=Tryz.sizeOf5
 v5:=Tryz.zeroValue5
 t9:=Tryz.underlying9
 a9:=Tryz.isAgg9
 z9:=Tryz.sizeOf9
 v9:=Tryz.zeroValue9
 t46:=Tryz.underlying95
 a46:=Tryz.isAgg95
 z46:=Tryz.sizeOf95
 v46:=Tryz.zeroValue95
 t51:=Tryz.underlying235
 a51:=Tryz.isAgg235
 z51:=Tryz.sizeOf235
 v51:=Tryz.zeroValue235
 t146:=Tryz.underlying236
 a146:=Tryz.isAgg236
 z146:=Tryz.sizeOf236
 v146:=Tryz.zeroValue236 }
open Go.RowKit Go.Lib in
theorem Tryz.strings_LastIndex_one (s sub:ByteArray) (h1:sub.size=1) (hs:s.size < 4611686018427387904) (w:World) :
  Calls prog 167 #[.string s,.string sub] w fun e w'=>e = .returned (.int .i64 (Lib.lastIndexByte s ((sub[0]'(by omega)).toNat:Int)))∧w' = w:=Any.strings_LastIndex_one Tryz.lays148 s sub h1 hs w
end Go.Proofs
end
namespace Go.Proofs.YtmjkjaahbgikjaaGreat
open Go.RowKit
open IntKind (i64)
open Go.Proofs.Tryz (prog)
theorem KF (S:ByteArray) (w:World) (hs:S.size≤1000000000000) : Calls prog 73 #[.string S] w fun e w'=>e = .returned (.string S)∧Ext w w':=by
 have hcon:=fun W=>Tryz.stringslite_Clone S W (by omega)
 go_enter Tryz.func73,Tryz.ntmps73
 go_wp2_with (go_at_call 110; refine (hcon _).mono ?_; rintro e w' ⟨rfl,hx⟩)
 go_ret
 exact ⟨rfl,hx⟩
def GO {α : Type} (xs:List α) : Option (List α):=if xs.length≤1000000 then some xs else none
def fH (ty:Ty) (e k:Nat) (x:cg [.lf (.sl ty)]) : Option (aX [.io [.no],.own e k ty]):=(GO (show List ty.den from x.1)).bind fun z=>some (((),()),z)
theorem iL {P:Program} {f:FuncId} (ty:Ty) {e k:Nat} (hk:tyN ty=k) (hk0 : 0 < k) (hcall:dH P f=true)
  (hC:∀ (v:Value) (n:Nat) (us:List Value) (w:World),RdK k w v n us→(∀ u∈us,u.oneCell' = true)→n≤1000000→Calls P f #[v] w (gU k e n us w)) :
  bI P f [.lf (.sl ty)] [.io [.no],.own e k ty] (fH ty e k):=by
 refine aav (F:=GO) hk hk0 hcall fun xs zs w G v hF hG hd=>?_
 unfold GO at hF
 split at hF
 ·rename_i hle
  injection hF with hF
  subst hF
  cases hd with
  | sl A n c k0 _ us hn hc hm hkk hA hA0 hcell hrep =>
   have hlen:∀ y∈xs.map (bK ty),y.length=k:=fun y hy=>by
    obtain ⟨z,_,rfl⟩:=List.mem_map.1 hy
    rw [lQ,hk]
   have hfl:=cH k (xs.map (bK ty)) hlen
   rw [List.length_map] at hn hfl
   have hul:((List.range (xs.map (bK ty)).flatten.length).map us).length=xs.length * k:=by rw [List.length_map,List.length_range,hfl]
   have hget:∀ (j:Nat) u,((List.range (xs.map (bK ty)).flatten.length).map us)[j]? = some u→j < (xs.map (bK ty)).flatten.length∧u=us j:=fun j u hu=>by
    rw [List.getElem?_map,zm] at hu
    obtain ⟨i,hi,rfl⟩:=hu
    obtain ⟨rfl,hlt⟩:=oh hi
    exact ⟨hlt,rfl⟩
   refine (hC _ n ((List.range (xs.map (bK ty)).flatten.length).map us) w ⟨A,c,rfl,hc,hm,by rw [hul,hn],fun h0=>?_⟩ (fun u hu=>?_) (by omega)).mono ?_
   ·obtain ⟨a, ha, hFa⟩ := hA (by rw [hn]; rcases Nat.eq_zero_or_pos xs.length with e | e
                                  ·rw [hul,e,Nat.zero_mul] at h0; omega
                                  ·exact e)
    refine ⟨a,ha,hG _ hFa,fun j u hu=>?_⟩
    obtain ⟨hlt,rfl⟩:=hget j u hu
    exact hcell a j _ ha (zq hlt)
   ·obtain ⟨j,hj⟩:=List.getElem?_of_mem hu
    obtain ⟨hlt,rfl⟩:=hget j u hj
    exact (hrep j _ (zq hlt)).one
   ·rintro en w' ⟨A',c',rfl,ho,hx⟩
    refine ⟨_,_,rfl,by rw [← hn]; exact ho,hx,hul,fun j u d hu hd=>?_⟩
    obtain ⟨hlt,rfl⟩:=hget j u hu
    exact hrep j d hd
 ·cases hF
noncomputable def WG:Ent:=⟨[.lf (.sl (.st 7))],[.io [.no],.own 72 8 (.st 7)],fH (.st 7) 72 8⟩
theorem WF:bI prog 62 [.lf (.sl (.st 7))] [.io [.no],.own 72 8 (.st 7)] (fH (.st 7) 72 8):=iL (.st 7) (by kernel_rfl) (by decide) (by kernel_rfl) (fun v n us w h1 h2 h3=>Iz v n us w h1 h2 h3)
noncomputable def WK:Ent:=⟨[.lf (.sl (.st 6))],[.io [.no],.own 91 9 (.st 6)],fH (.st 6) 91 9⟩
theorem WJ:bI prog 64 [.lf (.sl (.st 6))] [.io [.no],.own 91 9 (.st 6)] (fH (.st 6) 91 9):=iL (.st 6) (by kernel_rfl) (by decide) (by kernel_rfl) (fun v n us w h1 h2 h3=>IA v n us w h1 h2 h3)
noncomputable def WC:Ent:=⟨[.lf (.sl (.st 11))],[.io [.no],.own 93 3 (.st 11)],fH (.st 11) 93 3⟩
theorem WB:bI prog 65 [.lf (.sl (.st 11))] [.io [.no],.own 93 3 (.st 11)] (fH (.st 11) 93 3):=iL (.st 11) (by kernel_rfl) (by decide) (by kernel_rfl) (fun v n us w h1 h2 h3=>Ix v n us w h1 h2 h3)
noncomputable def WE:Ent:=⟨[.lf (.sl (.st 8))],[.io [.no],.own 74 6 (.st 8)],fH (.st 8) 74 6⟩
theorem WD:bI prog 66 [.lf (.sl (.st 8))] [.io [.no],.own 74 6 (.st 8)] (fH (.st 8) 74 6):=iL (.st 8) (by kernel_rfl) (by decide) (by kernel_rfl) (fun v n us w h1 h2 h3=>Iy v n us w h1 h2 h3)
noncomputable def Zo:Ent:=⟨[.lf (.sl (.str))],[.io [.no],.own 9 1 (.str)],fH (.str) 9 1⟩
theorem Zn:bI prog 127 [.lf (.sl (.str))] [.io [.no],.own 9 1 (.str)] (fH (.str) 9 1):=iL (.str) (by kernel_rfl) (by decide) (by kernel_rfl) (fun v n us w h1 h2 h3=>LB v n us w h1 h2 h3)
noncomputable def SM:Ent:=⟨[.lf (.sl (.st 4))],[.io [.no],.own 63 3 (.st 4)],fH (.st 4) 63 3⟩
theorem SK:bI prog 128 [.lf (.sl (.st 4))] [.io [.no],.own 63 3 (.st 4)] (fH (.st 4) 63 3):=iL (.st 4) (by kernel_rfl) (by decide) (by kernel_rfl) (fun v n us w h1 h2 h3=>GN v n us w h1 h2 h3)
noncomputable def Zs:Ent:=⟨[.lf (.sl (.st 3))],[.io [.no],.own 98 2 (.st 3)],fH (.st 3) 98 2⟩
theorem Zr:bI prog 129 [.lf (.sl (.st 3))] [.io [.no],.own 98 2 (.st 3)] (fH (.st 3) 98 2):=iL (.st 3) (by kernel_rfl) (by decide) (by kernel_rfl) (fun v n us w h1 h2 h3=>LD v n us w h1 h2 h3)
noncomputable def Zu:Ent:=⟨[.lf (.sl (.st 1))],[.io [.no],.own 123 8 (.st 1)],fH (.st 1) 123 8⟩
theorem Zt:bI prog 74 [.lf (.sl (.st 1))] [.io [.no],.own 123 8 (.st 1)] (fH (.st 1) 123 8):=iL (.st 1) (by kernel_rfl) (by decide) (by kernel_rfl) (fun v n us w h1 h2 h3=>LG v n us w h1 h2 h3)
noncomputable def Zq:Ent:=⟨[.lf (.sl (.int .i64))],[.io [.no],.own 3 1 (.int .i64)],fH (.int .i64) 3 1⟩
theorem Zp:bI prog 75 [.lf (.sl (.int .i64))] [.io [.no],.own 3 1 (.int .i64)] (fH (.int .i64) 3 1):=iL (.int .i64) (by kernel_rfl) (by decide) (by kernel_rfl) (fun v n us w h1 h2 h3=>LC v n us w h1 h2 h3)
noncomputable def Zw:Ent:=⟨[.lf (.sl (.st 2))],[.io [.no],.own 30 14 (.st 2)],fH (.st 2) 30 14⟩
theorem Zv:bI prog 106 [.lf (.sl (.st 2))] [.io [.no],.own 30 14 (.st 2)] (fH (.st 2) 30 14):=iL (.st 2) (by kernel_rfl) (by decide) (by kernel_rfl) (fun v n us w h1 h2 h3=>LH v n us w h1 h2 h3)
noncomputable def tA:Ent:=⟨[.lf .str],[.lf .str],fun x=>if (show ByteArray from x.1).size≤1000000000 then some x.1 else none⟩
theorem tz:bI prog 73 [.lf .str] [.lf .str] (fun x=>if (show ByteArray from x.1).size≤1000000000 then some x.1 else none):=aau (by kernel_rfl) fun x z w hF=>by
 dsimp only at hF
 split at hF
 ·rename_i hle
  injection hF with hF
  subst hF
  exact KF x w (Nat.le_trans hle (by decide))
 ·cases hF
noncomputable def sn (x:cg [.ag 2]) : Option (aX [.ag 2]):=fj ⟨prog,[(73,tA),(74,Zu),(75,Zq)],28,[.ag 2],[.cell 2 30],[],[2],[]⟩ ((Tryz.f36).body.getD .skip) (.n) [.ag 2] x
noncomputable def oa:Ent:=⟨[.ag 2],[.ag 2],sn⟩
theorem n9:bI prog 36 [.ag 2] [.ag 2] sn:=cd (n:=28) (.cons (tz) (.cons (Zt) (.cons (Zp) (.nil)))) Tryz.mixed Tryz.func36 rfl (by kernel_rfl) rfl rfl rfl (fun _=>rfl)
noncomputable def oY (x:cg [.ag 4]) : Option (aX [.ag 4]):=fj ⟨prog,[(73,tA),(129,Zs)],12,[.ag 4],[.cell 2 63],[],[2],[]⟩ ((Tryz.f105).body.getD .skip) (.n) [.ag 4] x
noncomputable def DM:Ent:=⟨[.ag 4],[.ag 4],oY⟩
theorem DK:bI prog 105 [.ag 4] [.ag 4] oY:=cd (n:=12) (.cons (tz) (.cons (Zr) (.nil))) Tryz.mixed Tryz.func105 rfl (by kernel_rfl) rfl rfl rfl (fun _=>rfl)
noncomputable def oZ (x:cg [.lf (.sl .str),.fn 73 [] []]) : Option (aX [.lf (.sl .str)]):=fj ⟨prog,[(127,Zo),(73,tA)],24,[.lf (.sl .str)],[.tmp 4],[],[],[]⟩ ((Tryz.f103).body.getD .skip) (.s (.n) (.s (.n) (.s (.s (.n) (.s (.lp [.row 0 500512 9 1 (.str),.row 9 500512 9 1 (.str),.leaf 11 (.int .i64)] 0 false (.n)) .n)) (.n)))) [.lf (.sl .str),.fn 73 [] []] x
noncomputable def DP:Ent:=⟨[.lf (.sl .str),.fn 73 [] []],[.lf (.sl .str)],oZ⟩
theorem DN:bI prog 103 [.lf (.sl .str),.fn 73 [] []] [.lf (.sl .str)] oZ:=cd (n:=24) (.cons (Zn) (.cons (tz) (.nil))) Tryz.mixed Tryz.func103 rfl (by kernel_rfl) rfl rfl rfl (fun _=>rfl)
noncomputable def o0 (x:cg [.lf (.sl (.st 4)),.fn 105 [] []]) : Option (aX [.lf (.sl (.st 4))]):=fj ⟨prog,[(128,SM),(105,DM)],24,[.lf (.sl (.st 4))],[.tmp 4],[],[],[]⟩ ((Tryz.f104).body.getD .skip) (.s (.n) (.s (.n) (.s (.s (.n) (.s (.lp [.row 0 500512 63 3 (.st 4),.row 9 500512 63 3 (.st 4),.leaf 11 (.int .i64)] 0 false (.n)) .n)) (.n)))) [.lf (.sl (.st 4)),.fn 105 [] []] x
noncomputable def DR:Ent:=⟨[.lf (.sl (.st 4)),.fn 105 [] []],[.lf (.sl (.st 4))],o0⟩
theorem DQ:bI prog 104 [.lf (.sl (.st 4)),.fn 105 [] []] [.lf (.sl (.st 4))] o0:=cd (n:=24) (.cons (SK) (.cons (DK) (.nil))) Tryz.mixed Tryz.func104 rfl (by kernel_rfl) rfl rfl rfl (fun _=>rfl)
noncomputable def o4 (x:cg [.lf (.sl (.st 2)),.fn 36 [] []]) : Option (aX [.io [.no,.no],.own 30 14 (.st 2)]):=Jb ⟨prog,[(106,Zw),(36,oa)],24,[.io [.no,.no],.own 30 14 (.st 2)],[.tmp 4],[],[],[]⟩ ((Tryz.f63).body.getD .skip) (.s (.n) (.s (.n) (.s (.s (.n) (.s (.lp [.row 0 500512 30 14 (.st 2),.row 9 500512 30 14 (.st 2),.leaf 11 (.int .i64)] 0 false (.n)) .n)) (.n)))) [.lf (.sl (.st 2)),.fn 36 [] []] x
noncomputable def DU:Ent:=⟨[.lf (.sl (.st 2)),.fn 36 [] []],[.io [.no,.no],.own 30 14 (.st 2)],o4⟩
theorem DS:bI prog 63 [.lf (.sl (.st 2)),.fn 36 [] []] [.io [.no,.no],.own 30 14 (.st 2)] o4:=Ep (n:=24) (.cons (Zv) (.cons (n9) (.nil))) Tryz.mixed Tryz.func63 rfl (by kernel_rfl) rfl rfl (by kernel_rfl) (fun _ _ _=>(by first | trivial | exact ⟨trivial,trivial⟩)) (fun _=>rfl)
noncomputable def qZ (x:cg [.ag 5]) : Option (aX [.ag 5]):=fj ⟨prog,[(103,DP),(104,DR),(73,tA)],10,[.ag 5],[.cell 2 36],[],[2],[]⟩ ((Tryz.f61).body.getD .skip) (.n) [.ag 5] x
noncomputable def H3:Ent:=⟨[.ag 5],[.ag 5],qZ⟩
theorem H0:bI prog 61 [.ag 5] [.ag 5] qZ:=cd (n:=10) (.cons (DN) (.cons (DQ) (.cons (tz) (.nil)))) Tryz.mixed Tryz.func61 rfl (by kernel_rfl) rfl rfl rfl (fun _=>rfl)
noncomputable def o5 (x:cg [.ag 12]) : Option (aX [.io [.no],.agr 12 [(2,72,8,.st 7),(3,30,14,.st 2),(4,91,9,.st 6),(5,93,3,.st 11),(6,74,6,.st 8)]]):=Jb ⟨prog,[(61,H3),(62,WG),(63,DU),(64,WK),(65,WC),(66,WE)],28,[.io [.no],.agr 12 [(2,72,8,.st 7),(3,30,14,.st 2),(4,91,9,.st 6),(5,93,3,.st 11),(6,74,6,.st 8)]],[.cell 2 43],[],[2],[]⟩ ((Tryz.f31).body.getD .skip) (.n) [.ag 12] x
noncomputable def uK:Ent:=⟨[.ag 12],[.io [.no],.agr 12 [(2,72,8,.st 7),(3,30,14,.st 2),(4,91,9,.st 6),(5,93,3,.st 11),(6,74,6,.st 8)]],o5⟩
theorem uJ:bI prog 31 [.ag 12] [.io [.no],.agr 12 [(2,72,8,.st 7),(3,30,14,.st 2),(4,91,9,.st 6),(5,93,3,.st 11),(6,74,6,.st 8)]] o5:=Ep (n:=28) (.cons (H0) (.cons (WF) (.cons (DS) (.cons (WJ) (.cons (WB) (.cons (WD) (.nil))))))) Tryz.mixed Tryz.func31 rfl (by kernel_rfl) rfl rfl (by kernel_rfl) (fun _ _ _=>(by first | trivial | exact ⟨trivial,trivial⟩)) (fun _=>rfl)
theorem Yt {P:Program} {f:FuncId} {F:cg [.lf .str,.lf .str]→Option (aX [.lf (.int .i64)])} (hcall:dH P f=true)
  (H:∀ (x y:ByteArray) (z:Int) (w:World),F (x,(y,()))=some z→Calls P f #[.string x,.string y] w fun en w'=>en = .returned (.int .i64 z)∧w' = w) : bI P f [.lf .str,.lf .str] [.lf (.int .i64)] F:=by
 rintro ⟨x,y,⟨⟩⟩ z hF
 refine ⟨fun _=>⟨hcall,fun w G vs hG hr=>?_⟩,fun h=>(by cases h)⟩
 have hvl:vs.toList.length=2:=hr.len
 obtain ⟨v,u,hv⟩ : ∃ v u,vs = #[v,u]:=by
  match hv:vs.toList,hvl with
  | [v,u],_=>exact ⟨v,u,by apply Array.ext'; simpa using hv⟩
 subst hv
 obtain ⟨rfl,_⟩:=aJ.vv (hr.rep 0 v _ rfl rfl)
 obtain ⟨rfl,_⟩:=aJ.vv (hr.rep 1 u _ rfl rfl)
 refine (H x y z w hF).mono ?_
 rintro en w' ⟨rfl,rfl⟩
 exact ⟨_,G,rfl,Ext.refl _,fun _ h=>h,hG,fun _ h=>.inl h,.d _ _ (.v _ rfl)⟩
def Jn (s sub:ByteArray) : Option Int:=if h:sub.size=1∧s.size≤1000000000 then some (Lib.lastIndexByte s (((sub[0]'(by omega)).toNat:Nat) : Int)) else none
noncomputable def SJ:Ent:=⟨[.lf .str,.lf .str],[.lf (.int .i64)],fun x=>Jn x.1 x.2.1⟩
theorem SI:bI prog 167 [.lf .str,.lf .str] [.lf (.int .i64)] (fun x=>Jn x.1 x.2.1):=Yt (by kernel_rfl) fun x y z w hF=>by
 dsimp only at hF
 unfold Jn at hF
 split at hF
 ·rename_i h
  injection hF with hF
  subst hF
  exact Tryz.strings_LastIndex_one x y h.1 (Nat.lt_of_le_of_lt h.2 (by decide)) w
 ·cases hF
section
section
variable {P:Program}
def MQ (K:Nat) (A:Option Addr) (l c:Nat) : Option Addr:=if c=l then A else A.map (·.add (l * K))
theorem tF {T e:TypeId} {i:TypeInfo} {K:Nat} (hT:P.underlying T=some (.slice e)) (hi:P.info? e=some i) (h1:i.size=K) (w:World) : P.elem T=e∧(sizeOf (P.elem T)).run P w = .ok K w:=by
 have he:P.elem T=e:=by unfold Program.elem; simp [hT]
 refine ⟨he,?_⟩
 rw [he]
 simp [sizeOf,typeInfo,hi,h1]
theorem abR {T e:TypeId} {A:Option Addr} {n c K:Nat} {i:TypeInfo} (hT:P.underlying T=some (.slice e)) (hi:P.info? e=some i) (h1:i.size=K) {h:Nat} (hh:h≤c) (w:World) (kh:IntKind) :
  (Instr.slice T (.slice A n c) none (some (.int kh (h:Int))) none).run P w = .ok (.slice (MQ K A 0 c) h c) w:=by
 obtain ⟨he,hs⟩:=tF hT hi h1 w
 rw [run_slice_h w T A n c (by rw [he]; exact hT) kh h (by omega) (by omega),hs]
 simp [Result.andThen,sliced,MQ]
theorem abQ {T e:TypeId} {A:Option Addr} {n c K:Nat} {i:TypeInfo} (hT:P.underlying T=some (.slice e)) (hi:P.info? e=some i) (h1:i.size=K) {l:Nat} (hl:l≤n) (w:World) (kl:IntKind) :
  (Instr.slice T (.slice A n c) (some (.int kl (l:Int))) none none).run P w = .ok (.slice (MQ K A l c) (n - l) (c - l)) w:=by
 obtain ⟨he,hs⟩:=tF hT hi h1 w
 rw [run_slice_l w T A n c (by rw [he]; exact hT) kl l (by omega) (by omega),hs]
 simp [Result.andThen,sliced,MQ]
theorem Bp (K g l c:Nat) (h:l < c∨l=0) : MQ K (some ⟨g,0,none⟩) l c=some ⟨g,l * K,none⟩:=by
 unfold MQ
 by_cases e:c=l
 ·rw [if_pos e]
  rcases h with h | h
  ·omega
  ·subst h; simp
 ·rw [if_neg e]
  simp only [Option.map_some,Addr.add]
  split
  ·rename_i h0; rw [h0]
  ·simp
theorem NH (g j:Nat) (s:Nat) : (⟨g,s,none⟩ : Addr).add j=⟨g,s + j,none⟩:=by unfold Addr.add; split <;> simp_all
end
end
structure xi (g:Nat) (w w':World) : Prop where
 os:w'.os=w.os
 tape:w'.tape=w.tape
 output:w'.output=w.output
 size:w'.heap.size=w.heap.size
 block:∀ h,h≠g→w'.heap[h]? = w.heap[h]?
theorem xi.refl (g:Nat) (w:World) : xi g w w:=⟨rfl,rfl,rfl,rfl,fun _ _=>rfl⟩
theorem xi.trans {g:Nat} {a b c:World} (h:xi g a b) (k:xi g b c) : xi g a c:=⟨k.os.trans h.os,k.tape.trans h.tape,k.output.trans h.output,k.size.trans h.size,fun x hx=>(k.block x hx).trans (h.block x hx)⟩
theorem UV {w0:WM} {F0 F:Nat→Prop} {ρ : Nat→Value} {b:Nat→Option Box} {w w':World} {t j e k g n c:Nat} {es zs:List (List D)} {us:List Value} (hi:Inv w0 F0 ρ b w F) (hb:b t=some (.rw e k es)) (hρ : ρ t = .slice (some ⟨g,0,none⟩) n c) (hjn:b j=none) (hj:j < 1000000) (hk0 : 0 < k)
  (hT:xi g w w') (ho:w'.ownsRow 0 e k (.slice (some ⟨g,0,none⟩) zs.length c) zs.length us) (hz:∀ x∈zs,x.length=k) (hl:us.length=zs.flatten.length) (hr:∀ (p:Nat) u d,us[p]? = some u→zs.flatten[p]? = some d→ep w F u d) :
  Inv w0 F0 (pv (pv ρ t (.tuple #[])) j (.slice (some ⟨g,0,none⟩) zs.length c)) (cR (cR b (some (t,.rw e k (es ++ [[]])))) (some (j,.rw e k zs))) w' F ∧
  Stp ρ b w F (pv (pv ρ t (.tuple #[])) j (.slice (some ⟨g,0,none⟩) zs.length c)) (cR (cR b (some (t,.rw e k (es ++ [[]])))) (some (j,.rw e k zs))) w' F ∧
  aJ (pv (pv ρ t (.tuple #[])) j (.slice (some ⟨g,0,none⟩) zs.length c)) (cR (cR b (some (t,.rw e k (es ++ [[]])))) (some (j,.rw e k zs))) w' F (.slice (some ⟨g,0,none⟩) zs.length c) (.row j zs.length):=by
 have htj:t≠j:=fun h=>by rw [h,hjn] at hb; cases hb
 have hbt:=hi.box t _ hb
 obtain ⟨hg1,hg2,hg3⟩:=hbt.lt (show blk (ρ t)=some g by rw [hρ]; rfl)
 obtain ⟨ρ2,hρ2⟩ : ∃ ρ2,ρ2=pv (pv ρ t (.tuple #[])) j (.slice (some ⟨g,0,none⟩) zs.length c):=⟨_,rfl⟩
 obtain ⟨b2,hb2⟩ : ∃ b2,b2=cR (cR b (some (t,.rw e k (es ++ [[]])))) (some (j,.rw e k zs)):=⟨_,rfl⟩
 rw [← hρ2,← hb2]
 have rj : ρ2 j = .slice (some ⟨g,0,none⟩) zs.length c:=by rw [hρ2,cY]
 have rt : ρ2 t = .tuple #[]:=by rw [hρ2,g5 _ _ htj,cY]
 have ro:∀ x,x≠j→x≠t→ρ2 x = ρ x:=fun x h1 h2=>by rw [hρ2,g5 _ _ h1,g5 _ _ h2]
 have bj:b2 j=some (.rw e k zs):=by rw [hb2,da]
 have bt:b2 t=some (.rw e k (es ++ [[]])):=by rw [hb2,cw _ _ htj,da]
 have bo:∀ x,x≠j→x≠t→b2 x=b x:=fun x h1 h2=>by rw [hb2,cw _ _ h1,cw _ _ h2]
 have hs:Stp ρ b w F ρ2 b2 w' F:=by
  refine ⟨fun _ h=>h,fun g' hg'=>hT.block g' (fun h=>hg3 (h ▸ hg')),fun x ty cs hx=>?_,fun x e' k' es' hx=>?_⟩
  ·have h1:x≠j:=fun h=>by rw [h,hjn] at hx; cases hx
   have h2:x≠t:=fun h=>by rw [h,hb] at hx; cases hx
   rw [bo x h1 h2,ro x h1 h2]
   exact ⟨⟨ty,cs,hx⟩,rfl⟩
  ·have h1:x≠j:=fun h=>by rw [h,hjn] at hx; cases hx
   by_cases h2:x=t
   ·subst h2
    rw [hb] at hx
    injection hx with hx
    injection hx with q1 q2 q3
    subst q1 q2 q3
    rw [bt]
    exact ⟨e,es ++ [[]],rfl,by simp,fun h=>by simp at h⟩
   ·rw [bo x h1 h2,ro x h1 h2]
    exact ⟨e',es',hx,Nat.le_refl _,fun _=>rfl⟩
 have hbl:∀ x g',blk (ρ2 x)=some g'→(x=j∧g' = g)∨(x≠j∧x≠t∧blk (ρ x)=some g'):=fun x g' hx=>by
  by_cases h1:x=j
  ·subst h1
   rw [rj] at hx
   injection hx with hx
   exact .inl ⟨rfl,hx.symm⟩
  ·by_cases h2:x=t
   ·subst h2
    rw [rt] at hx
    cases hx
   ·rw [ro x h1 h2] at hx
    exact .inr ⟨h1,h2,hx⟩
 refine ⟨⟨hi.ext.step hT.os hT.tape hT.output (by rw [hT.size]; exact Nat.le_refl _) (fun p hp hM=>hT.block p (fun h=>wo hp hM (h ▸ hg2))),hi.f0,fun p hp=>by rw [hT.size]; exact hi.flt p hp,hi.fnew,fun x B hx=>?_,fun x y B1 B2 p hx hy hn hp=>?_,hi.reg_stp hs fun x hx hn=>?_⟩,hs,?_⟩
 ·by_cases h1:x=j
  ·subst h1
   rw [bj] at hx
   injection hx with hx
   subst hx
   refine .rw e k zs us hk0 (by rw [rj]; exact ho) (fun p hp=>?_) hz hl (fun p u d h3 h4=>(hr p u d h3 h4).mono hs.hF hs.hw) (fun p hp=>?_)
   ·rw [rj] at hp
    injection hp with hp
    rw [← hp]; exact hg3
   ·rw [rj] at hp
    injection hp with hp
    rw [← hp]; exact hg2
  ·by_cases h2:x=t
   ·subst h2
    rw [bt] at hx
    injection hx with hx
    subst hx
    exact .gn _ _ _ rt
   ·rw [bo x h1 h2] at hx
    have hbx:=hi.box x B hx
    exact hbx.mono hs (ro x h1 h2) (fun p hp=>hT.block p (fun h=>hi.dist x t B _ p hx hb h2 hp (by rw [hρ,h]; rfl))) (fun p hp=>(hbx.lt hp).2.2)
 ·intro hq
  rcases hbl x p hp with ⟨rfl,rfl⟩ | ⟨h1,h2,h3⟩
  ·rcases hbl y p hq with ⟨rfl,_⟩ | ⟨h4,h5,h6⟩
   ·exact hn rfl
   ·rw [bo y h4 h5] at hy
    exact hi.dist t y _ B2 p hb hy (Ne.symm h5) (by rw [hρ]; rfl) h6
  ·rw [bo x h1 h2] at hx
   rcases hbl y p hq with ⟨rfl,rfl⟩ | ⟨h4,h5,h6⟩
   ·exact hi.dist t x _ B1 p hb hx (Ne.symm h2) (by rw [hρ]; rfl) h3
   ·rw [bo y h4 h5] at hy
    exact hi.dist x y B1 B2 p hx hy hn h3 h6
 ·have h1:x≠j:=by omega
  have h2:x≠t:=fun h=>by rw [h,hb] at hn; cases hn
  rw [bo x h1 h2]; exact hn
 ·rcases ho.2 with ⟨h,_⟩ | ⟨g',cap,cur,h,_,_,hc,_⟩
  ·cases h
  ·injection h with q1 q2 q3
   subst q3
   exact .row j zs.length _ c e k zs bj (Nat.le_refl _) hc (fun _=>⟨_,rfl⟩) (fun _=>rj)
theorem EM {α : Type} (k:Nat) : ∀ (l:Nat) (es:List (List α)) (_:∀ e∈es,e.length=k),l≤es.length→(es.take l).flatten=es.flatten.take (l * k)
 | 0,es,_,_=>by simp
 | l + 1,[],_,h=>by simp at h
 | l + 1,e::es,hk,h=>by
  rw [List.take_succ_cons,List.flatten_cons,List.flatten_cons,EM k l es (fun x hx=>hk x (List.mem_cons_of_mem _ hx)) (by simpa using h),List.take_append,hk e List.mem_cons_self,show (l + 1) * k - k=l * k by rw [Nat.add_mul]; omega,List.take_of_length_le (l:=e) (by rw [hk e List.mem_cons_self,Nat.add_mul]; omega)]
def Ys {α : Type} (xs:List α) (i j:Int) : Option (List α):=if 0≤i∧i < j∧j.toNat≤xs.length then some (xs.take i.toNat++xs.drop j.toNat) else none
def abz (ty:Ty) (e k:Nat) (x:cg [.mv e k ty,.lf (.int .i64),.lf (.int .i64)]) : Option (aX [.io [.no,.no,.no],.own e k ty]):=(Ys (show List ty.den from x.1) x.2.1 x.2.2.1).bind fun z=>some (((),(),(),()),z)
theorem aaw {P:Program} {f:FuncId} (ty:Ty) {e k:Nat} (hk:tyN ty=k) (hk0 : 0 < k) (hcall:dH P f=true)
  (H:∀ (g n c i j:Nat) (us:List Value) (w:World),w.ownsRow 0 e k (.slice (some ⟨g,0,none⟩) n c) n us→(∀ u∈us,u.oneCell' = true)→i < j→j≤n→Calls P f #[.slice (some ⟨g,0,none⟩) n c,.int .i64 (i:Int),.int .i64 (j:Int)] w fun en w'=>en = .returned (.slice (some ⟨g,0,none⟩) (i + (n - j)) c)∧xi g w w'∧w'.ownsRow 0 e k (.slice (some ⟨g,0,none⟩) (i + (n - j)) c) (i + (n - j)) (us.take (i * k)++us.drop (j * k))) :
  bI P f [.mv e k ty,.lf (.int .i64),.lf (.int .i64)] [.io [.no,.no,.no],.own e k ty] (abz ty e k):=by
 rintro ⟨xs,i,j,⟨⟩⟩ zz hF
 change List ty.den at xs
 change Int at i
 change Int at j
 obtain ⟨zs,hz,hF⟩:=cQ hF
 injection hF with hF
 subst hF
 replace hz:Ys xs i j=some zs:=hz
 unfold Ys at hz
 split at hz
 ·rename_i hc
  obtain ⟨h0,hij,hjn⟩:=hc
  injection hz with hz
  obtain ⟨i,rfl⟩:=Int.eq_ofNat_of_zero_le h0
  obtain ⟨j,rfl⟩:=Int.eq_ofNat_of_zero_le (show 0≤j by omega)
  have hij:i < j:=by omega
  simp only [zt] at hz hjn
  refine ⟨fun h=>(by cases h),fun _=>⟨⟨trivial,trivial,trivial,trivial⟩,fun iss kss jss h1 h2 h3 h4 h5 h6=>⟨hcall,?_⟩⟩⟩
  match iss,h1 with
  | [is0,is1,is2],h1 =>
  match is0,h1.1 with
  | [t],_ =>
  match is1,h1.2.1 with
  | [],_ =>
  match is2,h1.2.2.1 with
  | [],_ =>
  match kss,h2 with
  | [k0,k1,k2],h2 =>
  match k0,h2.1 with
  | [],_ =>
  match k1,h2.2.1 with
  | [],_ =>
  match k2,h2.2.2.1 with
  | [],_ =>
  match jss,h3 with
  | [js],h3 =>
  match js,h3.1 with
  | [j0],_ =>
  intro w0 F0 ρ b w G vs args ha hb0 hbn hi hr
  have hj0:j0 < 1000000:=h5 j0 (by simp [br])
  have hbj:b j0=none:=hbn j0 (by simp [br])
  have hal:args.length=3:=by rw [← gb args,ha]; rfl
  match args,hal with
  | [a0,a1,a2],_ =>
  simp only [dQ,dP,toI,List.cons.injEq] at ha
  obtain ⟨ha0,ha1,ha2,_⟩:=ha
  have hvl:vs.toList.length=3:=hr.len
  obtain ⟨v0,v1,v2,hv⟩ : ∃ v0 v1 v2,vs = #[v0,v1,v2]:=by
   match hv:vs.toList,hvl with
   | [v0,v1,v2],_=>exact ⟨v0,v1,v2,by apply Array.ext'; simpa using hv⟩
  subst hv
  have r0:=(hr.rep 0 v0 a0 rfl rfl).nrmd
  have r1:=(hr.rep 1 v1 a1 rfl rfl).nrmd
  have r2:=(hr.rep 2 v2 a2 rfl rfl).nrmd
  rw [ha0] at r0
  rw [ha1] at r1
  rw [ha2] at r2
  obtain ⟨rfl,_⟩:=aJ.vv r1
  obtain ⟨rfl,_⟩:=aJ.vv r2
  obtain ⟨B',hB,hnB⟩:=hb0 t (rwU e k ty xs) (by simp [dP,toI,lkU])
  have hBe:B' = .rw e k (xs.map (bK ty)):=by
   cases B' with
   | st ty' cs=>cases hnB
   | rw e' k' es'=>exact hnB
  subst hBe
  have hel:(xs.map (bK ty)).length=xs.length:=List.length_map ..
  have hek:∀ y∈xs.map (bK ty),y.length=k:=fun y hy=>by
   obtain ⟨z,_,rfl⟩:=List.mem_map.1 hy
   rw [lQ,hk]
  cases r0 with
  | row _ _ A c e2 k2 es2 hb2 hn2 hc2 hA2 hρ2 =>
  rw [hB] at hb2
  injection hb2 with hb2
  injection hb2 with q1 q2 q3
  subst q1 q2 q3
  have hρt:=hρ2 hel
  have hbx:=hi.box t _ hB
  cases hbx with
  | gn _ _ _ hg=>rw [hρt] at hg; cases hg
  | rw _ _ _ us hk1 ho hFt hkt hlt hrt hown =>
  rw [hρt,hel] at ho
  have ho':=ho
  rcases ho'.2 with ⟨h',hn0⟩ | ⟨g,cap,cur,h',_,_,_,_⟩
  ·omega
  injection h' with m1 m2 m3
  subst m1 m3
  have hfl:=cH k _ hek
  rw [hel] at hfl
  have hul:us.length=xs.length * k:=by rw [hlt,hfl]
  have h1c:∀ u∈us,u.oneCell' = true:=fun u hu=>by
   obtain ⟨p,hp⟩:=List.getElem?_of_mem hu
   have hpl:=(zg.1 hp).1
   exact (hrt p u _ hp (zq (by omega))).one
  refine (H g xs.length c i j us w ho h1c hij hjn).mono ?_
  rintro en w' ⟨rfl,hT,ho2⟩
  have hzl:zs.length=i + (xs.length - j):=by rw [← hz]; simp; omega
  have hzm:(zs.map (bK ty)).length=i + (xs.length - j):=by rw [List.length_map,hzl]
  have hzk:∀ y∈zs.map (bK ty),y.length=k:=fun y hy=>by
   obtain ⟨z,_,rfl⟩:=List.mem_map.1 hy
   rw [lQ,hk]
  have hzf:(zs.map (bK ty)).flatten=(xs.map (bK ty)).flatten.take (i * k)++(xs.map (bK ty)).flatten.drop (j * k):=by
   rw [← hz,List.map_append,List.flatten_append,List.map_take,List.map_drop,EM k i _ hek (by rw [hel]; omega),sX k j _ hek (by rw [hel]; omega)]
  have:=UV (zs:=zs.map (bK ty)) (us:=us.take (i * k)++us.drop (j * k)) hi hB hρt hbj hj0 hk0 hT (by rw [hzm]; exact ho2) hzk (by rw [hzf]; simp only [List.length_append,List.length_take,List.length_drop,hul,hfl]) (fun p u d hu hd=>by
   rw [hzf] at hd
   rw [List.getElem?_append] at hu hd
   simp only [List.length_take,hul,hfl] at hu hd
   split at hu
   ·rename_i hc
    rw [if_pos hc] at hd
    rw [List.getElem?_take] at hu hd
    split at hu
    ·rename_i hc2
     rw [if_pos hc2] at hd
     exact hrt p u d hu hd
    ·cases hu
   ·rename_i hc
    rw [if_neg hc] at hd
    rw [List.getElem?_drop] at hu hd
    exact hrt _ u d hu hd)
  obtain ⟨k1,k2,k3⟩:=this
  have hU:dD b (qf [.mv e k ty,.lf (.int .i64),.lf (.int .i64)] [.io [.no,.no,.no],.own e k ty] [[t],[],[]] [[],[],[]] [[j0]] (xs,((i:Int),((j:Int),()))) (((),(),(),()),zs))=cR (cR b (some (t,.rw e k (xs.map (bK ty) ++ [[]])))) (some (j0,.rw e k (zs.map (bK ty)))):=by
   have hU2:qf [.mv e k ty,.lf (.int .i64),.lf (.int .i64)] [.io [.no,.no,.no],.own e k ty] [[t],[],[]] [[],[],[]] [[j0]] (xs,((i:Int),((j:Int),()))) (((),(),(),()),zs) = [(j0,.rw e k (zs.map (bK ty))),(t,.rw e k (xs.map (bK ty) ++ [[]]))]:=by
    simp [qf,PI,toO,cW,toI,fc,ic,cA,jT,CW,pg,FV,dP,lkU,rwU,X4]
   rw [hU2]
   funext x
   simp only [dD,lkU,cR]
   by_cases e1:x=j0
   ·subst e1; simp
   ·by_cases e2:x=t
    ·subst e2; simp [e1,Ne.symm e1]
    ·simp [e1,e2,Ne.symm e1,Ne.symm e2]
  rw [hU]
  refine ⟨_,_,G,rfl,k1,k2,?_⟩
  rw [← hzm]
  show aJ _ _ _ _ _ (.row j0 zs.length)
  rw [show zs.length=(zs.map (bK ty)).length from (List.length_map ..).symm]
  exact k3
 ·cases hz
theorem Ik {P:Program} (w:World) (t e ty:TypeId) (z:Value) (ht:P.underlying t=some (.slice e)) (hv:∀ w,(zeroValue e).run P w = .ok z w) (h1:∀ u∈z.cells.toList,u.oneCell' = true) (b o n c:Nat) (hn : 0 < n)
  (hc:∀ j,j < n * z.cells.size→(w.cell? ⟨b,o + j,none⟩).isSome=true) (hf:∀ j,j < n * z.cells.size→w.frozen? ⟨b,o + j,none⟩=false) :
  (Builtin.clear_ #[t] ty #[.slice (some ⟨b,o,none⟩) n c]).run P w = .ok (.tuple #[]) (w.setCells b o (Builtin.zeroCells z.cells n).toList)∧(Builtin.zeroCells z.cells n).toList.length=n * z.cells.size∧∀ u∈(Builtin.zeroCells z.cells n).toList,u.oneCell' = true:=by
 have hl:(Builtin.zeroCells z.cells n).toList.length=n * z.cells.size:=by simp [Builtin.zeroCells]
 have ho:∀ u∈(Builtin.zeroCells z.cells n).toList,u.oneCell' = true:=by
  intro u hu
  simp [Builtin.zeroCells] at hu
  obtain ⟨a,ha,rfl⟩:=hu
  have h0 : 0 < z.cells.size:=by
   rcases Nat.eq_zero_or_pos z.cells.size with e | e
   ·rw [e,Nat.mul_zero] at ha; omega
   ·exact e
  have hm:=Nat.mod_lt a h0
  rw [getElem!_pos z.cells _ hm]
  exact h1 _ (by simp)
 refine ⟨?_,hl,ho⟩
 have hst:=run_storeCells_cells (P:=P) b o (Builtin.zeroCells z.cells n).toList 0 w (by rw [hl]; simpa using hc) (by rw [hl]; simpa using hf) ho
 simp only [Nat.add_zero] at hst
 obtain ⟨m,rfl⟩ : ∃ m,n=m + 1:=⟨n - 1,by omega⟩
 simp [Builtin.clear_,run_underlying ht,hv,hst]
theorem TZ {w:World} {g:Nat} {cur:Array Value} {e:TypeId} (h:w.heap[g]? = some (.cells cur e (0,0))) (q:Nat) : w.cell? ⟨g,q,none⟩=cur[q]? := by simp [World.cell?,h]
theorem U1 {w:World} {g:Nat} {cur:Array Value} {e:TypeId} (h:w.heap[g]? = some (.cells cur e (0,0))) (q:Nat) : w.frozen? ⟨g,q,none⟩=false:=by simp [World.frozen?,h]
theorem Iw (g n c i j:Nat) (us:List Value) (w:World) (ho:w.ownsRow 0 30 14 (.slice (some ⟨g,0,none⟩) n c) n us) (h1c:∀ u∈us,u.oneCell' = true) (hij:i < j) (hj:j≤n) :
  Calls prog 72 #[.slice (some ⟨g,0,none⟩) n c,.int .i64 (i:Int),.int .i64 (j:Int)] w fun en w'=>en = .returned (.slice (some ⟨g,0,none⟩) (i + (n - j)) c)∧∃ L:List Value,L.length=(j - i) * 14∧(∀ u∈L,u.oneCell' = true)∧w' = (w.drew.setCells g (i * 14) (us.drop (j * 14))).setCells g ((i + (n - j)) * 14) L:=by
 obtain ⟨c0,hc,hcz0,hcz1,hcz2⟩:=info_parts Tryz.infoClApp
 obtain ⟨hul,ho2⟩:=ho
 rcases ho2 with ⟨h0,_⟩ | ⟨g',cap,cur,h0,_,hh,hnc,hmax,hcs,hct⟩
 ·cases h0
 injection h0 with e1 e2 e3
 injection e1 with e1
 injection e1 with e1
 subst e1 e3
 have hT:=Tryz.underlying38
 obtain ⟨news,hnews⟩ : ∃ news,news=us.drop (j * 14):=⟨_,rfl⟩
 have hnl:news.length=(n - j) * 14:=by rw [hnews,List.length_drop,hul]; omega
 have hn1:∀ u∈news,u.oneCell' = true:=fun u hu=>h1c u (by rw [hnews] at hu; exact List.mem_of_mem_drop hu)
 have hnget:∀ q u,news[q]? = some u→cur[j * 14 + q]? = some u:=fun q u hq=>by
  rw [hnews,List.getElem?_drop,← hct,List.getElem?_take] at hq
  split at hq
  ·rw [← Array.getElem?_toList]; exact hq
  ·cases hq
 have hall:∀ q,q < c * 14→(w.drew.cell? ⟨g,q,none⟩).isSome=true∧w.drew.frozen? ⟨g,q,none⟩=false:=fun q hq=>by
  refine ⟨?_,U1 hh q⟩
  show (w.cell? _).isSome=true
  rw [TZ hh,Array.getElem?_eq_getElem (by omega)]
  rfl
 have S1:∀ W:World,(Instr.slice 38 (.slice (some ⟨g,0,none⟩) n c) (some (.int .i64 (i:Int))) (some (.int .i64 (j:Int))) (some (.int .i64 (n:Int)))).run prog W = .ok (sliced (some ⟨g,0,none⟩) i j n 14) W:=fun W=>by
  obtain ⟨he,hs⟩:=tF hT hc hcz1 W
  rw [run_slice_lhm W _ _ _ _ (by rw [he]; exact hT) .i64 .i64 .i64 (i:Int) (j:Int) (n:Int) (by omega) (by omega) (by omega) (by omega),hs]
  simp [Result.andThen]
 have S2:∀ W:World,(Instr.slice 38 (.slice (some ⟨g,0,none⟩) n c) none (some (.int .i64 (i:Int))) none).run prog W = .ok (.slice (some ⟨g,0,none⟩) i c) W:=fun W=>by
  rw [abR hT hc hcz1 (by omega) W .i64,Bp 14 g 0 c (.inr rfl)]
 obtain ⟨A2,hA2⟩ : ∃ A2,MQ 14 (some ⟨g,0,none⟩) j c=some A2:=by
  by_cases e:j < c
  ·exact ⟨_,Bp 14 g j c (.inl e)⟩
  ·refine ⟨⟨g,0,none⟩,?_⟩
   have:c=j:=by omega
   unfold MQ
   rw [if_pos this]
 have S3:∀ W:World,(Instr.slice 38 (.slice (some ⟨g,0,none⟩) n c) (some (.int .i64 (j:Int))) none none).run prog W = .ok (.slice (some A2) (n - j) (c - j)) W:=fun W=>by
  rw [abQ hT hc hcz1 hj W .i64,hA2]
 have hsrc:∀ q u,news[q]? = some u→w.drew.cell? (A2.add q)=some u:=fun q u hq=>by
  have hq2:=(zg.1 hq).1
  have e:A2=⟨g,j * 14,none⟩:=by
   rw [Bp 14 g j c (.inl (by omega))] at hA2
   injection hA2 with hA2
   exact hA2.symm
  show w.cell? _ = _
  rw [e,NH,TZ hh]
  exact hnget q u hq
 obtain ⟨d,hd⟩ : ∃ d,d=n - j:=⟨_,rfl⟩
 rw [← hd] at S3 hnl ⊢
 obtain ⟨W1,hW1⟩ : ∃ W1,W1=w.drew.setCells g (0 + i * 14) news:=⟨_,rfl⟩
 have hcl1:∀ q,q < c * 14→(W1.cell? ⟨g,q,none⟩).isSome=true∧W1.frozen? ⟨g,q,none⟩=false:=fun q hq=>by
  rw [hW1]
  exact ⟨World.isSome_setCells g _ _ _ _ (hall q hq).1,by rw [World.frozen?_setCells]; exact (hall q hq).2⟩
 have hzv:∀ W:World,(zeroValue 30).run prog W = .ok (.agg #[.int .i64 0,.int .i64 0,.string ⟨#[]⟩,.int .i64 0,.int .i64 0,.int .i64 0,.int .i64 0,.slice none 0 0,.int .i64 0,.int .i64 0,.slice none 0 0,.slice none 0 0,.slice none 0 0,.slice none 0 0]) W:=fun W=>by
  simp [zeroValue,typeInfo,hc,hcz0]
 have S4:∀ W:World,(Instr.slice 38 (.slice (some ⟨g,0,none⟩) (i + d) c) (some (.int .i64 ((i + d:Nat) : Int))) (some (.int .i64 (n:Int))) none).run prog W = .ok (.slice (some ⟨g,(i + d) * 14,none⟩) (n - (i + d)) (c - (i + d))) W:=fun W=>by
  obtain ⟨he,hs⟩:=tF hT hc hcz1 W
  rw [run_slice_lh W _ _ _ _ (by rw [he]; exact hT) .i64 .i64 ((i + d:Nat) : Int) (n:Int) (by omega) (by omega) (by omega),hs]
  simp only [Result.andThen,sliced,zt]
  rw [if_neg (by omega)]
  simp [NH]
 obtain ⟨z,hz⟩ : ∃ z:Value,z = .agg #[.int .i64 0,.int .i64 0,.string ⟨#[]⟩,.int .i64 0,.int .i64 0,.int .i64 0,.int .i64 0,.slice none 0 0,.int .i64 0,.int .i64 0,.slice none 0 0,.slice none 0 0,.slice none 0 0,.slice none 0 0]:=⟨_,rfl⟩
 rw [← hz] at hzv
 have hzs:z.cells.size=14:=by rw [hz]; rfl
 have hz1:∀ u∈z.cells.toList,u.oneCell' = true:=by
  rw [hz]
  simp only [Value.cells,List.mem_cons,List.not_mem_nil,or_false]
  rintro u (rfl | rfl | rfl | rfl | rfl | rfl | rfl | rfl | rfl | rfl | rfl | rfl | rfl | rfl) <;> rfl
 have hclr:=fun ty=>Ik W1 38 30 ty z hT hzv hz1 g ((i + d) * 14) (n - (i + d)) (c - (i + d)) (by omega)
  (fun q hq=>by rw [hzs] at hq; exact (hcl1 ((i + d) * 14 + q) (by omega)).1) (fun q hq=>by rw [hzs] at hq; exact (hcl1 ((i + d) * 14 + q) (by omega)).2)
 obtain ⟨Lz,hLz⟩ : ∃ Lz,Lz=(Builtin.zeroCells z.cells (n - (i + d))).toList:=⟨_,rfl⟩
 rw [← hLz,hzs] at hclr
 have hLl:=(hclr 0).2.1
 have hL1:=(hclr 0).2.2
 have hcle:=fun ty=>(hclr ty).1
 have HL:=Lib.hid (show Lz.length=(j - i) * 14 by rw [hLl]; congr 1; omega)
 have HL1:=Lib.hid hL1
 have s1:=Lib.hid hnl
 have s2:=Lib.hid hn1
 have s3:=Lib.hid hsrc
 have s4:=Lib.hid (show ∀ q,q < news.length→(w.drew.cell? ⟨g,0 + i * 14 + q,none⟩).isSome=true∧w.drew.frozen? ⟨g,0 + i * 14 + q,none⟩=false from fun q hq=>by rw [hnl] at hq; exact hall (0 + i * 14 + q) (by omega))
 have hW:=Lib.hid hW1
 have hr:i + d≤c:=by omega
 have hne : ¬ (i:Int)=(j:Int):=by omega
 clear hclr hLz hLl hL1 hW1 hcl1 hall hsrc hn1 hnl hnget hct hul hcs hz hzs hz1 hzv
 have hb1:(i:Int) + (d:Int)≤(n:Int):=by omega
 have hb2:(n:Int)≤(c:Int):=by omega
 have hb3 : ¬ c=i + d:=by omega
 have HD:=Lib.hid hd
 clear hd
 have mixed:=Tryz.mixed
 go_enter Tryz.func72,Tryz.ntmps72
 go_wp2_with fail
 go_region_law_o (refine step_append_room rfl (.tmp 22) (.tmp 25) 38 rfl 30 c0 14 hT hc hcz1 g 0 i c (by simp [Act.eval,Act.put]) A2 d (c - j) news (by simp [Act.eval,Act.put]) s1.out s3.out s2.out (by omega) s4.out ?_; rw [← hW.out])
 go_wp2
 go_ret
 exact ⟨rfl,Lz,HL.out,HL1.out,by rw [hW.out,Nat.zero_add,hnews]⟩
theorem yg {g:Nat} {e:TypeId} : ∀ (vs:List Value) (o:Nat) (w:World) (cur:Array Value),w.heap[g]? = some (.cells cur e (0,0))→o + vs.length≤cur.size→(w.setCells g o vs).heap[g]? = some (.cells (cur.toList.take o++vs++cur.toList.drop (o + vs.length)).toArray e (0,0))
 | [],o,w,cur,h,_=>by
  show w.heap[g]? = _
  rw [h]
  simp
 | v::r,o,w,cur,h,hl=>by
  simp only [List.length_cons] at hl
  have h1:(w.setCell ⟨g,o,none⟩ v).heap[g]? = some (.cells (cur.setIfInBounds o v) e (0,0)):=by rw [heap_setCell_same w g o _ _ _ h]
  have h2:=yg r (o + 1) _ _ h1 (by simp; omega)
  rw [World.setCells,h2]
  have e1:(cur.setIfInBounds o v).toList=cur.toList.take o++v::cur.toList.drop (o + 1):=by
   rw [Array.toList_setIfInBounds,List.set_eq_take_append_cons_drop,if_pos (by simp; omega)]
  have e2:(cur.toList.take o).length=o:=by simp; omega
  have e5:cur.toList.drop (o + (r.length + 1))=(cur.toList.drop (o + 1)).drop r.length:=by rw [List.drop_drop]; congr 1; omega
  rw [e1]
  simp only [List.length_cons]
  rw [e5]
  generalize cur.toList.take o=X at e2
  generalize cur.toList.drop (o + 1)=Y
  have t1:(X++v::Y).take (o + 1)=X ++ [v]:=by
   rw [List.take_append,e2,show o + 1 - o=1 by omega,List.take_of_length_le (l:=X) (by omega)]
   rfl
  have t2:(X++v::Y).drop (o + 1 + r.length)=Y.drop r.length:=by
   rw [List.drop_append,e2,show o + 1 + r.length - o=r.length + 1 by omega,List.drop_of_length_le (l:=X) (by omega)]
   rfl
  rw [t1,t2]
  simp
theorem xi.cells (g:Nat) : ∀ (vs:List Value) (o:Nat) (w:World),xi g w (w.setCells g o vs)
 | [],_,w=>.refl g w
 | v::r,o,w=>by
  refine xi.trans ?_ (xi.cells g r (o + 1) (w.setCell ⟨g,o,none⟩ v))
  exact ⟨rfl,rfl,rfl,by simp [World.setCell],fun h hh=>Below.heap_setCell _ _ _ _ (fun e=>hh e)⟩
theorem Iv (g n c i j:Nat) (us:List Value) (w:World) (ho:w.ownsRow 0 30 14 (.slice (some ⟨g,0,none⟩) n c) n us) (h1c:∀ u∈us,u.oneCell' = true) (hij:i < j) (hj:j≤n) :
  Calls prog 72 #[.slice (some ⟨g,0,none⟩) n c,.int .i64 (i:Int),.int .i64 (j:Int)] w fun en w'=>en = .returned (.slice (some ⟨g,0,none⟩) (i + (n - j)) c)∧xi g w w'∧w'.ownsRow 0 30 14 (.slice (some ⟨g,0,none⟩) (i + (n - j)) c) (i + (n - j)) (us.take (i * 14)++us.drop (j * 14)):=by
 refine (Iw g n c i j us w ho h1c hij hj).mono ?_
 rintro en w' ⟨rfl,L,hL,_,rfl⟩
 refine ⟨rfl,((⟨rfl,rfl,rfl,rfl,fun _ _=>rfl⟩ : xi g w w.drew).trans (xi.cells g _ _ _)).trans (xi.cells g _ _ _),?_⟩
 obtain ⟨hul,ho2⟩:=ho
 rcases ho2 with ⟨h0,_⟩ | ⟨g',cap,cur,h0,_,hh,hnc,hmax,hcs,hct⟩
 ·cases h0
 injection h0 with e1 e2 e3
 injection e1 with e1
 injection e1 with e1
 subst e1 e3
 have hnl:(us.drop (j * 14)).length=(n - j) * 14:=by rw [List.length_drop,hul]; omega
 have h1:=yg (us.drop (j * 14)) (i * 14) w.drew cur hh (by rw [hnl]; omega)
 have hcl:cur.toList.length=c * 14:=by simpa using hcs
 obtain ⟨R,hR⟩ : ∃ R,R=cur.toList.drop (i * 14 + (us.drop (j * 14)).length):=⟨_,rfl⟩
 rw [← hR] at h1
 have hRl:R.length=c * 14 - (i * 14 + (n - j) * 14):=by rw [hR,List.length_drop,hcl,hnl]
 have hA:(cur.toList.take (i * 14)++us.drop (j * 14)).length=(i + (n - j)) * 14:=by rw [List.length_append,List.length_take,hcl,hnl]; omega
 have h2:=yg L ((i + (n - j)) * 14) _ _ h1 (by simp only [List.size_toArray,List.length_append,List.length_take,hcl,hnl,hRl,hL]; omega)
 have ht:cur.toList.take (i * 14)=us.take (i * 14):=by rw [← hct,List.take_take,Nat.min_eq_left (by omega)]
 have hf:((cur.toList.take (i * 14)++us.drop (j * 14)++R).take ((i + (n - j)) * 14))=us.take (i * 14)++us.drop (j * 14):=by
  rw [List.take_append,hA,Nat.sub_self,List.take_zero,List.append_nil,List.take_of_length_le (by omega),ht]
 refine ⟨by rw [List.length_append,List.length_take,hul,hnl]; omega,.inr ⟨g,c,_,rfl,Nat.zero_le _,h2,by omega,hmax,?_,?_⟩⟩
 ·simp only [List.size_toArray,List.length_append,List.length_take,List.length_drop,hcl,hnl,hRl,hL,hul]
  omega
 ·simp only [List.toList_toArray]
  rw [hf,List.append_assoc,List.take_append,List.take_of_length_le (by rw [List.length_append,List.length_take,hul,hnl]; omega)]
  have:(us.take (i * 14)++us.drop (j * 14)).length=(i + (n - j)) * 14:=by rw [List.length_append,List.length_take,hul,hnl]; omega
  rw [this,Nat.sub_self,List.take_zero,List.append_nil]
noncomputable def WI:Ent:=⟨[.mv 30 14 (.st 2),.lf (.int .i64),.lf (.int .i64)],[.io [.no,.no,.no],.own 30 14 (.st 2)],abz (.st 2) 30 14⟩
theorem WH:bI prog 72 [.mv 30 14 (.st 2),.lf (.int .i64),.lf (.int .i64)] [.io [.no,.no,.no],.own 30 14 (.st 2)] (abz (.st 2) 30 14):=aaw (.st 2) (by kernel_rfl) (by decide) (by kernel_rfl) (fun g n c i j us w h1 h2 h3 h4=>Iv g n c i j us w h1 h2 h3 h4)
noncomputable def qY (x:cg [.lf (.str)]) : Option (aX [.lf (.str)]):=fj ⟨prog,[(167,SJ)],8,[.lf (.str)],[.tmp 2],[],[],[]⟩ ((Tryz.f151).body.getD .skip) (.n) [.lf (.str)] x
noncomputable def HW:Ent:=⟨[.lf (.str)],[.lf (.str)],qY⟩
theorem HV:bI prog 151 [.lf (.str)] [.lf (.str)] qY:=cd (n:=8) (.cons (SI) (.nil)) Tryz.mixed Tryz.func151 rfl (by kernel_rfl) rfl rfl rfl (fun _=>rfl)
noncomputable def qW (x:cg [.ag 4,.lf (.str)]) : Option (aX [.lf (.bool)]):=fj ⟨prog,[(151,HW)],14,[.lf (.bool)],[.tmp 4],[],[],[]⟩ ((Tryz.f132).body.getD .skip) (.n) [.ag 4,.lf (.str)] x
noncomputable def HQ:Ent:=⟨[.ag 4,.lf (.str)],[.lf (.bool)],qW⟩
theorem HM:bI prog 132 [.ag 4,.lf (.str)] [.lf (.bool)] qW:=cd (n:=14) (.cons (HV) (.nil)) Tryz.mixed Tryz.func132 rfl (by kernel_rfl) rfl rfl rfl (fun _=>rfl)
noncomputable def sk (x:cg [.ag 5,.lf (.str)]) : Option (aX [.lf (.sl (.str))]):=fj ⟨prog,[(132,HQ),(73,tA)],25,[.lf (.sl (.str))],[.tmp 4],[],[],[]⟩ ((Tryz.f109).body.getD .skip) (.s (.n) (.s (.s (.n) (.s (.lp [.row 4 4 9 1 (.str),.leaf 10 (.int .i64)] 0 false (.n)) .n)) (.n))) [.ag 5,.lf (.str)] x
noncomputable def IW:Ent:=⟨[.ag 5,.lf (.str)],[.lf (.sl (.str))],sk⟩
theorem IV:bI prog 109 [.ag 5,.lf (.str)] [.lf (.sl (.str))] sk:=cd (n:=25) (.cons (HM) (.cons (tz) (.nil))) Tryz.mixed Tryz.func109 rfl (by kernel_rfl) rfl rfl rfl (fun _=>rfl)
noncomputable def uI (x:cg [.ag 4,.pl .str]) : Option (aX [.lf (.bool)]):=fj ⟨prog,[],8,[.lf (.bool)],[.tmp 3],[],[],[]⟩ ((Tryz.f131).body.getD .skip) (.n) [.ag 4,.pl .str] x
noncomputable def DJ:Ent:=⟨[.ag 4,.pl .str],[.lf (.bool)],uI⟩
theorem DI:bI prog 131 [.ag 4,.pl .str] [.lf (.bool)] uI:=cd (n:=8) (.nil) Tryz.mixed Tryz.func131 rfl (by kernel_rfl) rfl rfl rfl (fun _=>rfl)
noncomputable def Pv (x:cg [.lf (.sl (.st 4)),.fn 131 [] [.pl .str]]) : Option (aX [.lf (.int .i64)]):=fj ⟨prog,[(131,DJ)],19,[.lf (.int .i64)],[.tmp 4],[],[],[]⟩ ((Tryz.f130).body.getD .skip) (.s (.n) (.s (.s (.n) (.s (.lp [.leaf 4 (.int .i64),.leaf 8 (.int .i64)] 0 true (.n)) .n)) (.n))) [.lf (.sl (.st 4)),.fn 131 [] [.pl .str]] x
noncomputable def Y7:Ent:=⟨[.lf (.sl (.st 4)),.fn 131 [] [.pl .str]],[.lf (.int .i64)],Pv⟩
theorem Y6:bI prog 130 [.lf (.sl (.st 4)),.fn 131 [] [.pl .str]] [.lf (.int .i64)] Pv:=cd (n:=19) (.cons (DI) (.nil)) Tryz.mixed Tryz.func130 rfl (by kernel_rfl) rfl rfl rfl (fun _=>rfl)
noncomputable def qX (x:cg [.ag 5,.lf (.str)]) : Option (aX [.lf (.int .i64)]):=fj ⟨prog,[(130,Y7)],9,[.lf (.int .i64)],[.tmp 4],[],[],[(0,[3])]⟩ ((Tryz.f108).body.getD .skip) (.n) [.ag 5,.lf (.str)] x
noncomputable def HU:Ent:=⟨[.ag 5,.lf (.str)],[.lf (.int .i64)],qX⟩
theorem HR:bI prog 108 [.ag 5,.lf (.str)] [.lf (.int .i64)] qX:=cd (n:=9) (.cons (Y6) (.nil)) Tryz.mixed Tryz.func108 rfl (by kernel_rfl) rfl rfl rfl (fun _=>rfl)
noncomputable def sj (x:cg [.ag 5,.lf (.str)]) : Option (aX [.lf (.bool)]):=fj ⟨prog,[(108,HU),(109,IW)],16,[.lf (.bool)],[.tmp 4],[],[],[]⟩ ((Tryz.f69).body.getD .skip) (.n) [.ag 5,.lf (.str)] x
noncomputable def IU:Ent:=⟨[.ag 5,.lf (.str)],[.lf (.bool)],sj⟩
theorem IT:bI prog 69 [.ag 5,.lf (.str)] [.lf (.bool)] sj:=cd (n:=16) (.cons (HR) (.cons (IV) (.nil))) Tryz.mixed Tryz.func69 rfl (by kernel_rfl) rfl rfl rfl (fun _=>rfl)
noncomputable def so (x:cg [.ag 2]) : Option (aX [.lf (.bool)]):=fj ⟨prog,[],11,[.lf (.bool)],[.tmp 2],[],[],[]⟩ ((Tryz.f18).body.getD .skip) (.n) [.ag 2] x
noncomputable def kq:Ent:=⟨[.ag 2],[.lf (.bool)],so⟩
theorem kp:bI prog 18 [.ag 2] [.lf (.bool)] so:=cd (n:=11) (.nil) Tryz.mixed Tryz.func18 rfl (by kernel_rfl) rfl rfl rfl (fun _=>rfl)
noncomputable def o6 (x:cg [.lf (.int .i64),.lf (.int .i64),.lf (.int .i64)]) : Option (aX [.lf (.bool)]):=fj ⟨prog,[],15,[.lf (.bool)],[.tmp 6],[],[],[]⟩ ((Tryz.f107).body.getD .skip) (.n) [.lf (.int .i64),.lf (.int .i64),.lf (.int .i64)] x
noncomputable def DW:Ent:=⟨[.lf (.int .i64),.lf (.int .i64),.lf (.int .i64)],[.lf (.bool)],o6⟩
theorem DV:bI prog 107 [.lf (.int .i64),.lf (.int .i64),.lf (.int .i64)] [.lf (.bool)] o6:=cd (n:=15) (.nil) Tryz.mixed Tryz.func107 rfl (by kernel_rfl) rfl rfl rfl (fun _=>rfl)
noncomputable def nM (x:cg [.ag 2]) : Option (aX [.lf (.bool)]):=fj ⟨prog,[(107,DW)],28,[.lf (.bool)],[.tmp 2],[],[],[]⟩ ((Tryz.f67).body.getD .skip) (.n) [.ag 2] x
noncomputable def Cv:Ent:=⟨[.ag 2],[.lf (.bool)],nM⟩
theorem Cu:bI prog 67 [.ag 2] [.lf (.bool)] nM:=cd (n:=28) (.cons (DV) (.nil)) Tryz.mixed Tryz.func67 rfl (by kernel_rfl) rfl rfl rfl (fun _=>rfl)
noncomputable def kW (x:cg [.lf (.sl (.st 2))]) : Option (aX [.lf (.int .i64)]):=fj ⟨prog,[(18,kq)],17,[.lf (.int .i64)],[.tmp 2],[],[],[]⟩ ((Tryz.f68).body.getD .skip) (.s (.n) (.s (.s (.n) (.s (.lp [.leaf 2 (.int .i64),.leaf 7 (.int .i64)] 0 false (.n)) .n)) (.n))) [.lf (.sl (.st 2))] x
noncomputable def yL:Ent:=⟨[.lf (.sl (.st 2))],[.lf (.int .i64)],kW⟩
theorem yK:bI prog 68 [.lf (.sl (.st 2))] [.lf (.int .i64)] kW:=cd (n:=17) (.cons (kp) (.nil)) Tryz.mixed Tryz.func68 rfl (by kernel_rfl) rfl rfl rfl (fun _=>rfl)
noncomputable def uL (x:cg [.ag 2,.pl (.int .i64)]) : Option (aX [.lf (.bool)]):=fj ⟨prog,[],8,[.lf (.bool)],[.tmp 3],[],[],[]⟩ ((Tryz.f77).body.getD .skip) (.n) [.ag 2,.pl (.int .i64)] x
noncomputable def D2:Ent:=⟨[.ag 2,.pl (.int .i64)],[.lf (.bool)],uL⟩
theorem D1:bI prog 77 [.ag 2,.pl (.int .i64)] [.lf (.bool)] uL:=cd (n:=8) (.nil) Tryz.mixed Tryz.func77 rfl (by kernel_rfl) rfl rfl rfl (fun _=>rfl)
noncomputable def Py (x:cg [.lf (.sl (.st 2)),.fn 77 [] [.pl (.int .i64)]]) : Option (aX [.lf (.int .i64)]):=fj ⟨prog,[(77,D2)],19,[.lf (.int .i64)],[.tmp 4],[],[],[]⟩ ((Tryz.f70).body.getD .skip) (.s (.n) (.s (.s (.n) (.s (.lp [.leaf 4 (.int .i64),.leaf 8 (.int .i64)] 0 true (.n)) .n)) (.n))) [.lf (.sl (.st 2)),.fn 77 [] [.pl (.int .i64)]] x
noncomputable def Y9:Ent:=⟨[.lf (.sl (.st 2)),.fn 77 [] [.pl (.int .i64)]],[.lf (.int .i64)],Py⟩
theorem Y8:bI prog 70 [.lf (.sl (.st 2)),.fn 77 [] [.pl (.int .i64)]] [.lf (.int .i64)] Py:=cd (n:=19) (.cons (D1) (.nil)) Tryz.mixed Tryz.func70 rfl (by kernel_rfl) rfl rfl rfl (fun _=>rfl)
noncomputable def rc (x:cg [.lf (.sl (.st 2)),.lf (.int .i64)]) : Option (aX [.lf (.int .i64)]):=fj ⟨prog,[(70,Y9)],8,[.lf (.int .i64)],[.tmp 4],[],[],[(0,[3])]⟩ ((Tryz.f42).body.getD .skip) (.n) [.lf (.sl (.st 2)),.lf (.int .i64)] x
noncomputable def rf:Ent:=⟨[.lf (.sl (.st 2)),.lf (.int .i64)],[.lf (.int .i64)],rc⟩
theorem rb:bI prog 42 [.lf (.sl (.st 2)),.lf (.int .i64)] [.lf (.int .i64)] rc:=cd (n:=8) (.cons (Y8) (.nil)) Tryz.mixed Tryz.func42 rfl (by kernel_rfl) rfl rfl rfl (fun _=>rfl)
noncomputable def rg (x:cg [.ag 12,.ag 2]) : Option (aX [.lf (.int .i64)]):=fj ⟨prog,[(67,Cv),(42,rf),(68,yL),(69,IU)],28,[.lf (.int .i64)],[.tmp 4],[],[],[]⟩ ((Tryz.f32).body.getD .skip) (.n) [.ag 12,.ag 2] x
noncomputable def H5:Ent:=⟨[.ag 12,.ag 2],[.lf (.int .i64)],rg⟩
theorem H4:bI prog 32 [.ag 12,.ag 2] [.lf (.int .i64)] rg:=cd (n:=28) (.cons (Cu) (.cons (rb) (.cons (yK) (.cons (IT) (.nil))))) Tryz.mixed Tryz.func32 rfl (by kernel_rfl) rfl rfl rfl (fun _=>rfl)
noncomputable def nK (x:cg [.ag 2]) : Option (aX [.lf (.bool)]):=fj ⟨prog,[(18,kq)],6,[.lf (.bool)],[.tmp 2],[],[],[]⟩ ((Tryz.f71).body.getD .skip) (.n) [.ag 2] x
noncomputable def Cr:Ent:=⟨[.ag 2],[.lf (.bool)],nK⟩
theorem Cq:bI prog 71 [.ag 2] [.lf (.bool)] nK:=cd (n:=6) (.cons (kp) (.nil)) Tryz.mixed Tryz.func71 rfl (by kernel_rfl) rfl rfl rfl (fun _=>rfl)
noncomputable def wa (x:cg [.lf (.sl (.st 2)),.fn 71 [] []]) : Option (aX [.lf (.int .i64)]):=fj ⟨prog,[(71,Cr)],19,[.lf (.int .i64)],[.tmp 4],[],[],[]⟩ ((Tryz.f70).body.getD .skip) (.s (.n) (.s (.s (.n) (.s (.lp [.leaf 4 (.int .i64),.leaf 8 (.int .i64)] 0 true (.n)) .n)) (.n))) [.lf (.sl (.st 2)),.fn 71 [] []] x
noncomputable def Px:Ent:=⟨[.lf (.sl (.st 2)),.fn 71 [] []],[.lf (.int .i64)],wa⟩
theorem Pw:bI prog 70 [.lf (.sl (.st 2)),.fn 71 [] []] [.lf (.int .i64)] wa:=cd (n:=19) (.cons (Cq) (.nil)) Tryz.mixed Tryz.func70 rfl (by kernel_rfl) rfl rfl rfl (fun _=>rfl)
noncomputable def mF (x:cg [.mv 30 14 (.st 2)]) : Option (aX [.io [.no],.own 30 14 (.st 2)]):=Jb ⟨prog,[(70,Px),(72,WI)],15,[.io [.no],.own 30 14 (.st 2)],[.tmp 2],[],[],[]⟩ ((Tryz.f34).body.getD .skip) (.n) [.mv 30 14 (.st 2)] x
noncomputable def Ba:Ent:=⟨[.mv 30 14 (.st 2)],[.io [.no],.own 30 14 (.st 2)],mF⟩
theorem A9:bI prog 34 [.mv 30 14 (.st 2)] [.io [.no],.own 30 14 (.st 2)] mF:=Ep (n:=15) (.cons (Pw) (.cons (WH) (.nil))) Tryz.mixed Tryz.func34 rfl (by kernel_rfl) rfl rfl (by kernel_rfl) (fun _ _ _=>(by first | trivial | exact ⟨trivial,trivial⟩)) (fun _=>rfl)
noncomputable def nH (x:cg [.ag 2,.lf (.int .i64)]) : Option (aX [.ag 2]):=fj ⟨prog,[],23,[.ag 2],[.cell 4 30],[],[4],[]⟩ ((Tryz.f35).body.getD .skip) (.n) [.ag 2,.lf (.int .i64)] x
noncomputable def Cp:Ent:=⟨[.ag 2,.lf (.int .i64)],[.ag 2],nH⟩
theorem Co:bI prog 35 [.ag 2,.lf (.int .i64)] [.ag 2] nH:=cd (n:=23) (.nil) Tryz.mixed Tryz.func35 rfl (by kernel_rfl) rfl rfl rfl (fun _=>rfl)
noncomputable def o8 (x:cg [.lf (.sl (.st 2)),.ag 2]) : Option (aX [.lf (.sl (.st 2))]):=fj ⟨prog,[],45,[.lf (.sl (.st 2))],[.tmp 4],[],[],[]⟩ ((Tryz.f33).body.getD .skip) (.s (.n) (.s (.n) (.s (.s (.lp [.leaf 5 (.int .i64)] 0 false (.n)) .n) (.n)))) [.lf (.sl (.st 2)),.ag 2] x
noncomputable def D0:Ent:=⟨[.lf (.sl (.st 2)),.ag 2],[.lf (.sl (.st 2))],o8⟩
theorem DZ:bI prog 33 [.lf (.sl (.st 2)),.ag 2] [.lf (.sl (.st 2))] o8:=cd (n:=45) (.nil) Tryz.mixed Tryz.func33 rfl (by kernel_rfl) rfl rfl rfl (fun _=>rfl)
noncomputable def nL (x:cg [.mv 30 14 (.st 2),.ag 2]) : Option (aX [.io [.no,.no],.own 30 14 (.st 2)]):=Jb ⟨prog,[],45,[.io [.no,.no],.own 30 14 (.st 2)],[.tmp 4],[],[],[]⟩ ((Tryz.f33).body.getD .skip) (.s (.n) (.s (.n) (.s (.s (.lp [.leaf 5 (.int .i64)] 0 false (.n)) .n) (.n)))) [.mv 30 14 (.st 2),.ag 2] x
noncomputable def Ct:Ent:=⟨[.mv 30 14 (.st 2),.ag 2],[.io [.no,.no],.own 30 14 (.st 2)],nL⟩
theorem Cs:bI prog 33 [.mv 30 14 (.st 2),.ag 2] [.io [.no,.no],.own 30 14 (.st 2)] nL:=Ep (n:=45) (.nil) Tryz.mixed Tryz.func33 rfl (by kernel_rfl) rfl rfl (by kernel_rfl) (fun _ _ _=>(by first | trivial | exact ⟨trivial,trivial⟩)) (fun _=>rfl)
noncomputable def uy (x:cg [.ag 12,.ag 2]) : Option (aX [.ag 12]):=fj ⟨prog,[(31,uK),(42,rf),(36,oa),(33,D0)],29,[.ag 12],[.cell 4 43],[(5,[500513])],[4],[]⟩ ((Tryz.f20).body.getD .skip) (.n) [.ag 12,.ag 2] x
noncomputable def Mu:Ent:=⟨[.ag 12,.ag 2],[.ag 12],uy⟩
theorem Mt:bI prog 20 [.ag 12,.ag 2] [.ag 12] uy:=cd (n:=29) (.cons (uJ) (.cons (rb) (.cons (n9) (.cons (DZ) (.nil))))) Tryz.mixed Tryz.func20 rfl (by kernel_rfl) rfl rfl rfl (fun _=>rfl)
noncomputable def pa (x:cg [.ag 12,.ag 2]) : Option (aX [.ag 12,.lf (.int .i64)]):=fj ⟨prog,[(31,uK),(32,H5),(34,Ba),(36,oa),(35,Cp),(33,Ct)],27,[.ag 12,.lf (.int .i64)],[.cell 4 43,.tmp 5],[],[4],[]⟩ ((Tryz.f12).body.getD .skip) (.n) [.ag 12,.ag 2] x
noncomputable def pb:Ent:=⟨[.ag 12,.ag 2],[.ag 12,.lf (.int .i64)],pa⟩
theorem o9:bI prog 12 [.ag 12,.ag 2] [.ag 12,.lf (.int .i64)] pa:=cd (n:=27) (.cons (uJ) (.cons (H4) (.cons (A9) (.cons (n9) (.cons (Co) (.cons (Cs) (.nil))))))) Tryz.mixed Tryz.func12 rfl (by kernel_rfl) rfl rfl rfl (fun _=>rfl)
noncomputable def sp (x:cg [.ag 12,.lf (.int .i64)]) : Option (aX [.ag 2,.lf (.bool)]):=fj ⟨prog,[(42,rf),(36,oa)],20,[.ag 2,.lf (.bool)],[.cell 4 30,.tmp 5],[],[4],[]⟩ ((Tryz.f15).body.getD .skip) (.n) [.ag 12,.lf (.int .i64)] x
noncomputable def xG:Ent:=⟨[.ag 12,.lf (.int .i64)],[.ag 2,.lf (.bool)],sp⟩
theorem xF:bI prog 15 [.ag 12,.lf (.int .i64)] [.ag 2,.lf (.bool)] sp:=cd (n:=20) (.cons (rb) (.cons (n9) (.nil))) Tryz.mixed Tryz.func15 rfl (by kernel_rfl) rfl rfl rfl (fun _=>rfl)
noncomputable def o7 (x:cg [.lf (.int .i64),.lf (.int .i64)]) : Option (aX [.lf (.int .u64)]):=fj ⟨prog,[],13,[.lf (.int .u64)],[.tmp 4],[],[],[]⟩ ((Tryz.f43).body.getD .skip) (.n) [.lf (.int .i64),.lf (.int .i64)] x
noncomputable def DY:Ent:=⟨[.lf (.int .i64),.lf (.int .i64)],[.lf (.int .u64)],o7⟩
theorem DX:bI prog 43 [.lf (.int .i64),.lf (.int .i64)] [.lf (.int .u64)] o7:=cd (n:=13) (.nil) Tryz.mixed Tryz.func43 rfl (by kernel_rfl) rfl rfl rfl (fun _=>rfl)
noncomputable def pd (x:cg [.ag 12]) : Option (aX [.lf (.sl (.int .i64))]):=fj ⟨prog,[(43,DY)],30,[.lf (.sl (.int .i64))],[.tmp 2],[],[],[]⟩ ((Tryz.f23).body.getD .skip) (.s (.n) (.s (.s (.n) (.s (.lp [.row 2 2 3 1 (.int .i64),.leaf 8 (.int .i64)] 0 false (.n)) .n)) (.n))) [.ag 12] x
noncomputable def D4:Ent:=⟨[.ag 12],[.lf (.sl (.int .i64))],pd⟩
theorem D3:bI prog 23 [.ag 12] [.lf (.sl (.int .i64))] pd:=cd (n:=30) (.cons (DX) (.nil)) Tryz.mixed Tryz.func23 rfl (by kernel_rfl) rfl rfl rfl (fun _=>rfl)
abbrev EOk (P:Program) (f:FuncId) (e:Ent) : Prop:=bI P f e.ps e.rs e.f
theorem aH {P:Program} {T:List (Nat×Ent)} {e:Ent} {f:FuncId} {fn:Func} (h:uR) (fz:List (Nat×List Nat)) (sc:List Nat) (fb:List (Nat×List Nat)) (hT:rK P T) (hm:P.follows .mixedOrders=true) (hf:P.funcs[f]? = some fn) (hb:fn.body=some (fn.body.getD .skip):=by kernel_rfl) (hcb:dH P f=true:=by kernel_rfl) (hl:((decide (e.ps.length≤fn.ntmps)&&vd e.ps) && !(pD e.ps||pD e.rs))=true:=by kernel_rfl)
  (hF:∀ x,fj ⟨P,T,fn.ntmps,e.rs,fn.results.toList,fz,sc,fb⟩ (fn.body.getD .skip) h e.ps x=e.f x:=by intro x; kernel_rfl) : bI P f e.ps e.rs e.f:=cd hT hm hf hb hcb rfl rfl hl hF
def zZ (v_n:Int) : Option (Bool) :=
 (if (decide (v_n≥0))=true then some (decide (v_n≤1125899906842624)) else some false).bind fun q1=>some q1
def uo (v_a:az) : Option (Bool) :=
 (zZ v_a.bH).bind fun c1=>(if c1=true then (zZ v_a.be).bind fun c2=>some c2 else some false).bind fun q3=>some q3
def fU (v_a:az) (v_b:az) : Option (Bool) :=
 (if (decide (v_a.bH≤v_b.bH))=true then some (decide (v_a.be≤v_b.be)) else some false).bind fun q1=>some q1
def wM (v_a:az) (v_b:az) : Option (az) :=
 some (⟨(if 0 > (i64.wrap (v_a.bH - v_b.bH)) then 0 else (i64.wrap (v_a.bH - v_b.bH))),(if 0 > (i64.wrap (v_a.be - v_b.be)) then 0 else (i64.wrap (v_a.be - v_b.be)))⟩ : az)
def dv (v_a:az) (v_b:az) : Option (az) :=
 some (⟨(i64.wrap (v_a.bH + v_b.bH)),(i64.wrap (v_a.be + v_b.be))⟩ : az)
def vJ (v_n:Int) (Bm:Int) : Option (Int) :=
 some (i64.wrap ((i64.wrap ((i64.wrap (Int.tdiv v_n 10000)) * Bm)) + (i64.wrap (Int.tdiv (i64.wrap ((Int.tmod v_n 10000) * Bm)) 10000))))
def vK (v_a:az) (Bm:Int) : Option (az×Int) :=
 (uo v_a).bind fun c1=>(if (!c1)=true then some true else some (decide (Bm < 0))).bind fun q2=>(if q2=true then some true else some (decide (Bm > 1000000))).bind fun q3=>if q3=true then
 some ((⟨0,0⟩ : az),1)
 else
 (vJ v_a.bH Bm).bind fun c4=>(vJ v_a.be Bm).bind fun c5=>let v_c:az:=(⟨c4,c5⟩ : az)
 (uo v_c).bind fun c6=>if (!c6)=true then
 some ((⟨0,0⟩ : az),11)
 else
 some (v_c,0)
def zY (v_a:Int) (v_b:Int) : Option (Int×Int) :=
 let t1:Int:=(Int.fdiv v_a (2 ^ (min (Int.toNat 25) (IntKind.i64.bits))))
 let t2:Int:=(bits .and .i64 v_a 33554431)
 let t3:Int:=(Int.fdiv v_b (2 ^ (min (Int.toNat 25) (IntKind.i64.bits))))
 let t4:Int:=(bits .and .i64 v_b 33554431)
 let Ub:Int:=t1
 let WR:Int:=t2
 let Ua:Int:=t3
 let WP:Int:=t4
 let aaI:Int:=(i64.wrap ((i64.wrap (Ub * WP)) + (i64.wrap (WR * Ua))))
 let aaK:Int:=(i64.wrap ((i64.wrap (WR * WP)) + (i64.wrap ((bits .and .i64 aaI 33554431) * 2 ^ (min (Int.toNat 25) (IntKind.i64.bits))))))
 let aa6:Int:=(i64.wrap ((i64.wrap ((i64.wrap (Ub * Ua)) + (Int.fdiv aaI (2 ^ (min (Int.toNat 25) (IntKind.i64.bits)))))) + (Int.fdiv aaK (2 ^ (min (Int.toNat 50) (IntKind.i64.bits))))))
 some (aa6,(bits .and .i64 aaK 1125899906842623))
def qC (v_x:bc) (v_y:bc) : Option (Int) :=
 (if (v_x.fA==0)=true then
 let v_x:bc:={ v_x with fP:=1 }
 some v_x
 else
 some v_x).bind fun j1=>let v_x:=j1
 (if (v_y.fA==0)=true then
 let v_y:bc:={ v_y with fP:=1 }
 some v_y
 else
 some v_y).bind fun j2=>let v_y:=j2
 (if (v_x.fP==0)=true then some true else some (v_y.fP==0)).bind fun q3=>if q3=true then
 (if (v_x.fP==0)=true then some (v_y.fP==0) else some false).bind fun q4=>if q4=true then
 some 0
 else
 if (v_x.fP==0)=true then
 some 1
 else
 some (-1)
 else
 (zY v_x.fA v_y.fP).bind fun c5=>let Ub:Int:=c5.1
 let WR:Int:=c5.2
 (zY v_y.fA v_x.fP).bind fun c6=>let Ua:Int:=c6.1
 let WP:Int:=c6.2
 (if (decide (Ub < Ua))=true then some true else (if (Ub==Ua)=true then some (decide (WR < WP)) else some false).bind fun q7=>some q7).bind fun q8=>if q8=true then
 some (-1)
 else
 (if (Ub==Ua)=true then some (WR==WP) else some false).bind fun q9=>if q9=true then
 some 0
 else
 some 1
def Aa (v_a:az) (v_p:az) : Option (bc) :=
 let t1:bc:=(⟨v_a.bH,v_p.bH⟩ : bc)
 let t2:bc:=(⟨v_a.be,v_p.be⟩ : bc)
 let v_x:bc:=t1
 let v_y:bc:=t2
 (qC v_x v_y).bind fun c3=>if (decide (c3 < 0))=true then
 some v_y
 else
 some v_x
def Ab (v_a:az) (v_p:az) (v_b:az) (v_q:az) : Option (Int) :=
 (uo v_a).bind fun c1=>(if (!c1)=true then some true else (uo v_p).bind fun c2=>some (!c2)).bind fun q3=>(if q3=true then some true else (uo v_b).bind fun c4=>some (!c4)).bind fun q5=>(if q5=true then some true else (uo v_q).bind fun c6=>some (!c6)).bind fun q7=>if q7=true then
 some 0
 else
 (Aa v_a v_p).bind fun c8=>(Aa v_b v_q).bind fun c9=>(qC c8 c9).bind fun c10=>some c10
def rX (v_s:ByteArray) (st:Int) : Option ((Int)⊕((Int)⊕(Bool))) :=
 let v_i:=st
 if (decide (v_i < (v_s.size:Int)))=true then
 (ke v_s v_i).bind fun b2=>let v_c:Int:=b2
 (if (decide (v_c < 97))=true then some true else some (decide (v_c > 122))).bind fun q3=>(if q3=true then (if (decide (v_c < 48))=true then some true else some (decide (v_c > 57))).bind fun q4=>some q4 else some false).bind fun q5=>(if q5=true then some (v_c != 45) else some false).bind fun q6=>if q6=true then
 some (.inr (.inr false))
 else
 let v_i:Int:=(i64.wrap (v_i + 1))
 some (.inl v_i)
 else
 some (.inr (.inl v_i))
def wK (v_s:ByteArray) : Option (Bool) :=
 (if (decide ((v_s.size:Int) < 1))=true then some true else some (decide ((v_s.size:Int) > 12))).bind fun q1=>if q1=true then
 some false
 else
 let v_i:Int:=0
 (ai (rX v_s) ab v_i).bind fun r7=>match r7 with
 | .inr m8=>some m8
 | .inl m8 =>
 let v_i:=m8
 some true
def eH (aw:ByteArray) (st:Int) : Option ((Int)⊕((Int))) :=
 let v_k:=st
 (if (decide (v_k≥0))=true then (ke aw v_k).bind fun b1=>some (b1 != 46) else some false).bind fun q2=>if q2=true then
 let v_k:Int:=(i64.wrap (v_k - 1))
 some (.inl v_k)
 else
 some (.inr v_k)
def dK (aw:ByteArray) : Option (ByteArray) :=
 let v_k:Int:=(i64.wrap ((aw.size:Int) - 1))
 (ai (eH aw) ab v_k).bind fun r3 =>
 let v_k:=r3
 if (decide (v_k < 0))=true then
 some (⟨#[]⟩ : ByteArray)
 else
 (Ij aw v_k).bind fun b4=>some b4
def oC (st:(List ByteArray)×ByteArray) : Option (((List ByteArray)×ByteArray)⊕(((List ByteArray)×ByteArray))) :=
 let v_l:=st.1
 let aw:=st.2
 if (!(aw.toList==(⟨#[]⟩ : ByteArray).toList))=true then
 (aP v_l [aw]).bind fun b1=>let v_l:(List ByteArray):=b1
 (dK aw).bind fun c2=>let aw:ByteArray:=c2
 some (.inl (v_l,aw))
 else
 some (.inr (v_l,aw))
def zR (aw:ByteArray) : Option ((List ByteArray)) :=
 let v_l:(List ByteArray):=[]
 (ai (oC) ab (v_l,aw)).bind fun r3 =>
 let v_l:=r3.1
 let aw:=r3.2
 some v_l
def oS (v_s:ByteArray) (st:Int×Int×Int) : Option ((Int×Int×Int)⊕((Int×Int×Int)⊕(Bool))) :=
 let pq:=st.1
 let v_n:=st.2.1
 let v_i:=st.2.2
 if (decide (v_i≤(v_s.size:Int)))=true then
 (if (decide (v_i < (v_s.size:Int)))=true then (ke v_s v_i).bind fun b3=>some (b3 != 46) else some false).bind fun q4=>if q4=true then
 let v_i:Int:=(i64.wrap (v_i + 1))
 some (.inl (pq,v_n,v_i))
 else
 (KL v_s pq v_i).bind fun b5=>(wK b5).bind fun c6=>(if (!c6)=true then some true else (if (v_n==0)=true then (KL v_s pq v_i).bind fun b7=>some (!(b7.toList==(⟨#[114,111,111,116]⟩ : ByteArray).toList)) else some false).bind fun q8=>some q8).bind fun q9=>if q9=true then
 some (.inr (.inr false))
 else
 let pq:Int:=(i64.wrap (v_i + 1))
 let v_n:Int:=(i64.wrap (v_n + 1))
 let v_i:Int:=(i64.wrap (v_i + 1))
 some (.inl (pq,v_n,v_i))
 else
 some (.inr (.inl (pq,v_n,v_i)))
def wJ (v_s:ByteArray) : Option (Bool) :=
 let t1:Int:=0
 let t2:Int:=0
 let pq:Int:=t1
 let v_n:Int:=t2
 let v_i:Int:=0
 (ai (oS v_s) ab (pq,v_n,v_i)).bind fun r10=>match r10 with
 | .inr m11=>some m11
 | .inl m11 =>
 let pq:=m11.1
 let v_n:=m11.2.1
 let v_i:=m11.2.2
 some (decide (v_n≤4))
def n5 (v_c:ax) (aw:ByteArray) (st:Int) : Option ((Int)⊕((Int)⊕(av×Bool))) :=
 let v_i:=st
 if (decide (v_i < (v_c.ae.length:Int)))=true then
 (ar v_c.ae v_i).bind fun b1=>if (b1.aB.toList==aw.toList)=true then
 (ar v_c.ae v_i).bind fun b2=>let v_q:av:=b2
 (aP ([] : (List eB)) v_q.bu).bind fun b3=>let v_q:av:={ v_q with bu:=b3 }
 some (.inr (.inr (v_q,true)))
 else
 let v_i:Int:=(i64.wrap (v_i + 1))
 some (.inl v_i)
 else
 some (.inr (.inl v_i))
def jE (v_c:ax) (aw:ByteArray) : Option (av×Bool) :=
 let v_i:Int:=0
 (ai (n5 v_c aw) ab v_i).bind fun r4=>match r4 with
 | .inr m5=>some m5
 | .inl m5 =>
 let v_i:=m5
 some ((⟨⟨#[]⟩,[],0⟩ : av),false)
def nZ (v_c:ax) (aw:ByteArray) (st:(List ByteArray)×Int) : Option (((List ByteArray)×Int)⊕(((List ByteArray)×Int))) :=
 let v_l:=st.1
 let v_i:=st.2
 if (decide (v_i < (v_c.ae.length:Int)))=true then
 (if (!(aw.toList==(⟨#[]⟩ : ByteArray).toList))=true then (ar v_c.ae v_i).bind fun b1=>(dK b1.aB).bind fun c2=>some (c2.toList==aw.toList) else some false).bind fun q3=>if q3=true then
 (ar v_c.ae v_i).bind fun b4=>(aP v_l [b4.aB]).bind fun b5=>let v_l:(List ByteArray):=b5
 let v_i:Int:=(i64.wrap (v_i + 1))
 some (.inl (v_l,v_i))
 else
 let v_i:Int:=(i64.wrap (v_i + 1))
 some (.inl (v_l,v_i))
 else
 some (.inr (v_l,v_i))
def ek (v_c:ax) (aw:ByteArray) : Option ((List ByteArray)) :=
 let v_l:(List ByteArray):=[]
 let v_i:Int:=0
 (ai (nZ v_c aw) ab (v_l,v_i)).bind fun r6 =>
 let v_l:=r6.1
 let v_i:=r6.2
 some v_l
def iY (v_c:ax) (aw:ByteArray) : Option (Bool) :=
 (jE v_c aw).bind fun c1=>let bW:Bool:=c1.2
 (if bW=true then (ek v_c aw).bind fun c2=>some ((c2.length:Int)==0) else some false).bind fun q3=>some q3
def oQ (v_c:ax) (st:Int) : Option ((Int)⊕((Int)⊕(Int))) :=
 let v_i:=st
 if (decide (v_i < (v_c.al.length:Int)))=true then
 (ar v_c.al v_i).bind fun b4=>(wK b4).bind fun c5=>if (!c5)=true then
 some (.inr (.inr 12))
 else
 let v_i:Int:=(i64.wrap (v_i + 1))
 some (.inl v_i)
 else
 some (.inr (.inl v_i))
def oO (aI:Int) (v_c:ax) (st:Int) : Option ((Int)⊕((Int)⊕(Int))) :=
 let v_k:=st
 if (decide (v_k < aI))=true then
 (ar v_c.al aI).bind fun b8=>(ar v_c.al v_k).bind fun b9=>if (b8.toList==b9.toList)=true then
 some (.inr (.inr 7))
 else
 let v_k:Int:=(i64.wrap (v_k + 1))
 some (.inl v_k)
 else
 some (.inr (.inl v_k))
def oP (v_c:ax) (st:Int) : Option ((Int)⊕((Int)⊕(Int))) :=
 let aI:=st
 if (decide (aI < (v_c.al.length:Int)))=true then
 let v_k:Int:=1
 (ai (oO aI v_c) ab v_k).bind fun r10=>match r10 with
 | .inr m11=>some (.inr (.inr m11))
 | .inl m11 =>
 let v_k:=m11
 let aI:Int:=(i64.wrap (aI + 1))
 some (.inl aI)
 else
 some (.inr (.inl aI))
def tf (v_c:ax) : Option (Int) :=
 (if (decide ((v_c.al.length:Int) < 1))=true then some true else some (decide ((v_c.al.length:Int) > 3))).bind fun q1=>(if q1=true then some true else some (decide ((v_c.ae.length:Int) > 16))).bind fun q2=>if q2=true then
 some 4
 else
 (ar v_c.al 0).bind fun b3=>if (!(b3.toList==(⟨#[]⟩ : ByteArray).toList))=true then
 some 12
 else
 let v_i:Int:=1
 (ai (oQ v_c) ab v_i).bind fun r6=>match r6 with
 | .inr m7=>some m7
 | .inl m7 =>
 let v_i:=m7
 let aI:Int:=1
 (ai (oP v_c) ab aI).bind fun r12=>match r12 with
 | .inr m13=>some m13
 | .inl m13 =>
 let aI:=m13
 some 0
def lX (v_q:av) (st:Int) : Option ((Int)⊕((Int)⊕(Int))) :=
 let v_k:=st
 if (decide (v_k < (v_q.bu.length:Int)))=true then
 (ar v_q.bu v_k).bind fun b10=>let v_x:eB:=b10
 (if (decide (v_x.kN < 0))=true then some true else some (decide (v_x.kN > 10000))).bind fun q11=>(if q11=true then some true else some (decide (v_x.sW < 0))).bind fun q12=>(if q12=true then some true else some (decide (v_x.sW > 10000))).bind fun q13=>(if q13=true then some true else some (decide (v_x.kN > v_x.sW))).bind fun q14=>if q14=true then
 some (.inr (.inr 1))
 else
 let v_k:Int:=(i64.wrap (v_k + 1))
 some (.inl v_k)
 else
 some (.inr (.inl v_k))
def vG (v_c:ax) (v_i:Int) : Option (Int) :=
 (ar v_c.ae v_i).bind fun b1=>let v_q:av:=b1
 (wJ v_q.aB).bind fun c2=>if (!c2)=true then
 some 12
 else
 (if (decide (v_i > 0))=true then (ar v_c.ae (i64.wrap (v_i - 1))).bind fun b3=>some (Op.bytesLess v_q.aB.toList b3.aB.toList||(v_q.aB.toList==b3.aB.toList)) else some false).bind fun q4=>if q4=true then
 some 7
 else
 (dK v_q.aB).bind fun c5=>(jE v_c c5).bind fun c6=>let bW:Bool:=c6.2
 (if (decide (v_i > 0))=true then some (!bW) else some false).bind fun q7=>if q7=true then
 some 12
 else
 (if (decide (v_q.cD < 1))=true then some true else some (decide (v_q.cD > 1000000))).bind fun q8=>(if q8=true then some true else some ((v_q.bu.length:Int) != (v_c.al.length:Int))).bind fun q9=>if q9=true then
 some 1
 else
 let v_k:Int:=0
 (ai (lX v_q) ab v_k).bind fun r15=>match r15 with
 | .inr m16=>some m16
 | .inl m16 =>
 let v_k:=m16
 some 0
def ko (bF:(List ByteArray)) (v_c:ax) (v_k:Int) (st:Int×Int) : Option ((Int×Int)⊕((Int×Int))) :=
 let v_n:=st.1
 let v_j:=st.2
 if (decide (v_j < (bF.length:Int)))=true then
 (ar bF v_j).bind fun b4=>(jE v_c b4).bind fun c5=>let v_q:av:=c5.1
 (ar v_q.bu v_k).bind fun b6=>let v_n:Int:=(i64.wrap (v_n + b6.kN))
 let v_j:Int:=(i64.wrap (v_j + 1))
 some (.inl (v_n,v_j))
 else
 some (.inr (v_n,v_j))
def nX (v_c:ax) (bF:(List ByteArray)) (st:Int) : Option ((Int)⊕((Int)⊕(Bool))) :=
 let v_k:=st
 (if (decide (v_k < (v_c.al.length:Int)))=true then some (decide ((bF.length:Int) > 0)) else some false).bind fun q3=>if q3=true then
 let v_n:Int:=0
 let v_j:Int:=0
 (ai (ko bF v_c v_k) ab (v_n,v_j)).bind fun r7 =>
 let v_n:=r7.1
 let v_j:=r7.2
 if (v_n != 10000)=true then
 some (.inr (.inr false))
 else
 let v_k:Int:=(i64.wrap (v_k + 1))
 some (.inl v_k)
 else
 some (.inr (.inl v_k))
def nY (v_c:ax) (st:Int) : Option ((Int)⊕((Int)⊕(Bool))) :=
 let v_i:=st
 if (decide (v_i < (v_c.ae.length:Int)))=true then
 (ar v_c.ae v_i).bind fun b1=>(ek v_c b1.aB).bind fun c2=>let bF:(List ByteArray):=c2
 let v_k:Int:=0
 (ai (nX v_c bF) ab v_k).bind fun r8=>match r8 with
 | .inr m9=>some (.inr (.inr m9))
 | .inl m9 =>
 let v_k:=m9
 let v_i:Int:=(i64.wrap (v_i + 1))
 some (.inl v_i)
 else
 some (.inr (.inl v_i))
def Ey (v_c:ax) : Option (Bool) :=
 let v_i:Int:=0
 (ai (nY v_c) ab v_i).bind fun r10=>match r10 with
 | .inr m11=>some m11
 | .inl m11 =>
 let v_i:=m11
 some true
def qw (v_c:ax) (st:Int) : Option ((Int)⊕((Int)⊕(Int))) :=
 let v_i:=st
 if (decide (v_i < (v_c.ae.length:Int)))=true then
 (vG v_c v_i).bind fun c5=>if (c5 != 0)=true then
 (vG v_c v_i).bind fun c6=>some (.inr (.inr c6))
 else
 let v_i:Int:=(i64.wrap (v_i + 1))
 some (.inl v_i)
 else
 some (.inr (.inl v_i))
def qu (v_c:ax) (st:Int) : Option ((Int)⊕((Int)⊕(Int))) :=
 let v_k:=st
 if (decide (v_k < (v_c.al.length:Int)))=true then
 (ar v_c.ae 0).bind fun b9=>(ar b9.bu v_k).bind fun b10=>if (!((b10.kN==(⟨10000,10000⟩ : eB).kN)&&(b10.sW==(⟨10000,10000⟩ : eB).sW)))=true then
 some (.inr (.inr 13))
 else
 let v_k:Int:=(i64.wrap (v_k + 1))
 some (.inl v_k)
 else
 some (.inr (.inl v_k))
def vI (v_c:ax) : Option (Int) :=
 (tf v_c).bind fun c1=>if (c1 != 0)=true then
 (tf v_c).bind fun c2=>some c2
 else
 (if ((v_c.ae.length:Int)==0)=true then some true else (ar v_c.ae 0).bind fun b3=>some (!(b3.aB.toList==(⟨#[114,111,111,116]⟩ : ByteArray).toList))).bind fun q4=>if q4=true then
 some 12
 else
 let v_i:Int:=0
 (ai (qw v_c) ab v_i).bind fun r7=>match r7 with
 | .inr m8=>some m8
 | .inl m8 =>
 let v_i:=m8
 let v_k:Int:=0
 (ai (qu v_c) ab v_k).bind fun r11=>match r11 with
 | .inr m12=>some m12
 | .inl m12 =>
 let v_k:=m12
 (Ey v_c).bind fun c13=>if (!c13)=true then
 some 13
 else
 some 0
def lV (v_s:aa) (af:Int) (st:az×Int) : Option ((az×Int)⊕((az×Int))) :=
 let v_v:=st.1
 let v_i:=st.2
 if (decide (v_i < (v_s.aE.length:Int)))=true then
 (ar v_s.aE v_i).bind fun b1=>(if b1.fUp=true then (ar v_s.aE v_i).bind fun b2=>some (b2.a6==af) else some false).bind fun q3=>if q3=true then
 (ar v_s.aE v_i).bind fun b4=>(dv v_v b4.lj).bind fun c5=>let v_v:az:=c5
 let v_i:Int:=(i64.wrap (v_i + 1))
 some (.inl (v_v,v_i))
 else
 let v_i:Int:=(i64.wrap (v_i + 1))
 some (.inl (v_v,v_i))
 else
 some (.inr (v_v,v_i))
def jm (v_s:aa) (af:Int) : Option (az) :=
 let v_v:az:=(⟨0,0⟩ : az)
 let v_i:Int:=0
 (ai (lV v_s af) ab (v_v,v_i)).bind fun r6 =>
 let v_v:=r6.1
 let v_i:=r6.2
 some v_v
def nW (v_s:aa) (af:Int) (st:az×Int) : Option ((az×Int)⊕((az×Int))) :=
 let v_v:=st.1
 let v_i:=st.2
 if (decide (v_i < (v_s.bl.length:Int)))=true then
 (ar v_s.bl v_i).bind fun b1=>let v_p:a8:=b1
 (if (v_p.a6==af)=true then some (decide (v_p.ou≤v_s.bZ)) else some false).bind fun q2=>(if q2=true then some (decide (v_s.bZ < v_p.jY)) else some false).bind fun q3=>if q3=true then
 (dv v_v v_p.iX).bind fun c4=>let v_v:az:=c4
 let v_i:Int:=(i64.wrap (v_i + 1))
 some (.inl (v_v,v_i))
 else
 let v_i:Int:=(i64.wrap (v_i + 1))
 some (.inl (v_v,v_i))
 else
 some (.inr (v_v,v_i))
def uj (v_s:aa) (af:Int) : Option (az) :=
 let v_v:az:=(⟨0,0⟩ : az)
 let v_i:Int:=0
 (ai (nW v_s af) ab (v_v,v_i)).bind fun r5 =>
 let v_v:=r5.1
 let v_i:=r5.2
 some v_v
def rV (v_s:aa) (jb:(List ByteArray)) (af:Int) (ce:Bool) (st:az×Int) : Option ((az×Int)⊕((az×Int))) :=
 let v_v:=st.1
 let v_i:=st.2
 if (decide (v_i≥0))=true then
 (ar jb v_i).bind fun b6=>(jE v_s.bB b6).bind fun c7=>let v_q:av:=c7.1
 (ar v_q.bu af).bind fun b8=>let Bm:Int:=b8.sW
 (if ce=true then
 (ar v_q.bu af).bind fun b10=>let Bm:Int:=b10.kN
 some Bm
 else
 some Bm).bind fun j9=>let Bm:=j9
 (vK v_v Bm).bind fun c11=>let v_v:az:=c11.1
 let v_i:Int:=(i64.wrap (v_i - 1))
 some (.inl (v_v,v_i))
 else
 some (.inr (v_v,v_i))
def uh (v_s:aa) (aw:ByteArray) (af:Int) (ce:Bool) : Option (az) :=
 (jE v_s.bB aw).bind fun c1=>let bW:Bool:=c1.2
 (if (!bW)=true then some true else some (decide (af < 0))).bind fun q2=>(if q2=true then some true else some (decide (af≥(v_s.bB.al.length:Int)))).bind fun q3=>if q3=true then
 some (⟨0,0⟩ : az)
 else
 (jm v_s af).bind fun c4=>let v_v:az:=c4
 (zR aw).bind fun c5=>let jb:(List ByteArray):=c5
 let v_i:Int:=(i64.wrap ((jb.length:Int) - 2))
 (ai (rV v_s jb af ce) ab (v_v,v_i)).bind fun r12 =>
 let v_v:=r12.1
 let v_i:=r12.2
 some v_v
def lW (v_s:aa) (aw:ByteArray) (af:Int) : Option (az) :=
 (uh v_s aw af true).bind fun c1=>some c1
def wI (v_s:aa) (aw:ByteArray) (af:Int) : Option (az) :=
 (uh v_s aw af false).bind fun c1=>some c1
def Ex (v_s:aa) (aw:ByteArray) (af:Int) : Option (az) :=
 (jE v_s.bB aw).bind fun c1=>let v_q:av:=c1.1
 let bW:Bool:=c1.2
 if (!bW)=true then
 some (⟨0,0⟩ : az)
 else
 (lW v_s aw af).bind fun c2=>(vK c2 v_q.cD).bind fun c3=>let v_v:az:=c3.1
 some v_v
def mB (v_s:aa) (bJ:Int) (st:Int) : Option ((Int)⊕((Int)⊕(ak×Bool))) :=
 let v_i:=st
 if (decide (v_i < (v_s.ah.length:Int)))=true then
 (ar v_s.ah v_i).bind fun b1=>if (b1.fId==bJ)=true then
 (ar v_s.ah v_i).bind fun b2=>some (.inr (.inr (b2,true)))
 else
 let v_i:Int:=(i64.wrap (v_i + 1))
 some (.inl v_i)
 else
 some (.inr (.inl v_i))
def ef (v_s:aa) (bJ:Int) : Option (ak×Bool) :=
 let v_i:Int:=0
 (ai (mB v_s bJ) ab v_i).bind fun r3=>match r3 with
 | .inr m4=>some m4
 | .inl m4 =>
 let v_i:=m4
 some ((⟨0,0,⟨#[]⟩,0,0,az.zero,[],0,0,[],[],[],[]⟩ : ak),false)
def n8 (v_s:aa) (v_a:ak) (st:Int) : Option ((Int)⊕((Int))) :=
 let v_k:=st
 (if (decide (v_k < (v_s.ah.length:Int)))=true then (ar v_s.ah v_k).bind fun b1=>some (decide (b1.fId < v_a.fId)) else some false).bind fun q2=>if q2=true then
 let v_k:Int:=(i64.wrap (v_k + 1))
 some (.inl v_k)
 else
 some (.inr v_k)
def eo (v_s:aa) (v_a:ak) : Option (aa) :=
 let v_k:Int:=0
 (ai (n8 v_s v_a) ab v_k).bind fun r3 =>
 let v_k:=r3
 (hiO v_s.ah v_k).bind fun b4=>(aP ([] : (List ak)) b4).bind fun b5=>let v_l:(List ak):=b5
 (aP v_l [v_a]).bind fun b6=>let v_l:(List ak):=b6
 (if (decide (v_k < (v_s.ah.length:Int)))=true then (ar v_s.ah v_k).bind fun b7=>some (b7.fId==v_a.fId) else some false).bind fun q8=>(if q8=true then
 let v_k:Int:=(i64.wrap (v_k + 1))
 some v_k
 else
 some v_k).bind fun j9=>let v_k:=j9
 (loO v_s.ah v_k).bind fun b10=>(aP v_l b10).bind fun b11=>let v_s:aa:={ v_s with ah:=b11 }
 some v_s
def dh (v_a:ak) : Option (Bool) :=
 (if (v_a.cC==1)=true then some true else some (v_a.cC==2)).bind fun q1=>some q1
def vZ (v_n:Int) : Option (Bool) :=
 (if (decide (v_n≥1))=true then some (decide (v_n≤1073741824)) else some false).bind fun q1=>some q1
def pY (v_a:ak) : Option ((List aM)) :=
 some ([(⟨0,0,v_a.bb,1,(-1),(-1),0⟩ : aM)] : (List aM))
def jO (v_s:aa) (st:Bool×(List ak)×Int) : Option ((Bool×(List ak)×Int)⊕((Bool×(List ak)×Int))) :=
 let cz:=st.1
 let v_l:=st.2.1
 let v_i:=st.2.2
 if (decide (v_i < (v_s.ah.length:Int)))=true then
 (if (!cz)=true then (ar v_s.ah v_i).bind fun b1=>(dh b1).bind fun c2=>some (!c2) else some false).bind fun q3=>if q3=true then
 let cz:Bool:=true
 let v_i:Int:=(i64.wrap (v_i + 1))
 some (.inl (cz,v_l,v_i))
 else
 (ar v_s.ah v_i).bind fun b4=>(aP v_l [b4]).bind fun b5=>let v_l:(List ak):=b5
 let v_i:Int:=(i64.wrap (v_i + 1))
 some (.inl (cz,v_l,v_i))
 else
 some (.inr (cz,v_l,v_i))
def nC (v_s:aa) : Option (aa) :=
 let v_l:(List ak):=[]
 let cz:Bool:=false
 let v_i:Int:=0
 (ai (jO v_s) ab (cz,v_l,v_i)).bind fun r6 =>
 let cz:=r6.1
 let v_l:=r6.2.1
 let v_i:=r6.2.2
 let v_s:aa:={ v_s with ah:=v_l }
 some v_s
def gO (v_s:aa) (st:Int×Int) : Option ((Int×Int)⊕((Int×Int))) :=
 let lx:=st.1
 let v_i:=st.2
 if (decide (v_i < (v_s.ah.length:Int)))=true then
 (ar v_s.ah v_i).bind fun b11=>(dh b11).bind fun c12=>if c12=true then
 let lx:Int:=(i64.wrap (lx + 1))
 let v_i:Int:=(i64.wrap (v_i + 1))
 some (.inl (lx,v_i))
 else
 let v_i:Int:=(i64.wrap (v_i + 1))
 some (.inl (lx,v_i))
 else
 some (.inr (lx,v_i))
def kV (v_s:aa) (v_a:ak) : Option (aa×Int) :=
 (if (decide (v_a.fId < 0))=true then some true else some (decide (v_a.fId > 9999))).bind fun q1=>(if q1=true then some true else some (decide (v_a.cD < 0))).bind fun q2=>(if q2=true then some true else some (decide (v_a.cD > 99))).bind fun q3=>(if q3=true then some true else some (decide (v_a.bq < 0))).bind fun q4=>(if q4=true then some true else some (decide (v_a.bq > 9))).bind fun q5=>(if q5=true then some true else (vZ v_a.bb.bH).bind fun c6=>some (!c6)).bind fun q7=>(if q7=true then some true else (vZ v_a.bb.be).bind fun c8=>some (!c8)).bind fun q9=>if q9=true then
 some (v_s,1)
 else
 (ef v_s v_a.fId).bind fun c10=>let bW:Bool:=c10.2
 if bW=true then
 some (v_s,7)
 else
 let lx:Int:=0
 let v_i:Int:=0
 (ai (gO v_s) ab (lx,v_i)).bind fun r13 =>
 let lx:=r13.1
 let v_i:=r13.2
 if (decide (lx≥16))=true then
 some (v_s,4)
 else
 (iY v_s.bB v_a.bD).bind fun c14=>if (!c14)=true then
 some (v_s,19)
 else
 (if (decide ((v_s.ah.length:Int)≥16))=true then
 (nC v_s).bind fun c16=>let v_s:aa:=c16
 some v_s
 else
 some v_s).bind fun j15=>let v_s:=j15
 (pY v_a).bind fun c17=>(eo v_s (⟨v_a.fId,1,v_a.bD,v_a.cD,v_a.bq,v_a.bb,c17,v_s.bZ,0,[],[],[],[]⟩ : ak)).bind fun c18=>some (c18,0)
def mz (v_s:aa) (bJ:Int) (st:(List Int)×(List ao)×Int) : Option (((List Int)×(List ao)×Int)⊕(((List Int)×(List ao)×Int))) :=
 let jW:=st.1
 let v_l:=st.2.1
 let v_i:=st.2.2
 if (decide (v_i < (v_s.ac.length:Int)))=true then
 (ar v_s.ac v_i).bind fun b1=>if (b1.bE==bJ)=true then
 (ar v_s.ac v_i).bind fun b2=>(aP jW [b2.fId]).bind fun b3=>let jW:(List Int):=b3
 let v_i:Int:=(i64.wrap (v_i + 1))
 some (.inl (jW,v_l,v_i))
 else
 (ar v_s.ac v_i).bind fun b4=>(aP v_l [b4]).bind fun b5=>let v_l:(List ao):=b5
 let v_i:Int:=(i64.wrap (v_i + 1))
 some (.inl (jW,v_l,v_i))
 else
 some (.inr (jW,v_l,v_i))
def my (v_s:aa) (bJ:Int) (st:(List bA)×Int) : Option (((List bA)×Int)⊕(((List bA)×Int))) :=
 let iU:=st.1
 let aI:=st.2
 if (decide (aI < (v_s.aU.length:Int)))=true then
 (ar v_s.aU aI).bind fun b7=>if (b7.bE != bJ)=true then
 (ar v_s.aU aI).bind fun b8=>(aP iU [b8]).bind fun b9=>let iU:(List bA):=b9
 let aI:Int:=(i64.wrap (aI + 1))
 some (.inl (iU,aI))
 else
 let aI:Int:=(i64.wrap (aI + 1))
 some (.inl (iU,aI))
 else
 some (.inr (iU,aI))
def tu (v_s:aa) (bJ:Int) : Option (aa×(List Int)) :=
 let v_l:(List ao):=[]
 let iU:(List bA):=[]
 let jW:(List Int):=[]
 let v_i:Int:=0
 (ai (mz v_s bJ) ab (jW,v_l,v_i)).bind fun r6 =>
 let jW:=r6.1
 let v_l:=r6.2.1
 let v_i:=r6.2.2
 let aI:Int:=0
 (ai (my v_s bJ) ab (iU,aI)).bind fun r10 =>
 let iU:=r10.1
 let aI:=r10.2
 let t11:(List ao):=v_l
 let t12:(List bA):=iU
 let v_s:aa:={ v_s with ac:=t11 }
 let v_s:aa:={ v_s with aU:=t12 }
 some (v_s,jW)
def Ms (v_s:aa) (bJ:Int) (Ky:Int) : Option (aa×(List Int)) :=
 (ef v_s bJ).bind fun c1=>let v_a:ak:=c1.1
 let bW:Bool:=c1.2
 (if (!bW)=true then some true else (dh v_a).bind fun c2=>some (!c2)).bind fun q3=>if q3=true then
 some (v_s,[])
 else
 let v_a:ak:={ v_a with cC:=Ky }
 let t4:(List aM):=[]
 let t5:(List Int):=[]
 let t6:(List Int):=[]
 let t7:(List Int):=[]
 let t8:(List Int):=[]
 let v_a:ak:={ v_a with bL:=t4 }
 let v_a:ak:={ v_a with bP:=t5 }
 let v_a:ak:={ v_a with dr:=t6 }
 let v_a:ak:={ v_a with ji:=t7 }
 let v_a:ak:={ v_a with jU:=t8 }
 (eo v_s v_a).bind fun c9=>(tu c9 bJ).bind fun c10=>some c10
def mC (v_s:aa) (bJ:Int) (st:Int) : Option ((Int)⊕((Int)⊕(ao×Bool))) :=
 let v_i:=st
 if (decide (v_i < (v_s.ac.length:Int)))=true then
 (ar v_s.ac v_i).bind fun b1=>if (b1.fId==bJ)=true then
 (ar v_s.ac v_i).bind fun b2=>some (.inr (.inr (b2,true)))
 else
 let v_i:Int:=(i64.wrap (v_i + 1))
 some (.inl v_i)
 else
 some (.inr (.inl v_i))
def eV (v_s:aa) (bJ:Int) : Option (ao×Bool) :=
 let v_i:Int:=0
 (ai (mC v_s bJ) ab v_i).bind fun r3=>match r3 with
 | .inr m4=>some m4
 | .inl m4 =>
 let v_i:=m4
 some ((⟨0,0,0,az.zero,0,0,false,0⟩ : ao),false)
def mD (v_s:aa) (bJ:Int) (st:(List ao)×Int) : Option (((List ao)×Int)⊕(((List ao)×Int))) :=
 let v_l:=st.1
 let v_i:=st.2
 if (decide (v_i < (v_s.ac.length:Int)))=true then
 (ar v_s.ac v_i).bind fun b1=>if (b1.fId != bJ)=true then
 (ar v_s.ac v_i).bind fun b2=>(aP v_l [b2]).bind fun b3=>let v_l:(List ao):=b3
 let v_i:Int:=(i64.wrap (v_i + 1))
 some (.inl (v_l,v_i))
 else
 let v_i:Int:=(i64.wrap (v_i + 1))
 some (.inl (v_l,v_i))
 else
 some (.inr (v_l,v_i))
def qV (v_s:aa) (bJ:Int) : Option (aa) :=
 let v_l:(List ao):=[]
 let v_i:Int:=0
 (ai (mD v_s bJ) ab (v_l,v_i)).bind fun r4 =>
 let v_l:=r4.1
 let v_i:=r4.2
 let v_s:aa:={ v_s with ac:=v_l }
 some v_s
def i8 (v_l:(List Int)) (v_n:Int) (st:(List Int)×Int) : Option (((List Int)×Int)⊕(((List Int)×Int))) :=
 let am:=st.1
 let v_i:=st.2
 if (decide (v_i < (v_l.length:Int)))=true then
 (ar v_l v_i).bind fun b1=>if (b1 != v_n)=true then
 (ar v_l v_i).bind fun b2=>(aP am [b2]).bind fun b3=>let am:(List Int):=b3
 let v_i:Int:=(i64.wrap (v_i + 1))
 some (.inl (am,v_i))
 else
 let v_i:Int:=(i64.wrap (v_i + 1))
 some (.inl (am,v_i))
 else
 some (.inr (am,v_i))
def jw (v_l:(List Int)) (v_n:Int) : Option ((List Int)×Bool) :=
 let am:(List Int):=[]
 let v_i:Int:=0
 (ai (i8 v_l v_n) ab (am,v_i)).bind fun r4 =>
 let am:=r4.1
 let v_i:=r4.2
 some (am,(decide ((am.length:Int) < (v_l.length:Int))))
def mA (cp:(List Int)) (st:aa×Int) : Option ((aa×Int)⊕((aa×Int))) :=
 let v_s:=st.1
 let v_i:=st.2
 if (decide (v_i < (cp.length:Int)))=true then
 (ar cp v_i).bind fun b1=>(eV v_s b1).bind fun c2=>let v_c:ao:=c2.1
 let bW:Bool:=c2.2
 if (!bW)=true then
 let v_i:Int:=(i64.wrap (v_i + 1))
 some (.inl (v_s,v_i))
 else
 (ef v_s v_c.bE).bind fun c3=>let v_a:ak:=c3.1
 if v_c.bb=true then
 (pY v_a).bind fun c4=>let t5:Int:=1
 let t6:(List aM):=c4
 let v_a:ak:={ v_a with cC:=t5 }
 let v_a:ak:={ v_a with bL:=t6 }
 let t7:(List Int):=[]
 let t8:(List Int):=[]
 let t9:(List Int):=[]
 let t10:(List Int):=[]
 let v_a:ak:={ v_a with bP:=t7 }
 let v_a:ak:={ v_a with dr:=t8 }
 let v_a:ak:={ v_a with ji:=t9 }
 let v_a:ak:={ v_a with jU:=t10 }
 let t11:Int:=0
 let t12:Int:=v_s.bZ
 let v_a:ak:={ v_a with ci:=t11 }
 let v_a:ak:={ v_a with bQ:=t12 }
 (eo v_s v_a).bind fun c13=>(tu c13 v_c.bE).bind fun c14=>let v_s:aa:=c14.1
 let v_i:Int:=(i64.wrap (v_i + 1))
 some (.inl (v_s,v_i))
 else
 (qV v_s v_c.fId).bind fun c15=>let v_s:aa:=c15
 let uU:Bool:=false
 (jw v_a.bP v_c.fId).bind fun c16=>let v_a:ak:={ v_a with bP:=c16.1 }
 let uU:Bool:=c16.2
 (if (!uU)=true then
 (aP ([] : (List Int)) v_a.dr).bind fun b18=>(aP b18 [v_c.fId]).bind fun b19=>let v_a:ak:={ v_a with dr:=b19 }
 some v_a
 else
 some v_a).bind fun j17=>let v_a:=j17
 (eo v_s v_a).bind fun c20=>let v_s:aa:=c20
 let v_i:Int:=(i64.wrap (v_i + 1))
 some (.inl (v_s,v_i))
 else
 some (.inr (v_s,v_i))
def jx (v_s:aa) (cp:(List Int)) : Option (aa) :=
 let v_i:Int:=0
 (ai (mA cp) ab (v_s,v_i)).bind fun r21 =>
 let v_s:=r21.1
 let v_i:=r21.2
 some v_s
def jP (v_s:aa) (st:(List Int)×Int) : Option (((List Int)×Int)⊕(((List Int)×Int))) :=
 let v_l:=st.1
 let v_i:=st.2
 if (decide (v_i < (v_s.ah.length:Int)))=true then
 (ar v_s.ah v_i).bind fun b1=>(if (b1.cC==2)=true then (ar v_s.ah v_i).bind fun b2=>some (decide ((i64.wrap (v_s.bZ - b2.bQ))≥15)) else some false).bind fun q3=>if q3=true then
 (ar v_s.ah v_i).bind fun b4=>(aP v_l [b4.fId]).bind fun b5=>let v_l:(List Int):=b5
 let v_i:Int:=(i64.wrap (v_i + 1))
 some (.inl (v_l,v_i))
 else
 let v_i:Int:=(i64.wrap (v_i + 1))
 some (.inl (v_l,v_i))
 else
 some (.inr (v_l,v_i))
def qU (v_s:aa) : Option ((List Int)) :=
 let v_l:(List Int):=[]
 let v_i:Int:=0
 (ai (jP v_s) ab (v_l,v_i)).bind fun r6 =>
 let v_l:=r6.1
 let v_i:=r6.2
 some v_l
def zM (v_n:Int) : Option (Bool) :=
 (if (decide (v_n≥1))=true then some (decide (v_n≤1073741824)) else some false).bind fun q1=>some q1
def qq (v_a:aM) (su:Int) : Option (Int) :=
 (if (decide (v_a.bq < 0))=true then some true else some (decide (v_a.bq > 9))).bind fun q1=>(if q1=true then some true else some (decide (v_a.a6 < 0))).bind fun q2=>(if q2=true then some true else some (decide (v_a.a6≥su))).bind fun q3=>(if q3=true then some true else (zM v_a.cJ.bH).bind fun c4=>some (!c4)).bind fun q5=>(if q5=true then some true else (zM v_a.cJ.be).bind fun c6=>some (!c6)).bind fun q7=>(if q7=true then some true else some (decide (v_a.bM < (-1)))).bind fun q8=>(if q8=true then some true else some (decide (v_a.bM > 999))).bind fun q9=>(if q9=true then some true else some (decide (v_a.eZ < (-1)))).bind fun q10=>(if q10=true then some true else some (decide (v_a.eZ > 99))).bind fun q11=>(if q11=true then some true else (if (decide (v_a.bM≥0))=true then some (decide (v_a.eZ < 0)) else some false).bind fun q12=>some q12).bind fun q13=>if q13=true then
 some 1
 else
 (if (decide (v_a.gg < 0))=true then some true else some (decide (v_a.gg > 50))).bind fun q14=>if q14=true then
 some 4
 else
 some 0
def pE (v_l:(List aM)) (v_a:aM) (st:(List aM)×Bool×Int) : Option (((List aM)×Bool×Int)⊕(((List aM)×Bool×Int))) :=
 let am:=st.1
 let cz:=st.2.1
 let v_i:=st.2.2
 if (decide (v_i < (v_l.length:Int)))=true then
 (if (!cz)=true then (ar v_l v_i).bind fun b1=>some (decide (b1.bq > v_a.bq)) else some false).bind fun q2=>(if q2=true then
 (aP am [v_a]).bind fun b4=>let am:(List aM):=b4
 let cz:Bool:=true
 some (am,cz)
 else
 some (am,cz)).bind fun j3=>let am:=j3.1
 let cz:=j3.2
 (ar v_l v_i).bind fun b5=>if (b5.bq != v_a.bq)=true then
 (ar v_l v_i).bind fun b6=>(aP am [b6]).bind fun b7=>let am:(List aM):=b7
 let v_i:Int:=(i64.wrap (v_i + 1))
 some (.inl (am,cz,v_i))
 else
 let v_i:Int:=(i64.wrap (v_i + 1))
 some (.inl (am,cz,v_i))
 else
 some (.inr (am,cz,v_i))
def G4 (v_l:(List aM)) (v_a:aM) : Option ((List aM)×Int) :=
 let am:(List aM):=[]
 let cz:Bool:=(v_a.gg==0)
 let v_a:aM:={ v_a with g6:=0 }
 let v_i:Int:=0
 (ai (pE v_l v_a) ab (am,cz,v_i)).bind fun r8 =>
 let am:=r8.1
 let cz:=r8.2.1
 let v_i:=r8.2.2
 (if (!cz)=true then
 (aP am [v_a]).bind fun b10=>let am:(List aM):=b10
 some am
 else
 some am).bind fun j9=>let am:=j9
 if (decide ((am.length:Int) > 8))=true then
 some ([],4)
 else
 some (am,0)
def pF (v_l:(List aM)) (cN:Int) (st:Int) : Option ((Int)⊕((Int)⊕(aM×Bool))) :=
 let v_i:=st
 if (decide (v_i < (v_l.length:Int)))=true then
 (ar v_l v_i).bind fun b1=>if (b1.bq==cN)=true then
 (ar v_l v_i).bind fun b2=>some (.inr (.inr (b2,true)))
 else
 let v_i:Int:=(i64.wrap (v_i + 1))
 some (.inl v_i)
 else
 some (.inr (.inl v_i))
def LY (v_l:(List aM)) (cN:Int) : Option (aM×Bool) :=
 let v_i:Int:=0
 (ai (pF v_l cN) ab v_i).bind fun r3=>match r3 with
 | .inr m4=>some m4
 | .inl m4 =>
 let v_i:=m4
 some ((⟨0,0,az.zero,0,0,0,0⟩ : aM),false)
def nR (v_l:(List aM)) (cN:Int) (st:Bool×(List aM)×Int) : Option ((Bool×(List aM)×Int)⊕((Bool×(List aM)×Int))) :=
 let bW:=st.1
 let am:=st.2.1
 let v_i:=st.2.2
 if (decide (v_i < (v_l.length:Int)))=true then
 (ar v_l v_i).bind fun b1=>let v_a:aM:=b1
 if (v_a.bq==cN)=true then
 let bW:Bool:=true
 let t2:Int:=(i64.wrap (v_a.gg - 1))
 let t3:Int:=0
 let v_a:aM:={ v_a with gg:=t2 }
 let v_a:aM:={ v_a with g6:=t3 }
 if (decide (v_a.gg≤0))=true then
 let v_i:Int:=(i64.wrap (v_i + 1))
 some (.inl (bW,am,v_i))
 else
 (aP am [v_a]).bind fun b4=>let am:(List aM):=b4
 let v_i:Int:=(i64.wrap (v_i + 1))
 some (.inl (bW,am,v_i))
 else
 (aP am [v_a]).bind fun b5=>let am:(List aM):=b5
 let v_i:Int:=(i64.wrap (v_i + 1))
 some (.inl (bW,am,v_i))
 else
 some (.inr (bW,am,v_i))
def Et (v_l:(List aM)) (cN:Int) : Option ((List aM)×Bool) :=
 let am:(List aM):=[]
 let bW:Bool:=false
 let v_i:Int:=0
 (ai (nR v_l cN) ab (bW,am,v_i)).bind fun r6 =>
 let bW:=r6.1
 let am:=r6.2.1
 let v_i:=r6.2.2
 some (am,bW)
def rU (cN:Int) (st:(List aM)×Int) : Option (((List aM)×Int)⊕(((List aM)×Int))) :=
 let am:=st.1
 let v_i:=st.2
 if (decide (v_i < (am.length:Int)))=true then
 (ar am v_i).bind fun b2=>if (b2.bq==cN)=true then
 (ar am v_i).bind fun b3=>(ar am v_i).bind fun b4=>let am:(List aM):=(List.set am (Int.toNat v_i) ({ b4 with g6:=(if 100 < (i64.wrap (b3.g6 + 1)) then 100 else (i64.wrap (b3.g6 + 1))) }))
 let v_i:Int:=(i64.wrap (v_i + 1))
 some (.inl (am,v_i))
 else
 let v_i:Int:=(i64.wrap (v_i + 1))
 some (.inl (am,v_i))
 else
 some (.inr (am,v_i))
def Eu (v_l:(List aM)) (cN:Int) : Option ((List aM)) :=
 (aP ([] : (List aM)) v_l).bind fun b1=>let am:(List aM):=b1
 let v_i:Int:=0
 (ai (rU cN) ab (am,v_i)).bind fun r5 =>
 let am:=r5.1
 let v_i:=r5.2
 some am
def jD (v_l:(List aM)) (af:Int) (st:az×Int) : Option ((az×Int)⊕((az×Int))) :=
 let v_v:=st.1
 let v_i:=st.2
 if (decide (v_i < (v_l.length:Int)))=true then
 (ar v_l v_i).bind fun b1=>if (b1.a6==af)=true then
 (ar v_l v_i).bind fun b2=>(ar v_l v_i).bind fun b3=>(ar v_l v_i).bind fun b4=>(ar v_l v_i).bind fun b5=>(dv v_v (⟨(i64.wrap (b2.cJ.bH * b3.gg)),(i64.wrap (b4.cJ.be * b5.gg))⟩ : az)).bind fun c6=>let v_v:az:=c6
 let v_i:Int:=(i64.wrap (v_i + 1))
 some (.inl (v_v,v_i))
 else
 let v_i:Int:=(i64.wrap (v_i + 1))
 some (.inl (v_v,v_i))
 else
 some (.inr (v_v,v_i))
def kQ (v_l:(List aM)) (af:Int) : Option (az) :=
 let v_v:az:=(⟨0,0⟩ : az)
 let v_i:Int:=0
 (ai (jD v_l af) ab (v_v,v_i)).bind fun r7 =>
 let v_v:=r7.1
 let v_i:=r7.2
 some v_v
def kD (jb:(List ByteArray)) (aw:ByteArray) (st:Int) : Option ((Int)⊕((Int)⊕(Bool))) :=
 let v_i:=st
 if (decide (v_i < (jb.length:Int)))=true then
 (ar jb v_i).bind fun b2=>if (b2.toList==aw.toList)=true then
 some (.inr (.inr true))
 else
 let v_i:Int:=(i64.wrap (v_i + 1))
 some (.inl v_i)
 else
 some (.inr (.inl v_i))
def nB (xK:ByteArray) (aw:ByteArray) : Option (Bool) :=
 (zR xK).bind fun c1=>let jb:(List ByteArray):=c1
 let v_i:Int:=0
 (ai (kD jb aw) ab v_i).bind fun r3=>match r3 with
 | .inr m4=>some m4
 | .inl m4 =>
 let v_i:=m4
 some false
def mu (v_s:aa) (af:Int) (aw:ByteArray) (yX:Bool) (mQ:Int) (st:az×Int) : Option ((az×Int)⊕((az×Int))) :=
 let v_v:=st.1
 let v_i:=st.2
 if (decide (v_i < (v_s.ac.length:Int)))=true then
 (ar v_s.ac v_i).bind fun b1=>(ef v_s b1.bE).bind fun c2=>let v_a:ak:=c2.1
 let bW:Bool:=c2.2
 (if bW=true then (ar v_s.ac v_i).bind fun b3=>some (b3.a6==af) else some false).bind fun q4=>(if q4=true then (nB v_a.bD aw).bind fun c5=>some c5 else some false).bind fun q6=>(if q6=true then (if yX=true then some true else some (v_a.cD==mQ)).bind fun q7=>some q7 else some false).bind fun q8=>if q8=true then
 (ar v_s.ac v_i).bind fun b9=>(dv v_v b9.cJ).bind fun c10=>let v_v:az:=c10
 let v_i:Int:=(i64.wrap (v_i + 1))
 some (.inl (v_v,v_i))
 else
 let v_i:Int:=(i64.wrap (v_i + 1))
 some (.inl (v_v,v_i))
 else
 some (.inr (v_v,v_i))
def vU (v_s:aa) (aw:ByteArray) (af:Int) (yX:Bool) (mQ:Int) : Option (az) :=
 let v_v:az:=(⟨0,0⟩ : az)
 let v_i:Int:=0
 (ai (mu v_s af aw yX mQ) ab (v_v,v_i)).bind fun r11 =>
 let v_v:=r11.1
 let v_i:=r11.2
 some v_v
def eT (v_s:aa) (aw:ByteArray) (af:Int) : Option (az) :=
 (vU v_s aw af true 0).bind fun c1=>some c1
def pK (v_s:aa) (aw:ByteArray) (af:Int) (mQ:Int) : Option (az) :=
 (vU v_s aw af false mQ).bind fun c1=>some c1
def i7 (v_s:aa) (af:Int) (aw:ByteArray) (st:az×Int) : Option ((az×Int)⊕((az×Int))) :=
 let v_v:=st.1
 let v_i:=st.2
 if (decide (v_i < (v_s.ah.length:Int)))=true then
 (ar v_s.ah v_i).bind fun b1=>(dh b1).bind fun c2=>(if c2=true then (ar v_s.ah v_i).bind fun b3=>(nB b3.bD aw).bind fun c4=>some c4 else some false).bind fun q5=>if q5=true then
 (ar v_s.ah v_i).bind fun b6=>(kQ b6.bL af).bind fun c7=>(dv v_v c7).bind fun c8=>let v_v:az:=c8
 let v_i:Int:=(i64.wrap (v_i + 1))
 some (.inl (v_v,v_i))
 else
 let v_i:Int:=(i64.wrap (v_i + 1))
 some (.inl (v_v,v_i))
 else
 some (.inr (v_v,v_i))
def oG (v_s:aa) (aw:ByteArray) (af:Int) : Option (az) :=
 let v_v:az:=(⟨0,0⟩ : az)
 let v_i:Int:=0
 (ai (i7 v_s af aw) ab (v_v,v_i)).bind fun r9 =>
 let v_v:=r9.1
 let v_i:=r9.2
 some v_v
def mw (jb:(List ByteArray)) (v_s:aa) (af:Int) (tC:az) (st:Int) : Option ((Int)⊕((Int)⊕(Bool))) :=
 let v_i:=st
 if (decide (v_i < (jb.length:Int)))=true then
 (ar jb v_i).bind fun b2=>(eT v_s b2 af).bind fun c3=>(dv c3 tC).bind fun c4=>let v_v:az:=c4
 (ar jb v_i).bind fun b5=>(wI v_s b5 af).bind fun c6=>(fU v_v c6).bind fun c7=>if (!c7)=true then
 some (.inr (.inr false))
 else
 (ar jb v_i).bind fun b8=>(if (b8.toList==(⟨#[114,111,111,116]⟩ : ByteArray).toList)=true then (jm v_s af).bind fun c9=>(uj v_s af).bind fun c10=>(wM c9 c10).bind fun c11=>(fU v_v c11).bind fun c12=>some (!c12) else some false).bind fun q13=>if q13=true then
 some (.inr (.inr false))
 else
 let v_i:Int:=(i64.wrap (v_i + 1))
 some (.inl v_i)
 else
 some (.inr (.inl v_i))
def vV (v_s:aa) (aw:ByteArray) (af:Int) (tC:az) : Option (Bool) :=
 (zR aw).bind fun c1=>let jb:(List ByteArray):=c1
 let v_i:Int:=0
 (ai (mw jb v_s af tC) ab v_i).bind fun r14=>match r14 with
 | .inr m15=>some m15
 | .inl m15 =>
 let v_i:=m15
 some true
def wV (v_s:aa) (v_a:ByteArray) (v_b:ByteArray) (af:Int) : Option (Bool) :=
 (eT v_s v_a af).bind fun c1=>(lW v_s v_a af).bind fun c2=>(eT v_s v_b af).bind fun c3=>(lW v_s v_b af).bind fun c4=>(Ab c1 c2 c3 c4).bind fun c5=>let v_o:Int:=c5
 (if (decide (v_o < 0))=true then some true else (if (v_o==0)=true then some (Op.bytesLess v_a.toList v_b.toList) else some false).bind fun q6=>some q6).bind fun q7=>some q7
def ju (am:(List ByteArray)) (v_s:aa) (v_i:Int) (v_l:(List ByteArray)) (af:Int) (st:Int) : Option ((Int)⊕((Int))) :=
 let v_k:=st
 (if (decide (v_k < (am.length:Int)))=true then (ar v_l v_i).bind fun b2=>(ar am v_k).bind fun b3=>(wV v_s b2 b3 af).bind fun c4=>some (!c4) else some false).bind fun q5=>if q5=true then
 let v_k:Int:=(i64.wrap (v_k + 1))
 some (.inl v_k)
 else
 some (.inr v_k)
def mq (v_l:(List ByteArray)) (v_s:aa) (af:Int) (st:(List ByteArray)×Int) : Option (((List ByteArray)×Int)⊕(((List ByteArray)×Int))) :=
 let am:=st.1
 let v_i:=st.2
 if (decide (v_i < (v_l.length:Int)))=true then
 let v_k:Int:=0
 (ai (ju am v_s v_i v_l af) ab v_k).bind fun r6 =>
 let v_k:=r6
 (hiO am v_k).bind fun b7=>(aP ([] : (List ByteArray)) b7).bind fun b8=>let v_x:(List ByteArray):=b8
 (ar v_l v_i).bind fun b9=>(aP v_x [b9]).bind fun b10=>let v_x:(List ByteArray):=b10
 (loO am v_k).bind fun b11=>(aP v_x b11).bind fun b12=>let am:(List ByteArray):=b12
 let v_i:Int:=(i64.wrap (v_i + 1))
 some (.inl (am,v_i))
 else
 some (.inr (am,v_i))
def AN (v_s:aa) (aw:ByteArray) (af:Int) : Option ((List ByteArray)) :=
 (ek v_s.bB aw).bind fun c1=>let v_l:(List ByteArray):=c1
 let am:(List ByteArray):=[]
 let v_i:Int:=0
 (ai (mq v_l v_s af) ab (am,v_i)).bind fun r13 =>
 let am:=r13.1
 let v_i:=r13.2
 some am
def jN (self:(aa→ByteArray→Int→Option ((List ByteArray)))) (v_l:(List ByteArray)) (v_s:aa) (af:Int) (st:(List ByteArray)×Int) : Option (((List ByteArray)×Int)⊕(((List ByteArray)×Int))) :=
 let am:=st.1
 let v_i:=st.2
 if (decide (v_i < (v_l.length:Int)))=true then
 (ar v_l v_i).bind fun b2=>(self v_s b2 af).bind fun c3=>(aP am c3).bind fun b4=>let am:(List ByteArray):=b4
 let v_i:Int:=(i64.wrap (v_i + 1))
 some (.inl (am,v_i))
 else
 some (.inr (am,v_i))
def jt:Nat→aa→ByteArray→Int→Option ((List ByteArray))
 | 0=>fun _ _ _=>none
 | fuel + 1=>fun v_s aw af =>
 let self:=jt fuel
 (AN v_s aw af).bind fun c1=>let v_l:(List ByteArray):=c1
 if ((v_l.length:Int)==0)=true then
 some ([aw] : (List ByteArray))
 else
 let am:(List ByteArray):=[]
 let v_i:Int:=0
 (ai (jN self v_l v_s af) ab (am,v_i)).bind fun r5 =>
 let am:=r5.1
 let v_i:=r5.2
 some am
def uw (v_s:aa) (af:Int) : Option ((List ByteArray)) :=
 (jt ab v_s (⟨#[114,111,111,116]⟩ : ByteArray) af).bind fun c1=>some c1
def jv (am:(List ak)) (v_a:ak) (st:Int) : Option ((Int)⊕((Int))) :=
 let v_k:=st
 (if (decide (v_k < (am.length:Int)))=true then (ar am v_k).bind fun b4=>some (decide (b4.bq≥v_a.bq)) else some false).bind fun q5=>if q5=true then
 let v_k:Int:=(i64.wrap (v_k + 1))
 some (.inl v_k)
 else
 some (.inr v_k)
def mt (v_s:aa) (pn:ByteArray) (st:(List ak)×Int) : Option (((List ak)×Int)⊕(((List ak)×Int))) :=
 let am:=st.1
 let v_i:=st.2
 if (decide (v_i < (v_s.ah.length:Int)))=true then
 (ar v_s.ah v_i).bind fun b1=>let v_a:ak:=b1
 (dh v_a).bind fun c2=>(if (!c2)=true then some true else some (!(v_a.bD.toList==pn.toList))).bind fun q3=>if q3=true then
 let v_i:Int:=(i64.wrap (v_i + 1))
 some (.inl (am,v_i))
 else
 let v_k:Int:=0
 (ai (jv am v_a) ab v_k).bind fun r6 =>
 let v_k:=r6
 (hiO am v_k).bind fun b7=>(aP ([] : (List ak)) b7).bind fun b8=>let v_x:(List ak):=b8
 (aP v_x [v_a]).bind fun b9=>let v_x:(List ak):=b9
 (loO am v_k).bind fun b10=>(aP v_x b10).bind fun b11=>let am:(List ak):=b11
 let v_i:Int:=(i64.wrap (v_i + 1))
 some (.inl (am,v_i))
 else
 some (.inr (am,v_i))
def mr (am:(List ak)) (st:(List Int)×Int) : Option (((List Int)×Int)⊕(((List Int)×Int))) :=
 let v_l:=st.1
 let aI:=st.2
 if (decide (aI < (am.length:Int)))=true then
 (ar am aI).bind fun b13=>(aP v_l [b13.fId]).bind fun b14=>let v_l:(List Int):=b14
 let aI:Int:=(i64.wrap (aI + 1))
 some (.inl (v_l,aI))
 else
 some (.inr (v_l,aI))
def AQ (v_s:aa) (pn:ByteArray) : Option ((List Int)) :=
 let am:(List ak):=[]
 let v_i:Int:=0
 (ai (mt v_s pn) ab (am,v_i)).bind fun r12 =>
 let am:=r12.1
 let v_i:=r12.2
 let v_l:(List Int):=[]
 let aI:Int:=0
 (ai (mr am) ab (v_l,aI)).bind fun r15 =>
 let v_l:=r15.1
 let aI:=r15.2
 some v_l
def nA (v_a:aM) (v_n:aZ) : Option (Int) :=
 (if (!v_n.fUp)=true then some true else some (v_n.a6 != v_a.a6)).bind fun q1=>if q1=true then
 some 4
 else
 (if (v_a.eZ==(-1))=true then some true else some (v_a.bM==v_n.fId)).bind fun q2=>(if q2=true then some true else (if (v_a.bM==(-1))=true then some (v_a.eZ==v_n.eZ) else some false).bind fun q3=>some q3).bind fun q4=>if q4=true then
 some 1
 else
 if (v_a.eZ==v_n.eZ)=true then
 some 2
 else
 some 3
def uv (v_a:aM) (v_n:aZ) : Option (Bool) :=
 (nA v_a v_n).bind fun c1=>if (c1==1)=true then
 some true
 else
 if (c1==2)=true then
 some (decide (v_a.g6≥2))
 else
 if (c1==3)=true then
 some (decide (v_a.g6≥4))
 else
 some false
def nT (v_s:aa) (bJ:Int) (st:Int) : Option ((Int)⊕((Int)⊕(aZ×Bool))) :=
 let v_i:=st
 if (decide (v_i < (v_s.aE.length:Int)))=true then
 (ar v_s.aE v_i).bind fun b1=>if (b1.fId==bJ)=true then
 (ar v_s.aE v_i).bind fun b2=>some (.inr (.inr (b2,true)))
 else
 let v_i:Int:=(i64.wrap (v_i + 1))
 some (.inl v_i)
 else
 some (.inr (.inl v_i))
def nU (v_s:aa) (bJ:Int) : Option (aZ×Bool) :=
 let v_i:Int:=0
 (ai (nT v_s bJ) ab v_i).bind fun r3=>match r3 with
 | .inr m4=>some m4
 | .inl m4 =>
 let v_i:=m4
 some ((⟨0,0,0,az.zero,0,0,false⟩ : aZ),false)
def zN (v_n:Int) : Option (Bool) :=
 (if (decide (v_n≥0))=true then some (decide (v_n≤1073741824)) else some false).bind fun q1=>some q1
def pG (v_s:aa) (v_n:aZ) (st:Int) : Option ((Int)⊕((Int))) :=
 let v_k:=st
 (if (decide (v_k < (v_s.aE.length:Int)))=true then (ar v_s.aE v_k).bind fun b1=>some (decide (b1.fId < v_n.fId)) else some false).bind fun q2=>if q2=true then
 let v_k:Int:=(i64.wrap (v_k + 1))
 some (.inl v_k)
 else
 some (.inr v_k)
def Ce (v_s:aa) (v_n:aZ) : Option (aa) :=
 let v_k:Int:=0
 (ai (pG v_s v_n) ab v_k).bind fun r3 =>
 let v_k:=r3
 (hiO v_s.aE v_k).bind fun b4=>(aP ([] : (List aZ)) b4).bind fun b5=>let v_l:(List aZ):=b5
 (aP v_l [v_n]).bind fun b6=>let v_l:(List aZ):=b6
 (if (decide (v_k < (v_s.aE.length:Int)))=true then (ar v_s.aE v_k).bind fun b7=>some (b7.fId==v_n.fId) else some false).bind fun q8=>(if q8=true then
 let v_k:Int:=(i64.wrap (v_k + 1))
 some v_k
 else
 some v_k).bind fun j9=>let v_k:=j9
 (loO v_s.aE v_k).bind fun b10=>(aP v_l b10).bind fun b11=>let v_s:aa:={ v_s with aE:=b11 }
 some v_s
def rL (v_s:aa) (v_n:aZ) : Option (aa×Int) :=
 (if (decide (v_n.fId < 0))=true then some true else some (decide (v_n.fId > 999))).bind fun q1=>(if q1=true then some true else some (decide (v_n.a6 < 0))).bind fun q2=>(if q2=true then some true else some (decide (v_n.a6≥(v_s.bB.al.length:Int)))).bind fun q3=>(if q3=true then some true else some (decide (v_n.eZ < 0))).bind fun q4=>(if q4=true then some true else some (decide (v_n.eZ > 99))).bind fun q5=>(if q5=true then some true else (zN v_n.lj.bH).bind fun c6=>some (!c6)).bind fun q7=>(if q7=true then some true else (zN v_n.lj.be).bind fun c8=>some (!c8)).bind fun q9=>if q9=true then
 some (v_s,1)
 else
 (nU v_s v_n.fId).bind fun c10=>let v_x:aZ:=c10.1
 let bW:Bool:=c10.2
 (if bW=true then some v_x.fUp else some false).bind fun q11=>if q11=true then
 some (v_s,7)
 else
 (if (!bW)=true then some (decide ((v_s.aE.length:Int)≥12)) else some false).bind fun q12=>if q12=true then
 some (v_s,4)
 else
 (Ce v_s (⟨v_n.fId,v_n.a6,v_n.eZ,v_n.lj,v_s.bZ,0,true⟩ : aZ)).bind fun c13=>some (c13,0)
def Ew (v_s:aa) (bJ:Int) (Kz:Int) : Option (aa×Int) :=
 (nU v_s bJ).bind fun c1=>let v_n:aZ:=c1.1
 let bW:Bool:=c1.2
 if (!bW)=true then
 some (v_s,2)
 else
 if (!v_n.fUp)=true then
 some (v_s,18)
 else
 if (decide (Kz < 0))=true then
 some (v_s,15)
 else
 if (decide (Kz < v_n.ci))=true then
 some (v_s,15)
 else
 if (decide ((i64.wrap (Kz - v_n.ci)) > 1))=true then
 some (v_s,1)
 else
 let t2:Int:=v_s.bZ
 let t3:Int:=Kz
 let v_n:aZ:={ v_n with bQ:=t2 }
 let v_n:aZ:={ v_n with ci:=t3 }
 (Ce v_s v_n).bind fun c4=>some (c4,0)
def zP (v_s:aa) (bJ:Int) : Option (aa) :=
 (nU v_s bJ).bind fun c1=>let v_n:aZ:=c1.1
 let bW:Bool:=c1.2
 if (!bW)=true then
 some v_s
 else
 let v_n:aZ:={ v_n with fUp:=false }
 (Ce v_s v_n).bind fun c2=>some c2
def nS (v_s:aa) (bJ:Int) (st:az×Int) : Option ((az×Int)⊕((az×Int))) :=
 let v_v:=st.1
 let v_i:=st.2
 if (decide (v_i < (v_s.ac.length:Int)))=true then
 (ar v_s.ac v_i).bind fun b1=>if (b1.bM==bJ)=true then
 (ar v_s.ac v_i).bind fun b2=>(dv v_v b2.cJ).bind fun c3=>let v_v:az:=c3
 let v_i:Int:=(i64.wrap (v_i + 1))
 some (.inl (v_v,v_i))
 else
 let v_i:Int:=(i64.wrap (v_i + 1))
 some (.inl (v_v,v_i))
 else
 some (.inr (v_v,v_i))
def Ev (v_s:aa) (bJ:Int) : Option (az) :=
 let v_v:az:=(⟨0,0⟩ : az)
 let v_i:Int:=0
 (ai (nS v_s bJ) ab (v_v,v_i)).bind fun r4 =>
 let v_v:=r4.1
 let v_i:=r4.2
 some v_v
def zO (v_s:aa) (bJ:Int) : Option (az) :=
 (nU v_s bJ).bind fun c1=>let v_n:aZ:=c1.1
 let bW:Bool:=c1.2
 (if (!bW)=true then some true else some (!v_n.fUp)).bind fun q2=>if q2=true then
 some (⟨0,0⟩ : az)
 else
 (Ev v_s bJ).bind fun c3=>(wM v_n.lj c3).bind fun c4=>some c4
def ku (v_s:aa) (st:(List Int)×Int) : Option (((List Int)×Int)⊕(((List Int)×Int))) :=
 let v_l:=st.1
 let v_i:=st.2
 if (decide (v_i < (v_s.aE.length:Int)))=true then
 (ar v_s.aE v_i).bind fun b1=>(if b1.fUp=true then (ar v_s.aE v_i).bind fun b2=>some (decide ((i64.wrap (v_s.bZ - b2.bQ))≥10)) else some false).bind fun q3=>if q3=true then
 (ar v_s.aE v_i).bind fun b4=>(aP v_l [b4.fId]).bind fun b5=>let v_l:(List Int):=b5
 let v_i:Int:=(i64.wrap (v_i + 1))
 some (.inl (v_l,v_i))
 else
 let v_i:Int:=(i64.wrap (v_i + 1))
 some (.inl (v_l,v_i))
 else
 some (.inr (v_l,v_i))
def wH (v_s:aa) : Option ((List Int)) :=
 let v_l:(List Int):=[]
 let v_i:Int:=0
 (ai (ku v_s) ab (v_l,v_i)).bind fun r6 =>
 let v_l:=r6.1
 let v_i:=r6.2
 some v_l
def AI (v_s:aa) (xK:ByteArray) (v_a:aM) : Option (Bool) :=
 (eT v_s xK v_a.a6).bind fun c1=>(dv c1 v_a.cJ).bind fun c2=>(lW v_s xK v_a.a6).bind fun c3=>(fU c2 c3).bind fun c4=>some c4
def vT (v_s:aa) (xK:ByteArray) (af:Int) (mQ:Int) : Option (Bool) :=
 (pK v_s xK af mQ).bind fun c1=>(Ex v_s xK af).bind fun c2=>(fU c1 c2).bind fun c3=>some c3
def iC (v_s:aa) (v_c:ao) (st:Int) : Option ((Int)⊕((Int))) :=
 let v_k:=st
 (if (decide (v_k < (v_s.ac.length:Int)))=true then (ar v_s.ac v_k).bind fun b9=>some (decide (b9.fId < v_c.fId)) else some false).bind fun q10=>if q10=true then
 let v_k:Int:=(i64.wrap (v_k + 1))
 some (.inl v_k)
 else
 some (.inr v_k)
def nz (v_s:aa) (v_n:aZ) (v_a:ak) (v_x:aM) : Option (aa×ao) :=
 let v_s:aa:={ v_s with sV:=(i64.wrap (v_s.sV + 1)) }
 let v_c:ao:=(⟨(i64.wrap ((i64.wrap (v_s.qm * 2 ^ (min (Int.toNat 20) (IntKind.i64.bits)))) + v_s.sV)),v_a.fId,v_n.fId,v_x.cJ,v_x.bq,v_n.a6,(v_a.cC==1),0⟩ : ao)
 (Et v_a.bL v_x.bq).bind fun c1=>let v_a:ak:={ v_a with bL:=c1.1 }
 (if v_c.bb=true then
 let t3:Int:=2
 let t4:(List aM):=[]
 let t5:Int:=v_s.bZ
 let t6:Int:=0
 let v_a:ak:={ v_a with cC:=t3 }
 let v_a:ak:={ v_a with bL:=t4 }
 let v_a:ak:={ v_a with bQ:=t5 }
 let v_a:ak:={ v_a with ci:=t6 }
 some v_a
 else
 (aP ([] : (List Int)) v_a.bP).bind fun b7=>(aP b7 [v_c.fId]).bind fun b8=>let v_a:ak:={ v_a with bP:=b8 }
 some v_a).bind fun j2=>let v_a:=j2
 let v_k:Int:=0
 (ai (iC v_s v_c) ab v_k).bind fun r11 =>
 let v_k:=r11
 (hiO v_s.ac v_k).bind fun b12=>(aP ([] : (List ao)) b12).bind fun b13=>let v_l:(List ao):=b13
 (aP v_l [v_c]).bind fun b14=>let v_l:(List ao):=b14
 (loO v_s.ac v_k).bind fun b15=>(aP v_l b15).bind fun b16=>let v_s:aa:={ v_s with ac:=b16 }
 (eo v_s v_a).bind fun c17=>some (c17,v_c)
def jM (v_s:aa) (cy:Int) (st:(List bA)×Int) : Option (((List bA)×Int)⊕(((List bA)×Int))) :=
 let v_l:=st.1
 let v_i:=st.2
 if (decide (v_i < (v_s.aU.length:Int)))=true then
 (ar v_s.aU v_i).bind fun b1=>if (b1.bM != cy)=true then
 (ar v_s.aU v_i).bind fun b2=>(aP v_l [b2]).bind fun b3=>let v_l:(List bA):=b3
 let v_i:Int:=(i64.wrap (v_i + 1))
 some (.inl (v_l,v_i))
 else
 let v_i:Int:=(i64.wrap (v_i + 1))
 some (.inl (v_l,v_i))
 else
 some (.inr (v_l,v_i))
def fK (v_s:aa) (cy:Int) : Option (aa) :=
 let v_l:(List bA):=[]
 let v_i:Int:=0
 (ai (jM v_s cy) ab (v_l,v_i)).bind fun r4 =>
 let v_l:=r4.1
 let v_i:=r4.2
 let v_s:aa:={ v_s with aU:=v_l }
 some v_s
def mn (v_s:aa) (cy:Int) (st:Int) : Option ((Int)⊕((Int)⊕(bA×Bool))) :=
 let v_i:=st
 if (decide (v_i < (v_s.aU.length:Int)))=true then
 (ar v_s.aU v_i).bind fun b1=>if (b1.bM==cy)=true then
 (ar v_s.aU v_i).bind fun b2=>some (.inr (.inr (b2,true)))
 else
 let v_i:Int:=(i64.wrap (v_i + 1))
 some (.inl v_i)
 else
 some (.inr (.inl v_i))
def AE (v_s:aa) (cy:Int) : Option (bA×Bool) :=
 let v_i:Int:=0
 (ai (mn v_s cy) ab v_i).bind fun r3=>match r3 with
 | .inr m4=>some m4
 | .inl m4 =>
 let v_i:=m4
 some ((⟨0,0,0⟩ : bA),false)
def kC (v_s:aa) (fg:Int) (cN:Int) (st:Int) : Option ((Int)⊕((Int)⊕(Bool))) :=
 let v_i:=st
 if (decide (v_i < (v_s.aU.length:Int)))=true then
 (ar v_s.aU v_i).bind fun b1=>(if (b1.bE==fg)=true then (ar v_s.aU v_i).bind fun b2=>some (b2.bq==cN) else some false).bind fun q3=>if q3=true then
 some (.inr (.inr true))
 else
 let v_i:Int:=(i64.wrap (v_i + 1))
 some (.inl v_i)
 else
 some (.inr (.inl v_i))
def wS (v_s:aa) (fg:Int) (cN:Int) : Option (Bool) :=
 let v_i:Int:=0
 (ai (kC v_s fg cN) ab v_i).bind fun r4=>match r4 with
 | .inr m5=>some m5
 | .inl m5 =>
 let v_i:=m5
 some false
def mp (v_s:aa) (v_x:bA) (st:Int) : Option ((Int)⊕((Int))) :=
 let v_k:=st
 (if (decide (v_k < (v_s.aU.length:Int)))=true then (ar v_s.aU v_k).bind fun b1=>some (decide (b1.bM < v_x.bM)) else some false).bind fun q2=>if q2=true then
 let v_k:Int:=(i64.wrap (v_k + 1))
 some (.inl v_k)
 else
 some (.inr v_k)
def tr (v_s:aa) (v_x:bA) : Option (aa) :=
 let v_k:Int:=0
 (ai (mp v_s v_x) ab v_k).bind fun r3 =>
 let v_k:=r3
 (hiO v_s.aU v_k).bind fun b4=>(aP ([] : (List bA)) b4).bind fun b5=>let v_l:(List bA):=b5
 (aP v_l [v_x]).bind fun b6=>let v_l:(List bA):=b6
 (loO v_s.aU v_k).bind fun b7=>(aP v_l b7).bind fun b8=>let v_s:aa:={ v_s with aU:=b8 }
 some v_s
def tq (v_s:aa) (v_n:aZ) (v_x:bA) : Option (aa×Int×ao×Bool) :=
 (ef v_s v_x.bE).bind fun c1=>let v_a:ak:=c1.1
 let bW:Bool:=c1.2
 (LY v_a.bL v_x.bq).bind fun c2=>let v_k:aM:=c2.1
 let yW:Bool:=c2.2
 (if (!bW)=true then some true else (dh v_a).bind fun c3=>some (!c3)).bind fun q4=>(if q4=true then some true else some (!yW)).bind fun q5=>(if q5=true then some true else (uv v_k v_n).bind fun c6=>some (!c6)).bind fun q7=>(if q7=true then some true else (fU v_k.cJ v_n.lj).bind fun c8=>some (!c8)).bind fun q9=>(if q9=true then some true else (AI v_s v_a.bD v_k).bind fun c10=>some (!c10)).bind fun q11=>(if q11=true then some true else (vT v_s v_a.bD v_n.a6 v_a.cD).bind fun c12=>some (!c12)).bind fun q13=>if q13=true then
 (fK v_s v_n.fId).bind fun c14=>some (c14,0,(⟨0,0,0,az.zero,0,0,false,0⟩ : ao),false)
 else
 (zO v_s v_n.fId).bind fun c15=>(fU v_k.cJ c15).bind fun c16=>(if (!c16)=true then some true else (vV v_s v_a.bD v_n.a6 v_k.cJ).bind fun c17=>some (!c17)).bind fun q18=>if q18=true then
 some (v_s,3,(⟨0,0,0,az.zero,0,0,false,0⟩ : ao),true)
 else
 (fK v_s v_n.fId).bind fun c19=>(nz c19 v_n v_a v_k).bind fun c20=>let v_t:aa:=c20.1
 let v_c:ao:=c20.2
 some (v_t,1,v_c,true)
def wT (v_s:aa) (v_n:aZ) (v_a:ak) (v_x:aM) (lz:Bool) : Option (aa×Int×ao) :=
 (AI v_s v_a.bD v_x).bind fun c1=>let bW:Bool:=c1
 (nA v_x v_n).bind fun c2=>(if (c2==4)=true then some true else (fU v_x.cJ v_n.lj).bind fun c3=>some (!c3)).bind fun q4=>(if q4=true then some true else (if lz=true then some (!bW) else some false).bind fun q5=>some q5).bind fun q6=>if q6=true then
 some (v_s,0,(⟨0,0,0,az.zero,0,0,false,0⟩ : ao))
 else
 (uv v_x v_n).bind fun c7=>if (!c7)=true then
 (if (lz==bW)=true then
 (Eu v_a.bL v_x.bq).bind fun c9=>let v_a:ak:={ v_a with bL:=c9 }
 (eo v_s v_a).bind fun c10=>let v_s:aa:=c10
 some (v_a,v_s)
 else
 some (v_a,v_s)).bind fun j8=>let v_a:=j8.1
 let v_s:=j8.2
 some (v_s,0,(⟨0,0,0,az.zero,0,0,false,0⟩ : ao))
 else
 (vV v_s v_a.bD v_n.a6 v_x.cJ).bind fun c11=>if (!c11)=true then
 some (v_s,0,(⟨0,0,0,az.zero,0,0,false,0⟩ : ao))
 else
 (zO v_s v_n.fId).bind fun c12=>(fU v_x.cJ c12).bind fun c13=>if c13=true then
 (nz v_s v_n v_a v_x).bind fun c14=>let v_t:aa:=c14.1
 let v_c:ao:=c14.2
 some (v_t,1,v_c)
 else
 (if lz=true then (wS v_s v_a.fId v_x.bq).bind fun c15=>some (!c15) else some false).bind fun q16=>if q16=true then
 (tr v_s (⟨v_n.fId,v_a.fId,v_x.bq⟩ : bA)).bind fun c17=>some (c17,2,(⟨0,0,0,az.zero,0,0,false,0⟩ : ao))
 else
 some (v_s,0,(⟨0,0,0,az.zero,0,0,false,0⟩ : ao))
def iz (v_a:ak) (v_j:Int) (cp:(List Int)) (v_n:aZ) (lz:Bool) (st:aa×Int) : Option ((aa×Int)⊕((aa×Int)⊕(aa×Int×ao))) :=
 let v_s:=st.1
 let v_k:=st.2
 if (decide (v_k < (v_a.bL.length:Int)))=true then
 (ar cp v_j).bind fun b8=>(ef v_s b8).bind fun c9=>let v_b:ak:=c9.1
 (ar v_a.bL v_k).bind fun b10=>(wT v_s v_n v_b b10 lz).bind fun c11=>let v_t:aa:=c11.1
 let Bl:Int:=c11.2.1
 let v_c:ao:=c11.2.2
 let v_s:aa:=v_t
 if (Bl != 0)=true then
 some (.inr (.inr (v_s,Bl,v_c)))
 else
 let v_k:Int:=(i64.wrap (v_k + 1))
 some (.inl (v_s,v_k))
 else
 some (.inr (.inl (v_s,v_k)))
def iA (cp:(List Int)) (v_i:Int) (ka:(List ByteArray)) (v_n:aZ) (lz:Bool) (st:aa×Int) : Option ((aa×Int)⊕((aa×Int)⊕(aa×Int×ao))) :=
 let v_s:=st.1
 let v_j:=st.2
 if (decide (v_j < (cp.length:Int)))=true then
 (ar cp v_j).bind fun b4=>(ef v_s b4).bind fun c5=>let v_a:ak:=c5.1
 (ar ka v_i).bind fun b6=>(vT v_s b6 v_n.a6 v_a.cD).bind fun c7=>if (!c7)=true then
 let v_j:Int:=(i64.wrap (v_j + 1))
 some (.inl (v_s,v_j))
 else
 let v_k:Int:=0
 (ai (iz v_a v_j cp v_n lz) ab (v_s,v_k)).bind fun r12=>match r12 with
 | .inr m13=>some (.inr (.inr m13))
 | .inl m13 =>
 let v_s:=m13.1
 let v_k:=m13.2
 let v_j:Int:=(i64.wrap (v_j + 1))
 some (.inl (v_s,v_j))
 else
 some (.inr (.inl (v_s,v_j)))
def iB (ka:(List ByteArray)) (v_n:aZ) (lz:Bool) (st:aa×Int) : Option ((aa×Int)⊕((aa×Int)⊕(aa×Int×ao))) :=
 let v_s:=st.1
 let v_i:=st.2
 if (decide (v_i < (ka.length:Int)))=true then
 (ar ka v_i).bind fun b2=>(AQ v_s b2).bind fun c3=>let cp:(List Int):=c3
 let v_j:Int:=0
 (ai (iA cp v_i ka v_n lz) ab (v_s,v_j)).bind fun r14=>match r14 with
 | .inr m15=>some (.inr (.inr m15))
 | .inl m15 =>
 let v_s:=m15.1
 let v_j:=m15.2
 let v_i:Int:=(i64.wrap (v_i + 1))
 some (.inl (v_s,v_i))
 else
 some (.inr (.inl (v_s,v_i)))
def ez (v_s:aa) (v_n:aZ) (lz:Bool) : Option (aa×Int×ao) :=
 (uw v_s v_n.a6).bind fun c1=>let ka:(List ByteArray):=c1
 let v_i:Int:=0
 (ai (iB ka v_n lz) ab (v_s,v_i)).bind fun r16=>match r16 with
 | .inr m17=>some m17
 | .inl m17 =>
 let v_s:=m17.1
 let v_i:=m17.2
 some (v_s,0,(⟨0,0,0,az.zero,0,0,false,0⟩ : ao))
def wU (v_s:aa) (cy:Int) : Option (aa×Int×ao) :=
 (nU v_s cy).bind fun c1=>let v_n:aZ:=c1.1
 let bW:Bool:=c1.2
 (if (!bW)=true then some true else some (!v_n.fUp)).bind fun q2=>(if q2=true then some true else some (decide ((v_s.ac.length:Int)≥200))).bind fun q3=>(if q3=true then some true else some (decide (v_s.sV≥1048575))).bind fun q4=>if q4=true then
 some (v_s,0,(⟨0,0,0,az.zero,0,0,false,0⟩ : ao))
 else
 (AE v_s cy).bind fun c5=>let v_x:bA:=c5.1
 let aa7:Bool:=c5.2
 if aa7=true then
 (tq v_s v_n v_x).bind fun c6=>let v_t:aa:=c6.1
 let Bl:Int:=c6.2.1
 let v_c:ao:=c6.2.2.1
 let cz:Bool:=c6.2.2.2
 let v_s:aa:=v_t
 if cz=true then
 some (v_s,Bl,v_c)
 else
 (ez v_s v_n true).bind fun c7=>let v_s:aa:=c7.1
 let yV:Int:=c7.2.1
 let xL:ao:=c7.2.2
 if (yV != 0)=true then
 some (v_s,yV,xL)
 else
 (ez v_s v_n false).bind fun c8=>some c8
 else
 (ez v_s v_n true).bind fun c9=>let v_s:aa:=c9.1
 let yV:Int:=c9.2.1
 let xL:ao:=c9.2.2
 if (yV != 0)=true then
 some (v_s,yV,xL)
 else
 (ez v_s v_n false).bind fun c10=>some c10
def jr (cy:Int) (st:aa×(List ao)×Int) : Option ((aa×(List ao)×Int)⊕((aa×(List ao)×Int))) :=
 let v_s:=st.1
 let v_l:=st.2.1
 let v_k:=st.2.2
 if (decide (v_k < 3))=true then
 (wU v_s cy).bind fun c1=>let v_t:aa:=c1.1
 let Bl:Int:=c1.2.1
 let v_c:ao:=c1.2.2
 let v_s:aa:=v_t
 if (Bl != 1)=true then
 some (.inr (v_s,v_l,v_k))
 else
 (aP v_l [v_c]).bind fun b2=>let v_l:(List ao):=b2
 let v_k:Int:=(i64.wrap (v_k + 1))
 some (.inl (v_s,v_l,v_k))
 else
 some (.inr (v_s,v_l,v_k))
def qT (v_s:aa) (cy:Int) : Option (aa×(List ao)) :=
 let v_l:(List ao):=[]
 let v_k:Int:=0
 (ai (jr cy) ab (v_s,v_l,v_k)).bind fun r3 =>
 let v_s:=r3.1
 let v_l:=r3.2.1
 let v_k:=r3.2.2
 some (v_s,v_l)
def mg (v_n:Int) : Option (Int) :=
 (if (decide (v_n < 0))=true then some true else some (decide (v_n > 1125899906842624))).bind fun q1=>if q1=true then
 some 0
 else
 some v_n
def oW (v_n:Int) (ce:(List Int)) (gX:(List Int)) (cr:(List Int)) (st:(List Int)×Int×Int) : Option (((List Int)×Int×Int)⊕(((List Int)×Int×Int))) :=
 let am:=st.1
 let ct:=st.2.1
 let v_i:=st.2.2
 if (decide (v_i < v_n))=true then
 (ar ce v_i).bind fun b2=>(mg b2).bind fun c3=>(ar gX v_i).bind fun b4=>(mg b4).bind fun c5=>(ar cr v_i).bind fun b6=>(mg b6).bind fun c7=>let v_x:Int:=(if ct < (if c7 < (if c5 < c3 then c5 else c3) then c7 else (if c5 < c3 then c5 else c3)) then ct else (if c7 < (if c5 < c3 then c5 else c3) then c7 else (if c5 < c3 then c5 else c3)))
 (aP am [v_x]).bind fun b8=>let am:(List Int):=b8
 let ct:Int:=(i64.wrap (ct - v_x))
 let v_i:Int:=(i64.wrap (v_i + 1))
 some (.inl (am,ct,v_i))
 else
 some (.inr (am,ct,v_i))
def oV (v_n:Int) (gX:(List Int)) (cr:(List Int)) (st:(List Int)×Int×Int) : Option (((List Int)×Int×Int)⊕(((List Int)×Int×Int))) :=
 let am:=st.1
 let ct:=st.2.1
 let aI:=st.2.2
 if (decide (aI < v_n))=true then
 (ar gX aI).bind fun b10=>(mg b10).bind fun c11=>(ar cr aI).bind fun b12=>(mg b12).bind fun c13=>(ar am aI).bind fun b14=>let abL:Int:=(if ct < (if 0 > (i64.wrap ((if c13 < c11 then c13 else c11) - b14)) then 0 else (i64.wrap ((if c13 < c11 then c13 else c11) - b14))) then ct else (if 0 > (i64.wrap ((if c13 < c11 then c13 else c11) - b14)) then 0 else (i64.wrap ((if c13 < c11 then c13 else c11) - b14))))
 (ar am aI).bind fun b15=>(ar am aI).bind fun b16=>let am:(List Int):=(List.set am (Int.toNat aI) (i64.wrap (b15 + abL)))
 let ct:Int:=(i64.wrap (ct - abL))
 let aI:Int:=(i64.wrap (aI + 1))
 some (.inl (am,ct,aI))
 else
 some (.inr (am,ct,aI))
def wQ (fR:Int) (ce:(List Int)) (gX:(List Int)) (cr:(List Int)) : Option ((List Int)) :=
 let v_n:Int:=(if (cr.length:Int) < (if (gX.length:Int) < (ce.length:Int) then (gX.length:Int) else (ce.length:Int)) then (cr.length:Int) else (if (gX.length:Int) < (ce.length:Int) then (gX.length:Int) else (ce.length:Int)))
 (mg fR).bind fun c1=>let ct:Int:=c1
 let am:(List Int):=[]
 let v_i:Int:=0
 (ai (oW v_n ce gX cr) ab (am,ct,v_i)).bind fun r9 =>
 let am:=r9.1
 let ct:=r9.2.1
 let v_i:=r9.2.2
 let aI:Int:=0
 (ai (oV v_n gX cr) ab (am,ct,aI)).bind fun r17 =>
 let am:=r17.1
 let ct:=r17.2.1
 let aI:=r17.2.2
 some am
def qR (self:(aa→ByteArray→Int→Int→Option ((List aj)))) (bF:(List ByteArray)) (v_s:aa) (af:Int) (st:(List Int)×(List Int)×(List Int)×Int) : Option (((List Int)×(List Int)×(List Int)×Int)⊕(((List Int)×(List Int)×(List Int)×Int))) :=
 let ce:=st.1
 let cr:=st.2.1
 let gX:=st.2.2.1
 let v_i:=st.2.2.2
 if (decide (v_i < (bF.length:Int)))=true then
 (ar bF v_i).bind fun b2=>(lW v_s b2 af).bind fun c3=>(aP ce [c3.bH]).bind fun b4=>let ce:(List Int):=b4
 (ar bF v_i).bind fun b5=>(wI v_s b5 af).bind fun c6=>(aP cr [c6.bH]).bind fun b7=>let cr:(List Int):=b7
 (ar bF v_i).bind fun b8=>(eT v_s b8 af).bind fun c9=>(ar bF v_i).bind fun b10=>(oG v_s b10 af).bind fun c11=>(aP gX [(i64.wrap (c9.bH + c11.bH))]).bind fun b12=>let gX:(List Int):=b12
 let v_i:Int:=(i64.wrap (v_i + 1))
 some (.inl (ce,cr,gX,v_i))
 else
 some (.inr (ce,cr,gX,v_i))
def qQ (self:(aa→ByteArray→Int→Int→Option ((List aj)))) (bF:(List ByteArray)) (v_s:aa) (af:Int) (v_x:(List Int)) (st:(List aj)×Int) : Option (((List aj)×Int)⊕(((List aj)×Int))) :=
 let am:=st.1
 let aI:=st.2
 if (decide (aI < (bF.length:Int)))=true then
 (ar bF aI).bind fun b15=>(ar v_x aI).bind fun b16=>(self v_s b15 af b16).bind fun c17=>(aP am c17).bind fun b18=>let am:(List aj):=b18
 let aI:Int:=(i64.wrap (aI + 1))
 some (.inl (am,aI))
 else
 some (.inr (am,aI))
def mh:Nat→aa→ByteArray→Int→Int→Option ((List aj))
 | 0=>fun _ _ _ _=>none
 | fuel + 1=>fun v_s aw af aaJ =>
 let self:=mh fuel
 (ek v_s.bB aw).bind fun c1=>let bF:(List ByteArray):=c1
 if ((bF.length:Int)==0)=true then
 some ([(⟨aw,aaJ⟩ : aj)] : (List aj))
 else
 let ce:(List Int):=[]
 let gX:(List Int):=[]
 let cr:(List Int):=[]
 let v_i:Int:=0
 (ai (qR self bF v_s af) ab (ce,cr,gX,v_i)).bind fun r13 =>
 let ce:=r13.1
 let cr:=r13.2.1
 let gX:=r13.2.2.1
 let v_i:=r13.2.2.2
 (wQ aaJ ce gX cr).bind fun c14=>let v_x:(List Int):=c14
 let am:(List aj):=[]
 let aI:Int:=0
 (ai (qQ self bF v_s af v_x) ab (am,aI)).bind fun r19 =>
 let am:=r19.1
 let aI:=r19.2
 some am
def gD (am:(List aj)) (v_i:Int) (v_l:(List aj)) (st:Int) : Option ((Int)⊕((Int))) :=
 let v_k:=st
 (if (decide (v_k < (am.length:Int)))=true then (ar am v_k).bind fun b3=>(ar v_l v_i).bind fun b4=>some (Op.bytesLess b3.aB.toList b4.aB.toList) else some false).bind fun q5=>if q5=true then
 let v_k:Int:=(i64.wrap (v_k + 1))
 some (.inl v_k)
 else
 some (.inr v_k)
def jK (v_l:(List aj)) (st:(List aj)×Int) : Option (((List aj)×Int)⊕(((List aj)×Int))) :=
 let am:=st.1
 let v_i:=st.2
 if (decide (v_i < (v_l.length:Int)))=true then
 let v_k:Int:=0
 (ai (gD am v_i v_l) ab v_k).bind fun r6 =>
 let v_k:=r6
 (hiO am v_k).bind fun b7=>(aP ([] : (List aj)) b7).bind fun b8=>let v_x:(List aj):=b8
 (ar v_l v_i).bind fun b9=>(aP v_x [b9]).bind fun b10=>let v_x:(List aj):=b10
 (loO am v_k).bind fun b11=>(aP v_x b11).bind fun b12=>let am:(List aj):=b12
 let v_i:Int:=(i64.wrap (v_i + 1))
 some (.inl (am,v_i))
 else
 some (.inr (am,v_i))
def qS (v_s:aa) (af:Int) : Option ((List aj)) :=
 let am:(List aj):=[]
 (jm v_s af).bind fun c1=>(mh ab v_s (⟨#[114,111,111,116]⟩ : ByteArray) af c1.bH).bind fun c2=>let v_l:(List aj):=c2
 let v_i:Int:=0
 (ai (jK v_l) ab (am,v_i)).bind fun r13 =>
 let am:=r13.1
 let v_i:=r13.2
 some am
def n6 (v_l:(List aj)) (aw:ByteArray) (st:Int) : Option ((Int)⊕((Int)⊕(Int))) :=
 let v_i:=st
 if (decide (v_i < (v_l.length:Int)))=true then
 (ar v_l v_i).bind fun b2=>if (b2.aB.toList==aw.toList)=true then
 (ar v_l v_i).bind fun b3=>some (.inr (.inr b3.bH))
 else
 let v_i:Int:=(i64.wrap (v_i + 1))
 some (.inl v_i)
 else
 some (.inr (.inl v_i))
def Ay (v_s:aa) (af:Int) (aw:ByteArray) : Option (Int) :=
 (qS v_s af).bind fun c1=>let v_l:(List aj):=c1
 let v_i:Int:=0
 (ai (n6 v_l aw) ab v_i).bind fun r4=>match r4 with
 | .inr m5=>some m5
 | .inl m5 =>
 let v_i:=m5
 some 0
def jp (v_s:aa) (v_c:ao) : Option (ByteArray) :=
 (ef v_s v_c.bE).bind fun c1=>let v_a:ak:=c1.1
 some v_a.bD
def kx (v_a:ak) (aw:ByteArray) (v_s:aa) (af:Int) (ce:Int) (mR:Int) (st:Int) : Option ((Int)⊕((Int)⊕(Int))) :=
 let v_k:=st
 (if (decide (v_k < (v_a.bL.length:Int)))=true then (dh v_a).bind fun c6=>some c6 else some false).bind fun q7=>(if q7=true then some (v_a.bD.toList==aw.toList) else some false).bind fun q8=>if q8=true then
 (ar v_a.bL v_k).bind fun b9=>(if (b9.a6==af)=true then (ar v_a.bL v_k).bind fun b10=>some (decide ((i64.wrap (b10.cJ.bH + mR))≤ce)) else some false).bind fun q11=>if q11=true then
 (oG v_s aw af).bind fun c12=>some (.inr (.inr (if (i64.wrap (ce - mR)) < c12.bH then (i64.wrap (ce - mR)) else c12.bH)))
 else
 let v_k:Int:=(i64.wrap (v_k + 1))
 some (.inl v_k)
 else
 some (.inr (.inl v_k))
def ky (v_s:aa) (aw:ByteArray) (af:Int) (ce:Int) (mR:Int) (st:Int) : Option ((Int)⊕((Int)⊕(Int))) :=
 let v_i:=st
 if (decide (v_i < (v_s.ah.length:Int)))=true then
 (ar v_s.ah v_i).bind fun b5=>let v_a:ak:=b5
 let v_k:Int:=0
 (ai (kx v_a aw v_s af ce mR) ab v_k).bind fun r13=>match r13 with
 | .inr m14=>some (.inr (.inr m14))
 | .inl m14 =>
 let v_k:=m14
 let v_i:Int:=(i64.wrap (v_i + 1))
 some (.inl v_i)
 else
 some (.inr (.inl v_i))
def tn (v_s:aa) (aw:ByteArray) (af:Int) : Option (Int) :=
 (eT v_s aw af).bind fun c1=>(lW v_s aw af).bind fun c2=>let t3:Int:=c1.bH
 let t4:Int:=c2.bH
 let mR:Int:=t3
 let ce:Int:=t4
 let v_i:Int:=0
 (ai (ky v_s aw af ce mR) ab v_i).bind fun r15=>match r15 with
 | .inr m16=>some m16
 | .inl m16 =>
 let v_i:=m16
 some 0
def pI (v_l:(List Int)) (v_n:Int) (st:Int) : Option ((Int)⊕((Int)⊕(Bool))) :=
 let v_i:=st
 if (decide (v_i < (v_l.length:Int)))=true then
 (ar v_l v_i).bind fun b1=>if (b1==v_n)=true then
 some (.inr (.inr true))
 else
 let v_i:Int:=(i64.wrap (v_i + 1))
 some (.inl v_i)
 else
 some (.inr (.inl v_i))
def yF (v_l:(List Int)) (v_n:Int) : Option (Bool) :=
 let v_i:Int:=0
 (ai (pI v_l v_n) ab v_i).bind fun r2=>match r2 with
 | .inr m3=>some m3
 | .inl m3 =>
 let v_i:=m3
 some false
def jJ (v_s:aa) (af:Int) (aw:ByteArray) (v_l:(List Int)) (st:Int×Int) : Option ((Int×Int)⊕((Int×Int))) :=
 let v_n:=st.1
 let v_i:=st.2
 if (decide (v_i < (v_s.ac.length:Int)))=true then
 (ar v_s.ac v_i).bind fun b1=>let v_c:ao:=b1
 (if (v_c.a6==af)=true then (if (aw.toList==(⟨#[]⟩ : ByteArray).toList)=true then some true else (jp v_s v_c).bind fun c2=>some (c2.toList==aw.toList)).bind fun q3=>some q3 else some false).bind fun q4=>(if q4=true then (if (v_c.jB != 0)=true then some true else (yF v_l v_c.fId).bind fun c5=>some c5).bind fun q6=>some q6 else some false).bind fun q7=>if q7=true then
 let v_n:Int:=(i64.wrap (v_n + v_c.cJ.bH))
 let v_i:Int:=(i64.wrap (v_i + 1))
 some (.inl (v_n,v_i))
 else
 let v_i:Int:=(i64.wrap (v_i + 1))
 some (.inl (v_n,v_i))
 else
 some (.inr (v_n,v_i))
def ny (v_s:aa) (aw:ByteArray) (af:Int) (v_l:(List Int)) : Option (Int) :=
 let v_n:Int:=0
 let v_i:Int:=0
 (ai (jJ v_s af aw v_l) ab (v_n,v_i)).bind fun r8 =>
 let v_n:=r8.1
 let v_i:=r8.2
 some v_n
def jI (v_s:aa) (af:Int) (aw:ByteArray) (v_l:(List Int)) (st:ao×Bool×Int) : Option ((ao×Bool×Int)⊕((ao×Bool×Int))) :=
 let cS:=st.1
 let bW:=st.2.1
 let v_i:=st.2.2
 if (decide (v_i < (v_s.ac.length:Int)))=true then
 (ar v_s.ac v_i).bind fun b3=>let v_c:ao:=b3
 (if (v_c.a6 != af)=true then some true else (jp v_s v_c).bind fun c4=>some (!(c4.toList==aw.toList))).bind fun q5=>(if q5=true then some true else some (v_c.jB != 0)).bind fun q6=>(if q6=true then some true else (yF v_l v_c.fId).bind fun c7=>some c7).bind fun q8=>if q8=true then
 let v_i:Int:=(i64.wrap (v_i + 1))
 some (.inl (cS,bW,v_i))
 else
 (if (!bW)=true then some true else (if cS.bb=true then some (!v_c.bb) else some false).bind fun q9=>some q9).bind fun q10=>(if q10=true then some true else (if (cS.bb==v_c.bb)=true then some (decide (v_c.fId > cS.fId)) else some false).bind fun q11=>some q11).bind fun q12=>if q12=true then
 let t13:ao:=v_c
 let t14:Bool:=true
 let cS:ao:=t13
 let bW:Bool:=t14
 let v_i:Int:=(i64.wrap (v_i + 1))
 some (.inl (cS,bW,v_i))
 else
 let v_i:Int:=(i64.wrap (v_i + 1))
 some (.inl (cS,bW,v_i))
 else
 some (.inr (cS,bW,v_i))
def qN (v_s:aa) (aw:ByteArray) (af:Int) (v_l:(List Int)) : Option (ao×Bool) :=
 let t1:ao:=(⟨0,0,0,az.zero,0,0,false,0⟩ : ao)
 let t2:Bool:=false
 let cS:ao:=t1
 let bW:Bool:=t2
 let v_i:Int:=0
 (ai (jI v_s af aw v_l) ab (cS,bW,v_i)).bind fun r15 =>
 let cS:=r15.1
 let bW:=r15.2.1
 let v_i:=r15.2.2
 some (cS,bW)
def me (bS:(List aj)) (v_s:aa) (af:Int) (st:Int×Int) : Option ((Int×Int)⊕((Int×Int))) :=
 let lw:=st.1
 let v_i:=st.2
 if (decide (v_i < (bS.length:Int)))=true then
 (ar bS v_i).bind fun b4=>(tn v_s b4.aB af).bind fun c5=>let lw:Int:=(i64.wrap (lw + c5))
 let v_i:Int:=(i64.wrap (v_i + 1))
 some (.inl (lw,v_i))
 else
 some (.inr (lw,v_i))
def mc (bS:(List aj)) (v_s:aa) (af:Int) (v_l:(List Int)) (st:Int×ao×Int) : Option ((Int×ao×Int)⊕((Int×ao×Int))) :=
 let cr:=st.1
 let v_x:=st.2.1
 let aI:=st.2.2
 if (decide (aI < (bS.length:Int)))=true then
 (ar bS aI).bind fun b10=>let v_p:ByteArray:=b10.aB
 (eT v_s v_p af).bind fun c11=>(ar bS aI).bind fun b12=>(ny v_s v_p af v_l).bind fun c13=>let EF:Int:=(i64.wrap ((i64.wrap (c11.bH - b12.bH)) - c13))
 (qN v_s v_p af v_l).bind fun c14=>let v_c:ao:=c14.1
 let bW:Bool:=c14.2
 (if bW=true then some (decide (EF > cr)) else some false).bind fun q15=>if q15=true then
 let t16:Int:=EF
 let t17:ao:=v_c
 let cr:Int:=t16
 let v_x:ao:=t17
 let aI:Int:=(i64.wrap (aI + 1))
 some (.inl (cr,v_x,aI))
 else
 let aI:Int:=(i64.wrap (aI + 1))
 some (.inl (cr,v_x,aI))
 else
 some (.inr (cr,v_x,aI))
def qP (v_s:aa) (af:Int) (lw:Int) (bS:(List aj)) (st:(List Int)) : Option (((List Int))⊕(((List Int))⊕((List Int)))) :=
 let v_l:=st
 (ny v_s (⟨#[]⟩ : ByteArray) af v_l).bind fun c7=>if (decide (c7 < lw))=true then
 let t8:Int:=0
 let t9:ao:=(⟨0,0,0,az.zero,0,0,false,0⟩ : ao)
 let cr:Int:=t8
 let v_x:ao:=t9
 let aI:Int:=0
 (ai (mc bS v_s af v_l) ab (cr,v_x,aI)).bind fun r18 =>
 let cr:=r18.1
 let v_x:=r18.2.1
 let aI:=r18.2.2
 if (cr==0)=true then
 some (.inr (.inr v_l))
 else
 (aP v_l [v_x.fId]).bind fun b19=>let v_l:(List Int):=b19
 some (.inl v_l)
 else
 some (.inr (.inl v_l))
def Aw (v_s:aa) (af:Int) : Option ((List Int)) :=
 (qS v_s af).bind fun c1=>let bS:(List aj):=c1
 (jm v_s af).bind fun c2=>(eT v_s (⟨#[114,111,111,116]⟩ : ByteArray) af).bind fun c3=>let lw:Int:=(i64.wrap (0 - (if 0 > (i64.wrap (c2.bH - c3.bH)) then 0 else (i64.wrap (c2.bH - c3.bH)))))
 let v_i:Int:=0
 (ai (me bS v_s af) ab (lw,v_i)).bind fun r6 =>
 let lw:=r6.1
 let v_i:=r6.2
 let v_l:(List Int):=[]
 (ai (qP v_s af lw bS) ab v_l).bind fun r20=>match r20 with
 | .inr m21=>some m21
 | .inl m21 =>
 let v_l:=m21
 some v_l
def qM (v_t:Int) (bJ:Int) (st:(List ao)×Int) : Option (((List ao)×Int)⊕(((List ao)×Int))) :=
 let v_l:=st.1
 let v_i:=st.2
 if (decide (v_i < (v_l.length:Int)))=true then
 (ar v_l v_i).bind fun b2=>if (b2.fId==bJ)=true then
 (ar v_l v_i).bind fun b3=>let v_l:(List ao):=(List.set v_l (Int.toNat v_i) ({ b3 with jB:=v_t }))
 let v_i:Int:=(i64.wrap (v_i + 1))
 some (.inl (v_l,v_i))
 else
 let v_i:Int:=(i64.wrap (v_i + 1))
 some (.inl (v_l,v_i))
 else
 some (.inr (v_l,v_i))
def oE (v_s:aa) (bJ:Int) (v_t:Int) : Option (aa) :=
 (aP ([] : (List ao)) v_s.ac).bind fun b1=>let v_l:(List ao):=b1
 let v_i:Int:=0
 (ai (qM v_t bJ) ab (v_l,v_i)).bind fun r4 =>
 let v_l:=r4.1
 let v_i:=r4.2
 let v_s:aa:={ v_s with ac:=v_l }
 some v_s
def mf (lu:aa) (yU:aa) (st:(List Int)×Int) : Option (((List Int)×Int)⊕(((List Int)×Int))) :=
 let v_l:=st.1
 let v_i:=st.2
 if (decide (v_i < (lu.ac.length:Int)))=true then
 (ar lu.ac v_i).bind fun b1=>(eV yU b1.fId).bind fun c2=>let bW:Bool:=c2.2
 if (!bW)=true then
 (ar lu.ac v_i).bind fun b3=>(aP v_l [b3.fId]).bind fun b4=>let v_l:(List Int):=b4
 let v_i:Int:=(i64.wrap (v_i + 1))
 some (.inl (v_l,v_i))
 else
 let v_i:Int:=(i64.wrap (v_i + 1))
 some (.inl (v_l,v_i))
 else
 some (.inr (v_l,v_i))
def vO (lu:aa) (yU:aa) : Option ((List Int)) :=
 let v_l:(List Int):=[]
 let v_i:Int:=0
 (ai (mf lu yU) ab (v_l,v_i)).bind fun r5 =>
 let v_l:=r5.1
 let v_i:=r5.2
 some v_l
def nx (v_s:aa) (v_c:ao) (st:Int×Int) : Option ((Int×Int)⊕((Int×Int))) :=
 let v_n:=st.1
 let v_i:=st.2
 (if (decide (v_i < (v_s.ac.length:Int)))=true then some v_c.bb else some false).bind fun q1=>if q1=true then
 (ar v_s.ac v_i).bind fun b2=>(if (b2.bE==v_c.bE)=true then (ar v_s.ac v_i).bind fun b3=>some (b3.fId != v_c.fId) else some false).bind fun q4=>(if q4=true then (ar v_s.ac v_i).bind fun b5=>some (b5.a6==v_c.a6) else some false).bind fun q6=>if q6=true then
 (ar v_s.ac v_i).bind fun b7=>let v_n:Int:=(i64.wrap (v_n + b7.cJ.bH))
 let v_i:Int:=(i64.wrap (v_i + 1))
 some (.inl (v_n,v_i))
 else
 let v_i:Int:=(i64.wrap (v_i + 1))
 some (.inl (v_n,v_i))
 else
 some (.inr (v_n,v_i))
def qL (v_s:aa) (v_c:ao) : Option (Int) :=
 let v_n:Int:=0
 let v_i:Int:=0
 (ai (nx v_s v_c) ab (v_n,v_i)).bind fun r8 =>
 let v_n:=r8.1
 let v_i:=r8.2
 some v_n
def qO (v_s:aa) (af:Int) (st:(List ao)×Int) : Option (((List ao)×Int)⊕(((List ao)×Int))) :=
 let v_l:=st.1
 let v_i:=st.2
 if (decide (v_i≥0))=true then
 (ar v_s.ac v_i).bind fun b1=>let v_c:ao:=b1
 (if (v_c.a6==af)=true then some (v_c.jB != 0) else some false).bind fun q2=>(if q2=true then some (decide ((i64.wrap (v_c.jB + 3))≤v_s.bZ)) else some false).bind fun q3=>if q3=true then
 (aP v_l [v_c]).bind fun b4=>let v_l:(List ao):=b4
 let v_i:Int:=(i64.wrap (v_i - 1))
 some (.inl (v_l,v_i))
 else
 let v_i:Int:=(i64.wrap (v_i - 1))
 some (.inl (v_l,v_i))
 else
 some (.inr (v_l,v_i))
def l8 (v_l:(List ao)) (af:Int) (st:aa×Int) : Option ((aa×Int)⊕((aa×Int))) :=
 let v_s:=st.1
 let aI:=st.2
 if (decide (aI < (v_l.length:Int)))=true then
 (ar v_l aI).bind fun b6=>(eV v_s b6.fId).bind fun c7=>let xL:ao:=c7.1
 let bW:Bool:=c7.2
 if (!bW)=true then
 let aI:Int:=(i64.wrap (aI + 1))
 some (.inl (v_s,aI))
 else
 (jp v_s xL).bind fun c8=>(eT v_s c8 af).bind fun c9=>(qL v_s xL).bind fun c10=>(jp v_s xL).bind fun c11=>(Ay v_s af c11).bind fun c12=>if (decide ((i64.wrap (c9.bH - c10)) > c12))=true then
 (jx v_s ([xL.fId] : (List Int))).bind fun c13=>let v_s:aa:=c13
 let aI:Int:=(i64.wrap (aI + 1))
 some (.inl (v_s,aI))
 else
 (oE v_s xL.fId 0).bind fun c14=>let v_s:aa:=c14
 let aI:Int:=(i64.wrap (aI + 1))
 some (.inl (v_s,aI))
 else
 some (.inr (v_s,aI))
def Ap (v_s:aa) (af:Int) : Option (aa) :=
 let v_l:(List ao):=[]
 let v_i:Int:=(i64.wrap ((v_s.ac.length:Int) - 1))
 (ai (qO v_s af) ab (v_l,v_i)).bind fun r5 =>
 let v_l:=r5.1
 let v_i:=r5.2
 let aI:Int:=0
 (ai (l8 v_l af) ab (v_s,aI)).bind fun r15 =>
 let v_s:=r15.1
 let aI:=r15.2
 some v_s
def kz (v_l:(List Int)) (st:aa×Int) : Option ((aa×Int)⊕((aa×Int))) :=
 let v_s:=st.1
 let v_i:=st.2
 if (decide (v_i < (v_l.length:Int)))=true then
 (ar v_l v_i).bind fun b3=>(oE v_s b3 (if 1 > v_s.bZ then 1 else v_s.bZ)).bind fun c4=>let v_s:aa:=c4
 let v_i:Int:=(i64.wrap (v_i + 1))
 some (.inl (v_s,v_i))
 else
 some (.inr (v_s,v_i))
def oU (st:aa×Int) : Option ((aa×Int)⊕((aa×Int))) :=
 let v_s:=st.1
 let af:=st.2
 if (decide (af < (v_s.bB.al.length:Int)))=true then
 (Ap v_s af).bind fun c1=>let v_s:aa:=c1
 (Aw v_s af).bind fun c2=>let v_l:(List Int):=c2
 let v_i:Int:=0
 (ai (kz v_l) ab (v_s,v_i)).bind fun r5 =>
 let v_s:=r5.1
 let v_i:=r5.2
 let af:Int:=(i64.wrap (af + 1))
 some (.inl (v_s,af))
 else
 some (.inr (v_s,af))
def wP (v_s:aa) : Option (aa×(List Int)) :=
 let lu:aa:=v_s
 let af:Int:=0
 (ai (oU) ab (v_s,af)).bind fun r6 =>
 let v_s:=r6.1
 let af:=r6.2
 (vO lu v_s).bind fun c7=>some (v_s,c7)
def pJ (v_l:(List a8)) (af:Int) (v_t:Int) (st:az×Int) : Option ((az×Int)⊕((az×Int))) :=
 let v_v:=st.1
 let v_i:=st.2
 if (decide (v_i < (v_l.length:Int)))=true then
 (ar v_l v_i).bind fun b1=>(if (b1.a6==af)=true then (ar v_l v_i).bind fun b2=>some (decide (b2.ou≤v_t)) else some false).bind fun q3=>(if q3=true then (ar v_l v_i).bind fun b4=>some (decide (v_t < b4.jY)) else some false).bind fun q5=>if q5=true then
 (ar v_l v_i).bind fun b6=>(dv v_v b6.iX).bind fun c7=>let v_v:az:=c7
 let v_i:Int:=(i64.wrap (v_i + 1))
 some (.inl (v_v,v_i))
 else
 let v_i:Int:=(i64.wrap (v_i + 1))
 some (.inl (v_v,v_i))
 else
 some (.inr (v_v,v_i))
def vS (v_l:(List a8)) (af:Int) (v_t:Int) : Option (az) :=
 let v_v:az:=(⟨0,0⟩ : az)
 let v_i:Int:=0
 (ai (pJ v_l af v_t) ab (v_v,v_i)).bind fun r8 =>
 let v_v:=r8.1
 let v_i:=r8.2
 some v_v
def vQ (v_n:Int) : Option (Bool) :=
 (if (decide (v_n≥0))=true then some (decide (v_n≤1073741824)) else some false).bind fun q1=>some q1
def mj (v_l:(List a8)) (v_t:Int) (gY:Int) (v_p:a8) (fR:az) (st:Int) : Option ((Int)⊕((Int)⊕(Bool))) :=
 let v_i:=st
 if (decide (v_i < (v_l.length:Int)))=true then
 (ar v_l v_i).bind fun b4=>let v_u:Int:=b4.ou
 (if (decide (v_u > v_t))=true then some (decide ((i64.wrap (v_u - v_t)) < gY)) else some false).bind fun q5=>(if q5=true then (vS v_l v_p.a6 v_u).bind fun c6=>(dv c6 v_p.iX).bind fun c7=>(fU c7 fR).bind fun c8=>some (!c8) else some false).bind fun q9=>if q9=true then
 some (.inr (.inr false))
 else
 let v_i:Int:=(i64.wrap (v_i + 1))
 some (.inl v_i)
 else
 some (.inr (.inl v_i))
def tp (v_l:(List a8)) (fR:az) (v_p:a8) (v_t:Int) (gY:Int) : Option (Bool) :=
 (vS v_l v_p.a6 v_t).bind fun c1=>(dv c1 v_p.iX).bind fun c2=>(fU c2 fR).bind fun c3=>if (!c3)=true then
 some false
 else
 let v_i:Int:=0
 (ai (mj v_l v_t gY v_p fR) ab v_i).bind fun r10=>match r10 with
 | .inr m11=>some m11
 | .inl m11 =>
 let v_i:=m11
 some true
def oX (v_l:(List a8)) (v_p:a8) (gY:Int) (fR:az) (st:Int×Int) : Option ((Int×Int)⊕((Int×Int))) :=
 let cS:=st.1
 let v_i:=st.2
 if (decide (v_i < (v_l.length:Int)))=true then
 let v_t:Int:=v_p.ou
 (if (decide (v_i≥0))=true then
 (ar v_l v_i).bind fun b11=>let v_t:Int:=b11.jY
 some v_t
 else
 some v_t).bind fun j10=>let v_t:=j10
 (if (decide (v_t≥v_p.ou))=true then some (decide (v_t≤1000000)) else some false).bind fun q12=>(if q12=true then some (decide ((i64.wrap (v_t + gY))≤v_p.jY)) else some false).bind fun q13=>(if q13=true then (if (decide (cS < 0))=true then some true else some (decide (v_t < cS))).bind fun q14=>some q14 else some false).bind fun q15=>(if q15=true then (tp v_l fR v_p v_t gY).bind fun c16=>some c16 else some false).bind fun q17=>if q17=true then
 let cS:Int:=v_t
 let v_i:Int:=(i64.wrap (v_i + 1))
 some (.inl (cS,v_i))
 else
 let v_i:Int:=(i64.wrap (v_i + 1))
 some (.inl (cS,v_i))
 else
 some (.inr (cS,v_i))
def wR (v_l:(List a8)) (fR:az) (v_p:a8) (gY:Int) : Option (Int×Int) :=
 (if (decide (gY < 1))=true then some true else some (decide (gY > 1000))).bind fun q1=>(if q1=true then some true else some (decide (v_p.ou < 0))).bind fun q2=>(if q2=true then some true else some (decide (v_p.ou > 1000000))).bind fun q3=>(if q3=true then some true else some (decide (v_p.jY < 0))).bind fun q4=>(if q4=true then some true else some (decide (v_p.jY > 1000000))).bind fun q5=>(if q5=true then some true else (vQ v_p.iX.bH).bind fun c6=>some (!c6)).bind fun q7=>(if q7=true then some true else (vQ v_p.iX.be).bind fun c8=>some (!c8)).bind fun q9=>if q9=true then
 some (0,1)
 else
 let cS:Int:=(-1)
 let v_i:Int:=(-1)
 (ai (oX v_l v_p gY fR) ab (cS,v_i)).bind fun r18 =>
 let cS:=r18.1
 let v_i:=r18.2
 if (decide (cS < 0))=true then
 some (0,16)
 else
 some (cS,0)
def n7 (v_s:aa) (v_p:a8) (st:Int×Int) : Option ((Int×Int)⊕((Int×Int)⊕(aa×Int×Int))) :=
 let v_k:=st.1
 let v_i:=st.2
 if (decide (v_i < (v_s.bl.length:Int)))=true then
 (ar v_s.bl v_i).bind fun b5=>if (b5.fId==v_p.fId)=true then
 some (.inr (.inr (v_s,0,7)))
 else
 (ar v_s.bl v_i).bind fun b6=>if (decide (b6.fId < v_p.fId))=true then
 let v_k:Int:=(i64.wrap (v_i + 1))
 let v_i:Int:=(i64.wrap (v_i + 1))
 some (.inl (v_k,v_i))
 else
 let v_i:Int:=(i64.wrap (v_i + 1))
 some (.inl (v_k,v_i))
 else
 some (.inr (.inl (v_k,v_i)))
def AC (v_s:aa) (v_p:a8) (gY:Int) : Option (aa×Int×Int) :=
 (if (decide (v_p.fId < 0))=true then some true else some (decide (v_p.fId > 999))).bind fun q1=>(if q1=true then some true else some (decide (v_p.a6 < 0))).bind fun q2=>(if q2=true then some true else some (decide (v_p.a6≥(v_s.bB.al.length:Int)))).bind fun q3=>(if q3=true then some true else some ((v_p.iX.bH==(⟨0,0⟩ : az).bH)&&(v_p.iX.be==(⟨0,0⟩ : az).be))).bind fun q4=>if q4=true then
 some (v_s,0,1)
 else
 let v_k:Int:=0
 let v_i:Int:=0
 (ai (n7 v_s v_p) ab (v_k,v_i)).bind fun r7=>match r7 with
 | .inr m8=>some m8
 | .inl m8 =>
 let v_k:=m8.1
 let v_i:=m8.2
 if (decide ((v_s.bl.length:Int)≥12))=true then
 some (v_s,0,4)
 else
 if (decide (v_p.ou < v_s.bZ))=true then
 some (v_s,0,15)
 else
 (jm v_s v_p.a6).bind fun c9=>(wR v_s.bl c9 v_p gY).bind fun c10=>let v_t:Int:=c10.1
 let v_e:Int:=c10.2
 if (v_e != 0)=true then
 some (v_s,0,v_e)
 else
 (hiO v_s.bl v_k).bind fun b11=>(aP ([] : (List a8)) b11).bind fun b12=>let v_l:(List a8):=b12
 (aP v_l [(⟨v_p.fId,v_p.a6,v_t,(i64.wrap (v_t + gY)),v_p.iX⟩ : a8)]).bind fun b13=>let v_l:(List a8):=b13
 (loO v_s.bl v_k).bind fun b14=>(aP v_l b14).bind fun b15=>let v_s:aa:={ v_s with bl:=b15 }
 some (v_s,v_t,0)
def ml (v_s:aa) (bJ:Int) (st:(List a8)×Int) : Option (((List a8)×Int)⊕(((List a8)×Int))) :=
 let v_l:=st.1
 let v_i:=st.2
 if (decide (v_i < (v_s.bl.length:Int)))=true then
 (ar v_s.bl v_i).bind fun b1=>if (b1.fId != bJ)=true then
 (ar v_s.bl v_i).bind fun b2=>(aP v_l [b2]).bind fun b3=>let v_l:(List a8):=b3
 let v_i:Int:=(i64.wrap (v_i + 1))
 some (.inl (v_l,v_i))
 else
 let v_i:Int:=(i64.wrap (v_i + 1))
 some (.inl (v_l,v_i))
 else
 some (.inr (v_l,v_i))
def vR (v_s:aa) (bJ:Int) : Option (aa×Int) :=
 let v_l:(List a8):=[]
 let v_i:Int:=0
 (ai (ml v_s bJ) ab (v_l,v_i)).bind fun r4 =>
 let v_l:=r4.1
 let v_i:=r4.2
 if ((v_l.length:Int)==(v_s.bl.length:Int))=true then
 some (v_s,2)
 else
 let v_s:aa:={ v_s with bl:=v_l }
 some (v_s,0)
def un (v_s:ByteArray) (v_c:Int) (st:(List ByteArray)×Int×Int) : Option (((List ByteArray)×Int×Int)⊕(((List ByteArray)×Int×Int))) :=
 let v_l:=st.1
 let pq:=st.2.1
 let v_i:=st.2.2
 if (decide (v_i < (v_s.size:Int)))=true then
 (ke v_s v_i).bind fun b1=>if (b1==v_c)=true then
 (KL v_s pq v_i).bind fun b2=>(aP v_l [b2]).bind fun b3=>let v_l:(List ByteArray):=b3
 let pq:Int:=(i64.wrap (v_i + 1))
 let v_i:Int:=(i64.wrap (v_i + 1))
 some (.inl (v_l,pq,v_i))
 else
 let v_i:Int:=(i64.wrap (v_i + 1))
 some (.inl (v_l,pq,v_i))
 else
 some (.inr (v_l,pq,v_i))
def He (v_s:ByteArray) (v_c:Int) : Option ((List ByteArray)) :=
 let v_l:(List ByteArray):=[]
 let pq:Int:=0
 let v_i:Int:=0
 (ai (un v_s v_c) ab (v_l,pq,v_i)).bind fun r4 =>
 let v_l:=r4.1
 let pq:=r4.2.1
 let v_i:=r4.2.2
 (if (decide (pq < (v_s.size:Int)))=true then
 (Uk v_s pq).bind fun b6=>(aP v_l [b6]).bind fun b7=>let v_l:(List ByteArray):=b7
 some v_l
 else
 some v_l).bind fun j5=>let v_l:=j5
 some v_l
def qx (v_l:(List ByteArray)) (st:(List ByteArray)×Int) : Option (((List ByteArray)×Int)⊕(((List ByteArray)×Int))) :=
 let am:=st.1
 let v_i:=st.2
 if (decide (v_i < (v_l.length:Int)))=true then
 (ar v_l v_i).bind fun b2=>if (!(b2.toList==(⟨#[]⟩ : ByteArray).toList))=true then
 (ar v_l v_i).bind fun b3=>(aP am [b3]).bind fun b4=>let am:(List ByteArray):=b4
 let v_i:Int:=(i64.wrap (v_i + 1))
 some (.inl (am,v_i))
 else
 let v_i:Int:=(i64.wrap (v_i + 1))
 some (.inl (am,v_i))
 else
 some (.inr (am,v_i))
def zS (v_s:ByteArray) : Option ((List ByteArray)) :=
 let am:(List ByteArray):=[]
 (He v_s 32).bind fun c1=>let v_l:(List ByteArray):=c1
 let v_i:Int:=0
 (ai (qx v_l) ab (am,v_i)).bind fun r5 =>
 let am:=r5.1
 let v_i:=r5.2
 some am
def oT (v_s:ByteArray) (st:Int×Int) : Option ((Int×Int)⊕((Int×Int)⊕(Int×Bool))) :=
 let v_n:=st.1
 let v_i:=st.2
 if (decide (v_i < (v_s.size:Int)))=true then
 (ke v_s v_i).bind fun b5=>(if (decide (b5 < 48))=true then some true else (ke v_s v_i).bind fun b6=>some (decide (b6 > 57))).bind fun q7=>if q7=true then
 some (.inr (.inr (0,false)))
 else
 (ke v_s v_i).bind fun b8=>let v_n:Int:=(i64.wrap ((i64.wrap (v_n * 10)) + (i64.wrap (IntKind.u8.wrap (b8 - 48)))))
 let v_i:Int:=(i64.wrap (v_i + 1))
 some (.inl (v_n,v_i))
 else
 some (.inr (.inl (v_n,v_i)))
def pV (v_s:ByteArray) : Option (Int×Bool) :=
 (if (decide ((v_s.size:Int) < 1))=true then some true else some (decide ((v_s.size:Int) > 7))).bind fun q1=>(if q1=true then some true else (ke v_s 0).bind fun b2=>(if (b2==48)=true then some (decide ((v_s.size:Int) > 1)) else some false).bind fun q3=>some q3).bind fun q4=>if q4=true then
 some (0,false)
 else
 let v_n:Int:=0
 let v_i:Int:=0
 (ai (oT v_s) ab (v_n,v_i)).bind fun r9=>match r9 with
 | .inr m10=>some m10
 | .inl m10 =>
 let v_n:=m10.1
 let v_i:=m10.2
 some (v_n,true)
def qy (v_s:ByteArray) (st:Int) : Option ((Int)⊕((Int))) :=
 let v_k:=st
 (if (decide (v_k < (v_s.size:Int)))=true then (ke v_s v_k).bind fun b1=>some (b1 != 47) else some false).bind fun q2=>if q2=true then
 let v_k:Int:=(i64.wrap (v_k + 1))
 some (.inl v_k)
 else
 some (.inr v_k)
def zT (v_s:ByteArray) : Option (eB×Bool) :=
 let v_k:Int:=0
 (ai (qy v_s) ab v_k).bind fun r3 =>
 let v_k:=r3
 if (v_k==(v_s.size:Int))=true then
 some ((⟨0,0⟩ : eB),false)
 else
 (Ij v_s v_k).bind fun b4=>(pV b4).bind fun c5=>let v_a:Int:=c5.1
 let v_p:Bool:=c5.2
 (Uk v_s (i64.wrap (v_k + 1))).bind fun b6=>(pV b6).bind fun c7=>let v_b:Int:=c7.1
 let v_q:Bool:=c7.2
 (if v_p=true then some v_q else some false).bind fun q8=>some ((⟨v_a,v_b⟩ : eB),q8)
def qz (v_w:(List ByteArray)) (st:Bool×av×Int) : Option ((Bool×av×Int)⊕((Bool×av×Int))) :=
 let eD:=st.1
 let v_q:=st.2.1
 let v_i:=st.2.2
 (if (decide (v_i < (v_w.length:Int)))=true then some eD else some false).bind fun q6=>if q6=true then
 let v_c:eB:=(⟨0,0⟩ : eB)
 (ar v_w v_i).bind fun b7=>(zT b7).bind fun c8=>let v_c:eB:=c8.1
 let eD:Bool:=c8.2
 (aP v_q.bu [v_c]).bind fun b9=>let v_q:av:={ v_q with bu:=b9 }
 let v_i:Int:=(i64.wrap (v_i + 1))
 some (.inl (eD,v_q,v_i))
 else
 some (.inr (eD,v_q,v_i))
def zU (v_w:(List ByteArray)) (su:Int) : Option (av×Bool) :=
 (if ((v_w.length:Int) != (i64.wrap (3 + su)))=true then some true else (ar v_w 0).bind fun b1=>some (!(b1.toList==(⟨#[113,117,101,117,101]⟩ : ByteArray).toList))).bind fun q2=>if q2=true then
 some ((⟨⟨#[]⟩,[],0⟩ : av),false)
 else
 (ar v_w 2).bind fun b3=>(pV b3).bind fun c4=>let v_n:Int:=c4.1
 let eD:Bool:=c4.2
 (ar v_w 1).bind fun b5=>let v_q:av:=(⟨b5,[],v_n⟩ : av)
 let v_i:Int:=3
 (ai (qz v_w) ab (eD,v_q,v_i)).bind fun r10 =>
 let eD:=r10.1
 let v_q:=r10.2.1
 let v_i:=r10.2.2
 some (v_q,eD)
def qA (v_c:ax) (v_q:av) (st:Int) : Option ((Int)⊕((Int))) :=
 let v_k:=st
 (if (decide (v_k < (v_c.ae.length:Int)))=true then (ar v_c.ae v_k).bind fun b10=>some (Op.bytesLess b10.aB.toList v_q.aB.toList) else some false).bind fun q11=>if q11=true then
 let v_k:Int:=(i64.wrap (v_k + 1))
 some (.inl v_k)
 else
 some (.inr v_k)
def qB (v_l:(List ByteArray)) (st:ax×Bool×Int) : Option ((ax×Bool×Int)⊕((ax×Bool×Int)⊕(ax×Int))) :=
 let v_c:=st.1
 let nP:=st.2.1
 let v_i:=st.2.2
 if (decide (v_i < (v_l.length:Int)))=true then
 (ar v_l v_i).bind fun b2=>(zS b2).bind fun c3=>let v_w:(List ByteArray):=c3
 if ((v_w.length:Int)==0)=true then
 let v_i:Int:=(i64.wrap (v_i + 1))
 some (.inl (v_c,nP,v_i))
 else
 if ((v_c.al.length:Int)==0)=true then
 (ar v_w 0).bind fun b4=>if (!(b4.toList==(⟨#[108,97,98,101,108,115]⟩ : ByteArray).toList))=true then
 some (.inr (.inr ((⟨[],[]⟩ : ax),6)))
 else
 if (decide ((v_w.length:Int) > 3))=true then
 some (.inr (.inr ((⟨[],[]⟩ : ax),4)))
 else
 (loO v_w 1).bind fun b5=>(aP ([(⟨#[]⟩ : ByteArray)] : (List ByteArray)) b5).bind fun b6=>let v_c:ax:={ v_c with al:=b6 }
 let v_i:Int:=(i64.wrap (v_i + 1))
 some (.inl (v_c,nP,v_i))
 else
 (if ((v_c.ae.length:Int)==16)=true then (ar v_w 0).bind fun b7=>some (b7.toList==(⟨#[113,117,101,117,101]⟩ : ByteArray).toList) else some false).bind fun q8=>if q8=true then
 some (.inr (.inr ((⟨[],[]⟩ : ax),4)))
 else
 (zU v_w (v_c.al.length:Int)).bind fun c9=>let v_q:av:=c9.1
 let eD:Bool:=c9.2
 if (!eD)=true then
 some (.inr (.inr ((⟨[],[]⟩ : ax),6)))
 else
 let v_k:Int:=0
 (ai (qA v_c v_q) ab v_k).bind fun r12 =>
 let v_k:=r12
 (if nP=true then some true else (if (decide (v_k < (v_c.ae.length:Int)))=true then (ar v_c.ae v_k).bind fun b13=>some (b13.aB.toList==v_q.aB.toList) else some false).bind fun q14=>some q14).bind fun q15=>let nP:Bool:=q15
 (hiO v_c.ae v_k).bind fun b16=>(aP ([] : (List av)) b16).bind fun b17=>let v_x:(List av):=b17
 (aP v_x [v_q]).bind fun b18=>(loO v_c.ae v_k).bind fun b19=>(aP b18 b19).bind fun b20=>let v_c:ax:={ v_c with ae:=b20 }
 let v_i:Int:=(i64.wrap (v_i + 1))
 some (.inl (v_c,nP,v_i))
 else
 some (.inr (.inl (v_c,nP,v_i)))
def zW (v_s:ByteArray) : Option (ax×Int) :=
 if (decide ((v_s.size:Int) > 2000))=true then
 some ((⟨[],[]⟩ : ax),5)
 else
 let v_c:ax:=(⟨[],[]⟩ : ax)
 let nP:Bool:=false
 (He v_s 10).bind fun c1=>let v_l:(List ByteArray):=c1
 let v_i:Int:=0
 (ai (qB v_l) ab (v_c,nP,v_i)).bind fun r21=>match r21 with
 | .inr m22=>some m22
 | .inl m22 =>
 let v_c:=m22.1
 let nP:=m22.2.1
 let v_i:=m22.2.2
 if ((v_c.al.length:Int)==0)=true then
 some ((⟨[],[]⟩ : ax),6)
 else
 if nP=true then
 some ((⟨[],[]⟩ : ax),7)
 else
 some (v_c,0)
def dB:Nat→Int→Option (ByteArray)
 | 0=>fun _=>none
 | fuel + 1=>fun v_n =>
 let self:=dB fuel
 if (decide (v_n < 0))=true then
 if (v_n==(-9223372036854775808))=true then
 some (⟨#[45,57,50,50,51,51,55,50,48,51,54,56,53,52,55,55,53,56,48,56]⟩ : ByteArray)
 else
 (self (i64.wrap (0 - v_n))).bind fun c1=>(mM (⟨#[45]⟩ : ByteArray) c1).bind fun b2=>some b2
 else
 if (decide (v_n≥10))=true then
 (self (i64.wrap (Int.tdiv v_n 10))).bind fun c3=>(self (Int.tmod v_n 10)).bind fun c4=>(mM c3 c4).bind fun b5=>some b5
 else
 (ZD ([(IntKind.u8.wrap (i64.wrap (48 + v_n)))] : (List Int))).bind fun b6=>some b6
def sa (v_c:ax) (st:ByteArray×Int) : Option ((ByteArray×Int)⊕((ByteArray×Int))) :=
 let am:=st.1
 let v_i:=st.2
 if (decide (v_i < (v_c.al.length:Int)))=true then
 (mM am (⟨#[32]⟩ : ByteArray)).bind fun b1=>(ar v_c.al v_i).bind fun b2=>(mM b1 b2).bind fun b3=>let am:ByteArray:=b3
 let v_i:Int:=(i64.wrap (v_i + 1))
 some (.inl (am,v_i))
 else
 some (.inr (am,v_i))
def rY (v_q:av) (st:ByteArray×Int) : Option ((ByteArray×Int)⊕((ByteArray×Int))) :=
 let am:=st.1
 let v_k:=st.2
 if (decide (v_k < (v_q.bu.length:Int)))=true then
 (mM am (⟨#[32]⟩ : ByteArray)).bind fun b12=>(ar v_q.bu v_k).bind fun b13=>(dB ab b13.kN).bind fun c14=>(mM b12 c14).bind fun b15=>(mM b15 (⟨#[47]⟩ : ByteArray)).bind fun b16=>(ar v_q.bu v_k).bind fun b17=>(dB ab b17.sW).bind fun c18=>(mM b16 c18).bind fun b19=>let am:ByteArray:=b19
 let v_k:Int:=(i64.wrap (v_k + 1))
 some (.inl (am,v_k))
 else
 some (.inr (am,v_k))
def rZ (v_c:ax) (st:ByteArray×Int) : Option ((ByteArray×Int)⊕((ByteArray×Int))) :=
 let am:=st.1
 let aI:=st.2
 if (decide (aI < (v_c.ae.length:Int)))=true then
 (ar v_c.ae aI).bind fun b6=>let v_q:av:=b6
 (mM am (⟨#[113,117,101,117,101,32]⟩ : ByteArray)).bind fun b7=>(mM b7 v_q.aB).bind fun b8=>(mM b8 (⟨#[32]⟩ : ByteArray)).bind fun b9=>(dB ab v_q.cD).bind fun c10=>(mM b9 c10).bind fun b11=>let am:ByteArray:=b11
 let v_k:Int:=0
 (ai (rY v_q) ab (am,v_k)).bind fun r20 =>
 let am:=r20.1
 let v_k:=r20.2
 (mM am (⟨#[10]⟩ : ByteArray)).bind fun b21=>let am:ByteArray:=b21
 let aI:Int:=(i64.wrap (aI + 1))
 some (.inl (am,aI))
 else
 some (.inr (am,aI))
def zV (v_c:ax) : Option (ByteArray) :=
 let am:ByteArray:=(⟨#[108,97,98,101,108,115]⟩ : ByteArray)
 let v_i:Int:=1
 (ai (sa v_c) ab (am,v_i)).bind fun r4 =>
 let am:=r4.1
 let v_i:=r4.2
 (mM am (⟨#[10]⟩ : ByteArray)).bind fun b5=>let am:ByteArray:=b5
 let aI:Int:=0
 (ai (rZ v_c) ab (am,aI)).bind fun r22 =>
 let am:=r22.1
 let aI:=r22.2
 some am
def sf (v_a:ax) (v_b:ax) (st:Int) : Option ((Int)⊕((Int)⊕(Bool))) :=
 let v_i:=st
 if (decide (v_i < (v_a.al.length:Int)))=true then
 (ar v_a.al v_i).bind fun b2=>(ar v_b.al v_i).bind fun b3=>if (!(b2.toList==b3.toList))=true then
 some (.inr (.inr false))
 else
 let v_i:Int:=(i64.wrap (v_i + 1))
 some (.inl v_i)
 else
 some (.inr (.inl v_i))
def sd (v_x:av) (v_y:av) (st:Int) : Option ((Int)⊕((Int)⊕(Bool))) :=
 let v_k:=st
 if (decide (v_k < (v_x.bu.length:Int)))=true then
 (ar v_x.bu v_k).bind fun b12=>(ar v_y.bu v_k).bind fun b13=>if (!((b12.kN==b13.kN)&&(b12.sW==b13.sW)))=true then
 some (.inr (.inr false))
 else
 let v_k:Int:=(i64.wrap (v_k + 1))
 some (.inl v_k)
 else
 some (.inr (.inl v_k))
def se (v_a:ax) (v_b:ax) (st:Int) : Option ((Int)⊕((Int)⊕(Bool))) :=
 let aI:=st
 if (decide (aI < (v_a.ae.length:Int)))=true then
 (ar v_a.ae aI).bind fun b6=>(ar v_b.ae aI).bind fun b7=>let t8:av:=b6
 let t9:av:=b7
 let v_x:av:=t8
 let v_y:av:=t9
 (if (!(v_x.aB.toList==v_y.aB.toList))=true then some true else some (v_x.cD != v_y.cD)).bind fun q10=>(if q10=true then some true else some ((v_x.bu.length:Int) != (v_y.bu.length:Int))).bind fun q11=>if q11=true then
 some (.inr (.inr false))
 else
 let v_k:Int:=0
 (ai (sd v_x v_y) ab v_k).bind fun r14=>match r14 with
 | .inr m15=>some (.inr (.inr m15))
 | .inl m15 =>
 let v_k:=m15
 let aI:Int:=(i64.wrap (aI + 1))
 some (.inl aI)
 else
 some (.inr (.inl aI))
def Ez (v_a:ax) (v_b:ax) : Option (Bool) :=
 (if ((v_a.al.length:Int) != (v_b.al.length:Int))=true then some true else some ((v_a.ae.length:Int) != (v_b.ae.length:Int))).bind fun q1=>if q1=true then
 some false
 else
 let v_i:Int:=0
 (ai (sf v_a v_b) ab v_i).bind fun r4=>match r4 with
 | .inr m5=>some m5
 | .inl m5 =>
 let v_i:=m5
 let aI:Int:=0
 (ai (se v_a v_b) ab aI).bind fun r16=>match r16 with
 | .inr m17=>some m17
 | .inl m17 =>
 let aI:=m17
 some true
def An:Option (aa) :=
 some (⟨(⟨([(⟨#[]⟩ : ByteArray)] : (List ByteArray)),([(⟨(⟨#[114,111,111,116]⟩ : ByteArray),([(⟨10000,10000⟩ : eB)] : (List eB)),10000⟩ : av)] : (List av))⟩ : ax),[],[],[],[],[],0,0,0⟩ : aa)
def dS (v_s:aa) (v_e:Int) : Option (aa×bz) :=
 some (v_s,(⟨v_e,[],[],[],0⟩ : bz))
def jH (v_s:aa) (v_c:ax) (st:Int) : Option ((Int)⊕((Int)⊕(aa×bz))) :=
 let v_i:=st
 if (decide (v_i < (v_s.bB.al.length:Int)))=true then
 (ar v_c.al v_i).bind fun b6=>(ar v_s.bB.al v_i).bind fun b7=>if (!(b6.toList==b7.toList))=true then
 (dS v_s 14).bind fun c8=>some (.inr (.inr c8))
 else
 let v_i:Int:=(i64.wrap (v_i + 1))
 some (.inl v_i)
 else
 some (.inr (.inl v_i))
def jG (v_s:aa) (v_c:ax) (st:Int) : Option ((Int)⊕((Int)⊕(aa×bz))) :=
 let aI:=st
 if (decide (aI < (v_s.ah.length:Int)))=true then
 (ar v_s.ah aI).bind fun b11=>(dh b11).bind fun c12=>(if c12=true then (ar v_s.ah aI).bind fun b13=>(iY v_c b13.bD).bind fun c14=>some (!c14) else some false).bind fun q15=>if q15=true then
 (dS v_s 14).bind fun c16=>some (.inr (.inr c16))
 else
 let aI:Int:=(i64.wrap (aI + 1))
 some (.inl aI)
 else
 some (.inr (.inl aI))
def ur (v_s:aa) (aa5:ByteArray) : Option (aa×bz) :=
 (zW aa5).bind fun c1=>let v_c:ax:=c1.1
 let v_e:Int:=c1.2
 (if (v_e==0)=true then
 (vI v_c).bind fun c3=>let v_e:Int:=c3
 some v_e
 else
 some v_e).bind fun j2=>let v_e:=j2
 if (v_e != 0)=true then
 (dS v_s v_e).bind fun c4=>some c4
 else
 if (decide ((v_c.al.length:Int) < (v_s.bB.al.length:Int)))=true then
 (dS v_s 14).bind fun c5=>some c5
 else
 let v_i:Int:=0
 (ai (jH v_s v_c) ab v_i).bind fun r9=>match r9 with
 | .inr m10=>some m10
 | .inl m10 =>
 let v_i:=m10
 let aI:Int:=0
 (ai (jG v_s v_c) ab aI).bind fun r17=>match r17 with
 | .inr m18=>some m18
 | .inl m18 =>
 let aI:=m18
 let v_s:aa:={ v_s with bB:=v_c }
 some (v_s,(⟨0,[],[],[],0⟩ : bz))
def pH (v_s:aa) (cy:Int) (st:(List Int)×Int) : Option (((List Int)×Int)⊕(((List Int)×Int))) :=
 let v_l:=st.1
 let v_i:=st.2
 if (decide (v_i < (v_s.ac.length:Int)))=true then
 (ar v_s.ac v_i).bind fun b1=>if (b1.bM==cy)=true then
 (ar v_s.ac v_i).bind fun b2=>(aP v_l [b2.fId]).bind fun b3=>let v_l:(List Int):=b3
 let v_i:Int:=(i64.wrap (v_i + 1))
 some (.inl (v_l,v_i))
 else
 let v_i:Int:=(i64.wrap (v_i + 1))
 some (.inl (v_l,v_i))
 else
 some (.inr (v_l,v_i))
def yA (v_s:aa) (cy:Int) : Option ((List Int)) :=
 let v_l:(List Int):=[]
 let v_i:Int:=0
 (ai (pH v_s cy) ab (v_l,v_i)).bind fun r4 =>
 let v_l:=r4.1
 let v_i:=r4.2
 some v_l
def l7 (v_x:aK) (v_t:aa) (st:(List Int)×Int) : Option (((List Int)×Int)⊕(((List Int)×Int))) :=
 let cp:=st.1
 let v_i:=st.2
 if (decide (v_i < (v_x.gf.length:Int)))=true then
 (ar v_x.gf v_i).bind fun b7=>(eV v_t b7).bind fun c8=>let v_c:ao:=c8.1
 let yW:Bool:=c8.2
 (if yW=true then some (v_c.bM==v_x.fId) else some false).bind fun q9=>if q9=true then
 (aP cp [v_c.fId]).bind fun b10=>let cp:(List Int):=b10
 let v_i:Int:=(i64.wrap (v_i + 1))
 some (.inl (cp,v_i))
 else
 let v_i:Int:=(i64.wrap (v_i + 1))
 some (.inl (cp,v_i))
 else
 some (.inr (cp,v_i))
def Am (v_s:aa) (v_x:aK) : Option (aa×bz) :=
 (nU v_s v_x.fId).bind fun c1=>let v_n:aZ:=c1.1
 let bW:Bool:=c1.2
 (if bW=true then some v_n.fUp else some false).bind fun q2=>(if q2=true then some (v_n.ci==v_x.ci) else some false).bind fun q3=>if q3=true then
 (yA v_s v_x.fId).bind fun c4=>some (v_s,(⟨0,[],c4,[],0⟩ : bz))
 else
 (Ew v_s v_x.fId v_x.ci).bind fun c5=>let v_t:aa:=c5.1
 let v_e:Int:=c5.2
 if (v_e != 0)=true then
 (dS v_s v_e).bind fun c6=>some c6
 else
 let cp:(List Int):=[]
 let v_i:Int:=0
 (ai (l7 v_x v_t) ab (cp,v_i)).bind fun r11 =>
 let cp:=r11.1
 let v_i:=r11.2
 (jx v_t cp).bind fun c12=>let v_t:aa:=c12
 (qT v_t v_x.fId).bind fun c13=>let v_t:aa:=c13.1
 (yA v_t v_x.fId).bind fun c14=>some (v_t,(⟨0,[],c14,[],0⟩ : bz))
def kw (cp:(List Int)) (v_s:aa) (st:(List ao)×Int) : Option (((List ao)×Int)⊕(((List ao)×Int))) :=
 let v_l:=st.1
 let v_i:=st.2
 if (decide (v_i < (cp.length:Int)))=true then
 (ar cp v_i).bind fun b1=>(eV v_s b1).bind fun c2=>let v_c:ao:=c2.1
 let bW:Bool:=c2.2
 if bW=true then
 (aP v_l [v_c]).bind fun b3=>let v_l:(List ao):=b3
 let v_i:Int:=(i64.wrap (v_i + 1))
 some (.inl (v_l,v_i))
 else
 let v_i:Int:=(i64.wrap (v_i + 1))
 some (.inl (v_l,v_i))
 else
 some (.inr (v_l,v_i))
def tj (v_s:aa) (cp:(List Int)) : Option ((List ao)) :=
 let v_l:(List ao):=[]
 let v_i:Int:=0
 (ai (kw cp v_s) ab (v_l,v_i)).bind fun r4 =>
 let v_l:=r4.1
 let v_i:=r4.2
 some v_l
def iZ (v_s:aa) (fg:Int) (st:(List Int)×Int) : Option (((List Int)×Int)⊕(((List Int)×Int))) :=
 let v_l:=st.1
 let v_i:=st.2
 if (decide (v_i < (v_s.ac.length:Int)))=true then
 (ar v_s.ac v_i).bind fun b1=>(if (b1.bE==fg)=true then (ar v_s.ac v_i).bind fun b2=>some (b2.jB != 0) else some false).bind fun q3=>if q3=true then
 (ar v_s.ac v_i).bind fun b4=>(aP v_l [b4.fId]).bind fun b5=>let v_l:(List Int):=b5
 let v_i:Int:=(i64.wrap (v_i + 1))
 some (.inl (v_l,v_i))
 else
 let v_i:Int:=(i64.wrap (v_i + 1))
 some (.inl (v_l,v_i))
 else
 some (.inr (v_l,v_i))
def oD (v_s:aa) (fg:Int) : Option ((List Int)) :=
 let v_l:(List Int):=[]
 let v_i:Int:=0
 (ai (iZ v_s fg) ab (v_l,v_i)).bind fun r6 =>
 let v_l:=r6.1
 let v_i:=r6.2
 some v_l
def kv (kH:(List aM)) (v_s:aa) (st:(List aM)×Int) : Option (((List aM)×Int)⊕(((List aM)×Int)⊕((List aM)×Int))) :=
 let v_l:=st.1
 let v_i:=st.2
 if (decide (v_i < (kH.length:Int)))=true then
 (ar kH v_i).bind fun b1=>(qq b1 (v_s.bB.al.length:Int)).bind fun c2=>let v_e:Int:=c2
 if (v_e != 0)=true then
 some (.inr (.inr ([],v_e)))
 else
 (ar kH v_i).bind fun b3=>(G4 v_l b3).bind fun c4=>let v_l:(List aM):=c4.1
 let v_e:Int:=c4.2
 if (v_e != 0)=true then
 some (.inr (.inr ([],v_e)))
 else
 let v_i:Int:=(i64.wrap (v_i + 1))
 some (.inl (v_l,v_i))
 else
 some (.inr (.inl (v_l,v_i)))
def wN (v_s:aa) (v_l:(List aM)) (kH:(List aM)) : Option ((List aM)×Int) :=
 let v_i:Int:=0
 (ai (kv kH v_s) ab (v_l,v_i)).bind fun r5=>match r5 with
 | .inr m6=>some m6
 | .inl m6 =>
 let v_l:=m6.1
 let v_i:=m6.2
 some (v_l,0)
def jF (v_x:aK) (st:aa×ak×Int) : Option ((aa×ak×Int)⊕((aa×ak×Int))) :=
 let v_s:=st.1
 let v_a:=st.2.1
 let v_i:=st.2.2
 if (decide (v_i < (v_x.gf.length:Int)))=true then
 (ar v_x.gf v_i).bind fun b11=>(eV v_s b11).bind fun c12=>let v_c:ao:=c12.1
 let yW:Bool:=c12.2
 (if yW=true then some (v_c.bE==v_a.fId) else some false).bind fun q13=>(if q13=true then some (!v_c.bb) else some false).bind fun q14=>if q14=true then
 (qV v_s v_c.fId).bind fun c15=>let v_s:aa:=c15
 (jw v_a.bP v_c.fId).bind fun c16=>let v_a:ak:={ v_a with bP:=c16.1 }
 let v_i:Int:=(i64.wrap (v_i + 1))
 some (.inl (v_s,v_a,v_i))
 else
 let v_i:Int:=(i64.wrap (v_i + 1))
 some (.inl (v_s,v_a,v_i))
 else
 some (.inr (v_s,v_a,v_i))
def uq (v_s:aa) (v_x:aK) : Option (aa×bz) :=
 (ef v_s v_x.fId).bind fun c1=>let v_a:ak:=c1.1
 let bW:Bool:=c1.2
 if (!bW)=true then
 (dS v_s 2).bind fun c2=>some c2
 else
 if (v_a.cC != 2)=true then
 (dS v_s 14).bind fun c3=>some c3
 else
 if (decide (v_x.ci < v_a.ci))=true then
 (dS v_s 15).bind fun c4=>some c4
 else
 if (v_x.ci==v_a.ci)=true then
 (tj v_s v_a.ji).bind fun c5=>(oD v_s v_a.fId).bind fun c6=>(aP ([] : (List Int)) v_a.jU).bind fun b7=>some (v_s,(⟨0,c5,c6,b7,0⟩ : bz))
 else
 if (decide ((i64.wrap (v_x.ci - 1)) > v_a.ci))=true then
 (dS v_s 1).bind fun c8=>some c8
 else
 (wN v_s v_a.bL v_x.bL).bind fun c9=>let v_l:(List aM):=c9.1
 let v_e:Int:=c9.2
 if (v_e != 0)=true then
 (dS v_s v_e).bind fun c10=>some c10
 else
 let v_i:Int:=0
 (ai (jF v_x) ab (v_s,v_a,v_i)).bind fun r17 =>
 let v_s:=r17.1
 let v_a:=r17.2.1
 let v_i:=r17.2.2
 (tj v_s v_a.bP).bind fun c18=>(oD v_s v_a.fId).bind fun c19=>(aP ([] : (List Int)) v_a.dr).bind fun b20=>let v_o:bz:=(⟨0,c18,c19,b20,0⟩ : bz)
 let t21:(List aM):=v_l
 let t22:Int:=v_s.bZ
 let t23:Int:=v_x.ci
 let v_a:ak:={ v_a with bL:=t21 }
 let v_a:ak:={ v_a with bQ:=t22 }
 let v_a:ak:={ v_a with ci:=t23 }
 let t24:(List Int):=v_a.bP
 let t25:(List Int):=v_a.dr
 let t26:(List Int):=[]
 let t27:(List Int):=[]
 let v_a:ak:={ v_a with ji:=t24 }
 let v_a:ak:={ v_a with jU:=t25 }
 let v_a:ak:={ v_a with bP:=t26 }
 let v_a:ak:={ v_a with dr:=t27 }
 (eo v_s v_a).bind fun c28=>some (c28,v_o)
def Ai (v_s:aa) (bJ:Int) (Ky:Int) : Option (aa×bz) :=
 (ef v_s bJ).bind fun c1=>let v_a:ak:=c1.1
 let bW:Bool:=c1.2
 if (!bW)=true then
 (dS v_s 2).bind fun c2=>some c2
 else
 (dh v_a).bind fun c3=>if (!c3)=true then
 (dS v_s 14).bind fun c4=>some c4
 else
 (Ms v_s bJ Ky).bind fun c5=>let v_t:aa:=c5.1
 let jW:(List Int):=c5.2
 some (v_t,(⟨0,[],[],jW,0⟩ : bz))
def l6 (v_s:aa) (fg:Int) (st:Int) : Option ((Int)⊕((Int)⊕(Int))) :=
 let v_i:=st
 if (decide (v_i < (v_s.ac.length:Int)))=true then
 (ar v_s.ac v_i).bind fun b1=>(if (b1.bE==fg)=true then (ar v_s.ac v_i).bind fun b2=>some b2.bb else some false).bind fun q3=>if q3=true then
 (ar v_s.ac v_i).bind fun b4=>some (.inr (.inr b4.fId))
 else
 let v_i:Int:=(i64.wrap (v_i + 1))
 some (.inl v_i)
 else
 some (.inr (.inl v_i))
def vM (v_s:aa) (fg:Int) : Option (Int) :=
 let v_i:Int:=0
 (ai (l6 v_s fg) ab v_i).bind fun r5=>match r5 with
 | .inr m6=>some m6
 | .inl m6 =>
 let v_i:=m6
 some (-1)
def l5 (v_l:(List Int)) (st:aa×Int) : Option ((aa×Int)⊕((aa×Int))) :=
 let v_s:=st.1
 let v_i:=st.2
 if (decide (v_i < (v_l.length:Int)))=true then
 (ar v_l v_i).bind fun b5=>(zP v_s b5).bind fun c6=>(ar v_l v_i).bind fun b7=>(fK c6 b7).bind fun c8=>let v_s:aa:=c8
 (ar v_l v_i).bind fun b9=>(yA v_s b9).bind fun c10=>(jx v_s c10).bind fun c11=>let v_s:aa:=c11
 let v_i:Int:=(i64.wrap (v_i + 1))
 some (.inl (v_s,v_i))
 else
 some (.inr (v_s,v_i))
def lZ (v_l:(List Int)) (st:aa×Int) : Option ((aa×Int)⊕((aa×Int))) :=
 let v_s:=st.1
 let aI:=st.2
 if (decide (aI < (v_l.length:Int)))=true then
 (ar v_l aI).bind fun b14=>(vM v_s b14).bind fun c15=>(jx v_s ([c15] : (List Int))).bind fun c16=>let v_s:aa:=c16
 let aI:Int:=(i64.wrap (aI + 1))
 some (.inl (v_s,aI))
 else
 some (.inr (v_s,aI))
def lY (v_s:aa) (st:(List a8)×Int) : Option (((List a8)×Int)⊕(((List a8)×Int))) :=
 let yT:=st.1
 let po:=st.2
 if (decide (po < (v_s.bl.length:Int)))=true then
 (ar v_s.bl po).bind fun b18=>if (decide (b18.jY > v_s.bZ))=true then
 (ar v_s.bl po).bind fun b19=>(aP yT [b19]).bind fun b20=>let yT:(List a8):=b20
 let po:Int:=(i64.wrap (po + 1))
 some (.inl (yT,po))
 else
 let po:Int:=(i64.wrap (po + 1))
 some (.inl (yT,po))
 else
 some (.inr (yT,po))
def Ah (v_s:aa) (v_n:Int) : Option (aa×bz) :=
 (if (decide (v_n < 1))=true then some true else some (decide (v_n > 100))).bind fun q1=>if q1=true then
 (dS v_s 1).bind fun c2=>some c2
 else
 if (decide ((i64.wrap (v_s.bZ + v_n)) > 1000000000))=true then
 (dS v_s 11).bind fun c3=>some c3
 else
 let lu:aa:=v_s
 let v_s:aa:={ v_s with bZ:=(i64.wrap (v_s.bZ + v_n)) }
 (wH v_s).bind fun c4=>let v_l:(List Int):=c4
 let v_i:Int:=0
 (ai (l5 v_l) ab (v_s,v_i)).bind fun r12 =>
 let v_s:=r12.1
 let v_i:=r12.2
 (qU v_s).bind fun c13=>let v_l:(List Int):=c13
 let aI:Int:=0
 (ai (lZ v_l) ab (v_s,aI)).bind fun r17 =>
 let v_s:=r17.1
 let aI:=r17.2
 let yT:(List a8):=[]
 let po:Int:=0
 (ai (lY v_s) ab (yT,po)).bind fun r21 =>
 let yT:=r21.1
 let po:=r21.2
 let v_s:aa:={ v_s with bl:=yT }
 (wP v_s).bind fun c22=>let v_s:aa:=c22.1
 (vO lu v_s).bind fun c23=>some (v_s,(⟨0,[],[],c23,0⟩ : bz))
def tm (v_s:aa) (v_x:aK) : Option (aa×bz) :=
 if (v_x.il==1)=true then
 (ur v_s v_x.NV).bind fun c1=>some c1
 else
 if (v_x.il==2)=true then
 (rL v_s v_x.bM).bind fun c2=>let v_t:aa:=c2.1
 let v_e:Int:=c2.2
 some (v_t,(⟨v_e,[],[],[],0⟩ : bz))
 else
 if (v_x.il==3)=true then
 (Am v_s v_x).bind fun c3=>some c3
 else
 if (v_x.il==4)=true then
 (kV v_s v_x.bE).bind fun c4=>let act:aa:=c4.1
 let acw:Int:=c4.2
 some (act,(⟨acw,[],[],[],0⟩ : bz))
 else
 if (v_x.il==5)=true then
 (uq v_s v_x).bind fun c5=>some c5
 else
 if (v_x.il==6)=true then
 (Ai v_s v_x.fId 3).bind fun c6=>some c6
 else
 if (v_x.il==7)=true then
 (Ai v_s v_x.fId 4).bind fun c7=>some c7
 else
 if (v_x.il==8)=true then
 (Ah v_s v_x.fN).bind fun c8=>some c8
 else
 if (v_x.il==9)=true then
 (AC v_s v_x.ql v_x.fN).bind fun c9=>let acs:aa:=c9.1
 let v_n:Int:=c9.2.1
 let acv:Int:=c9.2.2
 some (acs,(⟨acv,[],[],[],v_n⟩ : bz))
 else
 if (v_x.il==10)=true then
 (vR v_s v_x.fId).bind fun c10=>let acr:aa:=c10.1
 let acu:Int:=c10.2
 some (acr,(⟨acu,[],[],[],0⟩ : bz))
 else
 if (v_x.il==11)=true then
 if (decide (v_s.qm≥1048576))=true then
 (dS v_s 11).bind fun c11=>some c11
 else
 let t12:Int:=(i64.wrap (v_s.qm + 1))
 let t13:Int:=0
 let v_s:aa:={ v_s with qm:=t12 }
 let v_s:aa:={ v_s with sV:=t13 }
 some (v_s,(⟨0,[],[],[],0⟩ : bz))
 else
 (dS v_s 3).bind fun c14=>some c14
def qD (v_a:(List Int)) (v_b:(List Int)) (st:Int) : Option ((Int)⊕((Int)⊕(Bool))) :=
 let v_i:=st
 if (decide (v_i < (v_a.length:Int)))=true then
 (ar v_a v_i).bind fun b1=>(ar v_b v_i).bind fun b2=>if (b1 != b2)=true then
 some (.inr (.inr false))
 else
 let v_i:Int:=(i64.wrap (v_i + 1))
 some (.inl v_i)
 else
 some (.inr (.inl v_i))
def qE (v_a:(List Int)) (v_b:(List Int)) : Option (Bool) :=
 if ((v_a.length:Int) != (v_b.length:Int))=true then
 some false
 else
 let v_i:Int:=0
 (ai (qD v_a v_b) ab v_i).bind fun r3=>match r3 with
 | .inr m4=>some m4
 | .inl m4 =>
 let v_i:=m4
 some true
def si (v_a:ak) (v_b:ak) (st:Int) : Option ((Int)⊕((Int)⊕(Bool))) :=
 let v_i:=st
 if (decide (v_i < (v_a.bL.length:Int)))=true then
 (ar v_a.bL v_i).bind fun b9=>(ar v_b.bL v_i).bind fun b10=>if (!((b9.bq==b10.bq)&&((b9.a6==b10.a6)&&((b9.cJ.bH==b10.cJ.bH)&&((b9.cJ.be==b10.cJ.be)&&((b9.gg==b10.gg)&&((b9.bM==b10.bM)&&((b9.eZ==b10.eZ)&&(b9.g6==b10.g6)))))))))=true then
 some (.inr (.inr false))
 else
 let v_i:Int:=(i64.wrap (v_i + 1))
 some (.inl v_i)
 else
 some (.inr (.inl v_i))
def EA (v_a:ak) (v_b:ak) : Option (Bool) :=
 (if (v_a.fId != v_b.fId)=true then some true else some (v_a.cC != v_b.cC)).bind fun q1=>(if q1=true then some true else some (!(v_a.bD.toList==v_b.bD.toList))).bind fun q2=>(if q2=true then some true else some (v_a.cD != v_b.cD)).bind fun q3=>(if q3=true then some true else some (v_a.bq != v_b.bq)).bind fun q4=>(if q4=true then some true else some (!((v_a.bb.bH==v_b.bb.bH)&&(v_a.bb.be==v_b.bb.be)))).bind fun q5=>(if q5=true then some true else some (v_a.bQ != v_b.bQ)).bind fun q6=>(if q6=true then some true else some (v_a.ci != v_b.ci)).bind fun q7=>(if q7=true then some true else some ((v_a.bL.length:Int) != (v_b.bL.length:Int))).bind fun q8=>if q8=true then
 some false
 else
 let v_i:Int:=0
 (ai (si v_a v_b) ab v_i).bind fun r11=>match r11 with
 | .inr m12=>some m12
 | .inl m12 =>
 let v_i:=m12
 (qE v_a.bP v_b.bP).bind fun c13=>(if c13=true then (qE v_a.dr v_b.dr).bind fun c14=>some c14 else some false).bind fun q15=>(if q15=true then (qE v_a.ji v_b.ji).bind fun c16=>some c16 else some false).bind fun q17=>(if q17=true then (qE v_a.jU v_b.jU).bind fun c18=>some c18 else some false).bind fun q19=>some q19
def qJ (v_a:aa) (v_b:aa) (st:Bool×Int) : Option ((Bool×Int)⊕((Bool×Int))) :=
 let eD:=st.1
 let v_i:=st.2
 if (decide (v_i < (v_a.aE.length:Int)))=true then
 (if eD=true then (ar v_a.aE v_i).bind fun b10=>(ar v_b.aE v_i).bind fun b11=>some ((b10.fId==b11.fId)&&((b10.a6==b11.a6)&&((b10.eZ==b11.eZ)&&((b10.lj.bH==b11.lj.bH)&&((b10.lj.be==b11.lj.be)&&((b10.bQ==b11.bQ)&&((b10.ci==b11.ci)&&(b10.fUp==b11.fUp)))))))) else some false).bind fun q12=>let eD:Bool:=q12
 let v_i:Int:=(i64.wrap (v_i + 1))
 some (.inl (eD,v_i))
 else
 some (.inr (eD,v_i))
def qI (v_a:aa) (v_b:aa) (st:Bool×Int) : Option ((Bool×Int)⊕((Bool×Int))) :=
 let eD:=st.1
 let aI:=st.2
 if (decide (aI < (v_a.ah.length:Int)))=true then
 (if eD=true then (ar v_a.ah aI).bind fun b14=>(ar v_b.ah aI).bind fun b15=>(EA b14 b15).bind fun c16=>some c16 else some false).bind fun q17=>let eD:Bool:=q17
 let aI:Int:=(i64.wrap (aI + 1))
 some (.inl (eD,aI))
 else
 some (.inr (eD,aI))
def qH (v_a:aa) (v_b:aa) (st:Bool×Int) : Option ((Bool×Int)⊕((Bool×Int))) :=
 let eD:=st.1
 let po:=st.2
 if (decide (po < (v_a.ac.length:Int)))=true then
 (if eD=true then (ar v_a.ac po).bind fun b19=>(ar v_b.ac po).bind fun b20=>some ((b19.fId==b20.fId)&&((b19.bE==b20.bE)&&((b19.bM==b20.bM)&&((b19.cJ.bH==b20.cJ.bH)&&((b19.cJ.be==b20.cJ.be)&&((b19.bq==b20.bq)&&((b19.a6==b20.a6)&&((b19.bb==b20.bb)&&(b19.jB==b20.jB))))))))) else some false).bind fun q21=>let eD:Bool:=q21
 let po:Int:=(i64.wrap (po + 1))
 some (.inl (eD,po))
 else
 some (.inr (eD,po))
def qG (v_a:aa) (v_b:aa) (st:Bool×Int) : Option ((Bool×Int)⊕((Bool×Int))) :=
 let eD:=st.1
 let Ih:=st.2
 if (decide (Ih < (v_a.aU.length:Int)))=true then
 (if eD=true then (ar v_a.aU Ih).bind fun b23=>(ar v_b.aU Ih).bind fun b24=>some ((b23.bM==b24.bM)&&((b23.bE==b24.bE)&&(b23.bq==b24.bq))) else some false).bind fun q25=>let eD:Bool:=q25
 let Ih:Int:=(i64.wrap (Ih + 1))
 some (.inl (eD,Ih))
 else
 some (.inr (eD,Ih))
def qF (v_a:aa) (v_b:aa) (st:Bool×Int) : Option ((Bool×Int)⊕((Bool×Int))) :=
 let eD:=st.1
 let Ig:=st.2
 if (decide (Ig < (v_a.bl.length:Int)))=true then
 (if eD=true then (ar v_a.bl Ig).bind fun b27=>(ar v_b.bl Ig).bind fun b28=>some ((b27.fId==b28.fId)&&((b27.a6==b28.a6)&&((b27.ou==b28.ou)&&((b27.jY==b28.jY)&&((b27.iX.bH==b28.iX.bH)&&(b27.iX.be==b28.iX.be)))))) else some false).bind fun q29=>let eD:Bool:=q29
 let Ig:Int:=(i64.wrap (Ig + 1))
 some (.inl (eD,Ig))
 else
 some (.inr (eD,Ig))
def qK (v_a:aa) (v_b:aa) : Option (Bool) :=
 (Ez v_a.bB v_b.bB).bind fun c1=>(if (!c1)=true then some true else some (v_a.bZ != v_b.bZ)).bind fun q2=>(if q2=true then some true else some (v_a.qm != v_b.qm)).bind fun q3=>(if q3=true then some true else some (v_a.sV != v_b.sV)).bind fun q4=>(if q4=true then some true else some ((v_a.aE.length:Int) != (v_b.aE.length:Int))).bind fun q5=>(if q5=true then some true else some ((v_a.ah.length:Int) != (v_b.ah.length:Int))).bind fun q6=>(if q6=true then some true else some ((v_a.ac.length:Int) != (v_b.ac.length:Int))).bind fun q7=>(if q7=true then some true else some ((v_a.aU.length:Int) != (v_b.aU.length:Int))).bind fun q8=>(if q8=true then some true else some ((v_a.bl.length:Int) != (v_b.bl.length:Int))).bind fun q9=>if q9=true then
 some false
 else
 let eD:Bool:=true
 let v_i:Int:=0
 (ai (qJ v_a v_b) ab (eD,v_i)).bind fun r13 =>
 let eD:=r13.1
 let v_i:=r13.2
 let aI:Int:=0
 (ai (qI v_a v_b) ab (eD,aI)).bind fun r18 =>
 let eD:=r18.1
 let aI:=r18.2
 let po:Int:=0
 (ai (qH v_a v_b) ab (eD,po)).bind fun r22 =>
 let eD:=r22.1
 let po:=r22.2
 let Ih:Int:=0
 (ai (qG v_a v_b) ab (eD,Ih)).bind fun r26 =>
 let eD:=r26.1
 let Ih:=r26.2
 let Ig:Int:=0
 (ai (qF v_a v_b) ab (eD,Ig)).bind fun r30 =>
 let eD:=r30.1
 let Ig:=r30.2
 some eD
def V7:Ent:=⟨[.lf (.int .i64)],[.lf (.bool)],fun x=>zZ x.1⟩
theorem V6:EOk prog 194 V7:=aH .n [] [] [] .nil Tryz.mixed Tryz.func194
def YZ:Ent:=⟨[.ag 0],[.lf (.bool)],fun x=>uo x.1⟩
theorem OS:EOk prog 191 YZ:=aH .n [] [] [] (.cons V6 .nil) Tryz.mixed Tryz.func191
def Wc:Ent:=⟨[.ag 0,.ag 0],[.lf (.bool)],fun x=>fU x.1 x.2.1⟩
theorem pW:EOk prog 149 Wc:=aH .n [] [] [] .nil Tryz.mixed Tryz.func149
def Wb:Ent:=⟨[.ag 0,.ag 0],[.ag 0],fun x=>wM x.1 x.2.1⟩
theorem Kj:EOk prog 171 Wb:=aH .n [] [4] [] .nil Tryz.mixed Tryz.func171
def V5:Ent:=⟨[.lf (.int .i64),.lf (.int .i64)],[.lf (.int .i64),.lf (.int .i64)],fun x=>zY x.1 x.2.1⟩
theorem V4:EOk prog 198 V5:=aH .n [] [] [] .nil Tryz.mixed Tryz.func198
def RG:Ent:=⟨[.ag 17,.ag 17],[.lf (.int .i64)],fun x=>qC x.1 x.2.1⟩
theorem Hg:EOk prog 196 RG:=aH (.s .n (.s (.s .n (.j [.box 2 243 17 []] .n)) (.s (.s .n (.j [.box 3 243 17 []] .n)) .n))) [] [] [] (.cons V4 .nil) Tryz.mixed Tryz.func196
def V9:Ent:=⟨[.ag 0,.ag 0],[.ag 17],fun x=>Aa x.1 x.2.1⟩
theorem V8:EOk prog 197 V9:=aH .n [] [4] [] (.cons Hg .nil) Tryz.mixed Tryz.func197
def RK:Ent:=⟨[.ag 0,.ag 0,.ag 0,.ag 0],[.lf (.int .i64)],fun x=>Ab x.1 x.2.1 x.2.2.1 x.2.2.2.1⟩
theorem RJ:EOk prog 195 RK:=aH .n [] [] [] (.cons OS (.cons V8 (.cons Hg .nil))) Tryz.mixed Tryz.func195
def Wa:Ent:=⟨[.ag 0,.ag 0],[.ag 0],fun x=>dv x.1 x.2.1⟩
theorem iP:EOk prog 126 Wa:=aH .n [] [4] [] .nil Tryz.mixed Tryz.func126
def RD:Ent:=⟨[.lf (.int .i64),.lf (.int .i64)],[.lf (.int .i64)],fun x=>vJ x.1 x.2.1⟩
theorem RC:EOk prog 192 RD:=aH .n [] [] [] .nil Tryz.mixed Tryz.func192
def RI:Ent:=⟨[.ag 0,.lf (.int .i64)],[.ag 0,.lf (.int .i64)],fun x=>vK x.1 x.2.1⟩
theorem Hh:EOk prog 187 RI:=aH .n [] [4] [] (.cons OS (.cons RC .nil)) Tryz.mixed Tryz.func187
def VY:Ent:=⟨[.lf (.str)],[.lf (.bool)],fun x=>wK x.1⟩
theorem Ke:EOk prog 135 VY:=aH (.s .n (.s .n (.s (.s .n (.s (.lp [.leaf 3 (.int .i64)] 0 true .n) .n)) .n))) [] [] [] .nil Tryz.mixed Tryz.func135
def OG:Ent:=⟨[.ag 5],[.lf (.int .i64)],fun x=>tf x.1⟩
theorem OE:EOk prog 114 OG:=aH (.s .n (.s .n (.s .n (.s (.s .n (.s (.lp [.leaf 3 (.int .i64)] 0 true .n) .n)) (.s (.s .n (.s (.lp [.leaf 4 (.int .i64)] 2 true (.s .n (.s (.s (.s .n (.s (.lp [.leaf 5 (.int .i64)] 4 true .n) .n)) .n) .n))) .n)) .n))))) [] [] [] (.cons Ke .nil) Tryz.mixed Tryz.func114
def OI:Ent:=⟨[.lf (.str)],[.lf (.bool)],fun x=>wJ x.1⟩
theorem OH:EOk prog 136 OI:=aH (.s .n (.s .n (.s (.s .n (.s (.lp [.leaf 3 (.int .i64),.leaf 4 (.int .i64),.leaf 5 (.int .i64)] 0 true .n) .n)) .n))) [] [] [] (.cons Ke .nil) Tryz.mixed Tryz.func136
def Ro:Ent:=⟨[.lf (.str)],[.lf (.str)],fun x=>dK x.1⟩
theorem yy:EOk prog 102 Ro:=aH (.s .n (.s .n (.s (.s (.lp [.leaf 3 (.int .i64)] 0 false .n) .n) .n))) [] [] [] .nil Tryz.mixed Tryz.func102
def V1:Ent:=⟨[.ag 5,.lf (.str)],[.ag 4,.lf (.bool)],fun x=>jE x.1 x.2.1⟩
theorem th:EOk prog 60 V1:=aH (.s .n (.s (.s .n (.s (.lp [.leaf 6 (.int .i64)] 0 true .n) .n)) .n)) [] [4] [] .nil Tryz.mixed Tryz.func60
def Rn:Ent:=⟨[.ag 5,.lf (.int .i64)],[.lf (.int .i64)],fun x=>vG x.1 x.2.1⟩
theorem Rm:EOk prog 115 Rn:=aH (.s .n (.s .n (.s .n (.s .n (.s .n (.s .n (.s .n (.s (.s .n (.s (.lp [.leaf 8 (.int .i64)] 0 true .n) .n)) .n)))))))) [] [] [] (.cons OH (.cons yy (.cons th .nil))) Tryz.mixed Tryz.func115
def Kf:Ent:=⟨[.ag 5,.lf (.str)],[.lf (.sl (.str))],fun x=>ek x.1 x.2.1⟩
theorem wL:EOk prog 55 Kf:=aH (.s .n (.s .n (.s (.s .n (.s (.lp [.row 5 5 9 1 (.str),.leaf 6 (.int .i64)] 0 false .n) .n)) .n))) [] [] [] (.cons yy .nil) Tryz.mixed Tryz.func55
def VX:Ent:=⟨[.ag 5],[.lf (.bool)],fun x=>Ey x.1⟩
theorem VV:EOk prog 116 VX:=aH (.s .n (.s (.s .n (.s (.lp [.leaf 3 (.int .i64)] 0 true (.s .n (.s (.s (.s .n (.s .n (.s (.lp [.leaf 5 (.int .i64)] 2 true (.s .n (.s (.s (.s .n (.s (.s .n (.s (.lp [.leaf 6 (.int .i64),.leaf 7 (.int .i64)] 4 false .n) .n)) .n)) .n) .n))) .n))) .n) .n))) .n)) .n)) [] [] [] (.cons wL (.cons th .nil)) Tryz.mixed Tryz.func116
def Rr:Ent:=⟨[.ag 5],[.lf (.int .i64)],fun x=>vI x.1⟩
theorem Rq:EOk prog 79 Rr:=aH (.s .n (.s .n (.s .n (.s (.s .n (.s (.lp [.leaf 3 (.int .i64)] 0 true .n) .n)) (.s (.s .n (.s (.lp [.leaf 4 (.int .i64)] 2 true .n) .n)) .n))))) [] [] [] (.cons OE (.cons Rm (.cons VV .nil))) Tryz.mixed Tryz.func79
def VZ:Ent:=⟨[.ag 5,.lf (.str)],[.lf (.bool)],fun x=>iY x.1 x.2.1⟩
theorem Cj:EOk prog 30 VZ:=aH .n [] [] [] (.cons th (.cons wL .nil)) Tryz.mixed Tryz.func30
def aaE:Ent:=⟨[.lf (.str)],[.lf (.sl (.str))],fun x=>zR x.1⟩
theorem L2:EOk prog 173 aaE:=aH (.s .n (.s .n (.s (.s (.lp [.row 3 3 9 1 (.str),.leaf 0 (.str)] 0 false .n) .n) .n))) [] [] [] (.cons yy .nil) Tryz.mixed Tryz.func173
def VU:Ent:=⟨[.ag 12,.lf (.int .i64)],[.ag 0],fun x=>uj x.1 x.2.1⟩
theorem VT:EOk prog 175 VU:=aH (.s .n (.s .n (.s (.s .n (.s (.lp [.box 5 27 0 [],.leaf 6 (.int .i64)] 0 false .n) .n)) .n))) [] [4] [] (.cons iP .nil) Tryz.mixed Tryz.func175
def Rj:Ent:=⟨[.ag 12,.lf (.int .i64)],[.ag 0],fun x=>jm x.1 x.2.1⟩
theorem qr:EOk prog 101 Rj:=aH (.s .n (.s .n (.s (.s .n (.s (.lp [.box 5 27 0 [],.leaf 6 (.int .i64)] 0 false .n) .n)) .n))) [] [4] [] (.cons iP .nil) Tryz.mixed Tryz.func101
def VQ:Ent:=⟨[.ag 12,.lf (.str),.lf (.int .i64),.lf (.bool)],[.ag 0],fun x=>uh x.1 x.2.1 x.2.2.1 x.2.2.2.1⟩
theorem Ka:EOk prog 183 VQ:=aH (.s .n (.s .n (.s .n (.s .n (.s .n (.s (.s .n (.s (.lp [.box 11 27 0 [],.leaf 13 (.int .i64)] 0 false (.s .n (.s (.s (.s .n (.s .n (.s (.s .n (.j [.leaf 16 (.int .i64)] .n)) .n))) .n) .n))) .n)) .n)))))) [] [8] [] (.cons th (.cons qr (.cons L2 (.cons Hh .nil)))) Tryz.mixed Tryz.func183
def Ha:Ent:=⟨[.ag 12,.lf (.str),.lf (.int .i64)],[.ag 0],fun x=>lW x.1 x.2.1 x.2.2.1⟩
theorem qt:EOk prog 164 Ha:=aH .n [] [6] [] (.cons Ka .nil) Tryz.mixed Tryz.func164
def Kd:Ent:=⟨[.ag 12,.lf (.str),.lf (.int .i64)],[.ag 0],fun x=>wI x.1 x.2.1 x.2.2.1⟩
theorem Kc:EOk prog 174 Kd:=aH .n [] [6] [] (.cons Ka .nil) Tryz.mixed Tryz.func174
def VS:Ent:=⟨[.ag 12,.lf (.str),.lf (.int .i64)],[.ag 0],fun x=>Ex x.1 x.2.1 x.2.2.1⟩
theorem VR:EOk prog 170 VS:=aH .n [] [6] [] (.cons th (.cons qt (.cons Hh .nil))) Tryz.mixed Tryz.func170
def SB:Ent:=⟨[.ag 12,.lf (.int .i64)],[.ag 12],fun x=>qV x.1 x.2.1⟩
theorem HI:EOk prog 91 SB:=aH (.s .n (.s .n (.s (.s .n (.s (.lp [.row 5 5 91 9 (.st 6),.leaf 6 (.int .i64)] 0 false .n) .n)) .n))) [] [4] [] .nil Tryz.mixed Tryz.func91
def SA:Ent:=⟨[.ag 12,.lf (.int .i64)],[.ag 6,.lf (.bool)],fun x=>eV x.1 x.2.1⟩
theorem nF:EOk prog 85 SA:=aH (.s .n (.s (.s .n (.s (.lp [.leaf 6 (.int .i64)] 0 true .n) .n)) .n)) [] [4] [] .nil Tryz.mixed Tryz.func85
def HH:Ent:=⟨[.ag 12,.lf (.int .i64)],[.ag 2,.lf (.bool)],fun x=>ef x.1 x.2.1⟩
theorem fO:EOk prog 16 HH:=aH (.s .n (.s (.s .n (.s (.lp [.leaf 6 (.int .i64)] 0 true .n) .n)) .n)) [] [4] [] .nil Tryz.mixed Tryz.func16
def HF:Ent:=⟨[.ag 2],[.lf (.bool)],fun x=>dh x.1⟩
theorem fM:EOk prog 19 HF:=aH .n [] [] [] .nil Tryz.mixed Tryz.func19
def Ko:Ent:=⟨[.ag 12,.ag 2],[.ag 12],fun x=>eo x.1 x.2.1⟩
theorem nD:EOk prog 21 Ko:=aH (.s .n (.s .n (.s (.s (.lp [.leaf 5 (.int .i64)] 0 false .n) .n) (.s .n (.s .n (.s (.s .n (.j [.leaf 5 (.int .i64)] .n)) .n)))))) [] [4] [] .nil Tryz.mixed Tryz.func21
def Sw:Ent:=⟨[.ag 12,.lf (.int .i64)],[.ag 12,.lf (.sl (.int .i64))],fun x=>tu x.1 x.2.1⟩
theorem HA:EOk prog 117 Sw:=aH (.s .n (.s .n (.s .n (.s .n (.s (.s .n (.s (.lp [.row 8 8 3 1 (.int .i64),.row 6 6 91 9 (.st 6),.leaf 9 (.int .i64)] 0 false .n) .n)) (.s (.s .n (.s (.lp [.row 7 7 93 3 (.st 11),.leaf 10 (.int .i64)] 2 false .n) .n)) .n)))))) [] [4] [] .nil Tryz.mixed Tryz.func117
def Wu:Ent:=⟨[.ag 12,.lf (.int .i64),.lf (.int .i64)],[.ag 12,.lf (.sl (.int .i64))],fun x=>Ms x.1 x.2.1 x.2.2.1⟩
theorem Wt:EOk prog 93 Wu:=aH .n [] [6] [] (.cons fO (.cons fM (.cons nD (.cons HA .nil)))) Tryz.mixed Tryz.func93
def Pu:Ent:=⟨[.ag 2],[.lf (.sl (.st 1))],fun x=>pY x.1⟩
theorem Dn:EOk prog 39 Pu:=aH .n [] [] [] .nil Tryz.mixed Tryz.func39
def IR:Ent:=⟨[.lf (.sl (.int .i64)),.lf (.int .i64)],[.lf (.sl (.int .i64)),.lf (.bool)],fun x=>jw x.1 x.2.1⟩
theorem xB:EOk prog 92 IR:=aH (.s .n (.s .n (.s (.s .n (.s (.lp [.row 6 6 3 1 (.int .i64),.leaf 7 (.int .i64)] 0 false .n) .n)) .n))) [] [] [] .nil Tryz.mixed Tryz.func92
def Sz:Ent:=⟨[.ag 12,.lf (.sl (.int .i64))],[.ag 12],fun x=>jx x.1 x.2.1⟩
theorem yJ:EOk prog 86 Sz:=aH (.s .n (.s (.s .n (.s (.lp [.box 2 43 12 [],.leaf 5 (.int .i64)] 0 false (.s .n (.s (.s (.s .n (.s .n (.s .n (.s .n (.s .n (.s .n (.s .n (.s (.s .n (.j [.box 8 30 2 []] .n)) .n)))))))) .n) .n))) .n)) .n)) [(4,[73,76,79,80]),(6,[73,76,79,80]),(8,[73,76,79,80]),(11,[73,76,79,80]),(12,[73,76,79,80]),(14,[73,76,79,80]),(17,[73,76,79,80])] [4] [] (.cons nF (.cons fO (.cons Dn (.cons nD (.cons HA (.cons HI (.cons xB .nil))))))) Tryz.mixed Tryz.func86
def A1:Ent:=⟨[.ag 12],[.lf (.sl (.int .i64))],fun x=>qU x.1⟩
theorem A0:EOk prog 24 A1:=aH (.s .n (.s .n (.s (.s .n (.s (.lp [.row 3 3 3 1 (.int .i64),.leaf 4 (.int .i64)] 0 false .n) .n)) .n))) [] [] [] .nil Tryz.mixed Tryz.func24
def Sy:Ent:=⟨[.lf (.int .i64)],[.lf (.bool)],fun x=>vZ x.1⟩
theorem Sx:EOk prog 37 Sy:=aH .n [] [] [] .nil Tryz.mixed Tryz.func37
def Mr:Ent:=⟨[.ag 12],[.ag 12],fun x=>nC x.1⟩
theorem Mq:EOk prog 38 Mr:=aH (.s .n (.s .n (.s .n (.s (.s .n (.s (.lp [.leaf 4 (.bool),.row 3 3 30 14 (.st 2),.leaf 5 (.int .i64)] 0 false .n) .n)) .n)))) [(6,[30,31])] [2] [] (.cons fM .nil) Tryz.mixed Tryz.func38
def AZ:Ent:=⟨[.ag 12,.ag 2],[.ag 12,.lf (.int .i64)],fun x=>kV x.1 x.2.1⟩
theorem AY:EOk prog 13 AZ:=aH (.s .n (.s .n (.s .n (.s .n (.s .n (.s (.s .n (.s (.lp [.leaf 8 (.int .i64),.leaf 9 (.int .i64)] 0 false .n) .n)) (.s .n (.s .n (.s (.s .n (.j [.box 2 43 12 []] .n)) .n))))))))) [] [4] [] (.cons Sx (.cons fO (.cons fM (.cons Cj (.cons Mq (.cons Dn (.cons nD .nil))))))) Tryz.mixed Tryz.func13
def Vz:Ent:=⟨[.lf (.int .i64)],[.lf (.bool)],fun x=>zM x.1⟩
theorem Vy:EOk prog 140 Vz:=aH .n [] [] [] .nil Tryz.mixed Tryz.func140
def Ra:Ent:=⟨[.ag 1,.lf (.int .i64)],[.lf (.int .i64)],fun x=>qq x.1 x.2.1⟩
theorem Q9:EOk prog 119 Ra:=aH .n [] [] [] (.cons Vy .nil) Tryz.mixed Tryz.func119
def YW:Ent:=⟨[.lf (.sl (.st 1)),.lf (.int .i64)],[.ag 1,.lf (.bool)],fun x=>LY x.1 x.2.1⟩
theorem YV:EOk prog 152 YW:=aH (.s .n (.s (.s .n (.s (.lp [.leaf 6 (.int .i64)] 0 true .n) .n)) .n)) [] [4] [] .nil Tryz.mixed Tryz.func152
def VE:Ent:=⟨[.lf (.sl (.st 1)),.lf (.int .i64)],[.lf (.sl (.st 1))],fun x=>Eu x.1 x.2.1⟩
theorem VD:EOk prog 178 VE:=aH (.s .n (.s .n (.s (.s .n (.s (.lp [.row 5 7 123 8 (.st 1),.leaf 6 (.int .i64)] 0 false .n) .n)) .n))) [] [] [] .nil Tryz.mixed Tryz.func178
def LX:Ent:=⟨[.lf (.sl (.st 1)),.lf (.int .i64)],[.ag 0],fun x=>kQ x.1 x.2.1⟩
theorem LW:EOk prog 184 LX:=aH (.s .n (.s .n (.s (.s .n (.s (.lp [.box 5 27 0 [],.leaf 6 (.int .i64)] 0 false .n) .n)) .n))) [] [4] [] (.cons iP .nil) Tryz.mixed Tryz.func184
def YU:Ent:=⟨[.lf (.sl (.st 1)),.ag 1],[.lf (.sl (.st 1)),.lf (.int .i64)],fun x=>G4 x.1 x.2.1⟩
theorem YT:EOk prog 120 YU:=aH (.s .n (.s .n (.s .n (.s .n (.s (.s .n (.s (.lp [.row 6 6 123 8 (.st 1),.leaf 7 (.bool),.leaf 8 (.int .i64)] 0 false (.s .n (.s (.s (.s (.s .n (.j [.row 6 6 123 8 (.st 1),.leaf 7 (.bool)] .n)) .n) .n) .n))) .n)) (.s (.s .n (.j [.row 6 6 123 8 (.st 1)] .n)) .n)))))) [] [] [] .nil Tryz.mixed Tryz.func120
def VB:Ent:=⟨[.lf (.sl (.st 1)),.lf (.int .i64)],[.lf (.sl (.st 1)),.lf (.bool)],fun x=>Et x.1 x.2.1⟩
theorem VA:EOk prog 176 VB:=aH (.s .n (.s .n (.s .n (.s (.s .n (.s (.lp [.leaf 7 (.bool),.row 6 6 123 8 (.st 1),.leaf 8 (.int .i64)] 0 false .n) .n)) .n)))) [] [] [] .nil Tryz.mixed Tryz.func176
def Pt:Ent:=⟨[.lf (.str),.lf (.str)],[.lf (.bool)],fun x=>nB x.1 x.2.1⟩
theorem Dj:EOk prog 181 Pt:=aH (.s .n (.s .n (.s (.s .n (.s (.lp [.leaf 6 (.int .i64)] 0 true .n) .n)) .n))) [] [] [] (.cons L2 .nil) Tryz.mixed Tryz.func181
def xA:Ent:=⟨[.ag 12,.lf (.str),.lf (.int .i64)],[.ag 0],fun x=>oG x.1 x.2.1 x.2.2.1⟩
theorem xz:EOk prog 165 xA:=aH (.s .n (.s .n (.s (.s .n (.s (.lp [.box 7 27 0 [],.leaf 8 (.int .i64)] 0 false .n) .n)) .n))) [] [6] [] (.cons fM (.cons Dj (.cons LW (.cons iP .nil)))) Tryz.mixed Tryz.func165
def Su:Ent:=⟨[.ag 12,.lf (.str),.lf (.int .i64),.lf (.bool),.lf (.int .i64)],[.ag 0],fun x=>vU x.1 x.2.1 x.2.2.1 x.2.2.2.1 x.2.2.2.2.1⟩
theorem Hv:EOk prog 162 Su:=aH (.s .n (.s .n (.s (.s .n (.s (.lp [.box 11 27 0 [],.leaf 12 (.int .i64)] 0 false .n) .n)) .n))) [] [10] [] (.cons fO (.cons Dj (.cons iP .nil))) Tryz.mixed Tryz.func162
def Hy:Ent:=⟨[.ag 12,.lf (.str),.lf (.int .i64)],[.ag 0],fun x=>eT x.1 x.2.1 x.2.2.1⟩
theorem kU:EOk prog 141 Hy:=aH .n [] [6] [] (.cons Hv .nil) Tryz.mixed Tryz.func141
def Sv:Ent:=⟨[.ag 12,.lf (.str),.lf (.int .i64),.ag 0],[.lf (.bool)],fun x=>vV x.1 x.2.1 x.2.2.1 x.2.2.2.1⟩
theorem Hz:EOk prog 157 Sv:=aH (.s .n (.s .n (.s (.s .n (.s (.lp [.leaf 10 (.int .i64)] 0 true .n) .n)) .n))) [] [] [] (.cons L2 (.cons kU (.cons iP (.cons Kc (.cons pW (.cons qr (.cons VT (.cons Kj .nil)))))))) Tryz.mixed Tryz.func157
def Hx:Ent:=⟨[.ag 12,.lf (.str),.lf (.int .i64),.lf (.int .i64)],[.ag 0],fun x=>pK x.1 x.2.1 x.2.2.1 x.2.2.2.1⟩
theorem Hw:EOk prog 169 Hx:=aH .n [] [8] [] (.cons Hv .nil) Tryz.mixed Tryz.func169
def Ss:Ent:=⟨[.ag 12,.lf (.str)],[.lf (.sl (.int .i64))],fun x=>AQ x.1 x.2.1⟩
theorem Sr:EOk prog 160 Ss:=aH (.s .n (.s .n (.s (.s .n (.s (.lp [.leaf 5 (.sl (.st 2)),.leaf 6 (.int .i64)] 0 false (.s .n (.s (.s (.s .n (.s .n (.s .n (.s (.s (.lp [.leaf 8 (.int .i64)] 2 false .n) .n) .n)))) .n) .n))) .n)) (.s .n (.s (.s .n (.s (.lp [.row 10 10 3 1 (.int .i64),.leaf 11 (.int .i64)] 4 false .n) .n)) .n))))) [(6,[5,53,56,57,62,75,76])] [] [] (.cons fM .nil) Tryz.mixed Tryz.func160
def Pp:Ent:=⟨[.ag 12,.lf (.str),.lf (.str),.lf (.int .i64)],[.lf (.bool)],fun x=>wV x.1 x.2.1 x.2.2.1 x.2.2.2.1⟩
theorem Po:EOk prog 193 Pp:=aH .n [] [] [] (.cons kU (.cons qt (.cons RJ .nil))) Tryz.mixed Tryz.func193
def Hu:Ent:=⟨[.ag 12,.lf (.str),.lf (.int .i64)],[.lf (.sl (.str))],fun x=>AN x.1 x.2.1 x.2.2.1⟩
theorem Sq:EOk prog 188 Hu:=aH (.s .n (.s .n (.s .n (.s (.s .n (.s (.lp [.leaf 8 (.sl (.str)),.leaf 9 (.int .i64)] 0 false (.s .n (.s (.s (.s .n (.s (.s (.lp [.leaf 10 (.int .i64)] 2 false .n) .n) .n)) .n) .n))) .n)) .n)))) [(1,[8,46,52,53,58]),(7,[8,46,52,53,58])] [] [] (.cons wL (.cons Po .nil)) Tryz.mixed Tryz.func188
theorem Mm (k:Nat) (x:cg [.ag 12,.lf (.str),.lf (.int .i64)]) : fj ⟨prog,[(177,⟨[.ag 12,.lf (.str),.lf (.int .i64)],[.lf (.sl (.str))],fun x=>jt k x.1 x.2.1 x.2.2.1⟩),(188,Hu)],35,[.lf (.sl (.str))],[.tmp 6],[(1,[18,33]),(8,[18])],[],[]⟩ ((Tryz.f177).body.getD .skip) (.s (.n) (.s (.n) (.s (.n) (.s (.n) (.s (.s (.n) (.s (.lp [.row 8 8 9 1 (.str),.leaf 9 (.int .i64)] 0 false (.n)) .n)) (.n)))))) [.ag 12,.lf (.str),.lf (.int .i64)] x=jt (k + 1) x.1 x.2.1 x.2.2.1:=by kernel_rfl
theorem AL:∀ k:Nat,bI prog 177 [.ag 12,.lf (.str),.lf (.int .i64)] [.lf (.sl (.str))] (fun x=>jt k x.1 x.2.1 x.2.2.1)
 | 0=>fun x r h=>by cases h
 | k + 1=>cd (n:=35) (.cons (AL k) (.cons (Sq) (.nil))) Tryz.mixed Tryz.func177 rfl (by kernel_rfl) rfl rfl rfl (Mm k)
def Mp:Ent:=⟨[.ag 12,.lf (.int .i64)],[.lf (.sl (.str))],fun x=>uw x.1 x.2.1⟩
theorem Mo:EOk prog 159 Mp:=aH .n [] [] [] (.cons (AL ab) .nil) Tryz.mixed Tryz.func159
def Pn:Ent:=⟨[.ag 1,.ag 7],[.lf (.int .i64)],fun x=>nA x.1 x.2.1⟩
theorem Dh:EOk prog 168 Pn:=aH .n [] [] [] .nil Tryz.mixed Tryz.func168
def Ws:Ent:=⟨[.ag 1,.ag 7],[.lf (.bool)],fun x=>uv x.1 x.2.1⟩
theorem Kn:EOk prog 153 Ws:=aH .n [] [] [] (.cons Dh .nil) Tryz.mixed Tryz.func153
def VL:Ent:=⟨[.ag 12,.lf (.int .i64)],[.ag 7,.lf (.bool)],fun x=>nU x.1 x.2.1⟩
theorem pU:EOk prog 81 VL:=aH (.s .n (.s (.s .n (.s (.lp [.leaf 6 (.int .i64)] 0 true .n) .n)) .n)) [] [4] [] .nil Tryz.mixed Tryz.func81
def YX:Ent:=⟨[.ag 12,.ag 7],[.ag 12],fun x=>Ce x.1 x.2.1⟩
theorem G5:EOk prog 82 YX:=aH (.s .n (.s .n (.s (.s (.lp [.leaf 5 (.int .i64)] 0 false .n) .n) (.s .n (.s .n (.s (.s .n (.j [.leaf 5 (.int .i64)] .n)) .n)))))) [] [4] [] .nil Tryz.mixed Tryz.func82
def VP:Ent:=⟨[.ag 12,.lf (.int .i64),.lf (.int .i64)],[.ag 12,.lf (.int .i64)],fun x=>Ew x.1 x.2.1 x.2.2.1⟩
theorem VO:EOk prog 84 VP:=aH .n [] [6] [] (.cons pU (.cons G5 .nil)) Tryz.mixed Tryz.func84
def VN:Ent:=⟨[.ag 12,.lf (.int .i64)],[.ag 12],fun x=>zP x.1 x.2.1⟩
theorem VM:EOk prog 96 VN:=aH .n [] [4] [] (.cons pU (.cons G5 .nil)) Tryz.mixed Tryz.func96
def VJ:Ent:=⟨[.ag 12,.lf (.int .i64)],[.ag 0],fun x=>Ev x.1 x.2.1⟩
theorem VI:EOk prog 172 VJ:=aH (.s .n (.s .n (.s (.s .n (.s (.lp [.box 5 27 0 [],.leaf 6 (.int .i64)] 0 false .n) .n)) .n))) [] [4] [] (.cons iP .nil) Tryz.mixed Tryz.func172
def VK:Ent:=⟨[.ag 12,.lf (.int .i64)],[.ag 0],fun x=>zO x.1 x.2.1⟩
theorem J9:EOk prog 156 VK:=aH .n [] [4] [] (.cons pU (.cons VI (.cons Kj .nil))) Tryz.mixed Tryz.func156
def VH:Ent:=⟨[.lf (.int .i64)],[.lf (.bool)],fun x=>zN x.1⟩
theorem VG:EOk prog 80 VH:=aH .n [] [] [] .nil Tryz.mixed Tryz.func80
def IH:Ent:=⟨[.ag 12,.ag 7],[.ag 12,.lf (.int .i64)],fun x=>rL x.1 x.2.1⟩
theorem IG:EOk prog 45 IH:=aH .n [] [4] [] (.cons VG (.cons pU (.cons G5 .nil))) Tryz.mixed Tryz.func45
def OC:Ent:=⟨[.ag 12],[.lf (.sl (.int .i64))],fun x=>wH x.1⟩
theorem OB:EOk prog 94 OC:=aH (.s .n (.s .n (.s (.s .n (.s (.lp [.row 3 3 3 1 (.int .i64),.leaf 4 (.int .i64)] 0 false .n) .n)) .n))) [] [] [] .nil Tryz.mixed Tryz.func94
def Sf:Ent:=⟨[.ag 12,.lf (.int .i64)],[.ag 11,.lf (.bool)],fun x=>AE x.1 x.2.1⟩
theorem Se:EOk prog 137 Sf:=aH (.s .n (.s (.s .n (.s (.lp [.leaf 6 (.int .i64)] 0 true .n) .n)) .n)) [] [4] [] .nil Tryz.mixed Tryz.func137
def Wn:Ent:=⟨[.ag 12,.lf (.str),.ag 1],[.lf (.bool)],fun x=>AI x.1 x.2.1 x.2.2.1⟩
theorem Km:EOk prog 154 Wn:=aH .n [] [] [] (.cons kU (.cons iP (.cons qt (.cons pW .nil)))) Tryz.mixed Tryz.func154
def Sg:Ent:=⟨[.ag 12,.lf (.str),.lf (.int .i64),.lf (.int .i64)],[.lf (.bool)],fun x=>vT x.1 x.2.1 x.2.2.1 x.2.2.2.1⟩
theorem Ho:EOk prog 155 Sg:=aH .n [] [] [] (.cons Hw (.cons VR (.cons pW .nil))) Tryz.mixed Tryz.func155
def Ml:Ent:=⟨[.ag 12,.lf (.int .i64)],[.ag 12],fun x=>fK x.1 x.2.1⟩
theorem AJ:EOk prog 95 Ml:=aH (.s .n (.s .n (.s (.s .n (.s (.lp [.row 5 5 93 3 (.st 11),.leaf 6 (.int .i64)] 0 false .n) .n)) .n))) [] [4] [] .nil Tryz.mixed Tryz.func95
def Pk:Ent:=⟨[.ag 12,.ag 7,.ag 2,.ag 1],[.ag 12,.ag 6],fun x=>nz x.1 x.2.1 x.2.2.1 x.2.2.2.1⟩
theorem Dg:EOk prog 158 Pk:=aH (.s .n (.s .n (.s .n (.s .n (.s (.s .n (.j [.box 6 30 2 []] .n)) (.s .n (.s (.s (.lp [.leaf 11 (.int .i64)] 0 false .n) .n) .n))))))) [(3,[54,57,60,61,86,89,90,96]),(13,[54,57,60,61,81,86,89,90,96])] [8,9] [] (.cons VA (.cons nD .nil)) Tryz.mixed Tryz.func158
def Si:Ent:=⟨[.ag 12,.ag 7,.ag 11],[.ag 12,.lf (.int .i64),.ag 6,.lf (.bool)],fun x=>tq x.1 x.2.1 x.2.2.1⟩
theorem Sh:EOk prog 138 Si:=aH .n [] [6,8] [] (.cons fO (.cons YV (.cons fM (.cons Kn (.cons pW (.cons Km (.cons Ho (.cons AJ (.cons J9 (.cons Hz (.cons Dg .nil))))))))))) Tryz.mixed Tryz.func138
def Pi:Ent:=⟨[.ag 12,.lf (.int .i64),.lf (.int .i64)],[.lf (.bool)],fun x=>wS x.1 x.2.1 x.2.2.1⟩
theorem Ph:EOk prog 179 Pi:=aH (.s .n (.s (.s .n (.s (.lp [.leaf 7 (.int .i64)] 0 true .n) .n)) .n)) [] [] [] .nil Tryz.mixed Tryz.func179
def Sk:Ent:=⟨[.ag 12,.ag 11],[.ag 12],fun x=>tr x.1 x.2.1⟩
theorem Sj:EOk prog 180 Sk:=aH (.s .n (.s .n (.s (.s (.lp [.leaf 5 (.int .i64)] 0 false .n) .n) .n))) [] [4] [] .nil Tryz.mixed Tryz.func180
def Wp:Ent:=⟨[.ag 12,.ag 7,.ag 2,.ag 1,.lf (.bool)],[.ag 12,.lf (.int .i64),.ag 6],fun x=>wT x.1 x.2.1 x.2.2.1 x.2.2.2.1 x.2.2.2.2.1⟩
theorem Wo:EOk prog 161 Wp:=aH (.s .n (.s .n (.s .n (.s (.s .n (.s (.s (.s .n (.j [.box 7 30 2 [],.box 5 43 12 []] .n)) .n) .n)) .n)))) [] [10,12] [] (.cons Km (.cons Dh (.cons pW (.cons Kn (.cons VD (.cons nD (.cons Hz (.cons J9 (.cons Dg (.cons Ph (.cons Sj .nil))))))))))) Tryz.mixed Tryz.func161
def Pf:Ent:=⟨[.ag 12,.ag 7,.lf (.bool)],[.ag 12,.lf (.int .i64),.ag 6],fun x=>ez x.1 x.2.1 x.2.2.1⟩
theorem Pe:EOk prog 139 Pf:=aH (.s .n (.s .n (.s (.s .n (.s (.lp [.box 3 43 12 [],.leaf 10 (.int .i64)] 0 true (.s .n (.s (.s (.s .n (.s .n (.s (.lp [.box 3 43 12 [],.leaf 12 (.int .i64)] 2 true (.s .n (.s (.s (.s .n (.s .n (.s .n (.s (.lp [.box 3 43 12 [],.leaf 15 (.int .i64)] 4 true .n) .n)))) .n) .n))) .n))) .n) .n))) .n)) .n))) [] [6,8] [] (.cons Mo (.cons Sr (.cons fO (.cons Ho (.cons Wo .nil))))) Tryz.mixed Tryz.func139
def Wr:Ent:=⟨[.ag 12,.lf (.int .i64)],[.ag 12,.lf (.int .i64),.ag 6],fun x=>wU x.1 x.2.1⟩
theorem Wq:EOk prog 118 Wr:=aH .n [] [4,6] [] (.cons pU (.cons Se (.cons Sh (.cons Pe .nil)))) Tryz.mixed Tryz.func118
def Sp:Ent:=⟨[.ag 12,.lf (.int .i64)],[.ag 12,.lf (.sl (.st 6))],fun x=>qT x.1 x.2.1⟩
theorem So:EOk prog 87 Sp:=aH (.s .n (.s .n (.s (.s .n (.s (.lp [.box 2 43 12 [],.row 6 6 91 9 (.st 6),.leaf 7 (.int .i64)] 0 false .n) .n)) .n))) [(5,[27,28])] [4] [] (.cons Wq .nil) Tryz.mixed Tryz.func87
def R4:Ent:=⟨[.lf (.int .i64)],[.lf (.int .i64)],fun x=>mg x.1⟩
theorem R3:EOk prog 189 R4:=aH .n [] [] [] .nil Tryz.mixed Tryz.func189
def De:Ent:=⟨[.lf (.int .i64),.lf (.sl (.int .i64)),.lf (.sl (.int .i64)),.lf (.sl (.int .i64))],[.lf (.sl (.int .i64))],fun x=>wQ x.1 x.2.1 x.2.2.1 x.2.2.2.1⟩
theorem O7:EOk prog 182 De:=aH (.s .n (.s .n (.s .n (.s .n (.s (.s .n (.s (.lp [.row 11 11 3 1 (.int .i64),.leaf 10 (.int .i64),.leaf 12 (.int .i64)] 0 false .n) .n)) (.s (.s .n (.s (.lp [.row 11 11 3 1 (.int .i64),.leaf 10 (.int .i64),.leaf 14 (.int .i64)] 2 false .n) .n)) .n)))))) [(2,[49,50]),(7,[49,50]),(13,[49,50])] [] [] (.cons R3 .nil) Tryz.mixed Tryz.func182
theorem R5 (k:Nat) (x:cg [.ag 12,.lf (.str),.lf (.int .i64),.lf (.int .i64)]) : fj ⟨prog,[(163,⟨[.ag 12,.lf (.str),.lf (.int .i64),.lf (.int .i64)],[.lf (.sl (.st 18))],fun x=>mh k x.1 x.2.1 x.2.2.1 x.2.2.2.1⟩),(55,Kf),(164,Ha),(174,Kd),(141,Hy),(165,xA),(182,De)],101,[.lf (.sl (.st 18))],[.tmp 8],[(1,[27,43,44,54,55,74,75,99]),(8,[27,54,55,74,75,99]),(9,[27,43,44,74,75,99]),(10,[27,43,44,54,55,99]),(11,[10,11,12,27,43,44,54,55,74,75,99]),(16,[10,11,12,27,43,44,54,55,74,75])],[],[]⟩ ((Tryz.f163).body.getD .skip) (.s (.n) (.s (.n) (.s (.n) (.s (.n) (.s (.s (.n) (.s (.lp [.row 10 10 3 1 (.int .i64),.row 12 12 3 1 (.int .i64),.row 11 11 3 1 (.int .i64),.leaf 13 (.int .i64)] 0 false (.n)) .n)) (.s (.n) (.s (.n) (.s (.s (.n) (.s (.lp [.row 15 15 199 2 (.st 18),.leaf 16 (.int .i64)] 2 false (.n)) .n)) (.n))))))))) [.ag 12,.lf (.str),.lf (.int .i64),.lf (.int .i64)] x=mh (k + 1) x.1 x.2.1 x.2.2.1 x.2.2.2.1:=by kernel_rfl
theorem Hn:∀ k:Nat,bI prog 163 [.ag 12,.lf (.str),.lf (.int .i64),.lf (.int .i64)] [.lf (.sl (.st 18))] (fun x=>mh k x.1 x.2.1 x.2.2.1 x.2.2.2.1)
 | 0=>fun x r h=>by cases h
 | k + 1=>cd (n:=101) (.cons (Hn k) (.cons (wL) (.cons (qt) (.cons (Kc) (.cons (kU) (.cons (xz) (.cons (O7) (.nil)))))))) Tryz.mixed Tryz.func163 rfl (by kernel_rfl) rfl rfl rfl (R5 k)
def Mh:Ent:=⟨[.ag 12,.lf (.int .i64)],[.lf (.sl (.st 18))],fun x=>qS x.1 x.2.1⟩
theorem Az:EOk prog 145 Mh:=aH (.s .n (.s .n (.s .n (.s (.s .n (.s (.lp [.leaf 5 (.sl (.st 18)),.leaf 7 (.int .i64)] 0 false (.s .n (.s (.s (.s .n (.s (.s (.lp [.leaf 8 (.int .i64)] 2 false .n) .n) .n)) .n) .n))) .n)) .n)))) [(2,[5,46,52,53,58])] [] [] (.cons qr (.cons (Hn ab) .nil)) Tryz.mixed Tryz.func145
def Wj:Ent:=⟨[.ag 12,.lf (.int .i64),.lf (.str)],[.lf (.int .i64)],fun x=>Ay x.1 x.2.1 x.2.2.1⟩
theorem Wi:EOk prog 144 Wj:=aH (.s .n (.s .n (.s (.s .n (.s (.lp [.leaf 8 (.int .i64)] 0 true .n) .n)) .n))) [] [] [] (.cons Az .nil) Tryz.mixed Tryz.func144
def R2:Ent:=⟨[.ag 12,.ag 12],[.lf (.sl (.int .i64))],fun x=>vO x.1 x.2.1⟩
theorem Hm:EOk prog 99 R2:=aH (.s .n (.s .n (.s (.s .n (.s (.lp [.row 5 5 3 1 (.int .i64),.leaf 6 (.int .i64)] 0 false .n) .n)) .n))) [(5,[36,37])] [] [] (.cons nF .nil) Tryz.mixed Tryz.func99
def O1:Ent:=⟨[.ag 12,.lf (.str),.lf (.int .i64)],[.lf (.int .i64)],fun x=>tn x.1 x.2.1 x.2.2.1⟩
theorem O0:EOk prog 146 O1:=aH (.s .n (.s .n (.s (.s .n (.s (.lp [.leaf 9 (.int .i64)] 0 true (.s .n (.s (.s (.s .n (.s .n (.s (.lp [.leaf 11 (.int .i64)] 2 true .n) .n))) .n) .n))) .n)) .n))) [] [] [] (.cons kU (.cons qt (.cons fM (.cons xz .nil)))) Tryz.mixed Tryz.func146
def RV:Ent:=⟨[.ag 12,.ag 6],[.lf (.str)],fun x=>jp x.1 x.2.1⟩
theorem yE:EOk prog 142 RV:=aH .n [] [] [] (.cons fO .nil) Tryz.mixed Tryz.func142
def Y3:Ent:=⟨[.lf (.sl (.int .i64)),.lf (.int .i64)],[.lf (.bool)],fun x=>yF x.1 x.2.1⟩
theorem O3:EOk prog 166 Y3:=aH (.s .n (.s (.s .n (.s (.lp [.leaf 5 (.int .i64)] 0 true .n) .n)) .n)) [] [] [] .nil Tryz.mixed Tryz.func166
def Me:Ent:=⟨[.ag 12,.lf (.str),.lf (.int .i64),.lf (.sl (.int .i64))],[.lf (.int .i64)],fun x=>ny x.1 x.2.1 x.2.2.1 x.2.2.2.1⟩
theorem Md:EOk prog 147 Me:=aH (.s .n (.s .n (.s (.s .n (.s (.lp [.leaf 9 (.int .i64),.leaf 10 (.int .i64)] 0 false .n) .n)) .n))) [] [] [] (.cons yE (.cons O3 .nil)) Tryz.mixed Tryz.func147
def Mb:Ent:=⟨[.ag 12,.lf (.str),.lf (.int .i64),.lf (.sl (.int .i64))],[.ag 6,.lf (.bool)],fun x=>qN x.1 x.2.1 x.2.2.1 x.2.2.2.1⟩
theorem Ma:EOk prog 148 Mb:=aH (.s .n (.s .n (.s (.s .n (.s (.lp [.box 10 91 6 [],.leaf 11 (.bool),.leaf 12 (.int .i64)] 0 false .n) .n)) .n))) [] [8] [] (.cons yE (.cons O3 .nil)) Tryz.mixed Tryz.func148
def R1:Ent:=⟨[.ag 12,.lf (.int .i64)],[.lf (.sl (.int .i64))],fun x=>Aw x.1 x.2.1⟩
theorem RZ:EOk prog 122 R1:=aH (.s .n (.s .n (.s .n (.s (.s .n (.s (.lp [.leaf 6 (.int .i64),.leaf 7 (.int .i64)] 0 false .n) .n)) (.s .n (.s (.s (.lp [.row 8 8 3 1 (.int .i64)] 2 true (.s .n (.s (.s .n (.s (.s .n (.s (.lp [.leaf 9 (.int .i64),.box 10 91 6 [],.leaf 11 (.int .i64)] 4 false .n) .n)) .n)) .n))) .n) .n)))))) [(1,[103,104]),(2,[103,104]),(6,[103,104]),(8,[103,104]),(14,[103,104]),(15,[103,104])] [] [] (.cons Az (.cons qr (.cons kU (.cons O0 (.cons Md (.cons Ma .nil)))))) Tryz.mixed Tryz.func122
def L9:Ent:=⟨[.ag 12,.ag 6],[.lf (.int .i64)],fun x=>qL x.1 x.2.1⟩
theorem L8:EOk prog 143 L9:=aH (.s .n (.s .n (.s (.s .n (.s (.lp [.leaf 5 (.int .i64),.leaf 6 (.int .i64)] 0 false .n) .n)) .n))) [] [] [] .nil Tryz.mixed Tryz.func143
def RU:Ent:=⟨[.ag 12,.lf (.int .i64),.lf (.int .i64)],[.ag 12],fun x=>oE x.1 x.2.1 x.2.2.1⟩
theorem Hl:EOk prog 123 RU:=aH (.s .n (.s .n (.s (.s .n (.s (.lp [.row 7 9 91 9 (.st 6),.leaf 8 (.int .i64)] 0 false .n) .n)) .n))) [] [6] [] .nil Tryz.mixed Tryz.func123
def RY:Ent:=⟨[.ag 12,.lf (.int .i64)],[.ag 12],fun x=>Ap x.1 x.2.1⟩
theorem RX:EOk prog 121 RY:=aH (.s .n (.s .n (.s (.s .n (.s (.lp [.row 5 5 91 9 (.st 6),.leaf 6 (.int .i64)] 0 false .n) .n)) (.s (.s .n (.s (.lp [.box 2 43 12 [],.leaf 8 (.int .i64)] 2 false .n) .n)) .n)))) [(11,[5,43,44,84]),(13,[5,43,44,84]),(14,[5,43,44]),(15,[5,43,44,84])] [4] [] (.cons nF (.cons yE (.cons kU (.cons L8 (.cons Wi (.cons yJ (.cons Hl .nil))))))) Tryz.mixed Tryz.func121
def O5:Ent:=⟨[.ag 12],[.ag 12,.lf (.sl (.int .i64))],fun x=>wP x.1⟩
theorem O4:EOk prog 98 O5:=aH (.s .n (.s .n (.s (.s .n (.s (.lp [.box 1 43 12 [],.leaf 5 (.int .i64)] 0 false (.s .n (.s (.s (.s .n (.s .n (.s .n (.s (.lp [.box 1 43 12 [],.leaf 7 (.int .i64)] 2 false .n) .n)))) .n) .n))) .n)) .n))) [] [2] [] (.cons RX (.cons RZ (.cons Hl (.cons Hm .nil)))) Tryz.mixed Tryz.func98
def R8:Ent:=⟨[.lf (.int .i64)],[.lf (.bool)],fun x=>vQ x.1⟩
theorem R7:EOk prog 124 R8:=aH .n [] [] [] .nil Tryz.mixed Tryz.func124
def Y5:Ent:=⟨[.lf (.sl (.st 8)),.lf (.int .i64),.lf (.int .i64)],[.ag 0],fun x=>vS x.1 x.2.1 x.2.2.1⟩
theorem Y4:EOk prog 150 Y5:=aH (.s .n (.s .n (.s (.s .n (.s (.lp [.box 7 27 0 [],.leaf 8 (.int .i64)] 0 false .n) .n)) .n))) [] [6] [] (.cons iP .nil) Tryz.mixed Tryz.func150
def Sa:Ent:=⟨[.lf (.sl (.st 8)),.ag 0,.ag 8,.lf (.int .i64),.lf (.int .i64)],[.lf (.bool)],fun x=>tp x.1 x.2.1 x.2.2.1 x.2.2.2.1 x.2.2.2.2.1⟩
theorem R9:EOk prog 125 Sa:=aH (.s .n (.s .n (.s (.s .n (.s (.lp [.leaf 11 (.int .i64)] 0 true .n) .n)) .n))) [] [] [] (.cons Y4 (.cons iP (.cons pW .nil))) Tryz.mixed Tryz.func125
def Pb:Ent:=⟨[.lf (.sl (.st 8)),.ag 0,.ag 8,.lf (.int .i64)],[.lf (.int .i64),.lf (.int .i64)],fun x=>wR x.1 x.2.1 x.2.2.1 x.2.2.2.1⟩
theorem Pa:EOk prog 100 Pb:=aH (.s .n (.s .n (.s .n (.s (.s .n (.s (.lp [.leaf 10 (.int .i64),.leaf 11 (.int .i64)] 0 false (.s .n (.s (.s (.s .n (.s (.s .n (.j [.leaf 12 (.int .i64)] .n)) .n)) .n) .n))) .n)) .n)))) [] [] [] (.cons R7 (.cons R9 .nil)) Tryz.mixed Tryz.func100
def Wm:Ent:=⟨[.ag 12,.ag 8,.lf (.int .i64)],[.ag 12,.lf (.int .i64),.lf (.int .i64)],fun x=>AC x.1 x.2.1 x.2.2.1⟩
theorem Wl:EOk prog 50 Wm:=aH (.s .n (.s .n (.s .n (.s (.s .n (.s (.lp [.leaf 9 (.int .i64),.leaf 10 (.int .i64)] 0 true .n) .n)) .n)))) [] [6] [] (.cons qr (.cons Pa .nil)) Tryz.mixed Tryz.func50
def Sc:Ent:=⟨[.ag 12,.lf (.int .i64)],[.ag 12,.lf (.int .i64)],fun x=>vR x.1 x.2.1⟩
theorem Sb:EOk prog 51 Sc:=aH (.s .n (.s .n (.s (.s .n (.s (.lp [.row 6 6 74 6 (.st 8),.leaf 7 (.int .i64)] 0 false .n) .n)) .n))) [] [4] [] .nil Tryz.mixed Tryz.func51
theorem L3 (k:Nat) (x:cg [.lf (.int .i64)]) : fj ⟨prog,[(53,⟨[.lf (.int .i64)],[.lf (.str)],fun x=>dB k x.1⟩)],25,[.lf (.str)],[.tmp 2],[],[],[]⟩ ((Tryz.f53).body.getD .skip) (.n) [.lf (.int .i64)] x=dB (k + 1) x.1:=by kernel_rfl
theorem zX:∀ k:Nat,bI prog 53 [.lf (.int .i64)] [.lf (.str)] (fun x=>dB k x.1)
 | 0=>fun x r h=>by cases h
 | k + 1=>cd (n:=25) (.cons (zX k) (.nil)) Tryz.mixed Tryz.func53 rfl (by kernel_rfl) rfl rfl rfl (L3 k)
def YY:Ent:=⟨[.lf (.str),.lf (.int .u8)],[.lf (.sl (.str))],fun x=>He x.1 x.2.1⟩
theorem OO:EOk prog 111 YY:=aH (.s .n (.s .n (.s .n (.s (.s .n (.s (.lp [.row 5 5 9 1 (.str),.leaf 6 (.int .i64),.leaf 7 (.int .i64)] 0 false .n) .n)) (.s (.s .n (.j [.row 5 5 9 1 (.str)] .n)) .n))))) [] [] [] .nil Tryz.mixed Tryz.func111
def Rt:Ent:=⟨[.lf (.str)],[.lf (.sl (.str))],fun x=>zS x.1⟩
theorem Rs:EOk prog 112 Rt:=aH (.s .n (.s .n (.s .n (.s (.s .n (.s (.lp [.row 3 3 9 1 (.str),.leaf 5 (.int .i64)] 0 false .n) .n)) .n)))) [] [] [] (.cons OO .nil) Tryz.mixed Tryz.func112
def ON:Ent:=⟨[.lf (.str)],[.lf (.int .i64),.lf (.bool)],fun x=>pV x.1⟩
theorem C9:EOk prog 133 ON:=aH (.s .n (.s .n (.s .n (.s (.s .n (.s (.lp [.leaf 4 (.int .i64),.leaf 5 (.int .i64)] 0 true .n) .n)) .n)))) [] [] [] .nil Tryz.mixed Tryz.func133
def Rv:Ent:=⟨[.lf (.str)],[.ag 3,.lf (.bool)],fun x=>zT x.1⟩
theorem Ru:EOk prog 134 Rv:=aH (.s .n (.s .n (.s (.s (.lp [.leaf 4 (.int .i64)] 0 false .n) .n) .n))) [] [2] [] (.cons C9 .nil) Tryz.mixed Tryz.func134
def Ry:Ent:=⟨[.lf (.sl (.str)),.lf (.int .i64)],[.ag 4,.lf (.bool)],fun x=>zU x.1 x.2.1⟩
theorem Rx:EOk prog 113 Ry:=aH (.s .n (.s .n (.s .n (.s .n (.s (.s .n (.s (.lp [.leaf 7 (.bool),.box 8 63 4 [(1,1161,98,2,.st 3)],.leaf 9 (.int .i64)] 0 false .n) .n)) .n))))) [] [4] [] (.cons C9 (.cons Ru .nil)) Tryz.mixed Tryz.func113
def RA:Ent:=⟨[.lf (.str)],[.ag 5,.lf (.int .i64)],fun x=>zW x.1⟩
theorem Rz:EOk prog 78 RA:=aH (.s .n (.s .n (.s .n (.s .n (.s .n (.s (.s .n (.s (.lp [.box 4 36 5 [],.leaf 5 (.bool),.leaf 7 (.int .i64)] 0 true (.s .n (.s (.s (.s .n (.s .n (.s .n (.s .n (.s .n (.s .n (.s .n (.s (.s (.lp [.leaf 11 (.int .i64)] 2 false .n) .n) .n)))))))) .n) .n))) .n)) .n)))))) [] [2] [] (.cons OO (.cons Rs (.cons Rx .nil))) Tryz.mixed Tryz.func78
def V3:Ent:=⟨[.ag 5,.ag 5],[.lf (.bool)],fun x=>Ez x.1 x.2.1⟩
theorem V2:EOk prog 40 V3:=aH (.s .n (.s .n (.s (.s .n (.s (.lp [.leaf 5 (.int .i64)] 0 true .n) .n)) (.s (.s .n (.s (.lp [.leaf 6 (.int .i64)] 2 true (.s .n (.s (.s (.s .n (.s .n (.s .n (.s (.lp [.leaf 9 (.int .i64)] 4 true .n) .n)))) .n) .n))) .n)) .n)))) [] [] [] .nil Tryz.mixed Tryz.func40
def Ck:Ent:=⟨[.ag 5],[.lf (.str)],fun x=>zV x.1⟩
theorem Kh:EOk prog 27 Ck:=aH (.s .n (.s .n (.s (.s .n (.s (.lp [.leaf 3 (.str),.leaf 4 (.int .i64)] 0 false .n) .n)) (.s .n (.s (.s .n (.s (.lp [.leaf 3 (.str),.leaf 5 (.int .i64)] 2 false (.s .n (.s (.s (.s .n (.s .n (.s (.s .n (.s (.lp [.leaf 3 (.str),.leaf 7 (.int .i64)] 4 false .n) .n)) .n))) .n) .n))) .n)) .n))))) [] [] [] (.cons (zX ab) .nil) Tryz.mixed Tryz.func27
def wO:Ent:=⟨[],[.ag 12],fun x=>An ⟩
theorem Cl:EOk prog 25 wO:=aH .n [] [0] [] .nil Tryz.mixed Tryz.func25
def RO:Ent:=⟨[.lf (.sl (.int .i64)),.lf (.sl (.int .i64))],[.lf (.bool)],fun x=>qE x.1 x.2.1⟩
theorem RN:EOk prog 76 RO:=aH (.s .n (.s .n (.s (.s .n (.s (.lp [.leaf 5 (.int .i64)] 0 true .n) .n)) .n))) [] [] [] .nil Tryz.mixed Tryz.func76
def Wh:Ent:=⟨[.ag 2,.ag 2],[.lf (.bool)],fun x=>EA x.1 x.2.1⟩
theorem Wg:EOk prog 41 Wh:=aH (.s .n (.s .n (.s (.s .n (.s (.lp [.leaf 5 (.int .i64)] 0 true .n) .n)) .n))) [] [] [] (.cons RN .nil) Tryz.mixed Tryz.func41
def ut:Ent:=⟨[.ag 12,.ag 12],[.lf (.bool)],fun x=>qK x.1 x.2.1⟩
theorem yC:EOk prog 14 ut:=aH (.s .n (.s .n (.s .n (.s (.s .n (.s (.lp [.leaf 5 (.bool),.leaf 6 (.int .i64)] 0 false .n) .n)) (.s (.s .n (.s (.lp [.leaf 5 (.bool),.leaf 7 (.int .i64)] 2 false .n) .n)) (.s (.s .n (.s (.lp [.leaf 5 (.bool),.leaf 8 (.int .i64)] 4 false .n) .n)) (.s (.s .n (.s (.lp [.leaf 5 (.bool),.leaf 9 (.int .i64)] 6 false .n) .n)) (.s (.s .n (.s (.lp [.leaf 5 (.bool),.leaf 10 (.int .i64)] 8 false .n) .n)) .n)))))))) [] [] [] (.cons V2 (.cons Wg .nil)) Tryz.mixed Tryz.func14
def Wf:Ent:=⟨[.ag 12,.lf (.int .i64)],[.ag 12,.ag 10],fun x=>dS x.1 x.2.1⟩
theorem pX:EOk prog 52 Wf:=aH .n [] [4,5] [] .nil Tryz.mixed Tryz.func52
def L7:Ent:=⟨[.ag 12,.lf (.str)],[.ag 12,.ag 10],fun x=>ur x.1 x.2.1⟩
theorem L6:EOk prog 44 L7:=aH (.s .n (.s .n (.s (.s .n (.j [.leaf 7 (.int .i64)] .n)) (.s .n (.s .n (.s (.s .n (.s (.lp [.leaf 8 (.int .i64)] 0 true .n) .n)) (.s (.s .n (.s (.lp [.leaf 9 (.int .i64)] 2 true .n) .n)) .n))))))) [] [4,5] [] (.cons Rz (.cons Rq (.cons pX (.cons fM (.cons Cj .nil))))) Tryz.mixed Tryz.func44
def Y0:Ent:=⟨[.ag 12,.lf (.int .i64)],[.lf (.sl (.int .i64))],fun x=>yA x.1 x.2.1⟩
theorem OW:EOk prog 83 Y0:=aH (.s .n (.s .n (.s (.s .n (.s (.lp [.row 5 5 3 1 (.int .i64),.leaf 6 (.int .i64)] 0 false .n) .n)) .n))) [] [] [] .nil Tryz.mixed Tryz.func83
def RS:Ent:=⟨[.ag 12,.ag 9],[.ag 12,.ag 10],fun x=>Am x.1 x.2.1⟩
theorem RR:EOk prog 46 RS:=aH (.s .n (.s .n (.s .n (.s .n (.s .n (.s .n (.s (.s .n (.s (.lp [.row 10 10 3 1 (.int .i64),.leaf 11 (.int .i64)] 0 false .n) .n)) .n))))))) [(1,[83,84]),(3,[83,84]),(4,[83,84]),(6,[83,84]),(11,[83,84]),(14,[10,83,84]),(15,[10,83,84]),(16,[10,83,84])] [4,5] [] (.cons pU (.cons OW (.cons VO (.cons pX (.cons nF (.cons yJ (.cons So .nil))))))) Tryz.mixed Tryz.func46
def OY:Ent:=⟨[.ag 12,.lf (.sl (.int .i64))],[.lf (.sl (.st 6))],fun x=>tj x.1 x.2.1⟩
theorem OX:EOk prog 88 OY:=aH (.s .n (.s .n (.s (.s .n (.s (.lp [.row 5 5 91 9 (.st 6),.leaf 6 (.int .i64)] 0 false .n) .n)) .n))) [(5,[27,28])] [] [] (.cons nF .nil) Tryz.mixed Tryz.func88
def IJ:Ent:=⟨[.ag 12,.lf (.int .i64)],[.lf (.sl (.int .i64))],fun x=>oD x.1 x.2.1⟩
theorem II:EOk prog 89 IJ:=aH (.s .n (.s .n (.s (.s .n (.s (.lp [.row 5 5 3 1 (.int .i64),.leaf 6 (.int .i64)] 0 false .n) .n)) .n))) [] [] [] .nil Tryz.mixed Tryz.func89
def OV:Ent:=⟨[.ag 12,.lf (.sl (.st 1)),.lf (.sl (.st 1))],[.lf (.sl (.st 1)),.lf (.int .i64)],fun x=>wN x.1 x.2.1 x.2.2.1⟩
theorem OU:EOk prog 90 OV:=aH (.s .n (.s (.s .n (.s (.lp [.leaf 1 (.sl (.st 1)),.leaf 8 (.int .i64)] 0 true .n) .n)) .n)) [] [] [] (.cons Q9 (.cons YT .nil)) Tryz.mixed Tryz.func90
def L5:Ent:=⟨[.ag 12,.ag 9],[.ag 12,.ag 10],fun x=>uq x.1 x.2.1⟩
theorem L4:EOk prog 47 L5:=aH (.s .n (.s .n (.s .n (.s .n (.s .n (.s (.s .n (.s (.lp [.box 2 43 12 [],.box 6 30 2 [],.leaf 10 (.int .i64)] 1 false .n) .n)) .n)))))) [(1,[61,64,144,147]),(3,[61,64,144,147]),(5,[61,64,144,147]),(7,[61,64,144,147]),(9,[144,147]),(11,[61,64,144,147]),(12,[61,64,144,147]),(14,[61,64,144,147]),(18,[61,64,144,147]),(20,[61,64,144,147]),(21,[61,64,144,147]),(22,[61,64]),(25,[61,64,144,147])] [4,5] [] (.cons fO (.cons pX (.cons OX (.cons II (.cons OU (.cons nF (.cons HI (.cons xB (.cons nD .nil))))))))) Tryz.mixed Tryz.func47
def We:Ent:=⟨[.ag 12,.lf (.int .i64),.lf (.int .i64)],[.ag 12,.ag 10],fun x=>Ai x.1 x.2.1 x.2.2.1⟩
theorem Wd:EOk prog 48 We:=aH .n [] [6,7] [] (.cons fO (.cons pX (.cons fM (.cons Wt .nil)))) Tryz.mixed Tryz.func48
def RQ:Ent:=⟨[.ag 12,.lf (.int .i64)],[.lf (.int .i64)],fun x=>vM x.1 x.2.1⟩
theorem RP:EOk prog 97 RQ:=aH (.s .n (.s (.s .n (.s (.lp [.leaf 5 (.int .i64)] 0 true .n) .n)) .n)) [] [] [] .nil Tryz.mixed Tryz.func97
def RM:Ent:=⟨[.ag 12,.lf (.int .i64)],[.ag 12,.ag 10],fun x=>Ah x.1 x.2.1⟩
theorem RL:EOk prog 49 RM:=aH (.s .n (.s .n (.s .n (.s .n (.s .n (.s .n (.s (.s .n (.s (.lp [.box 2 43 12 [],.leaf 8 (.int .i64)] 0 false .n) .n)) (.s .n (.s (.s .n (.s (.lp [.box 2 43 12 [],.leaf 9 (.int .i64)] 2 false .n) .n)) (.s .n (.s (.s .n (.s (.lp [.row 10 10 74 6 (.st 8),.leaf 11 (.int .i64)] 4 false .n) .n)) .n))))))))))) [(2,[79,103,104]),(4,[79,103,104]),(7,[79,103,104]),(11,[79,103,104]),(12,[79,103,104]),(13,[79,103,104]),(17,[103,104]),(25,[10,79,103,104]),(26,[10,79,103,104])] [4,5] [] (.cons pX (.cons OB (.cons VM (.cons AJ (.cons OW (.cons yJ (.cons A0 (.cons RP (.cons O4 (.cons Hm .nil)))))))))) Tryz.mixed Tryz.func49
def Hj:Ent:=⟨[.ag 12,.ag 9],[.ag 12,.ag 10],fun x=>tm x.1 x.2.1⟩
theorem RT:EOk prog 26 Hj:=aH .n [] [4,5] [] (.cons L6 (.cons IG (.cons RR (.cons AY (.cons L4 (.cons Wd (.cons RL (.cons Wl (.cons Sb (.cons pX .nil)))))))))) Tryz.mixed Tryz.func26
abbrev Tx:=List UInt8
def sv (l:Tx) : Value:=.string ⟨l.toArray⟩
theorem abN (S:ByteArray) : sv S.data.toList = .string S:=by cases S; rfl
structure QD where
 path:Tx
 caps:List (Int×Int)
 user:Int
def above (l:Tx) : Tx:=((l.reverse.dropWhile (fun b=>b != 46)).drop 1).reverse
theorem YP {l:Tx} (h:(46:UInt8) ∉ l) : above l = []:=by
 unfold above
 have hp:∀ x∈l.reverse,(x != 46)=true:=fun x hx=>by
  simp
  intro e
  subst e
  exact h (List.mem_reverse.1 hx)
 have:=List.dropWhile_append_of_pos (l₂:=[]) hp
 rw [List.append_nil] at this
 rw [this]
 rfl
theorem YQ {a t:Tx} (h:(46:UInt8) ∉ t) : above (a++46::t)=a:=by
 unfold above
 have hp:∀ x∈t.reverse,(x != 46)=true:=fun x hx=>by simp; intro e; subst e; exact h (List.mem_reverse.1 hx)
 rw [List.reverse_append,List.reverse_cons,List.append_assoc,List.dropWhile_append_of_pos hp]
 simp
def lM (p:Tx) (q:QD) : Bool:=decide (p≠[])&&decide (above q.path=p)
def cG (p:Tx) (l:List QD) : List Tx:=(l.filter (lM p)).map (·.path)
theorem FH (l:List QD) : cG [] l = []:=by
 unfold cG
 have:l.filter (lM []) = []:=by
  rw [List.filter_eq_nil_iff]
  intro q _
  simp [lM]
 rw [this]; rfl
theorem UO {p:Tx} {l:List QD} {k:Nat} (h:k < l.length) : cG p (l.take (k + 1))=cG p (l.take k)++if lM p l[k] then [l[k].path] else []:=by
 unfold cG
 rw [List.take_succ_eq_append_getElem h,List.filter_append,List.map_append]
 congr 1
 by_cases hk:lM p l[k] = true
 ·simp [hk]
 ·simp [hk]
theorem XQ (p:Tx) (l:List QD) : (cG p l).length≤l.length:=by
 unfold cG
 rw [List.length_map]
 exact List.length_filter_le _ _
theorem Z7 {p:Tx} {q:QD} (h0:p≠[]) (h:above q.path=p) : lM p q=true:=by simp [lM,h0,h]
theorem abr {p:Tx} {q:QD} (h : ¬ above q.path=p) : lM p q=false:=by simp [lM,h]
theorem aaW {z x:ByteArray} (h : ¬ z=x) : (z.toList==x.toList)=false:=by
 rw [beq_eq_false_iff_ne]
 intro e
 rw [ByteArray.toList_eq,ByteArray.toList_eq] at e
 apply h
 cases z; cases x
 simp only at e
 rw [Array.toList_inj] at e
 rw [e]
theorem wG (S:ByteArray) : S.size=S.data.toList.length:=by cases S; rfl
theorem YH (S:ByteArray) (k:Nat) (h:k < S.size) : S[k] = S.data.toList[k]'(by rw [← wG]; exact h):=by cases S; rfl
theorem abF {S:ByteArray} : S=⟨#[]⟩↔S.data.toList = []:=by
 cases S with
 | mk d => constructor
           ·intro h; injection h with h; rw [h]
           ·intro h; simp at h; rw [h]
theorem TK (S:ByteArray) (i j:Nat) : (S.extract i j).data.toList=(S.data.toList.drop i).take (j - i):=by
 cases S with
 | mk d=>simp [ByteArray.extract,ByteArray.copySlice,Array.toList_extract,List.extract_eq_take_drop]
theorem aaX {T S:ByteArray} (e:T.data.toList=S.data.toList) : T=S:=by
 cases T; cases S; simp only at e; rw [Array.toList_inj] at e; rw [e]
def cj (cs:List (Int×Int)) : List Value:=cs.flatMap fun p=>[.int .i64 p.1,.int .i64 p.2]
theorem IC (cs:List (Int×Int)) (a b:Int) : cj (cs ++ [(a,b)])=cj cs ++ [.int .i64 a,.int .i64 b]:=by simp [cj]
structure QC where
 p:ByteArray
 A:Option Addr
 n:Nat
 c:Nat
 u:Int
def M6 (q:QC) : List Value:=[.string q.p,.slice q.A q.n q.c,.int .i64 q.u]
def fZ (qs:List QC) : List Value:=qs.flatMap M6
theorem M7 (qs:List QC) (q:QC) : fZ (qs ++ [q])=fZ qs++M6 q:=by simp [fZ]
theorem Tryz.infoStr:(prog.info? 9).map (fun i=>(i.zero,i.size,i.bytes))=some (some (.string ⟨#[]⟩),1,16):=by kernel_rfl
theorem Tryz.infoQ:(prog.info? 63).map (fun i=>(i.zero,i.size,i.bytes))=some (some (.agg #[.string ⟨#[]⟩,.slice none 0 0,.int .i64 0]),3,48):=by kernel_rfl
theorem acy {s:ByteArray} {A:Option Addr} {n c:Nat} {i:Int} : ∀ u∈[Value.string s,Value.slice A n c,Value.int .i64 i],u.oneCell' = true:=by
 intro u hu
 simp only [List.mem_cons,List.mem_nil_iff,or_false] at hu
 rcases hu with rfl | rfl | rfl <;> rfl
structure aa0 (w:World) (g k:Nat) (q:QD) : Prop where
 ex:∃ (P:ByteArray) (A:Option Addr) (c:Nat),w.cell? ⟨g,k * 3,none⟩=some (.string P)∧w.cell? ⟨g,k * 3 + 1,none⟩=some (.slice A q.caps.length c)∧w.cell? ⟨g,k * 3 + 2,none⟩=some (.int .i64 q.user)∧P.data.toList=q.path∧RdK 2 w (.slice A q.caps.length c) q.caps.length (cj q.caps)
def QAt (w:World) (v:Value) (ds:List QD) : Prop:=∃ A c,v = .slice A ds.length c∧ds.length≤c∧c≤maxLen∧(0 < ds.length→∃ g,A=some ⟨g,0,none⟩∧g < w.heap.size∧∀ k (h:k < ds.length),aa0 w g k ds[k])
theorem QAt.open {w:World} {v:Value} {ds:List QD} (h:QAt w v ds) : ∃ A N c,v = .slice A N c∧N=ds.length∧N≤c∧c≤9223372036854775807∧(0 < N→∃ g,A=some ⟨g,0,none⟩∧g < w.heap.size∧∀ k (h:k < ds.length),aa0 w g k ds[k]):=by
 obtain ⟨A,c,rfl,h1,h2,h3⟩:=h
 unfold maxLen at h2
 exact ⟨A,_,c,rfl,rfl,h1,by omega,h3⟩
theorem MC (a n:Int) (w:World) (hn : 0 < n∧n≤1125899906842625) :
  Calls prog 54 #[.int .i64 a,.int .i64 n] w fun e w'=>e = .returned (.int .i64 (a % n))∧w=w':=by
 obtain ⟨n0,n1⟩:=hn
 have hz:(n==0)=false:=by simp; omega
 have l1:a.tmod n < n:=Int.tmod_lt_of_pos a n0
 have l2 : -n < a.tmod n:=by have:=Int.lt_tmod_of_pos a n0; omega
 by_cases hneg:a.tmod n < 0
 ·rw [N2 n0 hneg]
  go_enter Tryz.func54,Tryz.ntmps54
  go_wp2
  go_ret
  exact ⟨rfl,rfl⟩
 ·rw [N1 n0 hneg]
  go_enter Tryz.func54,Tryz.ntmps54
  go_wp2
  go_ret
  exact ⟨rfl,rfl⟩
theorem gW (a:Int) (n:Nat) (m:Int) (w:World) (hm:m=(n:Int)) (hn : 0 < n∧n≤1125899906842625) :
  Calls prog 54 #[.int .i64 a,.int .i64 m] w fun e w'=>∃ y:Nat,e = .returned (.int .i64 (y:Int))∧(y:Int)=a % (n:Int)∧y < n∧w=w':=by
 subst hm
 refine (MC a n w ⟨by omega,by omega⟩).mono ?_
 rintro e w' ⟨rfl,rfl⟩
 have h0:=Int.emod_nonneg a (show (n:Int)≠0 by omega)
 have h1:=Int.emod_lt_of_pos a (show (0:Int) < n by omega)
 refine ⟨(a % (n:Int)).toNat,?_,by omega,by omega,rfl⟩
 rw [show (((a % (n:Int)).toNat:Nat) : Int)=a % (n:Int) from by omega]
theorem Qb {w:World} {base:Nat} {e:TypeId} {k:Nat} {v:Value} {n:Nat} {xs:List Value} (h:w.ownsRow base e k v n xs) {B:Nat} (hB:B≤base) : ∀ k,v.ownBlock=some k→B≤k :=
 fun k hk=>Nat.le_trans hB (h.lt k hk).1
end Go.Proofs.YtmjkjaahbgikjaaGreat
