/- My texts, in one. -/
import Derived.Test.YtaknepbdbappdaaGreatZC
set_option linter.all false
set_option maxRecDepth 100000
set_option maxHeartbeats 4000000
namespace Go.Proofs.YtaknepbdbappdaaGreat
open Go.RowKit
open IntKind (i64)
open Go.Proofs.Tryz (prog)
theorem ld {w w':World} {base:Nat} {e:TypeId} {k:Nat} {v:Value} {n:Nat} {xs:List Value} (h:w.ownsRow base e k v n xs) (x:Ext w w') : w'.ownsRow base e k v n xs:=by
 refine ⟨h.1,?_⟩
 rcases h.2 with hn | ⟨g,cap,cur,rfl,hb,hg,hr⟩
 ·exact .inl hn
 ·exact .inr ⟨g,cap,cur,rfl,hb,(x.block g (Array.getElem?_eq_some_iff.1 hg).1).trans hg,hr⟩
def RdK (k:Nat) (w:World) (v:Value) (n:Nat) (xs:List Value) : Prop :=
 ∃ A c,v = .slice A n c∧n≤c∧c≤maxLen∧xs.length=n * k∧(0 < xs.length→∃ a,A=some a∧a.block < w.heap.size∧∀ j u,xs[j]? = some u→w.cell? (a.add j)=some u)
theorem RdK.of_own {k:Nat} {w:World} {base:Nat} {e:TypeId} {v:Value} {n:Nat} {xs:List Value} (h:w.ownsRow base e k v n xs) : RdK k w v n xs:=by
 have hl:=h.1
 rcases h.2 with ⟨rfl,h0⟩ | ⟨g,cap,cur,rfl,_,hg,hc,hm,_⟩
 ·subst h0; exact ⟨none,0,rfl,Nat.le_refl _,by simp [maxLen],hl,fun hn=>by omega⟩
 ·exact ⟨_,cap,rfl,hc,hm,hl,fun hn=>⟨⟨g,0,none⟩,rfl,(Array.getElem?_eq_some_iff.1 hg).1,h.cells (g:=g) rfl⟩⟩
theorem cx {w:World} {B e k n:Nat} {v:Value} {xs:List Value} (h:w.ownsRow B e k v n xs) : ∃ A c,v = .slice A n c∧n≤c∧c≤9223372036854775807:=by
 rcases h.2 with ⟨rfl,h0⟩ | ⟨g,cap,cur,rfl,_,_,hc,hm,_⟩
 ·subst h0; exact ⟨none,0,rfl,Nat.le_refl _,by omega⟩
 ·unfold maxLen at hm; exact ⟨_,cap,rfl,hc,by omega⟩
theorem EM (w:World) (x y z:Value) (t:TypeId) : ∀ j u,[x,y,z][j]? = some u→(w.alloc (.cells #[x,y,z] t)).cell? ((⟨w.heap.size,0,none⟩ : Addr).add j)=some u:=by
 intro j u hu
 have hadd:(⟨w.heap.size,0,none⟩ : Addr).add j=⟨w.heap.size,j,none⟩:=by unfold Addr.add; split <;> simp_all
 rw [hadd,cell_of_row _ w.heap.size j _ t (0,0) (heap_alloc_new w _),← Array.getElem?_toList]
 exact hu
theorem XX {w:World} {B B' e e' k k' n n':Nat} {v v':Value} {xs xs':List Value} (h:w.ownsRow B e k v n xs) (h':w.ownsRow B' e' k' v' n' xs') (he:e≠e') : v.ownBlock=none∨v.ownBlock≠v'.ownBlock:=by
 rcases h.2 with ⟨rfl,_⟩ | ⟨g,cap,cur,rfl,_,hg,_⟩
 ·exact .inl rfl
 ·refine .inr fun e1=>?_
  rcases h'.2 with ⟨rfl,_⟩ | ⟨g',cap',cur',rfl,_,hg',_⟩
  ·cases e1
  ·simp [Value.ownBlock] at e1
   subst e1
   rw [hg] at hg'
   injection hg' with hg'
   injection hg' with _ h2
   exact he h2
theorem fx (W:World) (B:Nat) (e:TypeId) (k:Nat) (h:B≤W.heap.size) : (W.alloc (.cells #[] e)).ownsRow B e k (.slice (some ⟨W.heap.size,0,none⟩) 0 0) 0 [] :=
 ⟨by simp,.inr ⟨W.heap.size,0,#[],rfl,h,heap_alloc_new W _,Nat.le_refl _,by simp [maxLen],by simp,by simp⟩⟩
section
section
variable {P:Program} (w:World)
end
end
def gJ (k:Nat) (t:TypeId) (n:Nat) (xs:List Value) (w:World) (e:Ending) (w':World) : Prop:=∃ A' c',e = .returned (.slice A' n c')∧w'.ownsRow w.heap.size t k (.slice A' n c') n xs∧Ext w w'
theorem Tryz.infoClNode:(prog.info? 57).map (fun i=>(i.zero,i.size,i.bytes))=some (some (.agg #[.int .i64 0,.int .i64 0,.int .i64 0,.int .i64 0,.int .i64 0,.int .i64 0,.int .i64 0,.bool false]),8,64):=by kernel_rfl
theorem F9 (v:Value) (n:Nat) (xs:List Value) (w:World) (h:RdK 8 w v n xs) (h1:∀ u∈xs,u.oneCell' = true) (h2:n≤1000000) :
  Calls prog 59 #[v] w (gJ 8 57 n xs w):=by
 obtain ⟨c0,hc,hcz0,hcz1,hcz2⟩:=info_parts Tryz.infoClNode
 obtain ⟨A,c,rfl,hc1,hc2,hl,hcell⟩:=h
 have hn:=fun (W:World) (A:Option Addr) (n c n' c':Nat)=>Lib.run_eql_slice_nil (P:=prog) W 35 57 A n c n' c' Tryz.underlying35
 have HL:=Lib.hid hl
 have H1:=Lib.hid h1
 cases A with
 | none =>
  have hx:xs = []:=by
   rcases xs with _ | ⟨x,xs⟩
   ·rfl
   ·obtain ⟨a,e,_⟩:=hcell (by simp)
    cases e
  subst hx
  have hn0:n=0:=by simp at hl; omega
  subst hn0
  clear hcell hl
  go_enter Tryz.func59,Tryz.ntmps59
  go_wp2
  go_ret
  exact ⟨none,0,rfl,World.ownsRow_nil _ _ _ 8,Ext.refl _⟩
 | some a =>
  have HO:=Lib.hid (fx w w.heap.size 57 8 (Nat.le_refl _))
  have HCS:=Lib.hid (show ∀ (j:Nat) (u:Value),xs[j]? = some u→(w.alloc (.cells #[] 57)).cell? (a.add j)=some u from fun j u hu=>by
   obtain ⟨a',e,hb,hcs⟩:=hcell (by have:=(zg.1 hu).1; omega)
   obtain rfl:a=a':=Option.some.inj e
   exact (Below.cell (aP w _) (p:=a.add j) (by rw [db]; exact hb)).trans (hcs j u hu))
  clear hcell hl h1
  go_enter Tryz.func59,Tryz.ntmps59
  go_wp2_with (at_builtin; go_loud (refine wpList_append_own_at _ rfl (.tmp 5) (.tmp 6) 35 rfl w.heap.size 57 c0 _ 8 64 Tryz.underlying35 hc hcz0 hcz1 hcz2 rfl (by decide) _ 0 [] rfl HO.out a n c xs rfl HL.out HCS.out H1.out ?c3 ?c4 ?c5 ?_))
  case c3=>simp [maxLen]; omega
  case c4=>omega
  case c5=>simp
  intro v' w3 ho3 hg3 _ hat3
  have HE:=Lib.hid ((aP w (.cells #[] 57)).trans' (cE hg3 (by simp) (fun k hk=>by simp [Value.ownBlock] at hk; omega)))
  have HO3:=Lib.hid ho3
  obtain ⟨A3,c3,rfl,_,_⟩:=cx ho3
  clear ho3 hg3 hat3
  go_wp2
  go_ret
  exact ⟨_,_,rfl,HO3.out,HE.out⟩
theorem Tryz.infoClCont:(prog.info? 85).map (fun i=>(i.zero,i.size,i.bytes))=some (some (.agg #[.int .i64 0,.int .i64 0,.int .i64 0,.int .i64 0,.int .i64 0,.int .i64 0,.int .i64 0,.bool false,.int .i64 0]),9,72):=by kernel_rfl
theorem Ga (v:Value) (n:Nat) (xs:List Value) (w:World) (h:RdK 9 w v n xs) (h1:∀ u∈xs,u.oneCell' = true) (h2:n≤1000000) :
  Calls prog 62 #[v] w (gJ 9 85 n xs w):=by
 obtain ⟨c0,hc,hcz0,hcz1,hcz2⟩:=info_parts Tryz.infoClCont
 obtain ⟨A,c,rfl,hc1,hc2,hl,hcell⟩:=h
 have hn:=fun (W:World) (A:Option Addr) (n c n' c':Nat)=>Lib.run_eql_slice_nil (P:=prog) W 37 85 A n c n' c' Tryz.underlying37
 have HL:=Lib.hid hl
 have H1:=Lib.hid h1
 cases A with
 | none =>
  have hx:xs = []:=by
   rcases xs with _ | ⟨x,xs⟩
   ·rfl
   ·obtain ⟨a,e,_⟩:=hcell (by simp)
    cases e
  subst hx
  have hn0:n=0:=by simp at hl; omega
  subst hn0
  clear hcell hl
  go_enter Tryz.func62,Tryz.ntmps62
  go_wp2
  go_ret
  exact ⟨none,0,rfl,World.ownsRow_nil _ _ _ 9,Ext.refl _⟩
 | some a =>
  have HO:=Lib.hid (fx w w.heap.size 85 9 (Nat.le_refl _))
  have HCS:=Lib.hid (show ∀ (j:Nat) (u:Value),xs[j]? = some u→(w.alloc (.cells #[] 85)).cell? (a.add j)=some u from fun j u hu=>by
   obtain ⟨a',e,hb,hcs⟩:=hcell (by have:=(zg.1 hu).1; omega)
   obtain rfl:a=a':=Option.some.inj e
   exact (Below.cell (aP w _) (p:=a.add j) (by rw [db]; exact hb)).trans (hcs j u hu))
  clear hcell hl h1
  go_enter Tryz.func62,Tryz.ntmps62
  go_wp2_with (at_builtin; go_loud (refine wpList_append_own_at _ rfl (.tmp 5) (.tmp 6) 37 rfl w.heap.size 85 c0 _ 9 72 Tryz.underlying37 hc hcz0 hcz1 hcz2 rfl (by decide) _ 0 [] rfl HO.out a n c xs rfl HL.out HCS.out H1.out ?c3 ?c4 ?c5 ?_))
  case c3=>simp [maxLen]; omega
  case c4=>omega
  case c5=>simp
  intro v' w3 ho3 hg3 _ hat3
  have HE:=Lib.hid ((aP w (.cells #[] 85)).trans' (cE hg3 (by simp) (fun k hk=>by simp [Value.ownBlock] at hk; omega)))
  have HO3:=Lib.hid ho3
  obtain ⟨A3,c3,rfl,_,_⟩:=cx ho3
  clear ho3 hg3 hat3
  go_wp2
  go_ret
  exact ⟨_,_,rfl,HO3.out,HE.out⟩
theorem Tryz.infoClSlot:(prog.info? 87).map (fun i=>(i.zero,i.size,i.bytes))=some (some (.agg #[.int .i64 0,.int .i64 0,.int .i64 0]),3,24):=by kernel_rfl
theorem F7 (v:Value) (n:Nat) (xs:List Value) (w:World) (h:RdK 3 w v n xs) (h1:∀ u∈xs,u.oneCell' = true) (h2:n≤1000000) :
  Calls prog 63 #[v] w (gJ 3 87 n xs w):=by
 obtain ⟨c0,hc,hcz0,hcz1,hcz2⟩:=info_parts Tryz.infoClSlot
 obtain ⟨A,c,rfl,hc1,hc2,hl,hcell⟩:=h
 have hn:=fun (W:World) (A:Option Addr) (n c n' c':Nat)=>Lib.run_eql_slice_nil (P:=prog) W 38 87 A n c n' c' Tryz.underlying38
 have HL:=Lib.hid hl
 have H1:=Lib.hid h1
 cases A with
 | none =>
  have hx:xs = []:=by
   rcases xs with _ | ⟨x,xs⟩
   ·rfl
   ·obtain ⟨a,e,_⟩:=hcell (by simp)
    cases e
  subst hx
  have hn0:n=0:=by simp at hl; omega
  subst hn0
  clear hcell hl
  go_enter Tryz.func63,Tryz.ntmps63
  go_wp2
  go_ret
  exact ⟨none,0,rfl,World.ownsRow_nil _ _ _ 3,Ext.refl _⟩
 | some a =>
  have HO:=Lib.hid (fx w w.heap.size 87 3 (Nat.le_refl _))
  have HCS:=Lib.hid (show ∀ (j:Nat) (u:Value),xs[j]? = some u→(w.alloc (.cells #[] 87)).cell? (a.add j)=some u from fun j u hu=>by
   obtain ⟨a',e,hb,hcs⟩:=hcell (by have:=(zg.1 hu).1; omega)
   obtain rfl:a=a':=Option.some.inj e
   exact (Below.cell (aP w _) (p:=a.add j) (by rw [db]; exact hb)).trans (hcs j u hu))
  clear hcell hl h1
  go_enter Tryz.func63,Tryz.ntmps63
  go_wp2_with (at_builtin; go_loud (refine wpList_append_own_at _ rfl (.tmp 5) (.tmp 6) 38 rfl w.heap.size 87 c0 _ 3 24 Tryz.underlying38 hc hcz0 hcz1 hcz2 rfl (by decide) _ 0 [] rfl HO.out a n c xs rfl HL.out HCS.out H1.out ?c3 ?c4 ?c5 ?_))
  case c3=>simp [maxLen]; omega
  case c4=>omega
  case c5=>simp
  intro v' w3 ho3 hg3 _ hat3
  have HE:=Lib.hid ((aP w (.cells #[] 87)).trans' (cE hg3 (by simp) (fun k hk=>by simp [Value.ownBlock] at hk; omega)))
  have HO3:=Lib.hid ho3
  obtain ⟨A3,c3,rfl,_,_⟩:=cx ho3
  clear ho3 hg3 hat3
  go_wp2
  go_ret
  exact ⟨_,_,rfl,HO3.out,HE.out⟩
theorem Tryz.infoClPlan:(prog.info? 29).map (fun i=>(i.zero,i.size,i.bytes))=some (some (.agg #[.int .i64 0,.int .i64 0,.int .i64 0,.int .i64 0,.int .i64 0,.int .i64 0]),6,48):=by kernel_rfl
theorem F8 (v:Value) (n:Nat) (xs:List Value) (w:World) (h:RdK 6 w v n xs) (h1:∀ u∈xs,u.oneCell' = true) (h2:n≤1000000) :
  Calls prog 64 #[v] w (gJ 6 29 n xs w):=by
 obtain ⟨c0,hc,hcz0,hcz1,hcz2⟩:=info_parts Tryz.infoClPlan
 obtain ⟨A,c,rfl,hc1,hc2,hl,hcell⟩:=h
 have hn:=fun (W:World) (A:Option Addr) (n c n' c':Nat)=>Lib.run_eql_slice_nil (P:=prog) W 39 29 A n c n' c' Tryz.underlying39
 have HL:=Lib.hid hl
 have H1:=Lib.hid h1
 cases A with
 | none =>
  have hx:xs = []:=by
   rcases xs with _ | ⟨x,xs⟩
   ·rfl
   ·obtain ⟨a,e,_⟩:=hcell (by simp)
    cases e
  subst hx
  have hn0:n=0:=by simp at hl; omega
  subst hn0
  clear hcell hl
  go_enter Tryz.func64,Tryz.ntmps64
  go_wp2
  go_ret
  exact ⟨none,0,rfl,World.ownsRow_nil _ _ _ 6,Ext.refl _⟩
 | some a =>
  have HO:=Lib.hid (fx w w.heap.size 29 6 (Nat.le_refl _))
  have HCS:=Lib.hid (show ∀ (j:Nat) (u:Value),xs[j]? = some u→(w.alloc (.cells #[] 29)).cell? (a.add j)=some u from fun j u hu=>by
   obtain ⟨a',e,hb,hcs⟩:=hcell (by have:=(zg.1 hu).1; omega)
   obtain rfl:a=a':=Option.some.inj e
   exact (Below.cell (aP w _) (p:=a.add j) (by rw [db]; exact hb)).trans (hcs j u hu))
  clear hcell hl h1
  go_enter Tryz.func64,Tryz.ntmps64
  go_wp2_with (at_builtin; go_loud (refine wpList_append_own_at _ rfl (.tmp 5) (.tmp 6) 39 rfl w.heap.size 29 c0 _ 6 48 Tryz.underlying39 hc hcz0 hcz1 hcz2 rfl (by decide) _ 0 [] rfl HO.out a n c xs rfl HL.out HCS.out H1.out ?c3 ?c4 ?c5 ?_))
  case c3=>simp [maxLen]; omega
  case c4=>omega
  case c5=>simp
  intro v' w3 ho3 hg3 _ hat3
  have HE:=Lib.hid ((aP w (.cells #[] 29)).trans' (cE hg3 (by simp) (fun k hk=>by simp [Value.ownBlock] at hk; omega)))
  have HO3:=Lib.hid ho3
  obtain ⟨A3,c3,rfl,_,_⟩:=cx ho3
  clear ho3 hg3 hat3
  go_wp2
  go_ret
  exact ⟨_,_,rfl,HO3.out,HE.out⟩
theorem Tryz.infoClStr:(prog.info? 9).map (fun i=>(i.zero,i.size,i.bytes))=some (some (.string ⟨#[]⟩),1,16):=by kernel_rfl
theorem Jh (v:Value) (n:Nat) (xs:List Value) (w:World) (h:RdK 1 w v n xs) (h1:∀ u∈xs,u.oneCell' = true) (h2:n≤1000000) :
  Calls prog 138 #[v] w (gJ 1 9 n xs w):=by
 obtain ⟨c0,hc,hcz0,hcz1,hcz2⟩:=info_parts Tryz.infoClStr
 obtain ⟨A,c,rfl,hc1,hc2,hl,hcell⟩:=h
 have hn:=fun (W:World) (A:Option Addr) (n c n' c':Nat)=>Lib.run_eql_slice_nil (P:=prog) W 31 9 A n c n' c' Tryz.underlying31
 have HL:=Lib.hid hl
 have H1:=Lib.hid h1
 cases A with
 | none =>
  have hx:xs = []:=by
   rcases xs with _ | ⟨x,xs⟩
   ·rfl
   ·obtain ⟨a,e,_⟩:=hcell (by simp)
    cases e
  subst hx
  have hn0:n=0:=by simp at hl; omega
  subst hn0
  clear hcell hl
  go_enter Tryz.func138,Tryz.ntmps138
  go_wp2
  go_ret
  exact ⟨none,0,rfl,World.ownsRow_nil _ _ _ 1,Ext.refl _⟩
 | some a =>
  have HO:=Lib.hid (fx w w.heap.size 9 1 (Nat.le_refl _))
  have HCS:=Lib.hid (show ∀ (j:Nat) (u:Value),xs[j]? = some u→(w.alloc (.cells #[] 9)).cell? (a.add j)=some u from fun j u hu=>by
   obtain ⟨a',e,hb,hcs⟩:=hcell (by have:=(zg.1 hu).1; omega)
   obtain rfl:a=a':=Option.some.inj e
   exact (Below.cell (aP w _) (p:=a.add j) (by rw [db]; exact hb)).trans (hcs j u hu))
  clear hcell hl h1
  go_enter Tryz.func138,Tryz.ntmps138
  go_wp2_with (at_builtin; go_loud (refine wpList_append_own_at _ rfl (.tmp 5) (.tmp 6) 31 rfl w.heap.size 9 c0 _ 1 16 Tryz.underlying31 hc hcz0 hcz1 hcz2 rfl (by decide) _ 0 [] rfl HO.out a n c xs rfl HL.out HCS.out H1.out ?c3 ?c4 ?c5 ?_))
  case c3=>simp [maxLen]; omega
  case c4=>omega
  case c5=>simp
  intro v' w3 ho3 hg3 _ hat3
  have HE:=Lib.hid ((aP w (.cells #[] 9)).trans' (cE hg3 (by simp) (fun k hk=>by simp [Value.ownBlock] at hk; omega)))
  have HO3:=Lib.hid ho3
  obtain ⟨A3,c3,rfl,_,_⟩:=cx ho3
  clear ho3 hg3 hat3
  go_wp2
  go_ret
  exact ⟨_,_,rfl,HO3.out,HE.out⟩
theorem Tryz.infoClQueue:(prog.info? 101).map (fun i=>(i.zero,i.size,i.bytes))=some (some (.agg #[.string ⟨#[]⟩,.slice none 0 0,.int .i64 0]),3,48):=by kernel_rfl
theorem EH (v:Value) (n:Nat) (xs:List Value) (w:World) (h:RdK 3 w v n xs) (h1:∀ u∈xs,u.oneCell' = true) (h2:n≤1000000) :
  Calls prog 140 #[v] w (gJ 3 101 n xs w):=by
 obtain ⟨c0,hc,hcz0,hcz1,hcz2⟩:=info_parts Tryz.infoClQueue
 obtain ⟨A,c,rfl,hc1,hc2,hl,hcell⟩:=h
 have hn:=fun (W:World) (A:Option Addr) (n c n' c':Nat)=>Lib.run_eql_slice_nil (P:=prog) W 32 101 A n c n' c' Tryz.underlying32
 have HL:=Lib.hid hl
 have H1:=Lib.hid h1
 cases A with
 | none =>
  have hx:xs = []:=by
   rcases xs with _ | ⟨x,xs⟩
   ·rfl
   ·obtain ⟨a,e,_⟩:=hcell (by simp)
    cases e
  subst hx
  have hn0:n=0:=by simp at hl; omega
  subst hn0
  clear hcell hl
  go_enter Tryz.func140,Tryz.ntmps140
  go_wp2
  go_ret
  exact ⟨none,0,rfl,World.ownsRow_nil _ _ _ 3,Ext.refl _⟩
 | some a =>
  have HO:=Lib.hid (fx w w.heap.size 101 3 (Nat.le_refl _))
  have HCS:=Lib.hid (show ∀ (j:Nat) (u:Value),xs[j]? = some u→(w.alloc (.cells #[] 101)).cell? (a.add j)=some u from fun j u hu=>by
   obtain ⟨a',e,hb,hcs⟩:=hcell (by have:=(zg.1 hu).1; omega)
   obtain rfl:a=a':=Option.some.inj e
   exact (Below.cell (aP w _) (p:=a.add j) (by rw [db]; exact hb)).trans (hcs j u hu))
  clear hcell hl h1
  go_enter Tryz.func140,Tryz.ntmps140
  go_wp2_with (at_builtin; go_loud (refine wpList_append_own_at _ rfl (.tmp 5) (.tmp 6) 32 rfl w.heap.size 101 c0 _ 3 48 Tryz.underlying32 hc hcz0 hcz1 hcz2 rfl (by decide) _ 0 [] rfl HO.out a n c xs rfl HL.out HCS.out H1.out ?c3 ?c4 ?c5 ?_))
  case c3=>simp [maxLen]; omega
  case c4=>omega
  case c5=>simp
  intro v' w3 ho3 hg3 _ hat3
  have HE:=Lib.hid ((aP w (.cells #[] 101)).trans' (cE hg3 (by simp) (fun k hk=>by simp [Value.ownBlock] at hk; omega)))
  have HO3:=Lib.hid ho3
  obtain ⟨A3,c3,rfl,_,_⟩:=cx ho3
  clear ho3 hg3 hat3
  go_wp2
  go_ret
  exact ⟨_,_,rfl,HO3.out,HE.out⟩
theorem Tryz.infoClCap:(prog.info? 98).map (fun i=>(i.zero,i.size,i.bytes))=some (some (.agg #[.int .i64 0,.int .i64 0]),2,16):=by kernel_rfl
theorem Jj (v:Value) (n:Nat) (xs:List Value) (w:World) (h:RdK 2 w v n xs) (h1:∀ u∈xs,u.oneCell' = true) (h2:n≤1000000) :
  Calls prog 141 #[v] w (gJ 2 98 n xs w):=by
 obtain ⟨c0,hc,hcz0,hcz1,hcz2⟩:=info_parts Tryz.infoClCap
 obtain ⟨A,c,rfl,hc1,hc2,hl,hcell⟩:=h
 have hn:=fun (W:World) (A:Option Addr) (n c n' c':Nat)=>Lib.run_eql_slice_nil (P:=prog) W 99 98 A n c n' c' Tryz.underlying99
 have HL:=Lib.hid hl
 have H1:=Lib.hid h1
 cases A with
 | none =>
  have hx:xs = []:=by
   rcases xs with _ | ⟨x,xs⟩
   ·rfl
   ·obtain ⟨a,e,_⟩:=hcell (by simp)
    cases e
  subst hx
  have hn0:n=0:=by simp at hl; omega
  subst hn0
  clear hcell hl
  go_enter Tryz.func141,Tryz.ntmps141
  go_wp2
  go_ret
  exact ⟨none,0,rfl,World.ownsRow_nil _ _ _ 2,Ext.refl _⟩
 | some a =>
  have HO:=Lib.hid (fx w w.heap.size 98 2 (Nat.le_refl _))
  have HCS:=Lib.hid (show ∀ (j:Nat) (u:Value),xs[j]? = some u→(w.alloc (.cells #[] 98)).cell? (a.add j)=some u from fun j u hu=>by
   obtain ⟨a',e,hb,hcs⟩:=hcell (by have:=(zg.1 hu).1; omega)
   obtain rfl:a=a':=Option.some.inj e
   exact (Below.cell (aP w _) (p:=a.add j) (by rw [db]; exact hb)).trans (hcs j u hu))
  clear hcell hl h1
  go_enter Tryz.func141,Tryz.ntmps141
  go_wp2_with (at_builtin; go_loud (refine wpList_append_own_at _ rfl (.tmp 5) (.tmp 6) 99 rfl w.heap.size 98 c0 _ 2 16 Tryz.underlying99 hc hcz0 hcz1 hcz2 rfl (by decide) _ 0 [] rfl HO.out a n c xs rfl HL.out HCS.out H1.out ?c3 ?c4 ?c5 ?_))
  case c3=>simp [maxLen]; omega
  case c4=>omega
  case c5=>simp
  intro v' w3 ho3 hg3 _ hat3
  have HE:=Lib.hid ((aP w (.cells #[] 98)).trans' (cE hg3 (by simp) (fun k hk=>by simp [Value.ownBlock] at hk; omega)))
  have HO3:=Lib.hid ho3
  obtain ⟨A3,c3,rfl,_,_⟩:=cx ho3
  clear ho3 hg3 hat3
  go_wp2
  go_ret
  exact ⟨_,_,rfl,HO3.out,HE.out⟩
theorem Tryz.infoClAsk:(prog.info? 126).map (fun i=>(i.zero,i.size,i.bytes))=some (some (.agg #[.int .i64 0,.int .i64 0,.int .i64 0,.int .i64 0,.int .i64 0,.int .i64 0,.int .i64 0,.int .i64 0]),8,64):=by kernel_rfl
theorem Jk (v:Value) (n:Nat) (xs:List Value) (w:World) (h:RdK 8 w v n xs) (h1:∀ u∈xs,u.oneCell' = true) (h2:n≤1000000) :
  Calls prog 114 #[v] w (gJ 8 126 n xs w):=by
 obtain ⟨c0,hc,hcz0,hcz1,hcz2⟩:=info_parts Tryz.infoClAsk
 obtain ⟨A,c,rfl,hc1,hc2,hl,hcell⟩:=h
 have hn:=fun (W:World) (A:Option Addr) (n c n' c':Nat)=>Lib.run_eql_slice_nil (P:=prog) W 69 126 A n c n' c' Tryz.underlying69
 have HL:=Lib.hid hl
 have H1:=Lib.hid h1
 cases A with
 | none =>
  have hx:xs = []:=by
   rcases xs with _ | ⟨x,xs⟩
   ·rfl
   ·obtain ⟨a,e,_⟩:=hcell (by simp)
    cases e
  subst hx
  have hn0:n=0:=by simp at hl; omega
  subst hn0
  clear hcell hl
  go_enter Tryz.func114,Tryz.ntmps114
  go_wp2
  go_ret
  exact ⟨none,0,rfl,World.ownsRow_nil _ _ _ 8,Ext.refl _⟩
 | some a =>
  have HO:=Lib.hid (fx w w.heap.size 126 8 (Nat.le_refl _))
  have HCS:=Lib.hid (show ∀ (j:Nat) (u:Value),xs[j]? = some u→(w.alloc (.cells #[] 126)).cell? (a.add j)=some u from fun j u hu=>by
   obtain ⟨a',e,hb,hcs⟩:=hcell (by have:=(zg.1 hu).1; omega)
   obtain rfl:a=a':=Option.some.inj e
   exact (Below.cell (aP w _) (p:=a.add j) (by rw [db]; exact hb)).trans (hcs j u hu))
  clear hcell hl h1
  go_enter Tryz.func114,Tryz.ntmps114
  go_wp2_with (at_builtin; go_loud (refine wpList_append_own_at _ rfl (.tmp 5) (.tmp 6) 69 rfl w.heap.size 126 c0 _ 8 64 Tryz.underlying69 hc hcz0 hcz1 hcz2 rfl (by decide) _ 0 [] rfl HO.out a n c xs rfl HL.out HCS.out H1.out ?c3 ?c4 ?c5 ?_))
  case c3=>simp [maxLen]; omega
  case c4=>omega
  case c5=>simp
  intro v' w3 ho3 hg3 _ hat3
  have HE:=Lib.hid ((aP w (.cells #[] 126)).trans' (cE hg3 (by simp) (fun k hk=>by simp [Value.ownBlock] at hk; omega)))
  have HO3:=Lib.hid ho3
  obtain ⟨A3,c3,rfl,_,_⟩:=cx ho3
  clear ho3 hg3 hat3
  go_wp2
  go_ret
  exact ⟨_,_,rfl,HO3.out,HE.out⟩
theorem Tryz.infoClInt:(prog.info? 3).map (fun i=>(i.zero,i.size,i.bytes))=some (some (.int .i64 0),1,8):=by kernel_rfl
theorem Ji (v:Value) (n:Nat) (xs:List Value) (w:World) (h:RdK 1 w v n xs) (h1:∀ u∈xs,u.oneCell' = true) (h2:n≤1000000) :
  Calls prog 115 #[v] w (gJ 1 3 n xs w):=by
 obtain ⟨c0,hc,hcz0,hcz1,hcz2⟩:=info_parts Tryz.infoClInt
 obtain ⟨A,c,rfl,hc1,hc2,hl,hcell⟩:=h
 have hn:=fun (W:World) (A:Option Addr) (n c n' c':Nat)=>Lib.run_eql_slice_nil (P:=prog) W 22 3 A n c n' c' Tryz.underlying22
 have HL:=Lib.hid hl
 have H1:=Lib.hid h1
 cases A with
 | none =>
  have hx:xs = []:=by
   rcases xs with _ | ⟨x,xs⟩
   ·rfl
   ·obtain ⟨a,e,_⟩:=hcell (by simp)
    cases e
  subst hx
  have hn0:n=0:=by simp at hl; omega
  subst hn0
  clear hcell hl
  go_enter Tryz.func115,Tryz.ntmps115
  go_wp2
  go_ret
  exact ⟨none,0,rfl,World.ownsRow_nil _ _ _ 1,Ext.refl _⟩
 | some a =>
  have HO:=Lib.hid (fx w w.heap.size 3 1 (Nat.le_refl _))
  have HCS:=Lib.hid (show ∀ (j:Nat) (u:Value),xs[j]? = some u→(w.alloc (.cells #[] 3)).cell? (a.add j)=some u from fun j u hu=>by
   obtain ⟨a',e,hb,hcs⟩:=hcell (by have:=(zg.1 hu).1; omega)
   obtain rfl:a=a':=Option.some.inj e
   exact (Below.cell (aP w _) (p:=a.add j) (by rw [db]; exact hb)).trans (hcs j u hu))
  clear hcell hl h1
  go_enter Tryz.func115,Tryz.ntmps115
  go_wp2_with (at_builtin; go_loud (refine wpList_append_own_at _ rfl (.tmp 5) (.tmp 6) 22 rfl w.heap.size 3 c0 _ 1 8 Tryz.underlying22 hc hcz0 hcz1 hcz2 rfl (by decide) _ 0 [] rfl HO.out a n c xs rfl HL.out HCS.out H1.out ?c3 ?c4 ?c5 ?_))
  case c3=>simp [maxLen]; omega
  case c4=>omega
  case c5=>simp
  intro v' w3 ho3 hg3 _ hat3
  have HE:=Lib.hid ((aP w (.cells #[] 3)).trans' (cE hg3 (by simp) (fun k hk=>by simp [Value.ownBlock] at hk; omega)))
  have HO3:=Lib.hid ho3
  obtain ⟨A3,c3,rfl,_,_⟩:=cx ho3
  clear ho3 hg3 hat3
  go_wp2
  go_ret
  exact ⟨_,_,rfl,HO3.out,HE.out⟩
theorem Tryz.infoClApp:(prog.info? 71).map (fun i=>(i.zero,i.size,i.bytes))=some (some (.agg #[.int .i64 0,.int .i64 0,.string ⟨#[]⟩,.int .i64 0,.int .i64 0,.int .i64 0,.int .i64 0,.slice none 0 0,.int .i64 0,.int .i64 0,.slice none 0 0,.slice none 0 0,.slice none 0 0,.slice none 0 0]),14,200):=by kernel_rfl
theorem Jl (v:Value) (n:Nat) (xs:List Value) (w:World) (h:RdK 14 w v n xs) (h1:∀ u∈xs,u.oneCell' = true) (h2:n≤1000000) :
  Calls prog 113 #[v] w (gJ 14 71 n xs w):=by
 obtain ⟨c0,hc,hcz0,hcz1,hcz2⟩:=info_parts Tryz.infoClApp
 obtain ⟨A,c,rfl,hc1,hc2,hl,hcell⟩:=h
 have hn:=fun (W:World) (A:Option Addr) (n c n' c':Nat)=>Lib.run_eql_slice_nil (P:=prog) W 36 71 A n c n' c' Tryz.underlying36
 have HL:=Lib.hid hl
 have H1:=Lib.hid h1
 cases A with
 | none =>
  have hx:xs = []:=by
   rcases xs with _ | ⟨x,xs⟩
   ·rfl
   ·obtain ⟨a,e,_⟩:=hcell (by simp)
    cases e
  subst hx
  have hn0:n=0:=by simp at hl; omega
  subst hn0
  clear hcell hl
  go_enter Tryz.func113,Tryz.ntmps113
  go_wp2
  go_ret
  exact ⟨none,0,rfl,World.ownsRow_nil _ _ _ 14,Ext.refl _⟩
 | some a =>
  have HO:=Lib.hid (fx w w.heap.size 71 14 (Nat.le_refl _))
  have HCS:=Lib.hid (show ∀ (j:Nat) (u:Value),xs[j]? = some u→(w.alloc (.cells #[] 71)).cell? (a.add j)=some u from fun j u hu=>by
   obtain ⟨a',e,hb,hcs⟩:=hcell (by have:=(zg.1 hu).1; omega)
   obtain rfl:a=a':=Option.some.inj e
   exact (Below.cell (aP w _) (p:=a.add j) (by rw [db]; exact hb)).trans (hcs j u hu))
  clear hcell hl h1
  go_enter Tryz.func113,Tryz.ntmps113
  go_wp2_with (at_builtin; go_loud (refine wpList_append_own_at _ rfl (.tmp 5) (.tmp 6) 36 rfl w.heap.size 71 c0 _ 14 200 Tryz.underlying36 hc hcz0 hcz1 hcz2 rfl (by decide) _ 0 [] rfl HO.out a n c xs rfl HL.out HCS.out H1.out ?c3 ?c4 ?c5 ?_))
  case c3=>simp [maxLen]; omega
  case c4=>omega
  case c5=>simp
  intro v' w3 ho3 hg3 _ hat3
  have HE:=Lib.hid ((aP w (.cells #[] 71)).trans' (cE hg3 (by simp) (fun k hk=>by simp [Value.ownBlock] at hk; omega)))
  have HO3:=Lib.hid ho3
  obtain ⟨A3,c3,rfl,_,_⟩:=cx ho3
  clear ho3 hg3 hat3
  go_wp2
  go_ret
  exact ⟨_,_,rfl,HO3.out,HE.out⟩
end Go.Proofs.YtaknepbdbappdaaGreat
section
namespace Go.Proofs
open Go.Shelf
def Tryz.laysM316_ren:Go.Shelf.Ren:=⟨fun | 316=>139 | n=>n,fun | 9=>9 | 3=>3 | 4=>4 | 37=>164 | 0=>0 | 127=>225 | 5=>5 | n=>n,fun | n=>n⟩
theorem Tryz.laysM316:Go.Proofs.LaysM.n316 prog Tryz.laysM316_ren:={
 mixed:=by kernel_rfl
 f316:=Tryz.func139.trans (congrArg some (by kernel_rfl))
 t0:=Tryz.underlying0
 a0:=Tryz.isAgg0
 z0:=Tryz.sizeOf0
 v0:=Tryz.zeroValue0
 t3:=Tryz.underlying3
 a3:=Tryz.isAgg3
 z3:=Tryz.sizeOf3
 v3:=Tryz.zeroValue3
 t4:=Tryz.underlying4
 a4:=Tryz.isAgg4
 z4:=Tryz.sizeOf4
 v4:=Tryz.zeroValue4
 t9:=Tryz.underlying9
 a9:=Tryz.isAgg9
 z9:=Tryz.sizeOf9
 v9:=Tryz.zeroValue9
 t37:=Tryz.underlying164
 a37:=Tryz.isAgg164
 z37:=Tryz.sizeOf164
 v37:=Tryz.zeroValue164
 t127:=Tryz.underlying225
 a127:=Tryz.isAgg225
 z127:=Tryz.sizeOf225
 v127:=Tryz.zeroValue225
 t5:=Tryz.underlying5
 a5:=Tryz.isAgg5
 z5:=Tryz.sizeOf5
 v5:=Tryz.zeroValue5
 i0:=by kernel_rfl
 i3:=by kernel_rfl
 i4:=by kernel_rfl
 i5:=by kernel_rfl
 i9:=by kernel_rfl
 i37:=by kernel_rfl
 i127:=by kernel_rfl }
open Go.RowKit in
theorem Tryz.stringslite_Clone (s:ByteArray) (w:World) (hlim:s.size≤281474976710656) :
  Calls prog 139 #[.string s] w fun e w'=>e = .returned (.string s)∧Below w.heap.size w w':=Any.stringslite_Clone Tryz.laysM316 s w hlim
end Go.Proofs
end
namespace Go.Proofs.YtaknepbdbappdaaGreat
open Go.RowKit
open IntKind (i64)
open Go.Proofs.Tryz (prog)
theorem Ir (S:ByteArray) (w:World) (hs:S.size≤1000000000000) : Calls prog 110 #[.string S] w fun e w'=>e = .returned (.string S)∧Ext w w':=by
 have hcon:=fun W=>Tryz.stringslite_Clone S W (by omega)
 go_enter Tryz.func110,Tryz.ntmps110
 go_wp2_with (go_at_call 139; refine (hcon _).mono ?_; rintro e w' ⟨rfl,hx⟩)
 go_ret
 exact ⟨rfl,hx⟩
def NZ {α : Type} (xs:List α) : Option (List α):=if xs.length≤1000000 then some xs else none
def fy (ty:Ty) (e k:Nat) (x:cJ [.lf (.sl ty)]) : Option (bh [.io [.no],.own e k ty]):=(NZ (show List ty.den from x.1)).bind fun z=>some (((),()),z)
theorem iE {P:Program} {f:FuncId} (ty:Ty) {e k:Nat} (hk:tyN ty=k) (hk0 : 0 < k) (hcall:eB P f=true)
  (hC:∀ (v:Value) (n:Nat) (us:List Value) (w:World),RdK k w v n us→(∀ u∈us,u.oneCell' = true)→n≤1000000→Calls P f #[v] w (gJ k e n us w)) :
  bR P f [.lf (.sl ty)] [.io [.no],.own e k ty] (fy ty e k):=by
 refine W7 (F:=NZ) hk hk0 hcall fun xs zs w G v hF hG hd=>?_
 unfold NZ at hF
 split at hF
 ·rename_i hle
  injection hF with hF
  subst hF
  cases hd with
  | sl A n c k0 _ us hn hc hm hkk hA hA0 hcell hrep =>
   have hlen:∀ y∈xs.map (bJ ty),y.length=k:=fun y hy=>by
    obtain ⟨z,_,rfl⟩:=List.mem_map.1 hy
    rw [px,hk]
   have hfl:=cF k (xs.map (bJ ty)) hlen
   rw [List.length_map] at hn hfl
   have hul:((List.range (xs.map (bJ ty)).flatten.length).map us).length=xs.length * k:=by rw [List.length_map,List.length_range,hfl]
   have hget:∀ (j:Nat) u,((List.range (xs.map (bJ ty)).flatten.length).map us)[j]? = some u→j < (xs.map (bJ ty)).flatten.length∧u=us j:=fun j u hu=>by
    rw [List.getElem?_map,zm] at hu
    obtain ⟨i,hi,rfl⟩:=hu
    obtain ⟨rfl,hlt⟩:=nF hi
    exact ⟨hlt,rfl⟩
   refine (hC _ n ((List.range (xs.map (bJ ty)).flatten.length).map us) w ⟨A,c,rfl,hc,hm,by rw [hul,hn],fun h0=>?_⟩ (fun u hu=>?_) (by omega)).mono ?_
   ·obtain ⟨a, ha, hFa⟩ := hA (by rw [hn]; rcases Nat.eq_zero_or_pos xs.length with e | e
                                  ·rw [hul,e,Nat.zero_mul] at h0; omega
                                  ·exact e)
    refine ⟨a,ha,hG _ hFa,fun j u hu=>?_⟩
    obtain ⟨hlt,rfl⟩:=hget j u hu
    exact hcell a j _ ha (zq hlt)
   ·obtain ⟨j,hj⟩:=List.getElem?_of_mem hu
    obtain ⟨hlt,rfl⟩:=hget j u hj
    exact (hrep j _ (zq hlt)).one
   ·rintro en w' ⟨A',c',rfl,ho,hx⟩
    refine ⟨_,_,rfl,by rw [← hn]; exact ho,hx,hul,fun j u d hu hd=>?_⟩
    obtain ⟨hlt,rfl⟩:=hget j u hu
    exact hrep j d hd
 ·cases hF
noncomputable def Tp:Ent:=⟨[.lf (.sl (.st 7))],[.io [.no],.own 57 8 (.st 7)],fy (.st 7) 57 8⟩
theorem To:bR prog 59 [.lf (.sl (.st 7))] [.io [.no],.own 57 8 (.st 7)] (fy (.st 7) 57 8):=iE (.st 7) (by kernel_rfl) (by decide) (by kernel_rfl) (fun v n us w h1 h2 h3=>F9 v n us w h1 h2 h3)
noncomputable def Tr:Ent:=⟨[.lf (.sl (.st 6))],[.io [.no],.own 85 9 (.st 6)],fy (.st 6) 85 9⟩
theorem Tq:bR prog 62 [.lf (.sl (.st 6))] [.io [.no],.own 85 9 (.st 6)] (fy (.st 6) 85 9):=iE (.st 6) (by kernel_rfl) (by decide) (by kernel_rfl) (fun v n us w h1 h2 h3=>Ga v n us w h1 h2 h3)
noncomputable def Tk:Ent:=⟨[.lf (.sl (.st 11))],[.io [.no],.own 87 3 (.st 11)],fy (.st 11) 87 3⟩
theorem Tj:bR prog 63 [.lf (.sl (.st 11))] [.io [.no],.own 87 3 (.st 11)] (fy (.st 11) 87 3):=iE (.st 11) (by kernel_rfl) (by decide) (by kernel_rfl) (fun v n us w h1 h2 h3=>F7 v n us w h1 h2 h3)
noncomputable def Tn:Ent:=⟨[.lf (.sl (.st 8))],[.io [.no],.own 29 6 (.st 8)],fy (.st 8) 29 6⟩
theorem Tm:bR prog 64 [.lf (.sl (.st 8))] [.io [.no],.own 29 6 (.st 8)] (fy (.st 8) 29 6):=iE (.st 8) (by kernel_rfl) (by decide) (by kernel_rfl) (fun v n us w h1 h2 h3=>F8 v n us w h1 h2 h3)
noncomputable def VT:Ent:=⟨[.lf (.sl (.str))],[.io [.no],.own 9 1 (.str)],fy (.str) 9 1⟩
theorem VS:bR prog 138 [.lf (.sl (.str))] [.io [.no],.own 9 1 (.str)] (fy (.str) 9 1):=iE (.str) (by kernel_rfl) (by decide) (by kernel_rfl) (fun v n us w h1 h2 h3=>Jh v n us w h1 h2 h3)
noncomputable def PM:Ent:=⟨[.lf (.sl (.st 4))],[.io [.no],.own 101 3 (.st 4)],fy (.st 4) 101 3⟩
theorem PK:bR prog 140 [.lf (.sl (.st 4))] [.io [.no],.own 101 3 (.st 4)] (fy (.st 4) 101 3):=iE (.st 4) (by kernel_rfl) (by decide) (by kernel_rfl) (fun v n us w h1 h2 h3=>EH v n us w h1 h2 h3)
noncomputable def VY:Ent:=⟨[.lf (.sl (.st 3))],[.io [.no],.own 98 2 (.st 3)],fy (.st 3) 98 2⟩
theorem VX:bR prog 141 [.lf (.sl (.st 3))] [.io [.no],.own 98 2 (.st 3)] (fy (.st 3) 98 2):=iE (.st 3) (by kernel_rfl) (by decide) (by kernel_rfl) (fun v n us w h1 h2 h3=>Jj v n us w h1 h2 h3)
noncomputable def V0:Ent:=⟨[.lf (.sl (.st 1))],[.io [.no],.own 126 8 (.st 1)],fy (.st 1) 126 8⟩
theorem VZ:bR prog 114 [.lf (.sl (.st 1))] [.io [.no],.own 126 8 (.st 1)] (fy (.st 1) 126 8):=iE (.st 1) (by kernel_rfl) (by decide) (by kernel_rfl) (fun v n us w h1 h2 h3=>Jk v n us w h1 h2 h3)
noncomputable def VV:Ent:=⟨[.lf (.sl (.int .i64))],[.io [.no],.own 3 1 (.int .i64)],fy (.int .i64) 3 1⟩
theorem VU:bR prog 115 [.lf (.sl (.int .i64))] [.io [.no],.own 3 1 (.int .i64)] (fy (.int .i64) 3 1):=iE (.int .i64) (by kernel_rfl) (by decide) (by kernel_rfl) (fun v n us w h1 h2 h3=>Ji v n us w h1 h2 h3)
noncomputable def V2:Ent:=⟨[.lf (.sl (.st 2))],[.io [.no],.own 71 14 (.st 2)],fy (.st 2) 71 14⟩
theorem V1:bR prog 113 [.lf (.sl (.st 2))] [.io [.no],.own 71 14 (.st 2)] (fy (.st 2) 71 14):=iE (.st 2) (by kernel_rfl) (by decide) (by kernel_rfl) (fun v n us w h1 h2 h3=>Jl v n us w h1 h2 h3)
noncomputable def vB:Ent:=⟨[.lf .str],[.lf .str],fun x=>if (show ByteArray from x.1).size≤1000000000 then some x.1 else none⟩
theorem vA:bR prog 110 [.lf .str] [.lf .str] (fun x=>if (show ByteArray from x.1).size≤1000000000 then some x.1 else none):=W6 (by kernel_rfl) fun x z w hF=>by
 dsimp only at hF
 split at hF
 ·rename_i hle
  injection hF with hF
  subst hF
  exact Ir x w (Nat.le_trans hle (by decide))
 ·cases hF
noncomputable def wo (x:cJ [.ag 2]) : Option (bh [.ag 2]):=kz ⟨prog,[(110,vB),(114,V0),(115,VV)],28,[.ag 2],[.cell 2 71],[],[2],[]⟩ ((Tryz.f61).body.getD .skip) (.n) [.ag 2] x
noncomputable def Gy:Ent:=⟨[.ag 2],[.ag 2],wo⟩
theorem Gx:bR prog 61 [.ag 2] [.ag 2] wo:=cT (n:=28) (.cons (vA) (.cons (VZ) (.cons (VU) (.nil)))) Tryz.mixed Tryz.func61 rfl (by kernel_rfl) rfl rfl rfl (fun _=>rfl)
noncomputable def tb (x:cJ [.ag 4]) : Option (bh [.ag 4]):=kz ⟨prog,[(110,vB),(141,VY)],12,[.ag 4],[.cell 2 101],[],[2],[]⟩ ((Tryz.f112).body.getD .skip) (.n) [.ag 4] x
noncomputable def Ck:Ent:=⟨[.ag 4],[.ag 4],tb⟩
theorem Cj:bR prog 112 [.ag 4] [.ag 4] tb:=cT (n:=12) (.cons (vA) (.cons (VX) (.nil))) Tryz.mixed Tryz.func112 rfl (by kernel_rfl) rfl rfl rfl (fun _=>rfl)
noncomputable def tc (x:cJ [.lf (.sl .str),.fn 110 [] []]) : Option (bh [.lf (.sl .str)]):=kz ⟨prog,[(138,VT),(110,vB)],24,[.lf (.sl .str)],[.tmp 4],[],[],[]⟩ ((Tryz.f109).body.getD .skip) (.s (.n) (.s (.n) (.s (.s (.n) (.s (.lp [.row 0 500512 9 1 (.str),.row 9 500512 9 1 (.str),.leaf 11 (.int .i64)] 0 false (.n)) .n)) (.n)))) [.lf (.sl .str),.fn 110 [] []] x
noncomputable def Cm:Ent:=⟨[.lf (.sl .str),.fn 110 [] []],[.lf (.sl .str)],tc⟩
theorem Cl:bR prog 109 [.lf (.sl .str),.fn 110 [] []] [.lf (.sl .str)] tc:=cT (n:=24) (.cons (VS) (.cons (vA) (.nil))) Tryz.mixed Tryz.func109 rfl (by kernel_rfl) rfl rfl rfl (fun _=>rfl)
noncomputable def td (x:cJ [.lf (.sl (.st 4)),.fn 112 [] []]) : Option (bh [.lf (.sl (.st 4))]):=kz ⟨prog,[(140,PM),(112,Ck)],24,[.lf (.sl (.st 4))],[.tmp 4],[],[],[]⟩ ((Tryz.f111).body.getD .skip) (.s (.n) (.s (.n) (.s (.s (.n) (.s (.lp [.row 0 500512 101 3 (.st 4),.row 9 500512 101 3 (.st 4),.leaf 11 (.int .i64)] 0 false (.n)) .n)) (.n)))) [.lf (.sl (.st 4)),.fn 112 [] []] x
noncomputable def Co:Ent:=⟨[.lf (.sl (.st 4)),.fn 112 [] []],[.lf (.sl (.st 4))],td⟩
theorem Cn:bR prog 111 [.lf (.sl (.st 4)),.fn 112 [] []] [.lf (.sl (.st 4))] td:=cT (n:=24) (.cons (PK) (.cons (Cj) (.nil))) Tryz.mixed Tryz.func111 rfl (by kernel_rfl) rfl rfl rfl (fun _=>rfl)
noncomputable def te (x:cJ [.lf (.sl (.st 2)),.fn 61 [] []]) : Option (bh [.io [.no,.no],.own 71 14 (.st 2)]):=P1 ⟨prog,[(113,V2),(61,Gy)],24,[.io [.no,.no],.own 71 14 (.st 2)],[.tmp 4],[],[],[]⟩ ((Tryz.f60).body.getD .skip) (.s (.n) (.s (.n) (.s (.s (.n) (.s (.lp [.row 0 500512 71 14 (.st 2),.row 9 500512 71 14 (.st 2),.leaf 11 (.int .i64)] 0 false (.n)) .n)) (.n)))) [.lf (.sl (.st 2)),.fn 61 [] []] x
noncomputable def Cq:Ent:=⟨[.lf (.sl (.st 2)),.fn 61 [] []],[.io [.no,.no],.own 71 14 (.st 2)],te⟩
theorem Cp:bR prog 60 [.lf (.sl (.st 2)),.fn 61 [] []] [.io [.no,.no],.own 71 14 (.st 2)] te:=QT (n:=24) (.cons (V1) (.cons (Gx) (.nil))) Tryz.mixed Tryz.func60 rfl (by kernel_rfl) rfl rfl (by kernel_rfl) (fun _ _ _=>(by first | trivial | exact ⟨trivial,trivial⟩)) (fun _=>rfl)
noncomputable def uT (x:cJ [.ag 5]) : Option (bh [.ag 5]):=kz ⟨prog,[(109,Cm),(111,Co),(110,vB)],10,[.ag 5],[.cell 2 34],[],[2],[]⟩ ((Tryz.f58).body.getD .skip) (.n) [.ag 5] x
noncomputable def FH:Ent:=⟨[.ag 5],[.ag 5],uT⟩
theorem FG:bR prog 58 [.ag 5] [.ag 5] uT:=cT (n:=10) (.cons (Cl) (.cons (Cn) (.cons (vA) (.nil)))) Tryz.mixed Tryz.func58 rfl (by kernel_rfl) rfl rfl rfl (fun _=>rfl)
noncomputable def tf (x:cJ [.ag 12]) : Option (bh [.io [.no],.agr 12 [(2,57,8,.st 7),(3,71,14,.st 2),(4,85,9,.st 6),(5,87,3,.st 11),(6,29,6,.st 8)]]):=P1 ⟨prog,[(58,FH),(59,Tp),(60,Cq),(62,Tr),(63,Tk),(64,Tn)],28,[.io [.no],.agr 12 [(2,57,8,.st 7),(3,71,14,.st 2),(4,85,9,.st 6),(5,87,3,.st 11),(6,29,6,.st 8)]],[.cell 2 41],[],[2],[]⟩ ((Tryz.f25).body.getD .skip) (.n) [.ag 12] x
noncomputable def Cs:Ent:=⟨[.ag 12],[.io [.no],.agr 12 [(2,57,8,.st 7),(3,71,14,.st 2),(4,85,9,.st 6),(5,87,3,.st 11),(6,29,6,.st 8)]],tf⟩
theorem Cr:bR prog 25 [.ag 12] [.io [.no],.agr 12 [(2,57,8,.st 7),(3,71,14,.st 2),(4,85,9,.st 6),(5,87,3,.st 11),(6,29,6,.st 8)]] tf:=QT (n:=28) (.cons (FG) (.cons (To) (.cons (Cp) (.cons (Tq) (.cons (Tj) (.cons (Tm) (.nil))))))) Tryz.mixed Tryz.func25 rfl (by kernel_rfl) rfl rfl (by kernel_rfl) (fun _ _ _=>(by first | trivial | exact ⟨trivial,trivial⟩)) (fun _=>rfl)
noncomputable def uM (x:cJ [.lf (.int .i64),.ag 7]) : Option (bh [.lf (.bool)]):=kz ⟨prog,[],9,[.lf (.bool)],[.tmp 4],[],[],[]⟩ ((Tryz.f76).body.getD .skip) (.n) [.lf (.int .i64),.ag 7] x
noncomputable def FC:Ent:=⟨[.lf (.int .i64),.ag 7],[.lf (.bool)],uM⟩
theorem FB:bR prog 76 [.lf (.int .i64),.ag 7] [.lf (.bool)] uM:=cT (n:=9) (.nil) Tryz.mixed Tryz.func76 rfl (by kernel_rfl) rfl rfl rfl (fun _=>rfl)
noncomputable def rO (x:cJ [.lf (.int .i64),.ag 7]) : Option (bh [.lf (.bool)]):=kz ⟨prog,[],9,[.lf (.bool)],[.tmp 4],[],[],[]⟩ ((Tryz.f119).body.getD .skip) (.n) [.lf (.int .i64),.ag 7] x
noncomputable def A6:Ent:=⟨[.lf (.int .i64),.ag 7],[.lf (.bool)],rO⟩
theorem A4:bR prog 119 [.lf (.int .i64),.ag 7] [.lf (.bool)] rO:=cT (n:=9) (.nil) Tryz.mixed Tryz.func119 rfl (by kernel_rfl) rfl rfl rfl (fun _=>rfl)
noncomputable def qz (x:cJ [.lf (.int .i64),.ag 7]) : Option (bh [.lf (.bool)]):=kz ⟨prog,[],9,[.lf (.bool)],[.tmp 4],[],[],[]⟩ ((Tryz.f120).body.getD .skip) (.n) [.lf (.int .i64),.ag 7] x
noncomputable def zE:Ent:=⟨[.lf (.int .i64),.ag 7],[.lf (.bool)],qz⟩
theorem zD:bR prog 120 [.lf (.int .i64),.ag 7] [.lf (.bool)] qz:=cT (n:=9) (.nil) Tryz.mixed Tryz.func120 rfl (by kernel_rfl) rfl rfl rfl (fun _=>rfl)
noncomputable def uR (x:cJ [.lf (.sl (.st 7)),.fn 76 [.v (.int .i64)] []]) : Option (bh [.lf (.int .i64)]):=kz ⟨prog,[(76,FC)],19,[.lf (.int .i64)],[.tmp 4],[],[],[]⟩ ((Tryz.f121).body.getD .skip) (.s (.n) (.s (.s (.n) (.s (.lp [.leaf 4 (.int .i64),.leaf 8 (.int .i64)] 0 true (.n)) .n)) (.n))) [.lf (.sl (.st 7)),.fn 76 [.v (.int .i64)] []] x
noncomputable def MY:Ent:=⟨[.lf (.sl (.st 7)),.fn 76 [.v (.int .i64)] []],[.lf (.int .i64)],uR⟩
theorem MX:bR prog 121 [.lf (.sl (.st 7)),.fn 76 [.v (.int .i64)] []] [.lf (.int .i64)] uR:=cT (n:=19) (.cons (FB) (.nil)) Tryz.mixed Tryz.func121 rfl (by kernel_rfl) rfl rfl rfl (fun _=>rfl)
noncomputable def wn (x:cJ [.lf (.sl (.st 7)),.fn 119 [.v (.int .i64)] []]) : Option (bh [.lf (.int .i64)]):=kz ⟨prog,[(119,A6)],19,[.lf (.int .i64)],[.tmp 4],[],[],[]⟩ ((Tryz.f121).body.getD .skip) (.s (.n) (.s (.s (.n) (.s (.lp [.leaf 4 (.int .i64),.leaf 8 (.int .i64)] 0 true (.n)) .n)) (.n))) [.lf (.sl (.st 7)),.fn 119 [.v (.int .i64)] []] x
noncomputable def Gw:Ent:=⟨[.lf (.sl (.st 7)),.fn 119 [.v (.int .i64)] []],[.lf (.int .i64)],wn⟩
theorem Gv:bR prog 121 [.lf (.sl (.st 7)),.fn 119 [.v (.int .i64)] []] [.lf (.int .i64)] wn:=cT (n:=19) (.cons (A4) (.nil)) Tryz.mixed Tryz.func121 rfl (by kernel_rfl) rfl rfl rfl (fun _=>rfl)
noncomputable def uS (x:cJ [.lf (.sl (.st 7)),.fn 120 [.v (.int .i64)] []]) : Option (bh [.lf (.int .i64)]):=kz ⟨prog,[(120,zE)],19,[.lf (.int .i64)],[.tmp 4],[],[],[]⟩ ((Tryz.f121).body.getD .skip) (.s (.n) (.s (.s (.n) (.s (.lp [.leaf 4 (.int .i64),.leaf 8 (.int .i64)] 0 true (.n)) .n)) (.n))) [.lf (.sl (.st 7)),.fn 120 [.v (.int .i64)] []] x
noncomputable def FF:Ent:=⟨[.lf (.sl (.st 7)),.fn 120 [.v (.int .i64)] []],[.lf (.int .i64)],uS⟩
theorem FD:bR prog 121 [.lf (.sl (.st 7)),.fn 120 [.v (.int .i64)] []] [.lf (.int .i64)] uS:=cT (n:=19) (.cons (zD) (.nil)) Tryz.mixed Tryz.func121 rfl (by kernel_rfl) rfl rfl rfl (fun _=>rfl)
noncomputable def sR (x:cJ [.lf (.sl (.st 7)),.fn 76 [.v (.int .i64)] []]) : Option (bh [.lf (.int .i64)]):=kz ⟨prog,[(121,MY)],14,[.lf (.int .i64)],[.tmp 4],[],[],[]⟩ ((Tryz.f75).body.getD .skip) (.n) [.lf (.sl (.st 7)),.fn 76 [.v (.int .i64)] []] x
noncomputable def J9:Ent:=⟨[.lf (.sl (.st 7)),.fn 76 [.v (.int .i64)] []],[.lf (.int .i64)],sR⟩
theorem J8:bR prog 75 [.lf (.sl (.st 7)),.fn 76 [.v (.int .i64)] []] [.lf (.int .i64)] sR:=cT (n:=14) (.cons (MX) (.nil)) Tryz.mixed Tryz.func75 rfl (by kernel_rfl) rfl rfl rfl (fun _=>rfl)
noncomputable def uU (x:cJ [.lf (.sl (.st 7)),.fn 119 [.v (.int .i64)] []]) : Option (bh [.lf (.int .i64)]):=kz ⟨prog,[(121,Gw)],14,[.lf (.int .i64)],[.tmp 4],[],[],[]⟩ ((Tryz.f75).body.getD .skip) (.n) [.lf (.sl (.st 7)),.fn 119 [.v (.int .i64)] []] x
noncomputable def FJ:Ent:=⟨[.lf (.sl (.st 7)),.fn 119 [.v (.int .i64)] []],[.lf (.int .i64)],uU⟩
theorem FI:bR prog 75 [.lf (.sl (.st 7)),.fn 119 [.v (.int .i64)] []] [.lf (.int .i64)] uU:=cT (n:=14) (.cons (Gv) (.nil)) Tryz.mixed Tryz.func75 rfl (by kernel_rfl) rfl rfl rfl (fun _=>rfl)
noncomputable def tg (x:cJ [.lf (.sl (.st 7)),.fn 120 [.v (.int .i64)] []]) : Option (bh [.lf (.int .i64)]):=kz ⟨prog,[(121,FF)],14,[.lf (.int .i64)],[.tmp 4],[],[],[]⟩ ((Tryz.f75).body.getD .skip) (.n) [.lf (.sl (.st 7)),.fn 120 [.v (.int .i64)] []] x
noncomputable def Cu:Ent:=⟨[.lf (.sl (.st 7)),.fn 120 [.v (.int .i64)] []],[.lf (.int .i64)],tg⟩
theorem Ct:bR prog 75 [.lf (.sl (.st 7)),.fn 120 [.v (.int .i64)] []] [.lf (.int .i64)] tg:=cT (n:=14) (.cons (FD) (.nil)) Tryz.mixed Tryz.func75 rfl (by kernel_rfl) rfl rfl rfl (fun _=>rfl)
noncomputable def p5 (x:cJ [.ag 12,.lf (.int .i64)]) : Option (bh [.ag 7,.lf (.bool)]):=kz ⟨prog,[(75,J9)],23,[.ag 7,.lf (.bool)],[.cell 4 57,.tmp 5],[],[4],[]⟩ ((Tryz.f36).body.getD .skip) (.n) [.ag 12,.lf (.int .i64)] x
noncomputable def p6:Ent:=⟨[.ag 12,.lf (.int .i64)],[.ag 7,.lf (.bool)],p5⟩
theorem pZ:bR prog 36 [.ag 12,.lf (.int .i64)] [.ag 7,.lf (.bool)] p5:=cT (n:=23) (.cons (J8) (.nil)) Tryz.mixed Tryz.func36 rfl (by kernel_rfl) rfl rfl rfl (fun _=>rfl)
noncomputable def wm (x:cJ [.lf (.sl (.st 7)),.ag 7]) : Option (bh [.lf (.sl (.st 7))]):=kz ⟨prog,[(75,FJ),(75,Cu)],46,[.lf (.sl (.st 7))],[.tmp 4],[],[],[]⟩ ((Tryz.f74).body.getD .skip) (.n) [.lf (.sl (.st 7)),.ag 7] x
noncomputable def Gu:Ent:=⟨[.lf (.sl (.st 7)),.ag 7],[.lf (.sl (.st 7))],wm⟩
theorem Gs:bR prog 74 [.lf (.sl (.st 7)),.ag 7] [.lf (.sl (.st 7))] wm:=cT (n:=46) (.cons (FI) (.cons (Ct) (.nil))) Tryz.mixed Tryz.func74 rfl (by kernel_rfl) rfl rfl rfl (fun _=>rfl)
noncomputable def rN (x:cJ [.lf (.int .i64),.lf (.int .i64)]) : Option (bh [.lf (.bool)]):=kz ⟨prog,[],12,[.lf (.bool)],[.tmp 4],[],[],[]⟩ ((Tryz.f142).body.getD .skip) (.n) [.lf (.int .i64),.lf (.int .i64)] x
noncomputable def A1:Ent:=⟨[.lf (.int .i64),.lf (.int .i64)],[.lf (.bool)],rN⟩
theorem A0:bR prog 142 [.lf (.int .i64),.lf (.int .i64)] [.lf (.bool)] rN:=cT (n:=12) (.nil) Tryz.mixed Tryz.func142 rfl (by kernel_rfl) rfl rfl rfl (fun _=>rfl)
noncomputable def qA (x:cJ [.ag 7,.lf (.int .i64)]) : Option (bh [.lf (.bool)]):=kz ⟨prog,[(142,A1)],32,[.lf (.bool)],[.tmp 4],[],[],[]⟩ ((Tryz.f118).body.getD .skip) (.n) [.ag 7,.lf (.int .i64)] x
noncomputable def zG:Ent:=⟨[.ag 7,.lf (.int .i64)],[.lf (.bool)],qA⟩
theorem zF:bR prog 118 [.ag 7,.lf (.int .i64)] [.lf (.bool)] qA:=cT (n:=32) (.cons (A0) (.nil)) Tryz.mixed Tryz.func118 rfl (by kernel_rfl) rfl rfl rfl (fun _=>rfl)
noncomputable def pV (x:cJ [.ag 12,.ag 7]) : Option (bh [.lf (.int .i64)]):=kz ⟨prog,[(36,p6),(118,zG)],34,[.lf (.int .i64)],[.tmp 4],[],[],[]⟩ ((Tryz.f73).body.getD .skip) (.n) [.ag 12,.ag 7] x
noncomputable def xt:Ent:=⟨[.ag 12,.ag 7],[.lf (.int .i64)],pV⟩
theorem xr:bR prog 73 [.ag 12,.ag 7] [.lf (.int .i64)] pV:=cT (n:=34) (.cons (pZ) (.cons (zF) (.nil))) Tryz.mixed Tryz.func73 rfl (by kernel_rfl) rfl rfl rfl (fun _=>rfl)
noncomputable def pX (x:cJ [.ag 12,.ag 7]) : Option (bh [.ag 12,.lf (.int .i64)]):=kz ⟨prog,[(25,Cs),(73,xt),(74,Gu)],32,[.ag 12,.lf (.int .i64)],[.cell 4 41,.tmp 5],[],[4],[]⟩ ((Tryz.f35).body.getD .skip) (.n) [.ag 12,.ag 7] x
noncomputable def xw:Ent:=⟨[.ag 12,.ag 7],[.ag 12,.lf (.int .i64)],pX⟩
theorem xu:bR prog 35 [.ag 12,.ag 7] [.ag 12,.lf (.int .i64)] pX:=cT (n:=32) (.cons (Cr) (.cons (xr) (.cons (Gs) (.nil)))) Tryz.mixed Tryz.func35 rfl (by kernel_rfl) rfl rfl rfl (fun _=>rfl)
noncomputable def pW (x:cJ [.ag 12,.lf (.int .i64)]) : Option (bh [.ag 0]):=kz ⟨prog,[],35,[.ag 0],[.cell 4 27],[],[4],[]⟩ ((Tryz.f16).body.getD .skip) (.s (.n) (.s (.n) (.s (.s (.n) (.s (.lp [.leaf 11 (.int .i64),.box 5 27 0 []] 0 false (.n)) .n)) (.n)))) [.ag 12,.lf (.int .i64)] x
noncomputable def uO:Ent:=⟨[.ag 12,.lf (.int .i64)],[.ag 0],pW⟩
theorem uN:bR prog 16 [.ag 12,.lf (.int .i64)] [.ag 0] pW:=cT (n:=35) (.nil) Tryz.mixed Tryz.func16 rfl (by kernel_rfl) rfl rfl rfl (fun _=>rfl)
noncomputable def pY (x:cJ [.ag 12,.lf (.int .i64)]) : Option (bh [.ag 0]):=kz ⟨prog,[(36,p6),(16,uO)],36,[.ag 0],[.cell 4 27],[],[4],[]⟩ ((Tryz.f17).body.getD .skip) (.n) [.ag 12,.lf (.int .i64)] x
noncomputable def uQ:Ent:=⟨[.ag 12,.lf (.int .i64)],[.ag 0],pY⟩
theorem uP:bR prog 17 [.ag 12,.lf (.int .i64)] [.ag 0] pY:=cT (n:=36) (.cons (pZ) (.cons (uN) (.nil))) Tryz.mixed Tryz.func17 rfl (by kernel_rfl) rfl rfl rfl (fun _=>rfl)
abbrev EOk (P:Program) (f:FuncId) (e:Ent) : Prop:=bR P f e.ps e.rs e.f
theorem aI {P:Program} {T:List (Nat×Ent)} {e:Ent} {f:FuncId} {fn:Func} (h:tr) (fz:List (Nat×List Nat)) (sc:List Nat) (fb:List (Nat×List Nat)) (hT:qu P T) (hm:P.follows .mixedOrders=true) (hf:P.funcs[f]? = some fn) (hb:fn.body=some (fn.body.getD .skip):=by kernel_rfl) (hcb:eB P f=true:=by kernel_rfl) (hl:((decide (e.ps.length≤fn.ntmps)&&tI e.ps) && !(oI e.ps||oI e.rs))=true:=by kernel_rfl)
  (hF:∀ x,kz ⟨P,T,fn.ntmps,e.rs,fn.results.toList,fz,sc,fb⟩ (fn.body.getD .skip) h e.ps x=e.f x:=by intro x; kernel_rfl) : bR P f e.ps e.rs e.f:=cT hT hm hf hb hcb rfl rfl hl hF
def yK (v_n:Int) : Option (Bool) :=
 (if (decide (v_n≥0))=true then some (decide (v_n≤1125899906842624)) else some false).bind fun q1=>some q1
def sJ (v_a:av) : Option (Bool) :=
 (yK v_a.be).bind fun c1=>(if c1=true then (yK v_a.aF).bind fun c2=>some c2 else some false).bind fun q3=>some q3
def fL (v_a:av) (v_b:av) : Option (Bool) :=
 (if (decide (v_a.be≤v_b.be))=true then some (decide (v_a.aF≤v_b.aF)) else some false).bind fun q1=>some q1
def vp (v_a:av) (v_b:av) : Option (av) :=
 some (⟨(if 0 > (i64.wrap (v_a.be - v_b.be)) then 0 else (i64.wrap (v_a.be - v_b.be))),(if 0 > (i64.wrap (v_a.aF - v_b.aF)) then 0 else (i64.wrap (v_a.aF - v_b.aF)))⟩ : av)
def cX (v_a:av) (v_b:av) : Option (av) :=
 some (⟨(i64.wrap (v_a.be + v_b.be)),(i64.wrap (v_a.aF + v_b.aF))⟩ : av)
def ur (v_n:Int) (zO:Int) : Option (Int) :=
 some (i64.wrap ((i64.wrap ((i64.wrap (Int.tdiv v_n 10000)) * zO)) + (i64.wrap (Int.tdiv (i64.wrap ((Int.tmod v_n 10000) * zO)) 10000))))
def ut (v_a:av) (zO:Int) : Option (av×Int) :=
 (sJ v_a).bind fun c1=>(if (!c1)=true then some true else some (decide (zO < 0))).bind fun q2=>(if q2=true then some true else some (decide (zO > 1000000))).bind fun q3=>if q3=true then
 some ((⟨0,0⟩ : av),1)
 else
 (ur v_a.be zO).bind fun c4=>(ur v_a.aF zO).bind fun c5=>let v_c:av:=(⟨c4,c5⟩ : av)
 (sJ v_c).bind fun c6=>if (!c6)=true then
 some ((⟨0,0⟩ : av),11)
 else
 some (v_c,0)
def yJ (v_a:Int) (v_b:Int) : Option (Int×Int) :=
 let t1:Int:=(Int.fdiv v_a (2 ^ (min (Int.toNat 25) (IntKind.i64.bits))))
 let t2:Int:=(bits .and .i64 v_a 33554431)
 let t3:Int:=(Int.fdiv v_b (2 ^ (min (Int.toNat 25) (IntKind.i64.bits))))
 let t4:Int:=(bits .and .i64 v_b 33554431)
 let Q5:Int:=t1
 let Tw:Int:=t2
 let Q4:Int:=t3
 let Tv:Int:=t4
 let Xm:Int:=(i64.wrap ((i64.wrap (Q5 * Tv)) + (i64.wrap (Tw * Q4))))
 let Xo:Int:=(i64.wrap ((i64.wrap (Tw * Tv)) + (i64.wrap ((bits .and .i64 Xm 33554431) * 2 ^ (min (Int.toNat 25) (IntKind.i64.bits))))))
 let XK:Int:=(i64.wrap ((i64.wrap ((i64.wrap (Q5 * Q4)) + (Int.fdiv Xm (2 ^ (min (Int.toNat 25) (IntKind.i64.bits)))))) + (Int.fdiv Xo (2 ^ (min (Int.toNat 50) (IntKind.i64.bits))))))
 some (XK,(bits .and .i64 Xo 1125899906842623))
def pK (v_x:a7) (v_y:a7) : Option (Int) :=
 (if (v_x.fA==0)=true then
 let v_x:a7:={ v_x with fP:=1 }
 some v_x
 else
 some v_x).bind fun j1=>let v_x:=j1
 (if (v_y.fA==0)=true then
 let v_y:a7:={ v_y with fP:=1 }
 some v_y
 else
 some v_y).bind fun j2=>let v_y:=j2
 (if (v_x.fP==0)=true then some true else some (v_y.fP==0)).bind fun q3=>if q3=true then
 (if (v_x.fP==0)=true then some (v_y.fP==0) else some false).bind fun q4=>if q4=true then
 some 0
 else
 if (v_x.fP==0)=true then
 some 1
 else
 some (-1)
 else
 (yJ v_x.fA v_y.fP).bind fun c5=>let Q5:Int:=c5.1
 let Tw:Int:=c5.2
 (yJ v_y.fA v_x.fP).bind fun c6=>let Q4:Int:=c6.1
 let Tv:Int:=c6.2
 (if (decide (Q5 < Q4))=true then some true else (if (Q5==Q4)=true then some (decide (Tw < Tv)) else some false).bind fun q7=>some q7).bind fun q8=>if q8=true then
 some (-1)
 else
 (if (Q5==Q4)=true then some (Tw==Tv) else some false).bind fun q9=>if q9=true then
 some 0
 else
 some 1
def yL (v_a:av) (v_p:av) : Option (a7) :=
 let t1:a7:=(⟨v_a.be,v_p.be⟩ : a7)
 let t2:a7:=(⟨v_a.aF,v_p.aF⟩ : a7)
 let v_x:a7:=t1
 let v_y:a7:=t2
 (pK v_x v_y).bind fun c3=>if (decide (c3 < 0))=true then
 some v_y
 else
 some v_x
def yM (v_a:av) (v_p:av) (v_b:av) (v_q:av) : Option (Int) :=
 (sJ v_a).bind fun c1=>(if (!c1)=true then some true else (sJ v_p).bind fun c2=>some (!c2)).bind fun q3=>(if q3=true then some true else (sJ v_b).bind fun c4=>some (!c4)).bind fun q5=>(if q5=true then some true else (sJ v_q).bind fun c6=>some (!c6)).bind fun q7=>if q7=true then
 some 0
 else
 (yL v_a v_p).bind fun c8=>(yL v_b v_q).bind fun c9=>(pK c8 c9).bind fun c10=>some c10
def qI (v_s:ByteArray) (st:Int) : Option ((Int)⊕((Int)⊕(Bool))) :=
 let v_i:=st
 if (decide (v_i < (v_s.size:Int)))=true then
 (lb v_s v_i).bind fun b2=>let v_c:Int:=b2
 (if (decide (v_c < 97))=true then some true else some (decide (v_c > 122))).bind fun q3=>(if q3=true then (if (decide (v_c < 48))=true then some true else some (decide (v_c > 57))).bind fun q4=>some q4 else some false).bind fun q5=>(if q5=true then some (v_c != 45) else some false).bind fun q6=>if q6=true then
 some (.inr (.inr false))
 else
 let v_i:Int:=(i64.wrap (v_i + 1))
 some (.inl v_i)
 else
 some (.inr (.inl v_i))
def vn (v_s:ByteArray) : Option (Bool) :=
 (if (decide ((v_s.size:Int) < 1))=true then some true else some (decide ((v_s.size:Int) > 12))).bind fun q1=>if q1=true then
 some false
 else
 let v_i:Int:=0
 (ah (qI v_s) ac v_i).bind fun r7=>match r7 with
 | .inr m8=>some m8
 | .inl m8 =>
 let v_i:=m8
 some true
def jd (au:ByteArray) (st:Int) : Option ((Int)⊕((Int))) :=
 let v_k:=st
 (if (decide (v_k≥0))=true then (lb au v_k).bind fun b1=>some (b1 != 46) else some false).bind fun q2=>if q2=true then
 let v_k:Int:=(i64.wrap (v_k - 1))
 some (.inl v_k)
 else
 some (.inr v_k)
def d6 (au:ByteArray) : Option (ByteArray) :=
 let v_k:Int:=(i64.wrap ((au.size:Int) - 1))
 (ah (jd au) ac v_k).bind fun r3 =>
 let v_k:=r3
 if (decide (v_k < 0))=true then
 some (⟨#[]⟩ : ByteArray)
 else
 (Ni au v_k).bind fun b4=>some b4
def nT (st:(List ByteArray)×ByteArray) : Option (((List ByteArray)×ByteArray)⊕(((List ByteArray)×ByteArray))) :=
 let v_l:=st.1
 let au:=st.2
 if (!(au.toList==(⟨#[]⟩ : ByteArray).toList))=true then
 (aW v_l [au]).bind fun b1=>let v_l:(List ByteArray):=b1
 (d6 au).bind fun c2=>let au:ByteArray:=c2
 some (.inl (v_l,au))
 else
 some (.inr (v_l,au))
def yC (au:ByteArray) : Option ((List ByteArray)) :=
 let v_l:(List ByteArray):=[]
 (ah (nT) ac (v_l,au)).bind fun r3 =>
 let v_l:=r3.1
 let au:=r3.2
 some v_l
def og (v_s:ByteArray) (st:Int×Int×Int) : Option ((Int×Int×Int)⊕((Int×Int×Int)⊕(Bool))) :=
 let oy:=st.1
 let v_n:=st.2.1
 let v_i:=st.2.2
 if (decide (v_i≤(v_s.size:Int)))=true then
 (if (decide (v_i < (v_s.size:Int)))=true then (lb v_s v_i).bind fun b3=>some (b3 != 46) else some false).bind fun q4=>if q4=true then
 let v_i:Int:=(i64.wrap (v_i + 1))
 some (.inl (oy,v_n,v_i))
 else
 (Ix v_s oy v_i).bind fun b5=>(vn b5).bind fun c6=>(if (!c6)=true then some true else (if (v_n==0)=true then (Ix v_s oy v_i).bind fun b7=>some (!(b7.toList==(⟨#[114,111,111,116]⟩ : ByteArray).toList)) else some false).bind fun q8=>some q8).bind fun q9=>if q9=true then
 some (.inr (.inr false))
 else
 let oy:Int:=(i64.wrap (v_i + 1))
 let v_n:Int:=(i64.wrap (v_n + 1))
 let v_i:Int:=(i64.wrap (v_i + 1))
 some (.inl (oy,v_n,v_i))
 else
 some (.inr (.inl (oy,v_n,v_i)))
def vm (v_s:ByteArray) : Option (Bool) :=
 let t1:Int:=0
 let t2:Int:=0
 let oy:Int:=t1
 let v_n:Int:=t2
 let v_i:Int:=0
 (ah (og v_s) ac (oy,v_n,v_i)).bind fun r10=>match r10 with
 | .inr m11=>some m11
 | .inl m11 =>
 let oy:=m11.1
 let v_n:=m11.2.1
 let v_i:=m11.2.2
 some (decide (v_n≤4))
def nw (v_c:ay) (au:ByteArray) (st:Int) : Option ((Int)⊕((Int)⊕(aC×Bool))) :=
 let v_i:=st
 if (decide (v_i < (v_c.ae.length:Int)))=true then
 (aw v_c.ae v_i).bind fun b1=>if (b1.aK.toList==au.toList)=true then
 (aw v_c.ae v_i).bind fun b2=>let v_q:aC:=b2
 (aW ([] : (List eu)) v_q.bA).bind fun b3=>let v_q:aC:={ v_q with bA:=b3 }
 some (.inr (.inr (v_q,true)))
 else
 let v_i:Int:=(i64.wrap (v_i + 1))
 some (.inl v_i)
 else
 some (.inr (.inl v_i))
def jA (v_c:ay) (au:ByteArray) : Option (aC×Bool) :=
 let v_i:Int:=0
 (ah (nw v_c au) ac v_i).bind fun r4=>match r4 with
 | .inr m5=>some m5
 | .inl m5 =>
 let v_i:=m5
 some ((⟨⟨#[]⟩,[],0⟩ : aC),false)
def nv (v_c:ay) (au:ByteArray) (st:(List ByteArray)×Int) : Option (((List ByteArray)×Int)⊕(((List ByteArray)×Int))) :=
 let v_l:=st.1
 let v_i:=st.2
 if (decide (v_i < (v_c.ae.length:Int)))=true then
 (if (!(au.toList==(⟨#[]⟩ : ByteArray).toList))=true then (aw v_c.ae v_i).bind fun b1=>(d6 b1.aK).bind fun c2=>some (c2.toList==au.toList) else some false).bind fun q3=>if q3=true then
 (aw v_c.ae v_i).bind fun b4=>(aW v_l [b4.aK]).bind fun b5=>let v_l:(List ByteArray):=b5
 let v_i:Int:=(i64.wrap (v_i + 1))
 some (.inl (v_l,v_i))
 else
 let v_i:Int:=(i64.wrap (v_i + 1))
 some (.inl (v_l,v_i))
 else
 some (.inr (v_l,v_i))
def ff (v_c:ay) (au:ByteArray) : Option ((List ByteArray)) :=
 let v_l:(List ByteArray):=[]
 let v_i:Int:=0
 (ah (nv v_c au) ac (v_l,v_i)).bind fun r6 =>
 let v_l:=r6.1
 let v_i:=r6.2
 some v_l
def kh (v_c:ay) (au:ByteArray) : Option (Bool) :=
 (jA v_c au).bind fun c1=>let bK:Bool:=c1.2
 (if bK=true then (ff v_c au).bind fun c2=>some ((c2.length:Int)==0) else some false).bind fun q3=>some q3
def oe (v_c:ay) (st:Int) : Option ((Int)⊕((Int)⊕(Int))) :=
 let v_i:=st
 if (decide (v_i < (v_c.al.length:Int)))=true then
 (aw v_c.al v_i).bind fun b4=>(vn b4).bind fun c5=>if (!c5)=true then
 some (.inr (.inr 12))
 else
 let v_i:Int:=(i64.wrap (v_i + 1))
 some (.inl v_i)
 else
 some (.inr (.inl v_i))
def ob (aU:Int) (v_c:ay) (st:Int) : Option ((Int)⊕((Int)⊕(Int))) :=
 let v_k:=st
 if (decide (v_k < aU))=true then
 (aw v_c.al aU).bind fun b8=>(aw v_c.al v_k).bind fun b9=>if (b8.toList==b9.toList)=true then
 some (.inr (.inr 7))
 else
 let v_k:Int:=(i64.wrap (v_k + 1))
 some (.inl v_k)
 else
 some (.inr (.inl v_k))
def od (v_c:ay) (st:Int) : Option ((Int)⊕((Int)⊕(Int))) :=
 let aU:=st
 if (decide (aU < (v_c.al.length:Int)))=true then
 let v_k:Int:=1
 (ah (ob aU v_c) ac v_k).bind fun r10=>match r10 with
 | .inr m11=>some (.inr (.inr m11))
 | .inl m11 =>
 let v_k:=m11
 let aU:Int:=(i64.wrap (aU + 1))
 some (.inl aU)
 else
 some (.inr (.inl aU))
def rB (v_c:ay) : Option (Int) :=
 (if (decide ((v_c.al.length:Int) < 1))=true then some true else some (decide ((v_c.al.length:Int) > 3))).bind fun q1=>(if q1=true then some true else some (decide ((v_c.ae.length:Int) > 16))).bind fun q2=>if q2=true then
 some 4
 else
 (aw v_c.al 0).bind fun b3=>if (!(b3.toList==(⟨#[]⟩ : ByteArray).toList))=true then
 some 12
 else
 let v_i:Int:=1
 (ah (oe v_c) ac v_i).bind fun r6=>match r6 with
 | .inr m7=>some m7
 | .inl m7 =>
 let v_i:=m7
 let aU:Int:=1
 (ah (od v_c) ac aU).bind fun r12=>match r12 with
 | .inr m13=>some m13
 | .inl m13 =>
 let aU:=m13
 some 0
def lD (v_q:aC) (st:Int) : Option ((Int)⊕((Int)⊕(Int))) :=
 let v_k:=st
 if (decide (v_k < (v_q.bA.length:Int)))=true then
 (aw v_q.bA v_k).bind fun b10=>let v_x:eu:=b10
 (if (decide (v_x.mO < 0))=true then some true else some (decide (v_x.mO > 10000))).bind fun q11=>(if q11=true then some true else some (decide (v_x.tX < 0))).bind fun q12=>(if q12=true then some true else some (decide (v_x.tX > 10000))).bind fun q13=>(if q13=true then some true else some (decide (v_x.mO > v_x.tX))).bind fun q14=>if q14=true then
 some (.inr (.inr 1))
 else
 let v_k:Int:=(i64.wrap (v_k + 1))
 some (.inl v_k)
 else
 some (.inr (.inl v_k))
def un (v_c:ay) (v_i:Int) : Option (Int) :=
 (aw v_c.ae v_i).bind fun b1=>let v_q:aC:=b1
 (vm v_q.aK).bind fun c2=>if (!c2)=true then
 some 12
 else
 (if (decide (v_i > 0))=true then (aw v_c.ae (i64.wrap (v_i - 1))).bind fun b3=>some (Op.bytesLess v_q.aK.toList b3.aK.toList||(v_q.aK.toList==b3.aK.toList)) else some false).bind fun q4=>if q4=true then
 some 7
 else
 (d6 v_q.aK).bind fun c5=>(jA v_c c5).bind fun c6=>let bK:Bool:=c6.2
 (if (decide (v_i > 0))=true then some (!bK) else some false).bind fun q7=>if q7=true then
 some 12
 else
 (if (decide (v_q.eh < 1))=true then some true else some (decide (v_q.eh > 1000000))).bind fun q8=>(if q8=true then some true else some ((v_q.bA.length:Int) != (v_c.al.length:Int))).bind fun q9=>if q9=true then
 some 1
 else
 let v_k:Int:=0
 (ah (lD v_q) ac v_k).bind fun r15=>match r15 with
 | .inr m16=>some m16
 | .inl m16 =>
 let v_k:=m16
 some 0
def jX (bB:(List ByteArray)) (v_c:ay) (v_k:Int) (st:Int×Int) : Option ((Int×Int)⊕((Int×Int))) :=
 let v_n:=st.1
 let v_j:=st.2
 if (decide (v_j < (bB.length:Int)))=true then
 (aw bB v_j).bind fun b4=>(jA v_c b4).bind fun c5=>let v_q:aC:=c5.1
 (aw v_q.bA v_k).bind fun b6=>let v_n:Int:=(i64.wrap (v_n + b6.mO))
 let v_j:Int:=(i64.wrap (v_j + 1))
 some (.inl (v_n,v_j))
 else
 some (.inr (v_n,v_j))
def nr (v_c:ay) (bB:(List ByteArray)) (st:Int) : Option ((Int)⊕((Int)⊕(Bool))) :=
 let v_k:=st
 (if (decide (v_k < (v_c.al.length:Int)))=true then some (decide ((bB.length:Int) > 0)) else some false).bind fun q3=>if q3=true then
 let v_n:Int:=0
 let v_j:Int:=0
 (ah (jX bB v_c v_k) ac (v_n,v_j)).bind fun r7 =>
 let v_n:=r7.1
 let v_j:=r7.2
 if (v_n != 10000)=true then
 some (.inr (.inr false))
 else
 let v_k:Int:=(i64.wrap (v_k + 1))
 some (.inl v_k)
 else
 some (.inr (.inl v_k))
def nu (v_c:ay) (st:Int) : Option ((Int)⊕((Int)⊕(Bool))) :=
 let v_i:=st
 if (decide (v_i < (v_c.ae.length:Int)))=true then
 (aw v_c.ae v_i).bind fun b1=>(ff v_c b1.aK).bind fun c2=>let bB:(List ByteArray):=c2
 let v_k:Int:=0
 (ah (nr v_c bB) ac v_k).bind fun r8=>match r8 with
 | .inr m9=>some (.inr (.inr m9))
 | .inl m9 =>
 let v_k:=m9
 let v_i:Int:=(i64.wrap (v_i + 1))
 some (.inl v_i)
 else
 some (.inr (.inl v_i))
def CS (v_c:ay) : Option (Bool) :=
 let v_i:Int:=0
 (ah (nu v_c) ac v_i).bind fun r10=>match r10 with
 | .inr m11=>some m11
 | .inl m11 =>
 let v_i:=m11
 some true
def pE (v_c:ay) (st:Int) : Option ((Int)⊕((Int)⊕(Int))) :=
 let v_i:=st
 if (decide (v_i < (v_c.ae.length:Int)))=true then
 (un v_c v_i).bind fun c5=>if (c5 != 0)=true then
 (un v_c v_i).bind fun c6=>some (.inr (.inr c6))
 else
 let v_i:Int:=(i64.wrap (v_i + 1))
 some (.inl v_i)
 else
 some (.inr (.inl v_i))
def pD (v_c:ay) (st:Int) : Option ((Int)⊕((Int)⊕(Int))) :=
 let v_k:=st
 if (decide (v_k < (v_c.al.length:Int)))=true then
 (aw v_c.ae 0).bind fun b9=>(aw b9.bA v_k).bind fun b10=>if (!((b10.mO==(⟨10000,10000⟩ : eu).mO)&&(b10.tX==(⟨10000,10000⟩ : eu).tX)))=true then
 some (.inr (.inr 13))
 else
 let v_k:Int:=(i64.wrap (v_k + 1))
 some (.inl v_k)
 else
 some (.inr (.inl v_k))
def uq (v_c:ay) : Option (Int) :=
 (rB v_c).bind fun c1=>if (c1 != 0)=true then
 (rB v_c).bind fun c2=>some c2
 else
 (if ((v_c.ae.length:Int)==0)=true then some true else (aw v_c.ae 0).bind fun b3=>some (!(b3.aK.toList==(⟨#[114,111,111,116]⟩ : ByteArray).toList))).bind fun q4=>if q4=true then
 some 12
 else
 let v_i:Int:=0
 (ah (pE v_c) ac v_i).bind fun r7=>match r7 with
 | .inr m8=>some m8
 | .inl m8 =>
 let v_i:=m8
 let v_k:Int:=0
 (ah (pD v_c) ac v_k).bind fun r11=>match r11 with
 | .inr m12=>some m12
 | .inl m12 =>
 let v_k:=m12
 (CS v_c).bind fun c13=>if (!c13)=true then
 some 13
 else
 some 0
def lB (v_s:aa) (af:Int) (st:av×Int) : Option ((av×Int)⊕((av×Int))) :=
 let v_v:=st.1
 let v_i:=st.2
 if (decide (v_i < (v_s.ar.length:Int)))=true then
 (aw v_s.ar v_i).bind fun b1=>(if b1.fUp=true then (aw v_s.ar v_i).bind fun b2=>some (b2.a8==af) else some false).bind fun q3=>if q3=true then
 (aw v_s.ar v_i).bind fun b4=>(cX v_v b4.dY).bind fun c5=>let v_v:av:=c5
 let v_i:Int:=(i64.wrap (v_i + 1))
 some (.inl (v_v,v_i))
 else
 let v_i:Int:=(i64.wrap (v_i + 1))
 some (.inl (v_v,v_i))
 else
 some (.inr (v_v,v_i))
def jc (v_s:aa) (af:Int) : Option (av) :=
 let v_v:av:=(⟨0,0⟩ : av)
 let v_i:Int:=0
 (ah (lB v_s af) ac (v_v,v_i)).bind fun r6 =>
 let v_v:=r6.1
 let v_i:=r6.2
 some v_v
def nq (v_s:aa) (af:Int) (st:av×Int) : Option ((av×Int)⊕((av×Int))) :=
 let v_v:=st.1
 let v_i:=st.2
 if (decide (v_i < (v_s.bv.length:Int)))=true then
 (aw v_s.bv v_i).bind fun b1=>let v_p:a6:=b1
 (if (v_p.a8==af)=true then some (decide (v_p.pw≤v_s.cP)) else some false).bind fun q2=>(if q2=true then some (decide (v_s.cP < v_p.lr)) else some false).bind fun q3=>if q3=true then
 (cX v_v v_p.kP).bind fun c4=>let v_v:av:=c4
 let v_i:Int:=(i64.wrap (v_i + 1))
 some (.inl (v_v,v_i))
 else
 let v_i:Int:=(i64.wrap (v_i + 1))
 some (.inl (v_v,v_i))
 else
 some (.inr (v_v,v_i))
def sF (v_s:aa) (af:Int) : Option (av) :=
 let v_v:av:=(⟨0,0⟩ : av)
 let v_i:Int:=0
 (ah (nq v_s af) ac (v_v,v_i)).bind fun r5 =>
 let v_v:=r5.1
 let v_i:=r5.2
 some v_v
def qH (v_s:aa) (iW:(List ByteArray)) (af:Int) (bP:Bool) (st:av×Int) : Option ((av×Int)⊕((av×Int))) :=
 let v_v:=st.1
 let v_i:=st.2
 if (decide (v_i≥0))=true then
 (aw iW v_i).bind fun b6=>(jA v_s.bL b6).bind fun c7=>let v_q:aC:=c7.1
 (aw v_q.bA af).bind fun b8=>let zO:Int:=b8.tX
 (if bP=true then
 (aw v_q.bA af).bind fun b10=>let zO:Int:=b10.mO
 some zO
 else
 some zO).bind fun j9=>let zO:=j9
 (ut v_v zO).bind fun c11=>let v_v:av:=c11.1
 let v_i:Int:=(i64.wrap (v_i - 1))
 some (.inl (v_v,v_i))
 else
 some (.inr (v_v,v_i))
def sE (v_s:aa) (au:ByteArray) (af:Int) (bP:Bool) : Option (av) :=
 (jA v_s.bL au).bind fun c1=>let bK:Bool:=c1.2
 (if (!bK)=true then some true else some (decide (af < 0))).bind fun q2=>(if q2=true then some true else some (decide (af≥(v_s.bL.al.length:Int)))).bind fun q3=>if q3=true then
 some (⟨0,0⟩ : av)
 else
 (jc v_s af).bind fun c4=>let v_v:av:=c4
 (yC au).bind fun c5=>let iW:(List ByteArray):=c5
 let v_i:Int:=(i64.wrap ((iW.length:Int) - 2))
 (ah (qH v_s iW af bP) ac (v_v,v_i)).bind fun r12 =>
 let v_v:=r12.1
 let v_i:=r12.2
 some v_v
def lC (v_s:aa) (au:ByteArray) (af:Int) : Option (av) :=
 (sE v_s au af true).bind fun c1=>some c1
def vk (v_s:aa) (au:ByteArray) (af:Int) : Option (av) :=
 (sE v_s au af false).bind fun c1=>some c1
def CR (v_s:aa) (au:ByteArray) (af:Int) : Option (av) :=
 (jA v_s.bL au).bind fun c1=>let v_q:aC:=c1.1
 let bK:Bool:=c1.2
 if (!bK)=true then
 some (⟨0,0⟩ : av)
 else
 (lC v_s au af).bind fun c2=>(ut c2 v_q.eh).bind fun c3=>let v_v:av:=c3.1
 some v_v
def jq (v_s:aa) (bC:Int) (st:Int) : Option ((Int)⊕((Int)⊕(az×Bool))) :=
 let v_i:=st
 if (decide (v_i < (v_s.ao.length:Int)))=true then
 (aw v_s.ao v_i).bind fun b1=>if (b1.fId==bC)=true then
 (aw v_s.ao v_i).bind fun b2=>some (.inr (.inr (b2,true)))
 else
 let v_i:Int:=(i64.wrap (v_i + 1))
 some (.inl v_i)
 else
 some (.inr (.inl v_i))
def dE (v_s:aa) (bC:Int) : Option (az×Bool) :=
 let v_i:Int:=0
 (ah (jq v_s bC) ac v_i).bind fun r3=>match r3 with
 | .inr m4=>some m4
 | .inl m4 =>
 let v_i:=m4
 some ((⟨0,0,⟨#[]⟩,0,0,av.zero,[],0,0,[],[],[],[]⟩ : az),false)
def ny (v_s:aa) (v_a:az) (st:Int) : Option ((Int)⊕((Int))) :=
 let v_k:=st
 (if (decide (v_k < (v_s.ao.length:Int)))=true then (aw v_s.ao v_k).bind fun b1=>some (decide (b1.fId < v_a.fId)) else some false).bind fun q2=>if q2=true then
 let v_k:Int:=(i64.wrap (v_k + 1))
 some (.inl v_k)
 else
 some (.inr v_k)
def cZ (v_s:aa) (v_a:az) : Option (aa) :=
 let v_k:Int:=0
 (ah (ny v_s v_a) ac v_k).bind fun r3 =>
 let v_k:=r3
 (hiO v_s.ao v_k).bind fun b4=>(aW ([] : (List az)) b4).bind fun b5=>let v_l:(List az):=b5
 (aW v_l [v_a]).bind fun b6=>let v_l:(List az):=b6
 (if (decide (v_k < (v_s.ao.length:Int)))=true then (aw v_s.ao v_k).bind fun b7=>some (b7.fId==v_a.fId) else some false).bind fun q8=>(if q8=true then
 let v_k:Int:=(i64.wrap (v_k + 1))
 some v_k
 else
 some v_k).bind fun j9=>let v_k:=j9
 (loO v_s.ao v_k).bind fun b10=>(aW v_l b10).bind fun b11=>let v_s:aa:={ v_s with ao:=b11 }
 some v_s
def dD (v_a:az) : Option (Bool) :=
 (if (v_a.ef==1)=true then some true else some (v_a.ef==2)).bind fun q1=>some q1
def rM (v_n:Int) : Option (Bool) :=
 (if (decide (v_n≥1))=true then some (decide (v_n≤1073741824)) else some false).bind fun q1=>some q1
def o8 (v_a:az) : Option ((List aJ)) :=
 some ([(⟨0,0,v_a.bI,1,(-1),(-1),0⟩ : aJ)] : (List aJ))
def gG (v_s:aa) (st:Bool×(List az)×Int) : Option ((Bool×(List az)×Int)⊕((Bool×(List az)×Int))) :=
 let cn:=st.1
 let v_l:=st.2.1
 let v_i:=st.2.2
 if (decide (v_i < (v_s.ao.length:Int)))=true then
 (if (!cn)=true then (aw v_s.ao v_i).bind fun b1=>(dD b1).bind fun c2=>some (!c2) else some false).bind fun q3=>if q3=true then
 let cn:Bool:=true
 let v_i:Int:=(i64.wrap (v_i + 1))
 some (.inl (cn,v_l,v_i))
 else
 (aw v_s.ao v_i).bind fun b4=>(aW v_l [b4]).bind fun b5=>let v_l:(List az):=b5
 let v_i:Int:=(i64.wrap (v_i + 1))
 some (.inl (cn,v_l,v_i))
 else
 some (.inr (cn,v_l,v_i))
def mZ (v_s:aa) : Option (aa) :=
 let v_l:(List az):=[]
 let cn:Bool:=false
 let v_i:Int:=0
 (ah (gG v_s) ac (cn,v_l,v_i)).bind fun r6 =>
 let cn:=r6.1
 let v_l:=r6.2.1
 let v_i:=r6.2.2
 let v_s:aa:={ v_s with ao:=v_l }
 some v_s
def jI (v_s:aa) (st:Int×Int) : Option ((Int×Int)⊕((Int×Int))) :=
 let kY:=st.1
 let v_i:=st.2
 if (decide (v_i < (v_s.ao.length:Int)))=true then
 (aw v_s.ao v_i).bind fun b11=>(dD b11).bind fun c12=>if c12=true then
 let kY:Int:=(i64.wrap (kY + 1))
 let v_i:Int:=(i64.wrap (v_i + 1))
 some (.inl (kY,v_i))
 else
 let v_i:Int:=(i64.wrap (v_i + 1))
 some (.inl (kY,v_i))
 else
 some (.inr (kY,v_i))
def na (v_s:aa) (v_a:az) : Option (aa×Int) :=
 (if (decide (v_a.fId < 0))=true then some true else some (decide (v_a.fId > 9999))).bind fun q1=>(if q1=true then some true else some (decide (v_a.eh < 0))).bind fun q2=>(if q2=true then some true else some (decide (v_a.eh > 99))).bind fun q3=>(if q3=true then some true else some (decide (v_a.bD < 0))).bind fun q4=>(if q4=true then some true else some (decide (v_a.bD > 9))).bind fun q5=>(if q5=true then some true else (rM v_a.bI.be).bind fun c6=>some (!c6)).bind fun q7=>(if q7=true then some true else (rM v_a.bI.aF).bind fun c8=>some (!c8)).bind fun q9=>if q9=true then
 some (v_s,1)
 else
 (dE v_s v_a.fId).bind fun c10=>let bK:Bool:=c10.2
 if bK=true then
 some (v_s,7)
 else
 let kY:Int:=0
 let v_i:Int:=0
 (ah (jI v_s) ac (kY,v_i)).bind fun r13 =>
 let kY:=r13.1
 let v_i:=r13.2
 if (decide (kY≥16))=true then
 some (v_s,4)
 else
 (kh v_s.bL v_a.bO).bind fun c14=>if (!c14)=true then
 some (v_s,19)
 else
 (if (decide ((v_s.ao.length:Int)≥16))=true then
 (mZ v_s).bind fun c16=>let v_s:aa:=c16
 some v_s
 else
 some v_s).bind fun j15=>let v_s:=j15
 (o8 v_a).bind fun c17=>(cZ v_s (⟨v_a.fId,1,v_a.bO,v_a.eh,v_a.bD,v_a.bI,c17,v_s.cP,0,[],[],[],[]⟩ : az)).bind fun c18=>some (c18,0)
def dC (v_s:aa) (bC:Int) (st:(List Int)×(List ai)×Int) : Option (((List Int)×(List ai)×Int)⊕(((List Int)×(List ai)×Int))) :=
 let jP:=st.1
 let v_l:=st.2.1
 let v_i:=st.2.2
 if (decide (v_i < (v_s.ab.length:Int)))=true then
 (aw v_s.ab v_i).bind fun b1=>if (b1.bz==bC)=true then
 (aw v_s.ab v_i).bind fun b2=>(aW jP [b2.fId]).bind fun b3=>let jP:(List Int):=b3
 let v_i:Int:=(i64.wrap (v_i + 1))
 some (.inl (jP,v_l,v_i))
 else
 (aw v_s.ab v_i).bind fun b4=>(aW v_l [b4]).bind fun b5=>let v_l:(List ai):=b5
 let v_i:Int:=(i64.wrap (v_i + 1))
 some (.inl (jP,v_l,v_i))
 else
 some (.inr (jP,v_l,v_i))
def gD (v_s:aa) (bC:Int) (st:(List bt)×Int) : Option (((List bt)×Int)⊕(((List bt)×Int))) :=
 let iK:=st.1
 let aU:=st.2
 if (decide (aU < (v_s.aR.length:Int)))=true then
 (aw v_s.aR aU).bind fun b7=>if (b7.bz != bC)=true then
 (aw v_s.aR aU).bind fun b8=>(aW iK [b8]).bind fun b9=>let iK:(List bt):=b9
 let aU:Int:=(i64.wrap (aU + 1))
 some (.inl (iK,aU))
 else
 let aU:Int:=(i64.wrap (aU + 1))
 some (.inl (iK,aU))
 else
 some (.inr (iK,aU))
def l7 (v_s:aa) (bC:Int) : Option (aa×(List Int)) :=
 let v_l:(List ai):=[]
 let iK:(List bt):=[]
 let jP:(List Int):=[]
 let v_i:Int:=0
 (ah (dC v_s bC) ac (jP,v_l,v_i)).bind fun r6 =>
 let jP:=r6.1
 let v_l:=r6.2.1
 let v_i:=r6.2.2
 let aU:Int:=0
 (ah (gD v_s bC) ac (iK,aU)).bind fun r10 =>
 let iK:=r10.1
 let aU:=r10.2
 let t11:(List ai):=v_l
 let t12:(List bt):=iK
 let v_s:aa:={ v_s with ab:=t11 }
 let v_s:aa:={ v_s with aR:=t12 }
 some (v_s,jP)
def zA (v_s:aa) (bC:Int) (Ii:Int) : Option (aa×(List Int)) :=
 (dE v_s bC).bind fun c1=>let v_a:az:=c1.1
 let bK:Bool:=c1.2
 (if (!bK)=true then some true else (dD v_a).bind fun c2=>some (!c2)).bind fun q3=>if q3=true then
 some (v_s,[])
 else
 let v_a:az:={ v_a with ef:=Ii }
 let t4:(List aJ):=[]
 let t5:(List Int):=[]
 let t6:(List Int):=[]
 let t7:(List Int):=[]
 let t8:(List Int):=[]
 let v_a:az:={ v_a with bQ:=t4 }
 let v_a:az:={ v_a with cr:=t5 }
 let v_a:az:={ v_a with i8:=t6 }
 let v_a:az:={ v_a with s7:=t7 }
 let v_a:az:={ v_a with tY:=t8 }
 (cZ v_s v_a).bind fun c9=>(l7 c9 bC).bind fun c10=>some c10
def l8 (v_s:aa) (bC:Int) (st:Int) : Option ((Int)⊕((Int)⊕(ai×Bool))) :=
 let v_i:=st
 if (decide (v_i < (v_s.ab.length:Int)))=true then
 (aw v_s.ab v_i).bind fun b1=>if (b1.fId==bC)=true then
 (aw v_s.ab v_i).bind fun b2=>some (.inr (.inr (b2,true)))
 else
 let v_i:Int:=(i64.wrap (v_i + 1))
 some (.inl v_i)
 else
 some (.inr (.inl v_i))
def eT (v_s:aa) (bC:Int) : Option (ai×Bool) :=
 let v_i:Int:=0
 (ah (l8 v_s bC) ac v_i).bind fun r3=>match r3 with
 | .inr m4=>some m4
 | .inl m4 =>
 let v_i:=m4
 some ((⟨0,0,0,av.zero,0,0,false,0⟩ : ai),false)
def l9 (v_s:aa) (bC:Int) (st:(List ai)×Int) : Option (((List ai)×Int)⊕(((List ai)×Int))) :=
 let v_l:=st.1
 let v_i:=st.2
 if (decide (v_i < (v_s.ab.length:Int)))=true then
 (aw v_s.ab v_i).bind fun b1=>if (b1.fId != bC)=true then
 (aw v_s.ab v_i).bind fun b2=>(aW v_l [b2]).bind fun b3=>let v_l:(List ai):=b3
 let v_i:Int:=(i64.wrap (v_i + 1))
 some (.inl (v_l,v_i))
 else
 let v_i:Int:=(i64.wrap (v_i + 1))
 some (.inl (v_l,v_i))
 else
 some (.inr (v_l,v_i))
def n5 (v_s:aa) (bC:Int) : Option (aa) :=
 let v_l:(List ai):=[]
 let v_i:Int:=0
 (ah (l9 v_s bC) ac (v_l,v_i)).bind fun r4 =>
 let v_l:=r4.1
 let v_i:=r4.2
 let v_s:aa:={ v_s with ab:=v_l }
 some v_s
def iU (v_l:(List Int)) (v_n:Int) (st:(List Int)×Int) : Option (((List Int)×Int)⊕(((List Int)×Int))) :=
 let ak:=st.1
 let v_i:=st.2
 if (decide (v_i < (v_l.length:Int)))=true then
 (aw v_l v_i).bind fun b1=>if (b1 != v_n)=true then
 (aw v_l v_i).bind fun b2=>(aW ak [b2]).bind fun b3=>let ak:(List Int):=b3
 let v_i:Int:=(i64.wrap (v_i + 1))
 some (.inl (ak,v_i))
 else
 let v_i:Int:=(i64.wrap (v_i + 1))
 some (.inl (ak,v_i))
 else
 some (.inr (ak,v_i))
def jo (v_l:(List Int)) (v_n:Int) : Option ((List Int)×Bool) :=
 let ak:(List Int):=[]
 let v_i:Int:=0
 (ah (iU v_l v_n) ac (ak,v_i)).bind fun r4 =>
 let ak:=r4.1
 let v_i:=r4.2
 some (ak,(decide ((ak.length:Int) < (v_l.length:Int))))
def jp (ce:(List Int)) (st:aa×Int) : Option ((aa×Int)⊕((aa×Int))) :=
 let v_s:=st.1
 let v_i:=st.2
 if (decide (v_i < (ce.length:Int)))=true then
 (aw ce v_i).bind fun b1=>(eT v_s b1).bind fun c2=>let v_c:ai:=c2.1
 let bK:Bool:=c2.2
 if (!bK)=true then
 let v_i:Int:=(i64.wrap (v_i + 1))
 some (.inl (v_s,v_i))
 else
 (dE v_s v_c.bz).bind fun c3=>let v_a:az:=c3.1
 if v_c.bI=true then
 (o8 v_a).bind fun c4=>let t5:Int:=1
 let t6:(List aJ):=c4
 let v_a:az:={ v_a with ef:=t5 }
 let v_a:az:={ v_a with bQ:=t6 }
 let t7:(List Int):=[]
 let t8:(List Int):=[]
 let t9:(List Int):=[]
 let t10:(List Int):=[]
 let v_a:az:={ v_a with cr:=t7 }
 let v_a:az:={ v_a with i8:=t8 }
 let v_a:az:={ v_a with s7:=t9 }
 let v_a:az:={ v_a with tY:=t10 }
 let t11:Int:=0
 let t12:Int:=v_s.cP
 let v_a:az:={ v_a with co:=t11 }
 let v_a:az:={ v_a with cW:=t12 }
 (cZ v_s v_a).bind fun c13=>(l7 c13 v_c.bz).bind fun c14=>let v_s:aa:=c14.1
 let v_i:Int:=(i64.wrap (v_i + 1))
 some (.inl (v_s,v_i))
 else
 (n5 v_s v_c.fId).bind fun c15=>let v_s:aa:=c15
 let tv:Bool:=false
 (jo v_a.cr v_c.fId).bind fun c16=>let v_a:az:={ v_a with cr:=c16.1 }
 let tv:Bool:=c16.2
 (if (!tv)=true then
 (aW ([] : (List Int)) v_a.i8).bind fun b18=>(aW b18 [v_c.fId]).bind fun b19=>let v_a:az:={ v_a with i8:=b19 }
 some v_a
 else
 some v_a).bind fun j17=>let v_a:=j17
 (cZ v_s v_a).bind fun c20=>let v_s:aa:=c20
 let v_i:Int:=(i64.wrap (v_i + 1))
 some (.inl (v_s,v_i))
 else
 some (.inr (v_s,v_i))
def fq (v_s:aa) (ce:(List Int)) : Option (aa) :=
 let v_i:Int:=0
 (ah (jp ce) ac (v_s,v_i)).bind fun r21 =>
 let v_s:=r21.1
 let v_i:=r21.2
 some v_s
def jJ (v_s:aa) (st:(List Int)×Int) : Option (((List Int)×Int)⊕(((List Int)×Int))) :=
 let v_l:=st.1
 let v_i:=st.2
 if (decide (v_i < (v_s.ao.length:Int)))=true then
 (aw v_s.ao v_i).bind fun b1=>(if (b1.ef==2)=true then (aw v_s.ao v_i).bind fun b2=>some (decide ((i64.wrap (v_s.cP - b2.cW))≥15)) else some false).bind fun q3=>if q3=true then
 (aw v_s.ao v_i).bind fun b4=>(aW v_l [b4.fId]).bind fun b5=>let v_l:(List Int):=b5
 let v_i:Int:=(i64.wrap (v_i + 1))
 some (.inl (v_l,v_i))
 else
 let v_i:Int:=(i64.wrap (v_i + 1))
 some (.inl (v_l,v_i))
 else
 some (.inr (v_l,v_i))
def sQ (v_s:aa) : Option ((List Int)) :=
 let v_l:(List Int):=[]
 let v_i:Int:=0
 (ah (jJ v_s) ac (v_l,v_i)).bind fun r6 =>
 let v_l:=r6.1
 let v_i:=r6.2
 some v_l
def vg (v_n:Int) : Option (Bool) :=
 (if (decide (v_n≥1))=true then some (decide (v_n≤1073741824)) else some false).bind fun q1=>some q1
def lA (v_a:aJ) (qQ:Int) : Option (Int) :=
 (if (decide (v_a.bD < 0))=true then some true else some (decide (v_a.bD > 9))).bind fun q1=>(if q1=true then some true else some (decide (v_a.a8 < 0))).bind fun q2=>(if q2=true then some true else some (decide (v_a.a8≥qQ))).bind fun q3=>(if q3=true then some true else (vg v_a.bu.be).bind fun c4=>some (!c4)).bind fun q5=>(if q5=true then some true else (vg v_a.bu.aF).bind fun c6=>some (!c6)).bind fun q7=>(if q7=true then some true else some (decide (v_a.bf < (-1)))).bind fun q8=>(if q8=true then some true else some (decide (v_a.bf > 999))).bind fun q9=>(if q9=true then some true else some (decide (v_a.fV < (-1)))).bind fun q10=>(if q10=true then some true else some (decide (v_a.fV > 99))).bind fun q11=>(if q11=true then some true else (if (decide (v_a.bf≥0))=true then some (decide (v_a.fV < 0)) else some false).bind fun q12=>some q12).bind fun q13=>if q13=true then
 some 1
 else
 (if (decide (v_a.ja < 0))=true then some true else some (decide (v_a.ja > 50))).bind fun q14=>if q14=true then
 some 4
 else
 some 0
def lx (v_l:(List aJ)) (v_a:aJ) (st:(List aJ)×Bool×Int) : Option (((List aJ)×Bool×Int)⊕(((List aJ)×Bool×Int))) :=
 let ak:=st.1
 let cn:=st.2.1
 let v_i:=st.2.2
 if (decide (v_i < (v_l.length:Int)))=true then
 (if (!cn)=true then (aw v_l v_i).bind fun b1=>some (decide (b1.bD > v_a.bD)) else some false).bind fun q2=>(if q2=true then
 (aW ak [v_a]).bind fun b4=>let ak:(List aJ):=b4
 let cn:Bool:=true
 some (ak,cn)
 else
 some (ak,cn)).bind fun j3=>let ak:=j3.1
 let cn:=j3.2
 (aw v_l v_i).bind fun b5=>if (b5.bD != v_a.bD)=true then
 (aw v_l v_i).bind fun b6=>(aW ak [b6]).bind fun b7=>let ak:(List aJ):=b7
 let v_i:Int:=(i64.wrap (v_i + 1))
 some (.inl (ak,cn,v_i))
 else
 let v_i:Int:=(i64.wrap (v_i + 1))
 some (.inl (ak,cn,v_i))
 else
 some (.inr (ak,cn,v_i))
def xf (v_l:(List aJ)) (v_a:aJ) : Option ((List aJ)×Int) :=
 let ak:(List aJ):=[]
 let cn:Bool:=(v_a.ja==0)
 let v_a:aJ:={ v_a with ke:=0 }
 let v_i:Int:=0
 (ah (lx v_l v_a) ac (ak,cn,v_i)).bind fun r8 =>
 let ak:=r8.1
 let cn:=r8.2.1
 let v_i:=r8.2.2
 (if (!cn)=true then
 (aW ak [v_a]).bind fun b10=>let ak:(List aJ):=b10
 some ak
 else
 some ak).bind fun j9=>let ak:=j9
 if (decide ((ak.length:Int) > 8))=true then
 some ([],4)
 else
 some (ak,0)
def lz (v_l:(List aJ)) (cC:Int) (st:Int) : Option ((Int)⊕((Int)⊕(aJ×Bool))) :=
 let v_i:=st
 if (decide (v_i < (v_l.length:Int)))=true then
 (aw v_l v_i).bind fun b1=>if (b1.bD==cC)=true then
 (aw v_l v_i).bind fun b2=>some (.inr (.inr (b2,true)))
 else
 let v_i:Int:=(i64.wrap (v_i + 1))
 some (.inl v_i)
 else
 some (.inr (.inl v_i))
def AM (v_l:(List aJ)) (cC:Int) : Option (aJ×Bool) :=
 let v_i:Int:=0
 (ah (lz v_l cC) ac v_i).bind fun r3=>match r3 with
 | .inr m4=>some m4
 | .inl m4 =>
 let v_i:=m4
 some ((⟨0,0,av.zero,0,0,0,0⟩ : aJ),false)
def jW (v_l:(List aJ)) (cC:Int) (st:Bool×(List aJ)×Int) : Option ((Bool×(List aJ)×Int)⊕((Bool×(List aJ)×Int))) :=
 let bK:=st.1
 let ak:=st.2.1
 let v_i:=st.2.2
 if (decide (v_i < (v_l.length:Int)))=true then
 (aw v_l v_i).bind fun b1=>let v_a:aJ:=b1
 if (v_a.bD==cC)=true then
 let bK:Bool:=true
 let t2:Int:=(i64.wrap (v_a.ja - 1))
 let t3:Int:=0
 let v_a:aJ:={ v_a with ja:=t2 }
 let v_a:aJ:={ v_a with ke:=t3 }
 if (decide (v_a.ja≤0))=true then
 let v_i:Int:=(i64.wrap (v_i + 1))
 some (.inl (bK,ak,v_i))
 else
 (aW ak [v_a]).bind fun b4=>let ak:(List aJ):=b4
 let v_i:Int:=(i64.wrap (v_i + 1))
 some (.inl (bK,ak,v_i))
 else
 (aW ak [v_a]).bind fun b5=>let ak:(List aJ):=b5
 let v_i:Int:=(i64.wrap (v_i + 1))
 some (.inl (bK,ak,v_i))
 else
 some (.inr (bK,ak,v_i))
def vh (v_l:(List aJ)) (cC:Int) : Option ((List aJ)×Bool) :=
 let ak:(List aJ):=[]
 let bK:Bool:=false
 let v_i:Int:=0
 (ah (jW v_l cC) ac (bK,ak,v_i)).bind fun r6 =>
 let bK:=r6.1
 let ak:=r6.2.1
 let v_i:=r6.2.2
 some (ak,bK)
def ni (cC:Int) (st:(List aJ)×Int) : Option (((List aJ)×Int)⊕(((List aJ)×Int))) :=
 let ak:=st.1
 let v_i:=st.2
 if (decide (v_i < (ak.length:Int)))=true then
 (aw ak v_i).bind fun b2=>if (b2.bD==cC)=true then
 (aw ak v_i).bind fun b3=>(aw ak v_i).bind fun b4=>let ak:(List aJ):=(List.set ak (Int.toNat v_i) ({ b4 with ke:=(if 100 < (i64.wrap (b3.ke + 1)) then 100 else (i64.wrap (b3.ke + 1))) }))
 let v_i:Int:=(i64.wrap (v_i + 1))
 some (.inl (ak,v_i))
 else
 let v_i:Int:=(i64.wrap (v_i + 1))
 some (.inl (ak,v_i))
 else
 some (.inr (ak,v_i))
def vi (v_l:(List aJ)) (cC:Int) : Option ((List aJ)) :=
 (aW ([] : (List aJ)) v_l).bind fun b1=>let ak:(List aJ):=b1
 let v_i:Int:=0
 (ah (ni cC) ac (ak,v_i)).bind fun r5 =>
 let ak:=r5.1
 let v_i:=r5.2
 some ak
def jy (v_l:(List aJ)) (af:Int) (st:av×Int) : Option ((av×Int)⊕((av×Int))) :=
 let v_v:=st.1
 let v_i:=st.2
 if (decide (v_i < (v_l.length:Int)))=true then
 (aw v_l v_i).bind fun b1=>if (b1.a8==af)=true then
 (aw v_l v_i).bind fun b2=>(aw v_l v_i).bind fun b3=>(aw v_l v_i).bind fun b4=>(aw v_l v_i).bind fun b5=>(cX v_v (⟨(i64.wrap (b2.bu.be * b3.ja)),(i64.wrap (b4.bu.aF * b5.ja))⟩ : av)).bind fun c6=>let v_v:av:=c6
 let v_i:Int:=(i64.wrap (v_i + 1))
 some (.inl (v_v,v_i))
 else
 let v_i:Int:=(i64.wrap (v_i + 1))
 some (.inl (v_v,v_i))
 else
 some (.inr (v_v,v_i))
def kE (v_l:(List aJ)) (af:Int) : Option (av) :=
 let v_v:av:=(⟨0,0⟩ : av)
 let v_i:Int:=0
 (ah (jy v_l af) ac (v_v,v_i)).bind fun r7 =>
 let v_v:=r7.1
 let v_i:=r7.2
 some v_v
def kt (iW:(List ByteArray)) (au:ByteArray) (st:Int) : Option ((Int)⊕((Int)⊕(Bool))) :=
 let v_i:=st
 if (decide (v_i < (iW.length:Int)))=true then
 (aw iW v_i).bind fun b2=>if (b2.toList==au.toList)=true then
 some (.inr (.inr true))
 else
 let v_i:Int:=(i64.wrap (v_i + 1))
 some (.inl v_i)
 else
 some (.inr (.inl v_i))
def mY (ww:ByteArray) (au:ByteArray) : Option (Bool) :=
 (yC ww).bind fun c1=>let iW:(List ByteArray):=c1
 let v_i:Int:=0
 (ah (kt iW au) ac v_i).bind fun r3=>match r3 with
 | .inr m4=>some m4
 | .inl m4 =>
 let v_i:=m4
 some false
def l5 (v_s:aa) (af:Int) (au:ByteArray) (xJ:Bool) (mr:Int) (st:av×Int) : Option ((av×Int)⊕((av×Int))) :=
 let v_v:=st.1
 let v_i:=st.2
 if (decide (v_i < (v_s.ab.length:Int)))=true then
 (aw v_s.ab v_i).bind fun b1=>(dE v_s b1.bz).bind fun c2=>let v_a:az:=c2.1
 let bK:Bool:=c2.2
 (if bK=true then (aw v_s.ab v_i).bind fun b3=>some (b3.a8==af) else some false).bind fun q4=>(if q4=true then (mY v_a.bO au).bind fun c5=>some c5 else some false).bind fun q6=>(if q6=true then (if xJ=true then some true else some (v_a.eh==mr)).bind fun q7=>some q7 else some false).bind fun q8=>if q8=true then
 (aw v_s.ab v_i).bind fun b9=>(cX v_v b9.bu).bind fun c10=>let v_v:av:=c10
 let v_i:Int:=(i64.wrap (v_i + 1))
 some (.inl (v_v,v_i))
 else
 let v_i:Int:=(i64.wrap (v_i + 1))
 some (.inl (v_v,v_i))
 else
 some (.inr (v_v,v_i))
def uD (v_s:aa) (au:ByteArray) (af:Int) (xJ:Bool) (mr:Int) : Option (av) :=
 let v_v:av:=(⟨0,0⟩ : av)
 let v_i:Int:=0
 (ah (l5 v_s af au xJ mr) ac (v_v,v_i)).bind fun r11 =>
 let v_v:=r11.1
 let v_i:=r11.2
 some v_v
def eO (v_s:aa) (au:ByteArray) (af:Int) : Option (av) :=
 (uD v_s au af true 0).bind fun c1=>some c1
def oN (v_s:aa) (au:ByteArray) (af:Int) (mr:Int) : Option (av) :=
 (uD v_s au af false mr).bind fun c1=>some c1
def iT (v_s:aa) (af:Int) (au:ByteArray) (st:av×Int) : Option ((av×Int)⊕((av×Int))) :=
 let v_v:=st.1
 let v_i:=st.2
 if (decide (v_i < (v_s.ao.length:Int)))=true then
 (aw v_s.ao v_i).bind fun b1=>(dD b1).bind fun c2=>(if c2=true then (aw v_s.ao v_i).bind fun b3=>(mY b3.bO au).bind fun c4=>some c4 else some false).bind fun q5=>if q5=true then
 (aw v_s.ao v_i).bind fun b6=>(kE b6.bQ af).bind fun c7=>(cX v_v c7).bind fun c8=>let v_v:av:=c8
 let v_i:Int:=(i64.wrap (v_i + 1))
 some (.inl (v_v,v_i))
 else
 let v_i:Int:=(i64.wrap (v_i + 1))
 some (.inl (v_v,v_i))
 else
 some (.inr (v_v,v_i))
def nZ (v_s:aa) (au:ByteArray) (af:Int) : Option (av) :=
 let v_v:av:=(⟨0,0⟩ : av)
 let v_i:Int:=0
 (ah (iT v_s af au) ac (v_v,v_i)).bind fun r9 =>
 let v_v:=r9.1
 let v_i:=r9.2
 some v_v
def l6 (iW:(List ByteArray)) (v_s:aa) (af:Int) (rS:av) (st:Int) : Option ((Int)⊕((Int)⊕(Bool))) :=
 let v_i:=st
 if (decide (v_i < (iW.length:Int)))=true then
 (aw iW v_i).bind fun b2=>(eO v_s b2 af).bind fun c3=>(cX c3 rS).bind fun c4=>let v_v:av:=c4
 (aw iW v_i).bind fun b5=>(vk v_s b5 af).bind fun c6=>(fL v_v c6).bind fun c7=>if (!c7)=true then
 some (.inr (.inr false))
 else
 (aw iW v_i).bind fun b8=>(if (b8.toList==(⟨#[114,111,111,116]⟩ : ByteArray).toList)=true then (jc v_s af).bind fun c9=>(sF v_s af).bind fun c10=>(vp c9 c10).bind fun c11=>(fL v_v c11).bind fun c12=>some (!c12) else some false).bind fun q13=>if q13=true then
 some (.inr (.inr false))
 else
 let v_i:Int:=(i64.wrap (v_i + 1))
 some (.inl v_i)
 else
 some (.inr (.inl v_i))
def uE (v_s:aa) (au:ByteArray) (af:Int) (rS:av) : Option (Bool) :=
 (yC au).bind fun c1=>let iW:(List ByteArray):=c1
 let v_i:Int:=0
 (ah (l6 iW v_s af rS) ac v_i).bind fun r14=>match r14 with
 | .inr m15=>some m15
 | .inl m15 =>
 let v_i:=m15
 some true
def vx (v_s:aa) (v_a:ByteArray) (v_b:ByteArray) (af:Int) : Option (Bool) :=
 (eO v_s v_a af).bind fun c1=>(lC v_s v_a af).bind fun c2=>(eO v_s v_b af).bind fun c3=>(lC v_s v_b af).bind fun c4=>(yM c1 c2 c3 c4).bind fun c5=>let v_o:Int:=c5
 (if (decide (v_o < 0))=true then some true else (if (v_o==0)=true then some (Op.bytesLess v_a.toList v_b.toList) else some false).bind fun q6=>some q6).bind fun q7=>some q7
def jm (ak:(List ByteArray)) (v_s:aa) (v_i:Int) (v_l:(List ByteArray)) (af:Int) (st:Int) : Option ((Int)⊕((Int))) :=
 let v_k:=st
 (if (decide (v_k < (ak.length:Int)))=true then (aw v_l v_i).bind fun b2=>(aw ak v_k).bind fun b3=>(vx v_s b2 b3 af).bind fun c4=>some (!c4) else some false).bind fun q5=>if q5=true then
 let v_k:Int:=(i64.wrap (v_k + 1))
 some (.inl v_k)
 else
 some (.inr v_k)
def lX (v_l:(List ByteArray)) (v_s:aa) (af:Int) (st:(List ByteArray)×Int) : Option (((List ByteArray)×Int)⊕(((List ByteArray)×Int))) :=
 let ak:=st.1
 let v_i:=st.2
 if (decide (v_i < (v_l.length:Int)))=true then
 let v_k:Int:=0
 (ah (jm ak v_s v_i v_l af) ac v_k).bind fun r6 =>
 let v_k:=r6
 (hiO ak v_k).bind fun b7=>(aW ([] : (List ByteArray)) b7).bind fun b8=>let v_x:(List ByteArray):=b8
 (aw v_l v_i).bind fun b9=>(aW v_x [b9]).bind fun b10=>let v_x:(List ByteArray):=b10
 (loO ak v_k).bind fun b11=>(aW v_x b11).bind fun b12=>let ak:(List ByteArray):=b12
 let v_i:Int:=(i64.wrap (v_i + 1))
 some (.inl (ak,v_i))
 else
 some (.inr (ak,v_i))
def zk (v_s:aa) (au:ByteArray) (af:Int) : Option ((List ByteArray)) :=
 (ff v_s.bL au).bind fun c1=>let v_l:(List ByteArray):=c1
 let ak:(List ByteArray):=[]
 let v_i:Int:=0
 (ah (lX v_l v_s af) ac (ak,v_i)).bind fun r13 =>
 let ak:=r13.1
 let v_i:=r13.2
 some ak
def jH (self:(aa→ByteArray→Int→Option ((List ByteArray)))) (v_l:(List ByteArray)) (v_s:aa) (af:Int) (st:(List ByteArray)×Int) : Option (((List ByteArray)×Int)⊕(((List ByteArray)×Int))) :=
 let ak:=st.1
 let v_i:=st.2
 if (decide (v_i < (v_l.length:Int)))=true then
 (aw v_l v_i).bind fun b2=>(self v_s b2 af).bind fun c3=>(aW ak c3).bind fun b4=>let ak:(List ByteArray):=b4
 let v_i:Int:=(i64.wrap (v_i + 1))
 some (.inl (ak,v_i))
 else
 some (.inr (ak,v_i))
def jl:Nat→aa→ByteArray→Int→Option ((List ByteArray))
 | 0=>fun _ _ _=>none
 | fuel + 1=>fun v_s au af =>
 let self:=jl fuel
 (zk v_s au af).bind fun c1=>let v_l:(List ByteArray):=c1
 if ((v_l.length:Int)==0)=true then
 some ([au] : (List ByteArray))
 else
 let ak:(List ByteArray):=[]
 let v_i:Int:=0
 (ah (jH self v_l v_s af) ac (ak,v_i)).bind fun r5 =>
 let ak:=r5.1
 let v_i:=r5.2
 some ak
def sP (v_s:aa) (af:Int) : Option ((List ByteArray)) :=
 (jl ac v_s (⟨#[114,111,111,116]⟩ : ByteArray) af).bind fun c1=>some c1
def jn (ak:(List az)) (v_a:az) (st:Int) : Option ((Int)⊕((Int))) :=
 let v_k:=st
 (if (decide (v_k < (ak.length:Int)))=true then (aw ak v_k).bind fun b4=>some (decide (b4.bD≥v_a.bD)) else some false).bind fun q5=>if q5=true then
 let v_k:Int:=(i64.wrap (v_k + 1))
 some (.inl v_k)
 else
 some (.inr v_k)
def lZ (v_s:aa) (ow:ByteArray) (st:(List az)×Int) : Option (((List az)×Int)⊕(((List az)×Int))) :=
 let ak:=st.1
 let v_i:=st.2
 if (decide (v_i < (v_s.ao.length:Int)))=true then
 (aw v_s.ao v_i).bind fun b1=>let v_a:az:=b1
 (dD v_a).bind fun c2=>(if (!c2)=true then some true else some (!(v_a.bO.toList==ow.toList))).bind fun q3=>if q3=true then
 let v_i:Int:=(i64.wrap (v_i + 1))
 some (.inl (ak,v_i))
 else
 let v_k:Int:=0
 (ah (jn ak v_a) ac v_k).bind fun r6 =>
 let v_k:=r6
 (hiO ak v_k).bind fun b7=>(aW ([] : (List az)) b7).bind fun b8=>let v_x:(List az):=b8
 (aW v_x [v_a]).bind fun b9=>let v_x:(List az):=b9
 (loO ak v_k).bind fun b10=>(aW v_x b10).bind fun b11=>let ak:(List az):=b11
 let v_i:Int:=(i64.wrap (v_i + 1))
 some (.inl (ak,v_i))
 else
 some (.inr (ak,v_i))
def lY (ak:(List az)) (st:(List Int)×Int) : Option (((List Int)×Int)⊕(((List Int)×Int))) :=
 let v_l:=st.1
 let aU:=st.2
 if (decide (aU < (ak.length:Int)))=true then
 (aw ak aU).bind fun b13=>(aW v_l [b13.fId]).bind fun b14=>let v_l:(List Int):=b14
 let aU:Int:=(i64.wrap (aU + 1))
 some (.inl (v_l,aU))
 else
 some (.inr (v_l,aU))
def zo (v_s:aa) (ow:ByteArray) : Option ((List Int)) :=
 let ak:(List az):=[]
 let v_i:Int:=0
 (ah (lZ v_s ow) ac (ak,v_i)).bind fun r12 =>
 let ak:=r12.1
 let v_i:=r12.2
 let v_l:(List Int):=[]
 let aU:Int:=0
 (ah (lY ak) ac (v_l,aU)).bind fun r15 =>
 let v_l:=r15.1
 let aU:=r15.2
 some v_l
def mX (v_a:aJ) (v_n:aB) : Option (Int) :=
 (if (!v_n.fUp)=true then some true else some (v_n.a8 != v_a.a8)).bind fun q1=>if q1=true then
 some 4
 else
 (if (v_a.fV==(-1))=true then some true else some (v_a.bf==v_n.fId)).bind fun q2=>(if q2=true then some true else (if (v_a.bf==(-1))=true then some (v_a.fV==v_n.fV) else some false).bind fun q3=>some q3).bind fun q4=>if q4=true then
 some 1
 else
 if (v_a.fV==v_n.fV)=true then
 some 2
 else
 some 3
def sO (v_a:aJ) (v_n:aB) : Option (Bool) :=
 (mX v_a v_n).bind fun c1=>if (c1==1)=true then
 some true
 else
 if (c1==2)=true then
 some (decide (v_a.ke≥2))
 else
 if (c1==3)=true then
 some (decide (v_a.ke≥4))
 else
 some false
def nn (v_s:aa) (bC:Int) (st:Int) : Option ((Int)⊕((Int)⊕(aB×Bool))) :=
 let v_i:=st
 if (decide (v_i < (v_s.ar.length:Int)))=true then
 (aw v_s.ar v_i).bind fun b1=>if (b1.fId==bC)=true then
 (aw v_s.ar v_i).bind fun b2=>some (.inr (.inr (b2,true)))
 else
 let v_i:Int:=(i64.wrap (v_i + 1))
 some (.inl v_i)
 else
 some (.inr (.inl v_i))
def np (v_s:aa) (bC:Int) : Option (aB×Bool) :=
 let v_i:Int:=0
 (ah (nn v_s bC) ac v_i).bind fun r3=>match r3 with
 | .inr m4=>some m4
 | .inl m4 =>
 let v_i:=m4
 some ((⟨0,0,0,av.zero,0,0,false⟩ : aB),false)
def yy (v_n:Int) : Option (Bool) :=
 (if (decide (v_n≥0))=true then some (decide (v_n≤1073741824)) else some false).bind fun q1=>some q1
def oJ (v_s:aa) (v_n:aB) (st:Int) : Option ((Int)⊕((Int))) :=
 let v_k:=st
 (if (decide (v_k < (v_s.ar.length:Int)))=true then (aw v_s.ar v_k).bind fun b1=>some (decide (b1.fId < v_n.fId)) else some false).bind fun q2=>if q2=true then
 let v_k:Int:=(i64.wrap (v_k + 1))
 some (.inl v_k)
 else
 some (.inr v_k)
def AO (v_s:aa) (v_n:aB) : Option (aa) :=
 let v_k:Int:=0
 (ah (oJ v_s v_n) ac v_k).bind fun r3 =>
 let v_k:=r3
 (hiO v_s.ar v_k).bind fun b4=>(aW ([] : (List aB)) b4).bind fun b5=>let v_l:(List aB):=b5
 (aW v_l [v_n]).bind fun b6=>let v_l:(List aB):=b6
 (if (decide (v_k < (v_s.ar.length:Int)))=true then (aw v_s.ar v_k).bind fun b7=>some (b7.fId==v_n.fId) else some false).bind fun q8=>(if q8=true then
 let v_k:Int:=(i64.wrap (v_k + 1))
 some v_k
 else
 some v_k).bind fun j9=>let v_k:=j9
 (loO v_s.ar v_k).bind fun b10=>(aW v_l b10).bind fun b11=>let v_s:aa:={ v_s with ar:=b11 }
 some v_s
def qw (v_s:aa) (v_n:aB) : Option (aa×Int) :=
 (if (decide (v_n.fId < 0))=true then some true else some (decide (v_n.fId > 999))).bind fun q1=>(if q1=true then some true else some (decide (v_n.a8 < 0))).bind fun q2=>(if q2=true then some true else some (decide (v_n.a8≥(v_s.bL.al.length:Int)))).bind fun q3=>(if q3=true then some true else some (decide (v_n.fV < 0))).bind fun q4=>(if q4=true then some true else some (decide (v_n.fV > 99))).bind fun q5=>(if q5=true then some true else (yy v_n.dY.be).bind fun c6=>some (!c6)).bind fun q7=>(if q7=true then some true else (yy v_n.dY.aF).bind fun c8=>some (!c8)).bind fun q9=>if q9=true then
 some (v_s,1)
 else
 (np v_s v_n.fId).bind fun c10=>let v_x:aB:=c10.1
 let bK:Bool:=c10.2
 (if bK=true then some v_x.fUp else some false).bind fun q11=>if q11=true then
 some (v_s,7)
 else
 (if (!bK)=true then some (decide ((v_s.ar.length:Int)≥12)) else some false).bind fun q12=>if q12=true then
 some (v_s,4)
 else
 (AO v_s (⟨v_n.fId,v_n.a8,v_n.fV,v_n.dY,v_s.cP,0,true⟩ : aB)).bind fun c13=>some (c13,0)
def CQ (v_s:aa) (bC:Int) (Ij:Int) : Option (aa×Int) :=
 (np v_s bC).bind fun c1=>let v_n:aB:=c1.1
 let bK:Bool:=c1.2
 if (!bK)=true then
 some (v_s,2)
 else
 if (!v_n.fUp)=true then
 some (v_s,18)
 else
 if (decide (Ij < 0))=true then
 some (v_s,15)
 else
 if (decide (Ij < v_n.co))=true then
 some (v_s,15)
 else
 if (decide ((i64.wrap (Ij - v_n.co)) > 1))=true then
 some (v_s,1)
 else
 let t2:Int:=v_s.cP
 let t3:Int:=Ij
 let v_n:aB:={ v_n with cW:=t2 }
 let v_n:aB:={ v_n with co:=t3 }
 (AO v_s v_n).bind fun c4=>some (c4,0)
def yA (v_s:aa) (bC:Int) : Option (aa) :=
 (np v_s bC).bind fun c1=>let v_n:aB:=c1.1
 let bK:Bool:=c1.2
 if (!bK)=true then
 some v_s
 else
 let v_n:aB:={ v_n with fUp:=false }
 (AO v_s v_n).bind fun c2=>some c2
def nj (v_s:aa) (bC:Int) (st:av×Int) : Option ((av×Int)⊕((av×Int))) :=
 let v_v:=st.1
 let v_i:=st.2
 if (decide (v_i < (v_s.ab.length:Int)))=true then
 (aw v_s.ab v_i).bind fun b1=>if (b1.bf==bC)=true then
 (aw v_s.ab v_i).bind fun b2=>(cX v_v b2.bu).bind fun c3=>let v_v:av:=c3
 let v_i:Int:=(i64.wrap (v_i + 1))
 some (.inl (v_v,v_i))
 else
 let v_i:Int:=(i64.wrap (v_i + 1))
 some (.inl (v_v,v_i))
 else
 some (.inr (v_v,v_i))
def CP (v_s:aa) (bC:Int) : Option (av) :=
 let v_v:av:=(⟨0,0⟩ : av)
 let v_i:Int:=0
 (ah (nj v_s bC) ac (v_v,v_i)).bind fun r4 =>
 let v_v:=r4.1
 let v_i:=r4.2
 some v_v
def yz (v_s:aa) (bC:Int) : Option (av) :=
 (np v_s bC).bind fun c1=>let v_n:aB:=c1.1
 let bK:Bool:=c1.2
 (if (!bK)=true then some true else some (!v_n.fUp)).bind fun q2=>if q2=true then
 some (⟨0,0⟩ : av)
 else
 (CP v_s bC).bind fun c3=>(vp v_n.dY c3).bind fun c4=>some c4
def kg (v_s:aa) (st:(List Int)×Int) : Option (((List Int)×Int)⊕(((List Int)×Int))) :=
 let v_l:=st.1
 let v_i:=st.2
 if (decide (v_i < (v_s.ar.length:Int)))=true then
 (aw v_s.ar v_i).bind fun b1=>(if b1.fUp=true then (aw v_s.ar v_i).bind fun b2=>some (decide ((i64.wrap (v_s.cP - b2.cW))≥10)) else some false).bind fun q3=>if q3=true then
 (aw v_s.ar v_i).bind fun b4=>(aW v_l [b4.fId]).bind fun b5=>let v_l:(List Int):=b5
 let v_i:Int:=(i64.wrap (v_i + 1))
 some (.inl (v_l,v_i))
 else
 let v_i:Int:=(i64.wrap (v_i + 1))
 some (.inl (v_l,v_i))
 else
 some (.inr (v_l,v_i))
def vj (v_s:aa) : Option ((List Int)) :=
 let v_l:(List Int):=[]
 let v_i:Int:=0
 (ah (kg v_s) ac (v_l,v_i)).bind fun r6 =>
 let v_l:=r6.1
 let v_i:=r6.2
 some v_l
def za (v_s:aa) (ww:ByteArray) (v_a:aJ) : Option (Bool) :=
 (eO v_s ww v_a.a8).bind fun c1=>(cX c1 v_a.bu).bind fun c2=>(lC v_s ww v_a.a8).bind fun c3=>(fL c2 c3).bind fun c4=>some c4
def uC (v_s:aa) (ww:ByteArray) (af:Int) (mr:Int) : Option (Bool) :=
 (oN v_s ww af mr).bind fun c1=>(CR v_s ww af).bind fun c2=>(fL c1 c2).bind fun c3=>some c3
def ir (v_s:aa) (v_c:ai) (st:Int) : Option ((Int)⊕((Int))) :=
 let v_k:=st
 (if (decide (v_k < (v_s.ab.length:Int)))=true then (aw v_s.ab v_k).bind fun b9=>some (decide (b9.fId < v_c.fId)) else some false).bind fun q10=>if q10=true then
 let v_k:Int:=(i64.wrap (v_k + 1))
 some (.inl v_k)
 else
 some (.inr v_k)
def jF (v_s:aa) (v_n:aB) (v_a:az) (v_x:aJ) : Option (aa×ai) :=
 let v_s:aa:={ v_s with lu:=(i64.wrap (v_s.lu + 1)) }
 let v_c:ai:=(⟨(i64.wrap ((i64.wrap (v_s.eW * 2 ^ (min (Int.toNat 20) (IntKind.i64.bits)))) + v_s.lu)),v_a.fId,v_n.fId,v_x.bu,v_x.bD,v_n.a8,(v_a.ef==1),0⟩ : ai)
 (vh v_a.bQ v_x.bD).bind fun c1=>let v_a:az:={ v_a with bQ:=c1.1 }
 (if v_c.bI=true then
 let t3:Int:=2
 let t4:(List aJ):=[]
 let t5:Int:=v_s.cP
 let t6:Int:=0
 let v_a:az:={ v_a with ef:=t3 }
 let v_a:az:={ v_a with bQ:=t4 }
 let v_a:az:={ v_a with cW:=t5 }
 let v_a:az:={ v_a with co:=t6 }
 some v_a
 else
 (aW ([] : (List Int)) v_a.cr).bind fun b7=>(aW b7 [v_c.fId]).bind fun b8=>let v_a:az:={ v_a with cr:=b8 }
 some v_a).bind fun j2=>let v_a:=j2
 let v_k:Int:=0
 (ah (ir v_s v_c) ac v_k).bind fun r11 =>
 let v_k:=r11
 (hiO v_s.ab v_k).bind fun b12=>(aW ([] : (List ai)) b12).bind fun b13=>let v_l:(List ai):=b13
 (aW v_l [v_c]).bind fun b14=>let v_l:(List ai):=b14
 (loO v_s.ab v_k).bind fun b15=>(aW v_l b15).bind fun b16=>let v_s:aa:={ v_s with ab:=b16 }
 (cZ v_s v_a).bind fun c17=>some (c17,v_c)
def jG (v_s:aa) (cm:Int) (st:(List bt)×Int) : Option (((List bt)×Int)⊕(((List bt)×Int))) :=
 let v_l:=st.1
 let v_i:=st.2
 if (decide (v_i < (v_s.aR.length:Int)))=true then
 (aw v_s.aR v_i).bind fun b1=>if (b1.bf != cm)=true then
 (aw v_s.aR v_i).bind fun b2=>(aW v_l [b2]).bind fun b3=>let v_l:(List bt):=b3
 let v_i:Int:=(i64.wrap (v_i + 1))
 some (.inl (v_l,v_i))
 else
 let v_i:Int:=(i64.wrap (v_i + 1))
 some (.inl (v_l,v_i))
 else
 some (.inr (v_l,v_i))
def dU (v_s:aa) (cm:Int) : Option (aa) :=
 let v_l:(List bt):=[]
 let v_i:Int:=0
 (ah (jG v_s cm) ac (v_l,v_i)).bind fun r4 =>
 let v_l:=r4.1
 let v_i:=r4.2
 let v_s:aa:={ v_s with aR:=v_l }
 some v_s
def lU (v_s:aa) (cm:Int) (st:Int) : Option ((Int)⊕((Int)⊕(bt×Bool))) :=
 let v_i:=st
 if (decide (v_i < (v_s.aR.length:Int)))=true then
 (aw v_s.aR v_i).bind fun b1=>if (b1.bf==cm)=true then
 (aw v_s.aR v_i).bind fun b2=>some (.inr (.inr (b2,true)))
 else
 let v_i:Int:=(i64.wrap (v_i + 1))
 some (.inl v_i)
 else
 some (.inr (.inl v_i))
def y7 (v_s:aa) (cm:Int) : Option (bt×Bool) :=
 let v_i:Int:=0
 (ah (lU v_s cm) ac v_i).bind fun r3=>match r3 with
 | .inr m4=>some m4
 | .inl m4 =>
 let v_i:=m4
 some ((⟨0,0,0⟩ : bt),false)
def kq (v_s:aa) (eY:Int) (cC:Int) (st:Int) : Option ((Int)⊕((Int)⊕(Bool))) :=
 let v_i:=st
 if (decide (v_i < (v_s.aR.length:Int)))=true then
 (aw v_s.aR v_i).bind fun b1=>(if (b1.bz==eY)=true then (aw v_s.aR v_i).bind fun b2=>some (b2.bD==cC) else some false).bind fun q3=>if q3=true then
 some (.inr (.inr true))
 else
 let v_i:Int:=(i64.wrap (v_i + 1))
 some (.inl v_i)
 else
 some (.inr (.inl v_i))
def vu (v_s:aa) (eY:Int) (cC:Int) : Option (Bool) :=
 let v_i:Int:=0
 (ah (kq v_s eY cC) ac v_i).bind fun r4=>match r4 with
 | .inr m5=>some m5
 | .inl m5 =>
 let v_i:=m5
 some false
def lV (v_s:aa) (v_x:bt) (st:Int) : Option ((Int)⊕((Int))) :=
 let v_k:=st
 (if (decide (v_k < (v_s.aR.length:Int)))=true then (aw v_s.aR v_k).bind fun b1=>some (decide (b1.bf < v_x.bf)) else some false).bind fun q2=>if q2=true then
 let v_k:Int:=(i64.wrap (v_k + 1))
 some (.inl v_k)
 else
 some (.inr v_k)
def nY (v_s:aa) (v_x:bt) : Option (aa) :=
 let v_k:Int:=0
 (ah (lV v_s v_x) ac v_k).bind fun r3 =>
 let v_k:=r3
 (hiO v_s.aR v_k).bind fun b4=>(aW ([] : (List bt)) b4).bind fun b5=>let v_l:(List bt):=b5
 (aW v_l [v_x]).bind fun b6=>let v_l:(List bt):=b6
 (loO v_s.aR v_k).bind fun b7=>(aW v_l b7).bind fun b8=>let v_s:aa:={ v_s with aR:=b8 }
 some v_s
def nX (v_s:aa) (v_n:aB) (v_x:bt) : Option (aa×Int×ai×Bool) :=
 (dE v_s v_x.bz).bind fun c1=>let v_a:az:=c1.1
 let bK:Bool:=c1.2
 (AM v_a.bQ v_x.bD).bind fun c2=>let v_k:aJ:=c2.1
 let xI:Bool:=c2.2
 (if (!bK)=true then some true else (dD v_a).bind fun c3=>some (!c3)).bind fun q4=>(if q4=true then some true else some (!xI)).bind fun q5=>(if q5=true then some true else (sO v_k v_n).bind fun c6=>some (!c6)).bind fun q7=>(if q7=true then some true else (fL v_k.bu v_n.dY).bind fun c8=>some (!c8)).bind fun q9=>(if q9=true then some true else (za v_s v_a.bO v_k).bind fun c10=>some (!c10)).bind fun q11=>(if q11=true then some true else (uC v_s v_a.bO v_n.a8 v_a.eh).bind fun c12=>some (!c12)).bind fun q13=>if q13=true then
 (dU v_s v_n.fId).bind fun c14=>some (c14,0,(⟨0,0,0,av.zero,0,0,false,0⟩ : ai),false)
 else
 (yz v_s v_n.fId).bind fun c15=>(fL v_k.bu c15).bind fun c16=>(if (!c16)=true then some true else (uE v_s v_a.bO v_n.a8 v_k.bu).bind fun c17=>some (!c17)).bind fun q18=>if q18=true then
 some (v_s,3,(⟨0,0,0,av.zero,0,0,false,0⟩ : ai),true)
 else
 (dU v_s v_n.fId).bind fun c19=>(jF c19 v_n v_a v_k).bind fun c20=>let v_t:aa:=c20.1
 let v_c:ai:=c20.2
 some (v_t,1,v_c,true)
def qx (v_s:aa) (v_n:aB) (v_a:az) (v_x:aJ) (k8:Bool) : Option (aa×Int×ai) :=
 (za v_s v_a.bO v_x).bind fun c1=>let bK:Bool:=c1
 (mX v_x v_n).bind fun c2=>(if (c2==4)=true then some true else (fL v_x.bu v_n.dY).bind fun c3=>some (!c3)).bind fun q4=>(if q4=true then some true else (if k8=true then some (!bK) else some false).bind fun q5=>some q5).bind fun q6=>if q6=true then
 some (v_s,0,(⟨0,0,0,av.zero,0,0,false,0⟩ : ai))
 else
 (sO v_x v_n).bind fun c7=>if (!c7)=true then
 (if (k8==bK)=true then
 (vi v_a.bQ v_x.bD).bind fun c9=>let v_a:az:={ v_a with bQ:=c9 }
 (cZ v_s v_a).bind fun c10=>let v_s:aa:=c10
 some (v_a,v_s)
 else
 some (v_a,v_s)).bind fun j8=>let v_a:=j8.1
 let v_s:=j8.2
 some (v_s,0,(⟨0,0,0,av.zero,0,0,false,0⟩ : ai))
 else
 (uE v_s v_a.bO v_n.a8 v_x.bu).bind fun c11=>if (!c11)=true then
 some (v_s,0,(⟨0,0,0,av.zero,0,0,false,0⟩ : ai))
 else
 (yz v_s v_n.fId).bind fun c12=>(fL v_x.bu c12).bind fun c13=>if c13=true then
 (jF v_s v_n v_a v_x).bind fun c14=>let v_t:aa:=c14.1
 let v_c:ai:=c14.2
 some (v_t,1,v_c)
 else
 (if k8=true then (vu v_s v_a.fId v_x.bD).bind fun c15=>some (!c15) else some false).bind fun q16=>if q16=true then
 (nY v_s (⟨v_n.fId,v_a.fId,v_x.bD⟩ : bt)).bind fun c17=>some (c17,2,(⟨0,0,0,av.zero,0,0,false,0⟩ : ai))
 else
 some (v_s,0,(⟨0,0,0,av.zero,0,0,false,0⟩ : ai))
def dQ (v_a:az) (v_j:Int) (ce:(List Int)) (v_n:aB) (k8:Bool) (st:aa×Int) : Option ((aa×Int)⊕((aa×Int)⊕(aa×Int×ai))) :=
 let v_s:=st.1
 let v_k:=st.2
 if (decide (v_k < (v_a.bQ.length:Int)))=true then
 (aw ce v_j).bind fun b8=>(dE v_s b8).bind fun c9=>let v_b:az:=c9.1
 (aw v_a.bQ v_k).bind fun b10=>(qx v_s v_n v_b b10 k8).bind fun c11=>let v_t:aa:=c11.1
 let zM:Int:=c11.2.1
 let v_c:ai:=c11.2.2
 let v_s:aa:=v_t
 if (zM != 0)=true then
 some (.inr (.inr (v_s,zM,v_c)))
 else
 let v_k:Int:=(i64.wrap (v_k + 1))
 some (.inl (v_s,v_k))
 else
 some (.inr (.inl (v_s,v_k)))
def dR (ce:(List Int)) (v_i:Int) (jQ:(List ByteArray)) (v_n:aB) (k8:Bool) (st:aa×Int) : Option ((aa×Int)⊕((aa×Int)⊕(aa×Int×ai))) :=
 let v_s:=st.1
 let v_j:=st.2
 if (decide (v_j < (ce.length:Int)))=true then
 (aw ce v_j).bind fun b4=>(dE v_s b4).bind fun c5=>let v_a:az:=c5.1
 (aw jQ v_i).bind fun b6=>(uC v_s b6 v_n.a8 v_a.eh).bind fun c7=>if (!c7)=true then
 let v_j:Int:=(i64.wrap (v_j + 1))
 some (.inl (v_s,v_j))
 else
 let v_k:Int:=0
 (ah (dQ v_a v_j ce v_n k8) ac (v_s,v_k)).bind fun r12=>match r12 with
 | .inr m13=>some (.inr (.inr m13))
 | .inl m13 =>
 let v_s:=m13.1
 let v_k:=m13.2
 let v_j:Int:=(i64.wrap (v_j + 1))
 some (.inl (v_s,v_j))
 else
 some (.inr (.inl (v_s,v_j)))
def dS (jQ:(List ByteArray)) (v_n:aB) (k8:Bool) (st:aa×Int) : Option ((aa×Int)⊕((aa×Int)⊕(aa×Int×ai))) :=
 let v_s:=st.1
 let v_i:=st.2
 if (decide (v_i < (jQ.length:Int)))=true then
 (aw jQ v_i).bind fun b2=>(zo v_s b2).bind fun c3=>let ce:(List Int):=c3
 let v_j:Int:=0
 (ah (dR ce v_i jQ v_n k8) ac (v_s,v_j)).bind fun r14=>match r14 with
 | .inr m15=>some (.inr (.inr m15))
 | .inl m15 =>
 let v_s:=m15.1
 let v_j:=m15.2
 let v_i:Int:=(i64.wrap (v_i + 1))
 some (.inl (v_s,v_i))
 else
 some (.inr (.inl (v_s,v_i)))
def cR (v_s:aa) (v_n:aB) (k8:Bool) : Option (aa×Int×ai) :=
 (sP v_s v_n.a8).bind fun c1=>let jQ:(List ByteArray):=c1
 let v_i:Int:=0
 (ah (dS jQ v_n k8) ac (v_s,v_i)).bind fun r16=>match r16 with
 | .inr m17=>some m17
 | .inl m17 =>
 let v_s:=m17.1
 let v_i:=m17.2
 some (v_s,0,(⟨0,0,0,av.zero,0,0,false,0⟩ : ai))
def qy (v_s:aa) (cm:Int) : Option (aa×Int×ai) :=
 (np v_s cm).bind fun c1=>let v_n:aB:=c1.1
 let bK:Bool:=c1.2
 (if (!bK)=true then some true else some (!v_n.fUp)).bind fun q2=>(if q2=true then some true else some (decide ((v_s.ab.length:Int)≥200))).bind fun q3=>(if q3=true then some true else some (decide (v_s.lu≥1048575))).bind fun q4=>if q4=true then
 some (v_s,0,(⟨0,0,0,av.zero,0,0,false,0⟩ : ai))
 else
 (y7 v_s cm).bind fun c5=>let v_x:bt:=c5.1
 let XL:Bool:=c5.2
 if XL=true then
 (nX v_s v_n v_x).bind fun c6=>let v_t:aa:=c6.1
 let zM:Int:=c6.2.1
 let v_c:ai:=c6.2.2.1
 let cn:Bool:=c6.2.2.2
 let v_s:aa:=v_t
 if cn=true then
 some (v_s,zM,v_c)
 else
 (cR v_s v_n true).bind fun c7=>let v_s:aa:=c7.1
 let xH:Int:=c7.2.1
 let wy:ai:=c7.2.2
 if (xH != 0)=true then
 some (v_s,xH,wy)
 else
 (cR v_s v_n false).bind fun c8=>some c8
 else
 (cR v_s v_n true).bind fun c9=>let v_s:aa:=c9.1
 let xH:Int:=c9.2.1
 let wy:ai:=c9.2.2
 if (xH != 0)=true then
 some (v_s,xH,wy)
 else
 (cR v_s v_n false).bind fun c10=>some c10
def gv (cm:Int) (st:aa×(List ai)×Int) : Option ((aa×(List ai)×Int)⊕((aa×(List ai)×Int))) :=
 let v_s:=st.1
 let v_l:=st.2.1
 let v_k:=st.2.2
 if (decide (v_k < 3))=true then
 (qy v_s cm).bind fun c1=>let v_t:aa:=c1.1
 let zM:Int:=c1.2.1
 let v_c:ai:=c1.2.2
 let v_s:aa:=v_t
 if (zM != 1)=true then
 some (.inr (v_s,v_l,v_k))
 else
 (aW v_l [v_c]).bind fun b2=>let v_l:(List ai):=b2
 let v_k:Int:=(i64.wrap (v_k + 1))
 some (.inl (v_s,v_l,v_k))
 else
 some (.inr (v_s,v_l,v_k))
def lW (v_s:aa) (cm:Int) : Option (aa×(List ai)) :=
 let v_l:(List ai):=[]
 let v_k:Int:=0
 (ah (gv cm) ac (v_s,v_l,v_k)).bind fun r3 =>
 let v_s:=r3.1
 let v_l:=r3.2.1
 let v_k:=r3.2.2
 some (v_s,v_l)
def lO (v_n:Int) : Option (Int) :=
 (if (decide (v_n < 0))=true then some true else some (decide (v_n > 1125899906842624))).bind fun q1=>if q1=true then
 some 0
 else
 some v_n
def om (v_n:Int) (bP:(List Int)) (gL:(List Int)) (cg:(List Int)) (st:(List Int)×Int×Int) : Option (((List Int)×Int×Int)⊕(((List Int)×Int×Int))) :=
 let ak:=st.1
 let ch:=st.2.1
 let v_i:=st.2.2
 if (decide (v_i < v_n))=true then
 (aw bP v_i).bind fun b2=>(lO b2).bind fun c3=>(aw gL v_i).bind fun b4=>(lO b4).bind fun c5=>(aw cg v_i).bind fun b6=>(lO b6).bind fun c7=>let v_x:Int:=(if ch < (if c7 < (if c5 < c3 then c5 else c3) then c7 else (if c5 < c3 then c5 else c3)) then ch else (if c7 < (if c5 < c3 then c5 else c3) then c7 else (if c5 < c3 then c5 else c3)))
 (aW ak [v_x]).bind fun b8=>let ak:(List Int):=b8
 let ch:Int:=(i64.wrap (ch - v_x))
 let v_i:Int:=(i64.wrap (v_i + 1))
 some (.inl (ak,ch,v_i))
 else
 some (.inr (ak,ch,v_i))
def ol (v_n:Int) (gL:(List Int)) (cg:(List Int)) (st:(List Int)×Int×Int) : Option (((List Int)×Int×Int)⊕(((List Int)×Int×Int))) :=
 let ak:=st.1
 let ch:=st.2.1
 let aU:=st.2.2
 if (decide (aU < v_n))=true then
 (aw gL aU).bind fun b10=>(lO b10).bind fun c11=>(aw cg aU).bind fun b12=>(lO b12).bind fun c13=>(aw ak aU).bind fun b14=>let YC:Int:=(if ch < (if 0 > (i64.wrap ((if c13 < c11 then c13 else c11) - b14)) then 0 else (i64.wrap ((if c13 < c11 then c13 else c11) - b14))) then ch else (if 0 > (i64.wrap ((if c13 < c11 then c13 else c11) - b14)) then 0 else (i64.wrap ((if c13 < c11 then c13 else c11) - b14))))
 (aw ak aU).bind fun b15=>(aw ak aU).bind fun b16=>let ak:(List Int):=(List.set ak (Int.toNat aU) (i64.wrap (b15 + YC)))
 let ch:Int:=(i64.wrap (ch - YC))
 let aU:Int:=(i64.wrap (aU + 1))
 some (.inl (ak,ch,aU))
 else
 some (.inr (ak,ch,aU))
def vr (fJ:Int) (bP:(List Int)) (gL:(List Int)) (cg:(List Int)) : Option ((List Int)) :=
 let v_n:Int:=(if (cg.length:Int) < (if (gL.length:Int) < (bP.length:Int) then (gL.length:Int) else (bP.length:Int)) then (cg.length:Int) else (if (gL.length:Int) < (bP.length:Int) then (gL.length:Int) else (bP.length:Int)))
 (lO fJ).bind fun c1=>let ch:Int:=c1
 let ak:(List Int):=[]
 let v_i:Int:=0
 (ah (om v_n bP gL cg) ac (ak,ch,v_i)).bind fun r9 =>
 let ak:=r9.1
 let ch:=r9.2.1
 let v_i:=r9.2.2
 let aU:Int:=0
 (ah (ol v_n gL cg) ac (ak,ch,aU)).bind fun r17 =>
 let ak:=r17.1
 let ch:=r17.2.1
 let aU:=r17.2.2
 some ak
def pR (self:(aa→ByteArray→Int→Int→Option ((List aj)))) (bB:(List ByteArray)) (v_s:aa) (af:Int) (st:(List Int)×(List Int)×(List Int)×Int) : Option (((List Int)×(List Int)×(List Int)×Int)⊕(((List Int)×(List Int)×(List Int)×Int))) :=
 let bP:=st.1
 let cg:=st.2.1
 let gL:=st.2.2.1
 let v_i:=st.2.2.2
 if (decide (v_i < (bB.length:Int)))=true then
 (aw bB v_i).bind fun b2=>(lC v_s b2 af).bind fun c3=>(aW bP [c3.be]).bind fun b4=>let bP:(List Int):=b4
 (aw bB v_i).bind fun b5=>(vk v_s b5 af).bind fun c6=>(aW cg [c6.be]).bind fun b7=>let cg:(List Int):=b7
 (aw bB v_i).bind fun b8=>(eO v_s b8 af).bind fun c9=>(aw bB v_i).bind fun b10=>(nZ v_s b10 af).bind fun c11=>(aW gL [(i64.wrap (c9.be + c11.be))]).bind fun b12=>let gL:(List Int):=b12
 let v_i:Int:=(i64.wrap (v_i + 1))
 some (.inl (bP,cg,gL,v_i))
 else
 some (.inr (bP,cg,gL,v_i))
def pQ (self:(aa→ByteArray→Int→Int→Option ((List aj)))) (bB:(List ByteArray)) (v_s:aa) (af:Int) (v_x:(List Int)) (st:(List aj)×Int) : Option (((List aj)×Int)⊕(((List aj)×Int))) :=
 let ak:=st.1
 let aU:=st.2
 if (decide (aU < (bB.length:Int)))=true then
 (aw bB aU).bind fun b15=>(aw v_x aU).bind fun b16=>(self v_s b15 af b16).bind fun c17=>(aW ak c17).bind fun b18=>let ak:(List aj):=b18
 let aU:Int:=(i64.wrap (aU + 1))
 some (.inl (ak,aU))
 else
 some (.inr (ak,aU))
def lQ:Nat→aa→ByteArray→Int→Int→Option ((List aj))
 | 0=>fun _ _ _ _=>none
 | fuel + 1=>fun v_s au af Xn =>
 let self:=lQ fuel
 (ff v_s.bL au).bind fun c1=>let bB:(List ByteArray):=c1
 if ((bB.length:Int)==0)=true then
 some ([(⟨au,Xn⟩ : aj)] : (List aj))
 else
 let bP:(List Int):=[]
 let gL:(List Int):=[]
 let cg:(List Int):=[]
 let v_i:Int:=0
 (ah (pR self bB v_s af) ac (bP,cg,gL,v_i)).bind fun r13 =>
 let bP:=r13.1
 let cg:=r13.2.1
 let gL:=r13.2.2.1
 let v_i:=r13.2.2.2
 (vr Xn bP gL cg).bind fun c14=>let v_x:(List Int):=c14
 let ak:(List aj):=[]
 let aU:Int:=0
 (ah (pQ self bB v_s af v_x) ac (ak,aU)).bind fun r19 =>
 let ak:=r19.1
 let aU:=r19.2
 some ak
def gp (ak:(List aj)) (v_i:Int) (v_l:(List aj)) (st:Int) : Option ((Int)⊕((Int))) :=
 let v_k:=st
 (if (decide (v_k < (ak.length:Int)))=true then (aw ak v_k).bind fun b3=>(aw v_l v_i).bind fun b4=>some (Op.bytesLess b3.aK.toList b4.aK.toList) else some false).bind fun q5=>if q5=true then
 let v_k:Int:=(i64.wrap (v_k + 1))
 some (.inl v_k)
 else
 some (.inr v_k)
def jD (v_l:(List aj)) (st:(List aj)×Int) : Option (((List aj)×Int)⊕(((List aj)×Int))) :=
 let ak:=st.1
 let v_i:=st.2
 if (decide (v_i < (v_l.length:Int)))=true then
 let v_k:Int:=0
 (ah (gp ak v_i v_l) ac v_k).bind fun r6 =>
 let v_k:=r6
 (hiO ak v_k).bind fun b7=>(aW ([] : (List aj)) b7).bind fun b8=>let v_x:(List aj):=b8
 (aw v_l v_i).bind fun b9=>(aW v_x [b9]).bind fun b10=>let v_x:(List aj):=b10
 (loO ak v_k).bind fun b11=>(aW v_x b11).bind fun b12=>let ak:(List aj):=b12
 let v_i:Int:=(i64.wrap (v_i + 1))
 some (.inl (ak,v_i))
 else
 some (.inr (ak,v_i))
def pT (v_s:aa) (af:Int) : Option ((List aj)) :=
 let ak:(List aj):=[]
 (jc v_s af).bind fun c1=>(lQ ac v_s (⟨#[114,111,111,116]⟩ : ByteArray) af c1.be).bind fun c2=>let v_l:(List aj):=c2
 let v_i:Int:=0
 (ah (jD v_l) ac (ak,v_i)).bind fun r13 =>
 let ak:=r13.1
 let v_i:=r13.2
 some ak
def nx (v_l:(List aj)) (au:ByteArray) (st:Int) : Option ((Int)⊕((Int)⊕(Int))) :=
 let v_i:=st
 if (decide (v_i < (v_l.length:Int)))=true then
 (aw v_l v_i).bind fun b2=>if (b2.aK.toList==au.toList)=true then
 (aw v_l v_i).bind fun b3=>some (.inr (.inr b3.be))
 else
 let v_i:Int:=(i64.wrap (v_i + 1))
 some (.inl v_i)
 else
 some (.inr (.inl v_i))
def yX (v_s:aa) (af:Int) (au:ByteArray) : Option (Int) :=
 (pT v_s af).bind fun c1=>let v_l:(List aj):=c1
 let v_i:Int:=0
 (ah (nx v_l au) ac v_i).bind fun r4=>match r4 with
 | .inr m5=>some m5
 | .inl m5 =>
 let v_i:=m5
 some 0
def jh (v_s:aa) (v_c:ai) : Option (ByteArray) :=
 (dE v_s v_c.bz).bind fun c1=>let v_a:az:=c1.1
 some v_a.bO
def kj (v_a:az) (au:ByteArray) (v_s:aa) (af:Int) (bP:Int) (mt:Int) (st:Int) : Option ((Int)⊕((Int)⊕(Int))) :=
 let v_k:=st
 (if (decide (v_k < (v_a.bQ.length:Int)))=true then (dD v_a).bind fun c6=>some c6 else some false).bind fun q7=>(if q7=true then some (v_a.bO.toList==au.toList) else some false).bind fun q8=>if q8=true then
 (aw v_a.bQ v_k).bind fun b9=>(if (b9.a8==af)=true then (aw v_a.bQ v_k).bind fun b10=>some (decide ((i64.wrap (b10.bu.be + mt))≤bP)) else some false).bind fun q11=>if q11=true then
 (nZ v_s au af).bind fun c12=>some (.inr (.inr (if (i64.wrap (bP - mt)) < c12.be then (i64.wrap (bP - mt)) else c12.be)))
 else
 let v_k:Int:=(i64.wrap (v_k + 1))
 some (.inl v_k)
 else
 some (.inr (.inl v_k))
def kl (v_s:aa) (au:ByteArray) (af:Int) (bP:Int) (mt:Int) (st:Int) : Option ((Int)⊕((Int)⊕(Int))) :=
 let v_i:=st
 if (decide (v_i < (v_s.ao.length:Int)))=true then
 (aw v_s.ao v_i).bind fun b5=>let v_a:az:=b5
 let v_k:Int:=0
 (ah (kj v_a au v_s af bP mt) ac v_k).bind fun r13=>match r13 with
 | .inr m14=>some (.inr (.inr m14))
 | .inl m14 =>
 let v_k:=m14
 let v_i:Int:=(i64.wrap (v_i + 1))
 some (.inl v_i)
 else
 some (.inr (.inl v_i))
def rI (v_s:aa) (au:ByteArray) (af:Int) : Option (Int) :=
 (eO v_s au af).bind fun c1=>(lC v_s au af).bind fun c2=>let t3:Int:=c1.be
 let t4:Int:=c2.be
 let mt:Int:=t3
 let bP:Int:=t4
 let v_i:Int:=0
 (ah (kl v_s au af bP mt) ac v_i).bind fun r15=>match r15 with
 | .inr m16=>some m16
 | .inl m16 =>
 let v_i:=m16
 some 0
def oL (v_l:(List Int)) (v_n:Int) (st:Int) : Option ((Int)⊕((Int)⊕(Bool))) :=
 let v_i:=st
 if (decide (v_i < (v_l.length:Int)))=true then
 (aw v_l v_i).bind fun b1=>if (b1==v_n)=true then
 some (.inr (.inr true))
 else
 let v_i:Int:=(i64.wrap (v_i + 1))
 some (.inl v_i)
 else
 some (.inr (.inl v_i))
def xm (v_l:(List Int)) (v_n:Int) : Option (Bool) :=
 let v_i:Int:=0
 (ah (oL v_l v_n) ac v_i).bind fun r2=>match r2 with
 | .inr m3=>some m3
 | .inl m3 =>
 let v_i:=m3
 some false
def jC (v_s:aa) (af:Int) (au:ByteArray) (v_l:(List Int)) (st:Int×Int) : Option ((Int×Int)⊕((Int×Int))) :=
 let v_n:=st.1
 let v_i:=st.2
 if (decide (v_i < (v_s.ab.length:Int)))=true then
 (aw v_s.ab v_i).bind fun b1=>let v_c:ai:=b1
 (if (v_c.a8==af)=true then (if (au.toList==(⟨#[]⟩ : ByteArray).toList)=true then some true else (jh v_s v_c).bind fun c2=>some (c2.toList==au.toList)).bind fun q3=>some q3 else some false).bind fun q4=>(if q4=true then (if (v_c.jw != 0)=true then some true else (xm v_l v_c.fId).bind fun c5=>some c5).bind fun q6=>some q6 else some false).bind fun q7=>if q7=true then
 let v_n:Int:=(i64.wrap (v_n + v_c.bu.be))
 let v_i:Int:=(i64.wrap (v_i + 1))
 some (.inl (v_n,v_i))
 else
 let v_i:Int:=(i64.wrap (v_i + 1))
 some (.inl (v_n,v_i))
 else
 some (.inr (v_n,v_i))
def mW (v_s:aa) (au:ByteArray) (af:Int) (v_l:(List Int)) : Option (Int) :=
 let v_n:Int:=0
 let v_i:Int:=0
 (ah (jC v_s af au v_l) ac (v_n,v_i)).bind fun r8 =>
 let v_n:=r8.1
 let v_i:=r8.2
 some v_n
def jB (v_s:aa) (af:Int) (au:ByteArray) (v_l:(List Int)) (st:ai×Bool×Int) : Option ((ai×Bool×Int)⊕((ai×Bool×Int))) :=
 let cH:=st.1
 let bK:=st.2.1
 let v_i:=st.2.2
 if (decide (v_i < (v_s.ab.length:Int)))=true then
 (aw v_s.ab v_i).bind fun b3=>let v_c:ai:=b3
 (if (v_c.a8 != af)=true then some true else (jh v_s v_c).bind fun c4=>some (!(c4.toList==au.toList))).bind fun q5=>(if q5=true then some true else some (v_c.jw != 0)).bind fun q6=>(if q6=true then some true else (xm v_l v_c.fId).bind fun c7=>some c7).bind fun q8=>if q8=true then
 let v_i:Int:=(i64.wrap (v_i + 1))
 some (.inl (cH,bK,v_i))
 else
 (if (!bK)=true then some true else (if cH.bI=true then some (!v_c.bI) else some false).bind fun q9=>some q9).bind fun q10=>(if q10=true then some true else (if (cH.bI==v_c.bI)=true then some (decide (v_c.fId > cH.fId)) else some false).bind fun q11=>some q11).bind fun q12=>if q12=true then
 let t13:ai:=v_c
 let t14:Bool:=true
 let cH:ai:=t13
 let bK:Bool:=t14
 let v_i:Int:=(i64.wrap (v_i + 1))
 some (.inl (cH,bK,v_i))
 else
 let v_i:Int:=(i64.wrap (v_i + 1))
 some (.inl (cH,bK,v_i))
 else
 some (.inr (cH,bK,v_i))
def pN (v_s:aa) (au:ByteArray) (af:Int) (v_l:(List Int)) : Option (ai×Bool) :=
 let t1:ai:=(⟨0,0,0,av.zero,0,0,false,0⟩ : ai)
 let t2:Bool:=false
 let cH:ai:=t1
 let bK:Bool:=t2
 let v_i:Int:=0
 (ah (jB v_s af au v_l) ac (cH,bK,v_i)).bind fun r15 =>
 let cH:=r15.1
 let bK:=r15.2.1
 let v_i:=r15.2.2
 some (cH,bK)
def lM (bH:(List aj)) (v_s:aa) (af:Int) (st:Int×Int) : Option ((Int×Int)⊕((Int×Int))) :=
 let kX:=st.1
 let v_i:=st.2
 if (decide (v_i < (bH.length:Int)))=true then
 (aw bH v_i).bind fun b4=>(rI v_s b4.aK af).bind fun c5=>let kX:Int:=(i64.wrap (kX + c5))
 let v_i:Int:=(i64.wrap (v_i + 1))
 some (.inl (kX,v_i))
 else
 some (.inr (kX,v_i))
def lL (bH:(List aj)) (v_s:aa) (af:Int) (v_l:(List Int)) (st:Int×ai×Int) : Option ((Int×ai×Int)⊕((Int×ai×Int))) :=
 let cg:=st.1
 let v_x:=st.2.1
 let aU:=st.2.2
 if (decide (aU < (bH.length:Int)))=true then
 (aw bH aU).bind fun b10=>let v_p:ByteArray:=b10.aK
 (eO v_s v_p af).bind fun c11=>(aw bH aU).bind fun b12=>(mW v_s v_p af v_l).bind fun c13=>let CZ:Int:=(i64.wrap ((i64.wrap (c11.be - b12.be)) - c13))
 (pN v_s v_p af v_l).bind fun c14=>let v_c:ai:=c14.1
 let bK:Bool:=c14.2
 (if bK=true then some (decide (CZ > cg)) else some false).bind fun q15=>if q15=true then
 let t16:Int:=CZ
 let t17:ai:=v_c
 let cg:Int:=t16
 let v_x:ai:=t17
 let aU:Int:=(i64.wrap (aU + 1))
 some (.inl (cg,v_x,aU))
 else
 let aU:Int:=(i64.wrap (aU + 1))
 some (.inl (cg,v_x,aU))
 else
 some (.inr (cg,v_x,aU))
def pP (v_s:aa) (af:Int) (kX:Int) (bH:(List aj)) (st:(List Int)) : Option (((List Int))⊕(((List Int))⊕((List Int)))) :=
 let v_l:=st
 (mW v_s (⟨#[]⟩ : ByteArray) af v_l).bind fun c7=>if (decide (c7 < kX))=true then
 let t8:Int:=0
 let t9:ai:=(⟨0,0,0,av.zero,0,0,false,0⟩ : ai)
 let cg:Int:=t8
 let v_x:ai:=t9
 let aU:Int:=0
 (ah (lL bH v_s af v_l) ac (cg,v_x,aU)).bind fun r18 =>
 let cg:=r18.1
 let v_x:=r18.2.1
 let aU:=r18.2.2
 if (cg==0)=true then
 some (.inr (.inr v_l))
 else
 (aW v_l [v_x.fId]).bind fun b19=>let v_l:(List Int):=b19
 some (.inl v_l)
 else
 some (.inr (.inl v_l))
def yV (v_s:aa) (af:Int) : Option ((List Int)) :=
 (pT v_s af).bind fun c1=>let bH:(List aj):=c1
 (jc v_s af).bind fun c2=>(eO v_s (⟨#[114,111,111,116]⟩ : ByteArray) af).bind fun c3=>let kX:Int:=(i64.wrap (0 - (if 0 > (i64.wrap (c2.be - c3.be)) then 0 else (i64.wrap (c2.be - c3.be)))))
 let v_i:Int:=0
 (ah (lM bH v_s af) ac (kX,v_i)).bind fun r6 =>
 let kX:=r6.1
 let v_i:=r6.2
 let v_l:(List Int):=[]
 (ah (pP v_s af kX bH) ac v_l).bind fun r20=>match r20 with
 | .inr m21=>some m21
 | .inl m21 =>
 let v_l:=m21
 some v_l
def lJ (v_t:Int) (bC:Int) (st:(List ai)×Int) : Option (((List ai)×Int)⊕(((List ai)×Int))) :=
 let v_l:=st.1
 let v_i:=st.2
 if (decide (v_i < (v_l.length:Int)))=true then
 (aw v_l v_i).bind fun b2=>if (b2.fId==bC)=true then
 (aw v_l v_i).bind fun b3=>let v_l:(List ai):=(List.set v_l (Int.toNat v_i) ({ b3 with jw:=v_t }))
 let v_i:Int:=(i64.wrap (v_i + 1))
 some (.inl (v_l,v_i))
 else
 let v_i:Int:=(i64.wrap (v_i + 1))
 some (.inl (v_l,v_i))
 else
 some (.inr (v_l,v_i))
def jY (v_s:aa) (bC:Int) (v_t:Int) : Option (aa) :=
 (aW ([] : (List ai)) v_s.ab).bind fun b1=>let v_l:(List ai):=b1
 let v_i:Int:=0
 (ah (lJ v_t bC) ac (v_l,v_i)).bind fun r4 =>
 let v_l:=r4.1
 let v_i:=r4.2
 let v_s:aa:={ v_s with ab:=v_l }
 some v_s
def lN (kW:aa) (xG:aa) (st:(List Int)×Int) : Option (((List Int)×Int)⊕(((List Int)×Int))) :=
 let v_l:=st.1
 let v_i:=st.2
 if (decide (v_i < (kW.ab.length:Int)))=true then
 (aw kW.ab v_i).bind fun b1=>(eT xG b1.fId).bind fun c2=>let bK:Bool:=c2.2
 if (!bK)=true then
 (aw kW.ab v_i).bind fun b3=>(aW v_l [b3.fId]).bind fun b4=>let v_l:(List Int):=b4
 let v_i:Int:=(i64.wrap (v_i + 1))
 some (.inl (v_l,v_i))
 else
 let v_i:Int:=(i64.wrap (v_i + 1))
 some (.inl (v_l,v_i))
 else
 some (.inr (v_l,v_i))
def uy (kW:aa) (xG:aa) : Option ((List Int)) :=
 let v_l:(List Int):=[]
 let v_i:Int:=0
 (ah (lN kW xG) ac (v_l,v_i)).bind fun r5 =>
 let v_l:=r5.1
 let v_i:=r5.2
 some v_l
def mU (v_s:aa) (v_c:ai) (st:Int×Int) : Option ((Int×Int)⊕((Int×Int))) :=
 let v_n:=st.1
 let v_i:=st.2
 (if (decide (v_i < (v_s.ab.length:Int)))=true then some v_c.bI else some false).bind fun q1=>if q1=true then
 (aw v_s.ab v_i).bind fun b2=>(if (b2.bz==v_c.bz)=true then (aw v_s.ab v_i).bind fun b3=>some (b3.fId != v_c.fId) else some false).bind fun q4=>(if q4=true then (aw v_s.ab v_i).bind fun b5=>some (b5.a8==v_c.a8) else some false).bind fun q6=>if q6=true then
 (aw v_s.ab v_i).bind fun b7=>let v_n:Int:=(i64.wrap (v_n + b7.bu.be))
 let v_i:Int:=(i64.wrap (v_i + 1))
 some (.inl (v_n,v_i))
 else
 let v_i:Int:=(i64.wrap (v_i + 1))
 some (.inl (v_n,v_i))
 else
 some (.inr (v_n,v_i))
def pM (v_s:aa) (v_c:ai) : Option (Int) :=
 let v_n:Int:=0
 let v_i:Int:=0
 (ah (mU v_s v_c) ac (v_n,v_i)).bind fun r8 =>
 let v_n:=r8.1
 let v_i:=r8.2
 some v_n
def pO (v_s:aa) (af:Int) (st:(List ai)×Int) : Option (((List ai)×Int)⊕(((List ai)×Int))) :=
 let v_l:=st.1
 let v_i:=st.2
 if (decide (v_i≥0))=true then
 (aw v_s.ab v_i).bind fun b1=>let v_c:ai:=b1
 (if (v_c.a8==af)=true then some (v_c.jw != 0) else some false).bind fun q2=>(if q2=true then some (decide ((i64.wrap (v_c.jw + 3))≤v_s.cP)) else some false).bind fun q3=>if q3=true then
 (aW v_l [v_c]).bind fun b4=>let v_l:(List ai):=b4
 let v_i:Int:=(i64.wrap (v_i - 1))
 some (.inl (v_l,v_i))
 else
 let v_i:Int:=(i64.wrap (v_i - 1))
 some (.inl (v_l,v_i))
 else
 some (.inr (v_l,v_i))
def ji (v_l:(List ai)) (af:Int) (st:aa×Int) : Option ((aa×Int)⊕((aa×Int))) :=
 let v_s:=st.1
 let aU:=st.2
 if (decide (aU < (v_l.length:Int)))=true then
 (aw v_l aU).bind fun b6=>(eT v_s b6.fId).bind fun c7=>let wy:ai:=c7.1
 let bK:Bool:=c7.2
 if (!bK)=true then
 let aU:Int:=(i64.wrap (aU + 1))
 some (.inl (v_s,aU))
 else
 (jh v_s wy).bind fun c8=>(eO v_s c8 af).bind fun c9=>(pM v_s wy).bind fun c10=>(jh v_s wy).bind fun c11=>(yX v_s af c11).bind fun c12=>if (decide ((i64.wrap (c9.be - c10)) > c12))=true then
 (fq v_s ([wy.fId] : (List Int))).bind fun c13=>let v_s:aa:=c13
 let aU:Int:=(i64.wrap (aU + 1))
 some (.inl (v_s,aU))
 else
 (jY v_s wy.fId 0).bind fun c14=>let v_s:aa:=c14
 let aU:Int:=(i64.wrap (aU + 1))
 some (.inl (v_s,aU))
 else
 some (.inr (v_s,aU))
def rJ (v_s:aa) (af:Int) : Option (aa) :=
 let v_l:(List ai):=[]
 let v_i:Int:=(i64.wrap ((v_s.ab.length:Int) - 1))
 (ah (pO v_s af) ac (v_l,v_i)).bind fun r5 =>
 let v_l:=r5.1
 let v_i:=r5.2
 let aU:Int:=0
 (ah (ji v_l af) ac (v_s,aU)).bind fun r15 =>
 let v_s:=r15.1
 let aU:=r15.2
 some v_s
def ip (v_l:(List Int)) (st:aa×Int) : Option ((aa×Int)⊕((aa×Int))) :=
 let v_s:=st.1
 let v_i:=st.2
 if (decide (v_i < (v_l.length:Int)))=true then
 (aw v_l v_i).bind fun b3=>(jY v_s b3 (if 1 > v_s.cP then 1 else v_s.cP)).bind fun c4=>let v_s:aa:=c4
 let v_i:Int:=(i64.wrap (v_i + 1))
 some (.inl (v_s,v_i))
 else
 some (.inr (v_s,v_i))
def ko (st:aa×Int) : Option ((aa×Int)⊕((aa×Int))) :=
 let v_s:=st.1
 let af:=st.2
 if (decide (af < (v_s.bL.al.length:Int)))=true then
 (rJ v_s af).bind fun c1=>let v_s:aa:=c1
 (yV v_s af).bind fun c2=>let v_l:(List Int):=c2
 let v_i:Int:=0
 (ah (ip v_l) ac (v_s,v_i)).bind fun r5 =>
 let v_s:=r5.1
 let v_i:=r5.2
 let af:Int:=(i64.wrap (af + 1))
 some (.inl (v_s,af))
 else
 some (.inr (v_s,af))
def o7 (v_s:aa) : Option (aa×(List Int)) :=
 let kW:aa:=v_s
 let af:Int:=0
 (ah (ko) ac (v_s,af)).bind fun r6 =>
 let v_s:=r6.1
 let af:=r6.2
 (uy kW v_s).bind fun c7=>some (v_s,c7)
def oM (v_l:(List a6)) (af:Int) (v_t:Int) (st:av×Int) : Option ((av×Int)⊕((av×Int))) :=
 let v_v:=st.1
 let v_i:=st.2
 if (decide (v_i < (v_l.length:Int)))=true then
 (aw v_l v_i).bind fun b1=>(if (b1.a8==af)=true then (aw v_l v_i).bind fun b2=>some (decide (b2.pw≤v_t)) else some false).bind fun q3=>(if q3=true then (aw v_l v_i).bind fun b4=>some (decide (v_t < b4.lr)) else some false).bind fun q5=>if q5=true then
 (aw v_l v_i).bind fun b6=>(cX v_v b6.kP).bind fun c7=>let v_v:av:=c7
 let v_i:Int:=(i64.wrap (v_i + 1))
 some (.inl (v_v,v_i))
 else
 let v_i:Int:=(i64.wrap (v_i + 1))
 some (.inl (v_v,v_i))
 else
 some (.inr (v_v,v_i))
def uB (v_l:(List a6)) (af:Int) (v_t:Int) : Option (av) :=
 let v_v:av:=(⟨0,0⟩ : av)
 let v_i:Int:=0
 (ah (oM v_l af v_t) ac (v_v,v_i)).bind fun r8 =>
 let v_v:=r8.1
 let v_i:=r8.2
 some v_v
def uA (v_n:Int) : Option (Bool) :=
 (if (decide (v_n≥0))=true then some (decide (v_n≤1073741824)) else some false).bind fun q1=>some q1
def lR (v_l:(List a6)) (v_t:Int) (gM:Int) (v_p:a6) (fJ:av) (st:Int) : Option ((Int)⊕((Int)⊕(Bool))) :=
 let v_i:=st
 if (decide (v_i < (v_l.length:Int)))=true then
 (aw v_l v_i).bind fun b4=>let v_u:Int:=b4.pw
 (if (decide (v_u > v_t))=true then some (decide ((i64.wrap (v_u - v_t)) < gM)) else some false).bind fun q5=>(if q5=true then (uB v_l v_p.a8 v_u).bind fun c6=>(cX c6 v_p.kP).bind fun c7=>(fL c7 fJ).bind fun c8=>some (!c8) else some false).bind fun q9=>if q9=true then
 some (.inr (.inr false))
 else
 let v_i:Int:=(i64.wrap (v_i + 1))
 some (.inl v_i)
 else
 some (.inr (.inl v_i))
def rK (v_l:(List a6)) (fJ:av) (v_p:a6) (v_t:Int) (gM:Int) : Option (Bool) :=
 (uB v_l v_p.a8 v_t).bind fun c1=>(cX c1 v_p.kP).bind fun c2=>(fL c2 fJ).bind fun c3=>if (!c3)=true then
 some false
 else
 let v_i:Int:=0
 (ah (lR v_l v_t gM v_p fJ) ac v_i).bind fun r10=>match r10 with
 | .inr m11=>some m11
 | .inl m11 =>
 let v_i:=m11
 some true
def oq (v_l:(List a6)) (v_p:a6) (gM:Int) (fJ:av) (st:Int×Int) : Option ((Int×Int)⊕((Int×Int))) :=
 let cH:=st.1
 let v_i:=st.2
 if (decide (v_i < (v_l.length:Int)))=true then
 let v_t:Int:=v_p.pw
 (if (decide (v_i≥0))=true then
 (aw v_l v_i).bind fun b11=>let v_t:Int:=b11.lr
 some v_t
 else
 some v_t).bind fun j10=>let v_t:=j10
 (if (decide (v_t≥v_p.pw))=true then some (decide (v_t≤1000000)) else some false).bind fun q12=>(if q12=true then some (decide ((i64.wrap (v_t + gM))≤v_p.lr)) else some false).bind fun q13=>(if q13=true then (if (decide (cH < 0))=true then some true else some (decide (v_t < cH))).bind fun q14=>some q14 else some false).bind fun q15=>(if q15=true then (rK v_l fJ v_p v_t gM).bind fun c16=>some c16 else some false).bind fun q17=>if q17=true then
 let cH:Int:=v_t
 let v_i:Int:=(i64.wrap (v_i + 1))
 some (.inl (cH,v_i))
 else
 let v_i:Int:=(i64.wrap (v_i + 1))
 some (.inl (cH,v_i))
 else
 some (.inr (cH,v_i))
def vt (v_l:(List a6)) (fJ:av) (v_p:a6) (gM:Int) : Option (Int×Int) :=
 (if (decide (gM < 1))=true then some true else some (decide (gM > 1000))).bind fun q1=>(if q1=true then some true else some (decide (v_p.pw < 0))).bind fun q2=>(if q2=true then some true else some (decide (v_p.pw > 1000000))).bind fun q3=>(if q3=true then some true else some (decide (v_p.lr < 0))).bind fun q4=>(if q4=true then some true else some (decide (v_p.lr > 1000000))).bind fun q5=>(if q5=true then some true else (uA v_p.kP.be).bind fun c6=>some (!c6)).bind fun q7=>(if q7=true then some true else (uA v_p.kP.aF).bind fun c8=>some (!c8)).bind fun q9=>if q9=true then
 some (0,1)
 else
 let cH:Int:=(-1)
 let v_i:Int:=(-1)
 (ah (oq v_l v_p gM fJ) ac (cH,v_i)).bind fun r18 =>
 let cH:=r18.1
 let v_i:=r18.2
 if (decide (cH < 0))=true then
 some (0,16)
 else
 some (cH,0)
def iH (v_s:aa) (v_p:a6) (st:Int×Int) : Option ((Int×Int)⊕((Int×Int)⊕(aa×Int×Int))) :=
 let v_k:=st.1
 let v_i:=st.2
 if (decide (v_i < (v_s.bv.length:Int)))=true then
 (aw v_s.bv v_i).bind fun b5=>if (b5.fId==v_p.fId)=true then
 some (.inr (.inr (v_s,0,7)))
 else
 (aw v_s.bv v_i).bind fun b6=>if (decide (b6.fId < v_p.fId))=true then
 let v_k:Int:=(i64.wrap (v_i + 1))
 let v_i:Int:=(i64.wrap (v_i + 1))
 some (.inl (v_k,v_i))
 else
 let v_i:Int:=(i64.wrap (v_i + 1))
 some (.inl (v_k,v_i))
 else
 some (.inr (.inl (v_k,v_i)))
def sN (v_s:aa) (v_p:a6) (gM:Int) : Option (aa×Int×Int) :=
 (if (decide (v_p.fId < 0))=true then some true else some (decide (v_p.fId > 999))).bind fun q1=>(if q1=true then some true else some (decide (v_p.a8 < 0))).bind fun q2=>(if q2=true then some true else some (decide (v_p.a8≥(v_s.bL.al.length:Int)))).bind fun q3=>(if q3=true then some true else some ((v_p.kP.be==(⟨0,0⟩ : av).be)&&(v_p.kP.aF==(⟨0,0⟩ : av).aF))).bind fun q4=>if q4=true then
 some (v_s,0,1)
 else
 let v_k:Int:=0
 let v_i:Int:=0
 (ah (iH v_s v_p) ac (v_k,v_i)).bind fun r7=>match r7 with
 | .inr m8=>some m8
 | .inl m8 =>
 let v_k:=m8.1
 let v_i:=m8.2
 if (decide ((v_s.bv.length:Int)≥12))=true then
 some (v_s,0,4)
 else
 if (decide (v_p.pw < v_s.cP))=true then
 some (v_s,0,15)
 else
 (jc v_s v_p.a8).bind fun c9=>(vt v_s.bv c9 v_p gM).bind fun c10=>let v_t:Int:=c10.1
 let v_e:Int:=c10.2
 if (v_e != 0)=true then
 some (v_s,0,v_e)
 else
 (hiO v_s.bv v_k).bind fun b11=>(aW ([] : (List a6)) b11).bind fun b12=>let v_l:(List a6):=b12
 (aW v_l [(⟨v_p.fId,v_p.a8,v_t,(i64.wrap (v_t + gM)),v_p.kP⟩ : a6)]).bind fun b13=>let v_l:(List a6):=b13
 (loO v_s.bv v_k).bind fun b14=>(aW v_l b14).bind fun b15=>let v_s:aa:={ v_s with bv:=b15 }
 some (v_s,v_t,0)
def lS (v_s:aa) (bC:Int) (st:(List a6)×Int) : Option (((List a6)×Int)⊕(((List a6)×Int))) :=
 let v_l:=st.1
 let v_i:=st.2
 if (decide (v_i < (v_s.bv.length:Int)))=true then
 (aw v_s.bv v_i).bind fun b1=>if (b1.fId != bC)=true then
 (aw v_s.bv v_i).bind fun b2=>(aW v_l [b2]).bind fun b3=>let v_l:(List a6):=b3
 let v_i:Int:=(i64.wrap (v_i + 1))
 some (.inl (v_l,v_i))
 else
 let v_i:Int:=(i64.wrap (v_i + 1))
 some (.inl (v_l,v_i))
 else
 some (.inr (v_l,v_i))
def pU (v_s:aa) (bC:Int) : Option (aa×Int) :=
 let v_l:(List a6):=[]
 let v_i:Int:=0
 (ah (lS v_s bC) ac (v_l,v_i)).bind fun r4 =>
 let v_l:=r4.1
 let v_i:=r4.2
 if ((v_l.length:Int)==(v_s.bv.length:Int))=true then
 some (v_s,2)
 else
 let v_s:aa:={ v_s with bv:=v_l }
 some (v_s,0)
def sI (v_s:ByteArray) (v_c:Int) (st:(List ByteArray)×Int×Int) : Option (((List ByteArray)×Int×Int)⊕(((List ByteArray)×Int×Int))) :=
 let v_l:=st.1
 let oy:=st.2.1
 let v_i:=st.2.2
 if (decide (v_i < (v_s.size:Int)))=true then
 (lb v_s v_i).bind fun b1=>if (b1==v_c)=true then
 (Ix v_s oy v_i).bind fun b2=>(aW v_l [b2]).bind fun b3=>let v_l:(List ByteArray):=b3
 let oy:Int:=(i64.wrap (v_i + 1))
 let v_i:Int:=(i64.wrap (v_i + 1))
 some (.inl (v_l,oy,v_i))
 else
 let v_i:Int:=(i64.wrap (v_i + 1))
 some (.inl (v_l,oy,v_i))
 else
 some (.inr (v_l,oy,v_i))
def E7 (v_s:ByteArray) (v_c:Int) : Option ((List ByteArray)) :=
 let v_l:(List ByteArray):=[]
 let oy:Int:=0
 let v_i:Int:=0
 (ah (sI v_s v_c) ac (v_l,oy,v_i)).bind fun r4 =>
 let v_l:=r4.1
 let oy:=r4.2.1
 let v_i:=r4.2.2
 (if (decide (oy < (v_s.size:Int)))=true then
 (Rg v_s oy).bind fun b6=>(aW v_l [b6]).bind fun b7=>let v_l:(List ByteArray):=b7
 some v_l
 else
 some v_l).bind fun j5=>let v_l:=j5
 some v_l
def pF (v_l:(List ByteArray)) (st:(List ByteArray)×Int) : Option (((List ByteArray)×Int)⊕(((List ByteArray)×Int))) :=
 let ak:=st.1
 let v_i:=st.2
 if (decide (v_i < (v_l.length:Int)))=true then
 (aw v_l v_i).bind fun b2=>if (!(b2.toList==(⟨#[]⟩ : ByteArray).toList))=true then
 (aw v_l v_i).bind fun b3=>(aW ak [b3]).bind fun b4=>let ak:(List ByteArray):=b4
 let v_i:Int:=(i64.wrap (v_i + 1))
 some (.inl (ak,v_i))
 else
 let v_i:Int:=(i64.wrap (v_i + 1))
 some (.inl (ak,v_i))
 else
 some (.inr (ak,v_i))
def yD (v_s:ByteArray) : Option ((List ByteArray)) :=
 let ak:(List ByteArray):=[]
 (E7 v_s 32).bind fun c1=>let v_l:(List ByteArray):=c1
 let v_i:Int:=0
 (ah (pF v_l) ac (ak,v_i)).bind fun r5 =>
 let ak:=r5.1
 let v_i:=r5.2
 some ak
def oh (v_s:ByteArray) (st:Int×Int) : Option ((Int×Int)⊕((Int×Int)⊕(Int×Bool))) :=
 let v_n:=st.1
 let v_i:=st.2
 if (decide (v_i < (v_s.size:Int)))=true then
 (lb v_s v_i).bind fun b5=>(if (decide (b5 < 48))=true then some true else (lb v_s v_i).bind fun b6=>some (decide (b6 > 57))).bind fun q7=>if q7=true then
 some (.inr (.inr (0,false)))
 else
 (lb v_s v_i).bind fun b8=>let v_n:Int:=(i64.wrap ((i64.wrap (v_n * 10)) + (i64.wrap (IntKind.u8.wrap (b8 - 48)))))
 let v_i:Int:=(i64.wrap (v_i + 1))
 some (.inl (v_n,v_i))
 else
 some (.inr (.inl (v_n,v_i)))
def o0 (v_s:ByteArray) : Option (Int×Bool) :=
 (if (decide ((v_s.size:Int) < 1))=true then some true else some (decide ((v_s.size:Int) > 7))).bind fun q1=>(if q1=true then some true else (lb v_s 0).bind fun b2=>(if (b2==48)=true then some (decide ((v_s.size:Int) > 1)) else some false).bind fun q3=>some q3).bind fun q4=>if q4=true then
 some (0,false)
 else
 let v_n:Int:=0
 let v_i:Int:=0
 (ah (oh v_s) ac (v_n,v_i)).bind fun r9=>match r9 with
 | .inr m10=>some m10
 | .inl m10 =>
 let v_n:=m10.1
 let v_i:=m10.2
 some (v_n,true)
def pG (v_s:ByteArray) (st:Int) : Option ((Int)⊕((Int))) :=
 let v_k:=st
 (if (decide (v_k < (v_s.size:Int)))=true then (lb v_s v_k).bind fun b1=>some (b1 != 47) else some false).bind fun q2=>if q2=true then
 let v_k:Int:=(i64.wrap (v_k + 1))
 some (.inl v_k)
 else
 some (.inr v_k)
def yE (v_s:ByteArray) : Option (eu×Bool) :=
 let v_k:Int:=0
 (ah (pG v_s) ac v_k).bind fun r3 =>
 let v_k:=r3
 if (v_k==(v_s.size:Int))=true then
 some ((⟨0,0⟩ : eu),false)
 else
 (Ni v_s v_k).bind fun b4=>(o0 b4).bind fun c5=>let v_a:Int:=c5.1
 let v_p:Bool:=c5.2
 (Rg v_s (i64.wrap (v_k + 1))).bind fun b6=>(o0 b6).bind fun c7=>let v_b:Int:=c7.1
 let v_q:Bool:=c7.2
 (if v_p=true then some v_q else some false).bind fun q8=>some ((⟨v_a,v_b⟩ : eu),q8)
def pH (v_w:(List ByteArray)) (st:Bool×aC×Int) : Option ((Bool×aC×Int)⊕((Bool×aC×Int))) :=
 let FT:=st.1
 let v_q:=st.2.1
 let v_i:=st.2.2
 (if (decide (v_i < (v_w.length:Int)))=true then some FT else some false).bind fun q6=>if q6=true then
 let v_c:eu:=(⟨0,0⟩ : eu)
 (aw v_w v_i).bind fun b7=>(yE b7).bind fun c8=>let v_c:eu:=c8.1
 let FT:Bool:=c8.2
 (aW v_q.bA [v_c]).bind fun b9=>let v_q:aC:={ v_q with bA:=b9 }
 let v_i:Int:=(i64.wrap (v_i + 1))
 some (.inl (FT,v_q,v_i))
 else
 some (.inr (FT,v_q,v_i))
def yF (v_w:(List ByteArray)) (qQ:Int) : Option (aC×Bool) :=
 (if ((v_w.length:Int) != (i64.wrap (3 + qQ)))=true then some true else (aw v_w 0).bind fun b1=>some (!(b1.toList==(⟨#[113,117,101,117,101]⟩ : ByteArray).toList))).bind fun q2=>if q2=true then
 some ((⟨⟨#[]⟩,[],0⟩ : aC),false)
 else
 (aw v_w 2).bind fun b3=>(o0 b3).bind fun c4=>let v_n:Int:=c4.1
 let FT:Bool:=c4.2
 (aw v_w 1).bind fun b5=>let v_q:aC:=(⟨b5,[],v_n⟩ : aC)
 let v_i:Int:=3
 (ah (pH v_w) ac (FT,v_q,v_i)).bind fun r10 =>
 let FT:=r10.1
 let v_q:=r10.2.1
 let v_i:=r10.2.2
 some (v_q,FT)
def pI (v_c:ay) (v_q:aC) (st:Int) : Option ((Int)⊕((Int))) :=
 let v_k:=st
 (if (decide (v_k < (v_c.ae.length:Int)))=true then (aw v_c.ae v_k).bind fun b10=>some (Op.bytesLess b10.aK.toList v_q.aK.toList) else some false).bind fun q11=>if q11=true then
 let v_k:Int:=(i64.wrap (v_k + 1))
 some (.inl v_k)
 else
 some (.inr v_k)
def pJ (v_l:(List ByteArray)) (st:ay×Bool×Int) : Option ((ay×Bool×Int)⊕((ay×Bool×Int)⊕(ay×Int))) :=
 let v_c:=st.1
 let ng:=st.2.1
 let v_i:=st.2.2
 if (decide (v_i < (v_l.length:Int)))=true then
 (aw v_l v_i).bind fun b2=>(yD b2).bind fun c3=>let v_w:(List ByteArray):=c3
 if ((v_w.length:Int)==0)=true then
 let v_i:Int:=(i64.wrap (v_i + 1))
 some (.inl (v_c,ng,v_i))
 else
 if ((v_c.al.length:Int)==0)=true then
 (aw v_w 0).bind fun b4=>if (!(b4.toList==(⟨#[108,97,98,101,108,115]⟩ : ByteArray).toList))=true then
 some (.inr (.inr ((⟨[],[]⟩ : ay),6)))
 else
 if (decide ((v_w.length:Int) > 3))=true then
 some (.inr (.inr ((⟨[],[]⟩ : ay),4)))
 else
 (loO v_w 1).bind fun b5=>(aW ([(⟨#[]⟩ : ByteArray)] : (List ByteArray)) b5).bind fun b6=>let v_c:ay:={ v_c with al:=b6 }
 let v_i:Int:=(i64.wrap (v_i + 1))
 some (.inl (v_c,ng,v_i))
 else
 (if ((v_c.ae.length:Int)==16)=true then (aw v_w 0).bind fun b7=>some (b7.toList==(⟨#[113,117,101,117,101]⟩ : ByteArray).toList) else some false).bind fun q8=>if q8=true then
 some (.inr (.inr ((⟨[],[]⟩ : ay),4)))
 else
 (yF v_w (v_c.al.length:Int)).bind fun c9=>let v_q:aC:=c9.1
 let FT:Bool:=c9.2
 if (!FT)=true then
 some (.inr (.inr ((⟨[],[]⟩ : ay),6)))
 else
 let v_k:Int:=0
 (ah (pI v_c v_q) ac v_k).bind fun r12 =>
 let v_k:=r12
 (if ng=true then some true else (if (decide (v_k < (v_c.ae.length:Int)))=true then (aw v_c.ae v_k).bind fun b13=>some (b13.aK.toList==v_q.aK.toList) else some false).bind fun q14=>some q14).bind fun q15=>let ng:Bool:=q15
 (hiO v_c.ae v_k).bind fun b16=>(aW ([] : (List aC)) b16).bind fun b17=>let v_x:(List aC):=b17
 (aW v_x [v_q]).bind fun b18=>(loO v_c.ae v_k).bind fun b19=>(aW b18 b19).bind fun b20=>let v_c:ay:={ v_c with ae:=b20 }
 let v_i:Int:=(i64.wrap (v_i + 1))
 some (.inl (v_c,ng,v_i))
 else
 some (.inr (.inl (v_c,ng,v_i)))
def yH (v_s:ByteArray) : Option (ay×Int) :=
 if (decide ((v_s.size:Int) > 2000))=true then
 some ((⟨[],[]⟩ : ay),5)
 else
 let v_c:ay:=(⟨[],[]⟩ : ay)
 let ng:Bool:=false
 (E7 v_s 10).bind fun c1=>let v_l:(List ByteArray):=c1
 let v_i:Int:=0
 (ah (pJ v_l) ac (v_c,ng,v_i)).bind fun r21=>match r21 with
 | .inr m22=>some m22
 | .inl m22 =>
 let v_c:=m22.1
 let ng:=m22.2.1
 let v_i:=m22.2.2
 if ((v_c.al.length:Int)==0)=true then
 some ((⟨[],[]⟩ : ay),6)
 else
 if ng=true then
 some ((⟨[],[]⟩ : ay),7)
 else
 some (v_c,0)
def dp:Nat→Int→Option (ByteArray)
 | 0=>fun _=>none
 | fuel + 1=>fun v_n =>
 let self:=dp fuel
 if (decide (v_n < 0))=true then
 if (v_n==(-9223372036854775808))=true then
 some (⟨#[45,57,50,50,51,51,55,50,48,51,54,56,53,52,55,55,53,56,48,56]⟩ : ByteArray)
 else
 (self (i64.wrap (0 - v_n))).bind fun c1=>(mn (⟨#[45]⟩ : ByteArray) c1).bind fun b2=>some b2
 else
 if (decide (v_n≥10))=true then
 (self (i64.wrap (Int.tdiv v_n 10))).bind fun c3=>(self (Int.tmod v_n 10)).bind fun c4=>(mn c3 c4).bind fun b5=>some b5
 else
 (Wb ([(IntKind.u8.wrap (i64.wrap (48 + v_n)))] : (List Int))).bind fun b6=>some b6
def qL (v_c:ay) (st:ByteArray×Int) : Option ((ByteArray×Int)⊕((ByteArray×Int))) :=
 let ak:=st.1
 let v_i:=st.2
 if (decide (v_i < (v_c.al.length:Int)))=true then
 (mn ak (⟨#[32]⟩ : ByteArray)).bind fun b1=>(aw v_c.al v_i).bind fun b2=>(mn b1 b2).bind fun b3=>let ak:ByteArray:=b3
 let v_i:Int:=(i64.wrap (v_i + 1))
 some (.inl (ak,v_i))
 else
 some (.inr (ak,v_i))
def qJ (v_q:aC) (st:ByteArray×Int) : Option ((ByteArray×Int)⊕((ByteArray×Int))) :=
 let ak:=st.1
 let v_k:=st.2
 if (decide (v_k < (v_q.bA.length:Int)))=true then
 (mn ak (⟨#[32]⟩ : ByteArray)).bind fun b12=>(aw v_q.bA v_k).bind fun b13=>(dp ac b13.mO).bind fun c14=>(mn b12 c14).bind fun b15=>(mn b15 (⟨#[47]⟩ : ByteArray)).bind fun b16=>(aw v_q.bA v_k).bind fun b17=>(dp ac b17.tX).bind fun c18=>(mn b16 c18).bind fun b19=>let ak:ByteArray:=b19
 let v_k:Int:=(i64.wrap (v_k + 1))
 some (.inl (ak,v_k))
 else
 some (.inr (ak,v_k))
def qK (v_c:ay) (st:ByteArray×Int) : Option ((ByteArray×Int)⊕((ByteArray×Int))) :=
 let ak:=st.1
 let aU:=st.2
 if (decide (aU < (v_c.ae.length:Int)))=true then
 (aw v_c.ae aU).bind fun b6=>let v_q:aC:=b6
 (mn ak (⟨#[113,117,101,117,101,32]⟩ : ByteArray)).bind fun b7=>(mn b7 v_q.aK).bind fun b8=>(mn b8 (⟨#[32]⟩ : ByteArray)).bind fun b9=>(dp ac v_q.eh).bind fun c10=>(mn b9 c10).bind fun b11=>let ak:ByteArray:=b11
 let v_k:Int:=0
 (ah (qJ v_q) ac (ak,v_k)).bind fun r20 =>
 let ak:=r20.1
 let v_k:=r20.2
 (mn ak (⟨#[10]⟩ : ByteArray)).bind fun b21=>let ak:ByteArray:=b21
 let aU:Int:=(i64.wrap (aU + 1))
 some (.inl (ak,aU))
 else
 some (.inr (ak,aU))
def yG (v_c:ay) : Option (ByteArray) :=
 let ak:ByteArray:=(⟨#[108,97,98,101,108,115]⟩ : ByteArray)
 let v_i:Int:=1
 (ah (qL v_c) ac (ak,v_i)).bind fun r4 =>
 let ak:=r4.1
 let v_i:=r4.2
 (mn ak (⟨#[10]⟩ : ByteArray)).bind fun b5=>let ak:ByteArray:=b5
 let aU:Int:=0
 (ah (qK v_c) ac (ak,aU)).bind fun r22 =>
 let ak:=r22.1
 let aU:=r22.2
 some ak
def JJ:Option (aa) :=
 some (⟨(⟨([(⟨#[]⟩ : ByteArray)] : (List ByteArray)),([(⟨(⟨#[114,111,111,116]⟩ : ByteArray),([(⟨10000,10000⟩ : eu)] : (List eu)),10000⟩ : aC)] : (List aC))⟩ : ay),[],[],[],[],[],0,0,0⟩ : aa)
def cY (v_s:aa) (v_e:Int) : Option (aa×bk) :=
 some (v_s,(⟨v_e,[],[],[],0⟩ : bk))
def er (v_s:aa) (v_c:ay) (st:Int) : Option ((Int)⊕((Int)⊕(aa×bk))) :=
 let v_i:=st
 if (decide (v_i < (v_s.bL.al.length:Int)))=true then
 (aw v_c.al v_i).bind fun b6=>(aw v_s.bL.al v_i).bind fun b7=>if (!(b6.toList==b7.toList))=true then
 (cY v_s 14).bind fun c8=>some (.inr (.inr c8))
 else
 let v_i:Int:=(i64.wrap (v_i + 1))
 some (.inl v_i)
 else
 some (.inr (.inl v_i))
def eo (v_s:aa) (v_c:ay) (st:Int) : Option ((Int)⊕((Int)⊕(aa×bk))) :=
 let aU:=st
 if (decide (aU < (v_s.ao.length:Int)))=true then
 (aw v_s.ao aU).bind fun b11=>(dD b11).bind fun c12=>(if c12=true then (aw v_s.ao aU).bind fun b13=>(kh v_c b13.bO).bind fun c14=>some (!c14) else some false).bind fun q15=>if q15=true then
 (cY v_s 14).bind fun c16=>some (.inr (.inr c16))
 else
 let aU:Int:=(i64.wrap (aU + 1))
 some (.inl aU)
 else
 some (.inr (.inl aU))
def mS (v_s:aa) (XJ:ByteArray) : Option (aa×bk) :=
 (yH XJ).bind fun c1=>let v_c:ay:=c1.1
 let v_e:Int:=c1.2
 (if (v_e==0)=true then
 (uq v_c).bind fun c3=>let v_e:Int:=c3
 some v_e
 else
 some v_e).bind fun j2=>let v_e:=j2
 if (v_e != 0)=true then
 (cY v_s v_e).bind fun c4=>some c4
 else
 if (decide ((v_c.al.length:Int) < (v_s.bL.al.length:Int)))=true then
 (cY v_s 14).bind fun c5=>some c5
 else
 let v_i:Int:=0
 (ah (er v_s v_c) ac v_i).bind fun r9=>match r9 with
 | .inr m10=>some m10
 | .inl m10 =>
 let v_i:=m10
 let aU:Int:=0
 (ah (eo v_s v_c) ac aU).bind fun r17=>match r17 with
 | .inr m18=>some m18
 | .inl m18 =>
 let aU:=m18
 let v_s:aa:={ v_s with bL:=v_c }
 some (v_s,(⟨0,[],[],[],0⟩ : bk))
def oK (v_s:aa) (cm:Int) (st:(List Int)×Int) : Option (((List Int)×Int)⊕(((List Int)×Int))) :=
 let v_l:=st.1
 let v_i:=st.2
 if (decide (v_i < (v_s.ab.length:Int)))=true then
 (aw v_s.ab v_i).bind fun b1=>if (b1.bf==cm)=true then
 (aw v_s.ab v_i).bind fun b2=>(aW v_l [b2.fId]).bind fun b3=>let v_l:(List Int):=b3
 let v_i:Int:=(i64.wrap (v_i + 1))
 some (.inl (v_l,v_i))
 else
 let v_i:Int:=(i64.wrap (v_i + 1))
 some (.inl (v_l,v_i))
 else
 some (.inr (v_l,v_i))
def sK (v_s:aa) (cm:Int) : Option ((List Int)) :=
 let v_l:(List Int):=[]
 let v_i:Int:=0
 (ah (oK v_s cm) ac (v_l,v_i)).bind fun r4 =>
 let v_l:=r4.1
 let v_i:=r4.2
 some v_l
def lI (v_x:aH) (v_t:aa) (st:(List Int)×Int) : Option (((List Int)×Int)⊕(((List Int)×Int))) :=
 let ce:=st.1
 let v_i:=st.2
 if (decide (v_i < (v_x.fW.length:Int)))=true then
 (aw v_x.fW v_i).bind fun b7=>(eT v_t b7).bind fun c8=>let v_c:ai:=c8.1
 let xI:Bool:=c8.2
 (if xI=true then some (v_c.bf==v_x.fId) else some false).bind fun q9=>if q9=true then
 (aW ce [v_c.fId]).bind fun b10=>let ce:(List Int):=b10
 let v_i:Int:=(i64.wrap (v_i + 1))
 some (.inl (ce,v_i))
 else
 let v_i:Int:=(i64.wrap (v_i + 1))
 some (.inl (ce,v_i))
 else
 some (.inr (ce,v_i))
def rH (v_s:aa) (v_x:aH) : Option (aa×bk) :=
 (np v_s v_x.fId).bind fun c1=>let v_n:aB:=c1.1
 let bK:Bool:=c1.2
 (if bK=true then some v_n.fUp else some false).bind fun q2=>(if q2=true then some (v_n.co==v_x.co) else some false).bind fun q3=>if q3=true then
 (sK v_s v_x.fId).bind fun c4=>some (v_s,(⟨0,[],c4,[],0⟩ : bk))
 else
 (CQ v_s v_x.fId v_x.co).bind fun c5=>let v_t:aa:=c5.1
 let v_e:Int:=c5.2
 if (v_e != 0)=true then
 (cY v_s v_e).bind fun c6=>some c6
 else
 let ce:(List Int):=[]
 let v_i:Int:=0
 (ah (lI v_x v_t) ac (ce,v_i)).bind fun r11 =>
 let ce:=r11.1
 let v_i:=r11.2
 (fq v_t ce).bind fun c12=>let v_t:aa:=c12
 (lW v_t v_x.fId).bind fun c13=>let v_t:aa:=c13.1
 (sK v_t v_x.fId).bind fun c14=>some (v_t,(⟨0,[],c14,[],0⟩ : bk))
def ki (ce:(List Int)) (v_s:aa) (st:(List ai)×Int) : Option (((List ai)×Int)⊕(((List ai)×Int))) :=
 let v_l:=st.1
 let v_i:=st.2
 if (decide (v_i < (ce.length:Int)))=true then
 (aw ce v_i).bind fun b1=>(eT v_s b1).bind fun c2=>let v_c:ai:=c2.1
 let bK:Bool:=c2.2
 if bK=true then
 (aW v_l [v_c]).bind fun b3=>let v_l:(List ai):=b3
 let v_i:Int:=(i64.wrap (v_i + 1))
 some (.inl (v_l,v_i))
 else
 let v_i:Int:=(i64.wrap (v_i + 1))
 some (.inl (v_l,v_i))
 else
 some (.inr (v_l,v_i))
def rG (v_s:aa) (ce:(List Int)) : Option ((List ai)) :=
 let v_l:(List ai):=[]
 let v_i:Int:=0
 (ah (ki ce v_s) ac (v_l,v_i)).bind fun r4 =>
 let v_l:=r4.1
 let v_i:=r4.2
 some v_l
def iQ (v_s:aa) (eY:Int) (st:(List Int)×Int) : Option (((List Int)×Int)⊕(((List Int)×Int))) :=
 let v_l:=st.1
 let v_i:=st.2
 if (decide (v_i < (v_s.ab.length:Int)))=true then
 (aw v_s.ab v_i).bind fun b1=>(if (b1.bz==eY)=true then (aw v_s.ab v_i).bind fun b2=>some (b2.jw != 0) else some false).bind fun q3=>if q3=true then
 (aw v_s.ab v_i).bind fun b4=>(aW v_l [b4.fId]).bind fun b5=>let v_l:(List Int):=b5
 let v_i:Int:=(i64.wrap (v_i + 1))
 some (.inl (v_l,v_i))
 else
 let v_i:Int:=(i64.wrap (v_i + 1))
 some (.inl (v_l,v_i))
 else
 some (.inr (v_l,v_i))
def nU (v_s:aa) (eY:Int) : Option ((List Int)) :=
 let v_l:(List Int):=[]
 let v_i:Int:=0
 (ah (iQ v_s eY) ac (v_l,v_i)).bind fun r6 =>
 let v_l:=r6.1
 let v_i:=r6.2
 some v_l
def im (kw:(List aJ)) (v_s:aa) (st:(List aJ)×Int) : Option (((List aJ)×Int)⊕(((List aJ)×Int)⊕((List aJ)×Int))) :=
 let v_l:=st.1
 let v_i:=st.2
 if (decide (v_i < (kw.length:Int)))=true then
 (aw kw v_i).bind fun b1=>(lA b1 (v_s.bL.al.length:Int)).bind fun c2=>let v_e:Int:=c2
 if (v_e != 0)=true then
 some (.inr (.inr ([],v_e)))
 else
 (aw kw v_i).bind fun b3=>(xf v_l b3).bind fun c4=>let v_l:(List aJ):=c4.1
 let v_e:Int:=c4.2
 if (v_e != 0)=true then
 some (.inr (.inr ([],v_e)))
 else
 let v_i:Int:=(i64.wrap (v_i + 1))
 some (.inl (v_l,v_i))
 else
 some (.inr (.inl (v_l,v_i)))
def o5 (v_s:aa) (v_l:(List aJ)) (kw:(List aJ)) : Option ((List aJ)×Int) :=
 let v_i:Int:=0
 (ah (im kw v_s) ac (v_l,v_i)).bind fun r5=>match r5 with
 | .inr m6=>some m6
 | .inl m6 =>
 let v_l:=m6.1
 let v_i:=m6.2
 some (v_l,0)
def gb (v_x:aH) (st:aa×az×Int) : Option ((aa×az×Int)⊕((aa×az×Int))) :=
 let v_s:=st.1
 let v_a:=st.2.1
 let v_i:=st.2.2
 if (decide (v_i < (v_x.fW.length:Int)))=true then
 (aw v_x.fW v_i).bind fun b11=>(eT v_s b11).bind fun c12=>let v_c:ai:=c12.1
 let xI:Bool:=c12.2
 (if xI=true then some (v_c.bz==v_a.fId) else some false).bind fun q13=>(if q13=true then some (!v_c.bI) else some false).bind fun q14=>if q14=true then
 (n5 v_s v_c.fId).bind fun c15=>let v_s:aa:=c15
 (jo v_a.cr v_c.fId).bind fun c16=>let v_a:az:={ v_a with cr:=c16.1 }
 let v_i:Int:=(i64.wrap (v_i + 1))
 some (.inl (v_s,v_a,v_i))
 else
 let v_i:Int:=(i64.wrap (v_i + 1))
 some (.inl (v_s,v_a,v_i))
 else
 some (.inr (v_s,v_a,v_i))
def mR (v_s:aa) (v_x:aH) : Option (aa×bk) :=
 (dE v_s v_x.fId).bind fun c1=>let v_a:az:=c1.1
 let bK:Bool:=c1.2
 if (!bK)=true then
 (cY v_s 2).bind fun c2=>some c2
 else
 if (v_a.ef != 2)=true then
 (cY v_s 14).bind fun c3=>some c3
 else
 if (decide (v_x.co < v_a.co))=true then
 (cY v_s 15).bind fun c4=>some c4
 else
 if (v_x.co==v_a.co)=true then
 (rG v_s v_a.s7).bind fun c5=>(nU v_s v_a.fId).bind fun c6=>(aW ([] : (List Int)) v_a.tY).bind fun b7=>some (v_s,(⟨0,c5,c6,b7,0⟩ : bk))
 else
 if (decide ((i64.wrap (v_x.co - 1)) > v_a.co))=true then
 (cY v_s 1).bind fun c8=>some c8
 else
 (o5 v_s v_a.bQ v_x.bQ).bind fun c9=>let v_l:(List aJ):=c9.1
 let v_e:Int:=c9.2
 if (v_e != 0)=true then
 (cY v_s v_e).bind fun c10=>some c10
 else
 let v_i:Int:=0
 (ah (gb v_x) ac (v_s,v_a,v_i)).bind fun r17 =>
 let v_s:=r17.1
 let v_a:=r17.2.1
 let v_i:=r17.2.2
 (rG v_s v_a.cr).bind fun c18=>(nU v_s v_a.fId).bind fun c19=>(aW ([] : (List Int)) v_a.i8).bind fun b20=>let v_o:bk:=(⟨0,c18,c19,b20,0⟩ : bk)
 let t21:(List aJ):=v_l
 let t22:Int:=v_s.cP
 let t23:Int:=v_x.co
 let v_a:az:={ v_a with bQ:=t21 }
 let v_a:az:={ v_a with cW:=t22 }
 let v_a:az:={ v_a with co:=t23 }
 let t24:(List Int):=v_a.cr
 let t25:(List Int):=v_a.i8
 let t26:(List Int):=[]
 let t27:(List Int):=[]
 let v_a:az:={ v_a with s7:=t24 }
 let v_a:az:={ v_a with tY:=t25 }
 let v_a:az:={ v_a with cr:=t26 }
 let v_a:az:={ v_a with i8:=t27 }
 (cZ v_s v_a).bind fun c28=>some (c28,v_o)
def sM (v_s:aa) (bC:Int) (Ii:Int) : Option (aa×bk) :=
 (dE v_s bC).bind fun c1=>let v_a:az:=c1.1
 let bK:Bool:=c1.2
 if (!bK)=true then
 (cY v_s 2).bind fun c2=>some c2
 else
 (dD v_a).bind fun c3=>if (!c3)=true then
 (cY v_s 14).bind fun c4=>some c4
 else
 (zA v_s bC Ii).bind fun c5=>let v_t:aa:=c5.1
 let jP:(List Int):=c5.2
 some (v_t,(⟨0,[],[],jP,0⟩ : bk))
def lH (v_s:aa) (eY:Int) (st:Int) : Option ((Int)⊕((Int)⊕(Int))) :=
 let v_i:=st
 if (decide (v_i < (v_s.ab.length:Int)))=true then
 (aw v_s.ab v_i).bind fun b1=>(if (b1.bz==eY)=true then (aw v_s.ab v_i).bind fun b2=>some b2.bI else some false).bind fun q3=>if q3=true then
 (aw v_s.ab v_i).bind fun b4=>some (.inr (.inr b4.fId))
 else
 let v_i:Int:=(i64.wrap (v_i + 1))
 some (.inl v_i)
 else
 some (.inr (.inl v_i))
def uw (v_s:aa) (eY:Int) : Option (Int) :=
 let v_i:Int:=0
 (ah (lH v_s eY) ac v_i).bind fun r5=>match r5 with
 | .inr m6=>some m6
 | .inl m6 =>
 let v_i:=m6
 some (-1)
def jg (v_l:(List Int)) (st:aa×Int) : Option ((aa×Int)⊕((aa×Int))) :=
 let v_s:=st.1
 let v_i:=st.2
 if (decide (v_i < (v_l.length:Int)))=true then
 (aw v_l v_i).bind fun b5=>(yA v_s b5).bind fun c6=>(aw v_l v_i).bind fun b7=>(dU c6 b7).bind fun c8=>let v_s:aa:=c8
 (aw v_l v_i).bind fun b9=>(sK v_s b9).bind fun c10=>(fq v_s c10).bind fun c11=>let v_s:aa:=c11
 let v_i:Int:=(i64.wrap (v_i + 1))
 some (.inl (v_s,v_i))
 else
 some (.inr (v_s,v_i))
def jf (v_l:(List Int)) (st:aa×Int) : Option ((aa×Int)⊕((aa×Int))) :=
 let v_s:=st.1
 let aU:=st.2
 if (decide (aU < (v_l.length:Int)))=true then
 (aw v_l aU).bind fun b14=>(uw v_s b14).bind fun c15=>(fq v_s ([c15] : (List Int))).bind fun c16=>let v_s:aa:=c16
 let aU:Int:=(i64.wrap (aU + 1))
 some (.inl (v_s,aU))
 else
 some (.inr (v_s,aU))
def lG (v_s:aa) (st:(List a6)×Int) : Option (((List a6)×Int)⊕(((List a6)×Int))) :=
 let xF:=st.1
 let zN:=st.2
 if (decide (zN < (v_s.bv.length:Int)))=true then
 (aw v_s.bv zN).bind fun b18=>if (decide (b18.lr > v_s.cP))=true then
 (aw v_s.bv zN).bind fun b19=>(aW xF [b19]).bind fun b20=>let xF:(List a6):=b20
 let zN:Int:=(i64.wrap (zN + 1))
 some (.inl (xF,zN))
 else
 let zN:Int:=(i64.wrap (zN + 1))
 some (.inl (xF,zN))
 else
 some (.inr (xF,zN))
def rF (v_s:aa) (v_n:Int) : Option (aa×bk) :=
 (if (decide (v_n < 1))=true then some true else some (decide (v_n > 100))).bind fun q1=>if q1=true then
 (cY v_s 1).bind fun c2=>some c2
 else
 if (decide ((i64.wrap (v_s.cP + v_n)) > 1000000000))=true then
 (cY v_s 11).bind fun c3=>some c3
 else
 let kW:aa:=v_s
 let v_s:aa:={ v_s with cP:=(i64.wrap (v_s.cP + v_n)) }
 (vj v_s).bind fun c4=>let v_l:(List Int):=c4
 let v_i:Int:=0
 (ah (jg v_l) ac (v_s,v_i)).bind fun r12 =>
 let v_s:=r12.1
 let v_i:=r12.2
 (sQ v_s).bind fun c13=>let v_l:(List Int):=c13
 let aU:Int:=0
 (ah (jf v_l) ac (v_s,aU)).bind fun r17 =>
 let v_s:=r17.1
 let aU:=r17.2
 let xF:(List a6):=[]
 let zN:Int:=0
 (ah (lG v_s) ac (xF,zN)).bind fun r21 =>
 let xF:=r21.1
 let zN:=r21.2
 let v_s:aa:={ v_s with bv:=xF }
 (o7 v_s).bind fun c22=>let v_s:aa:=c22.1
 (uy kW v_s).bind fun c23=>some (v_s,(⟨0,[],[],c23,0⟩ : bk))
def nW (v_s:aa) (v_x:aH) : Option (aa×bk) :=
 if (v_x.hZ==1)=true then
 (mS v_s v_x.Lm).bind fun c1=>some c1
 else
 if (v_x.hZ==2)=true then
 (qw v_s v_x.bf).bind fun c2=>let v_t:aa:=c2.1
 let v_e:Int:=c2.2
 some (v_t,(⟨v_e,[],[],[],0⟩ : bk))
 else
 if (v_x.hZ==3)=true then
 (rH v_s v_x).bind fun c3=>some c3
 else
 if (v_x.hZ==4)=true then
 (na v_s v_x.bz).bind fun c4=>let Zs:aa:=c4.1
 let Zv:Int:=c4.2
 some (Zs,(⟨Zv,[],[],[],0⟩ : bk))
 else
 if (v_x.hZ==5)=true then
 (mR v_s v_x).bind fun c5=>some c5
 else
 if (v_x.hZ==6)=true then
 (sM v_s v_x.fId 3).bind fun c6=>some c6
 else
 if (v_x.hZ==7)=true then
 (sM v_s v_x.fId 4).bind fun c7=>some c7
 else
 if (v_x.hZ==8)=true then
 (rF v_s v_x.fN).bind fun c8=>some c8
 else
 if (v_x.hZ==9)=true then
 (sN v_s v_x.pv v_x.fN).bind fun c9=>let Zr:aa:=c9.1
 let v_n:Int:=c9.2.1
 let Zu:Int:=c9.2.2
 some (Zr,(⟨Zu,[],[],[],v_n⟩ : bk))
 else
 if (v_x.hZ==10)=true then
 (pU v_s v_x.fId).bind fun c10=>let Zq:aa:=c10.1
 let Zt:Int:=c10.2
 some (Zq,(⟨Zt,[],[],[],0⟩ : bk))
 else
 if (v_x.hZ==11)=true then
 if (decide (v_s.eW≥1048576))=true then
 (cY v_s 11).bind fun c11=>some c11
 else
 let t12:Int:=(i64.wrap (v_s.eW + 1))
 let t13:Int:=0
 let v_s:aa:={ v_s with eW:=t12 }
 let v_s:aa:={ v_s with lu:=t13 }
 some (v_s,(⟨0,[],[],[],0⟩ : bk))
 else
 (cY v_s 3).bind fun c14=>some c14
def SQ:Ent:=⟨[.lf (.int .i64)],[.lf (.bool)],fun x=>yK x.1⟩
theorem SP:EOk prog 215 SQ:=aI .n [] [] [] .nil Tryz.mixed Tryz.func215
def Vy:Ent:=⟨[.ag 0],[.lf (.bool)],fun x=>sJ x.1⟩
theorem Mf:EOk prog 212 Vy:=aI .n [] [] [] (.cons SP .nil) Tryz.mixed Tryz.func212
def SX:Ent:=⟨[.ag 0,.ag 0],[.lf (.bool)],fun x=>fL x.1 x.2.1⟩
theorem o4:EOk prog 116 SX:=aI .n [] [] [] .nil Tryz.mixed Tryz.func116
def SW:Ent:=⟨[.ag 0,.ag 0],[.ag 0],fun x=>vp x.1 x.2.1⟩
theorem H6:EOk prog 195 SW:=aI .n [] [4] [] .nil Tryz.mixed Tryz.func195
def SO:Ent:=⟨[.lf (.int .i64),.lf (.int .i64)],[.lf (.int .i64),.lf (.int .i64)],fun x=>yJ x.1 x.2.1⟩
theorem SN:EOk prog 219 SO:=aI .n [] [] [] .nil Tryz.mixed Tryz.func219
def OH:Ent:=⟨[.ag 17,.ag 17],[.lf (.int .i64)],fun x=>pK x.1 x.2.1⟩
theorem E9:EOk prog 217 OH:=aI (.s .n (.s (.s .n (.j [.box 2 268 17 []] .n)) (.s (.s .n (.j [.box 3 268 17 []] .n)) .n))) [] [] [] (.cons SN .nil) Tryz.mixed Tryz.func217
def SU:Ent:=⟨[.ag 0,.ag 0],[.ag 17],fun x=>yL x.1 x.2.1⟩
theorem SR:EOk prog 218 SU:=aI .n [] [4] [] (.cons E9 .nil) Tryz.mixed Tryz.func218
def OL:Ent:=⟨[.ag 0,.ag 0,.ag 0,.ag 0],[.lf (.int .i64)],fun x=>yM x.1 x.2.1 x.2.2.1 x.2.2.2.1⟩
theorem OK:EOk prog 216 OL:=aI .n [] [] [] (.cons Mf (.cons SR (.cons E9 .nil))) Tryz.mixed Tryz.func216
def H5:Ent:=⟨[.ag 0,.ag 0],[.ag 0],fun x=>cX x.1 x.2.1⟩
theorem f6:EOk prog 18 H5:=aI .n [] [4] [] .nil Tryz.mixed Tryz.func18
def OE:Ent:=⟨[.lf (.int .i64),.lf (.int .i64)],[.lf (.int .i64)],fun x=>ur x.1 x.2.1⟩
theorem OD:EOk prog 213 OE:=aI .n [] [] [] .nil Tryz.mixed Tryz.func213
def OJ:Ent:=⟨[.ag 0,.lf (.int .i64)],[.ag 0,.lf (.int .i64)],fun x=>ut x.1 x.2.1⟩
theorem Fa:EOk prog 209 OJ:=aI .n [] [4] [] (.cons Mf (.cons OD .nil)) Tryz.mixed Tryz.func209
def SI:Ent:=⟨[.lf (.str)],[.lf (.bool)],fun x=>vn x.1⟩
theorem HV:EOk prog 156 SI:=aI (.s .n (.s .n (.s (.s .n (.s (.lp [.leaf 3 (.int .i64)] 0 true .n) .n)) .n))) [] [] [] .nil Tryz.mixed Tryz.func156
def L4:Ent:=⟨[.ag 5],[.lf (.int .i64)],fun x=>rB x.1⟩
theorem L3:EOk prog 127 L4:=aI (.s .n (.s .n (.s .n (.s (.s .n (.s (.lp [.leaf 3 (.int .i64)] 0 true .n) .n)) (.s (.s .n (.s (.lp [.leaf 4 (.int .i64)] 2 true (.s .n (.s (.s (.s .n (.s (.lp [.leaf 5 (.int .i64)] 4 true .n) .n)) .n) .n))) .n)) .n))))) [] [] [] (.cons HV .nil) Tryz.mixed Tryz.func127
def L6:Ent:=⟨[.lf (.str)],[.lf (.bool)],fun x=>vm x.1⟩
theorem L5:EOk prog 157 L6:=aI (.s .n (.s .n (.s (.s .n (.s (.lp [.leaf 3 (.int .i64),.leaf 4 (.int .i64),.leaf 5 (.int .i64)] 0 true .n) .n)) .n))) [] [] [] (.cons HV .nil) Tryz.mixed Tryz.func157
def Oo:Ent:=⟨[.lf (.str)],[.lf (.str)],fun x=>d6 x.1⟩
theorem xg:EOk prog 108 Oo:=aI (.s .n (.s .n (.s (.s (.lp [.leaf 3 (.int .i64)] 0 false .n) .n) .n))) [] [] [] .nil Tryz.mixed Tryz.func108
def SM:Ent:=⟨[.ag 5,.lf (.str)],[.ag 4,.lf (.bool)],fun x=>jA x.1 x.2.1⟩
theorem rD:EOk prog 130 SM:=aI (.s .n (.s (.s .n (.s (.lp [.leaf 6 (.int .i64)] 0 true .n) .n)) .n)) [] [4] [] .nil Tryz.mixed Tryz.func130
def On:Ent:=⟨[.ag 5,.lf (.int .i64)],[.lf (.int .i64)],fun x=>un x.1 x.2.1⟩
theorem Om:EOk prog 128 On:=aI (.s .n (.s .n (.s .n (.s .n (.s .n (.s .n (.s .n (.s (.s .n (.s (.lp [.leaf 8 (.int .i64)] 0 true .n) .n)) .n)))))))) [] [] [] (.cons L5 (.cons xg (.cons rD .nil))) Tryz.mixed Tryz.func128
def HW:Ent:=⟨[.ag 5,.lf (.str)],[.lf (.sl (.str))],fun x=>ff x.1 x.2.1⟩
theorem vo:EOk prog 52 HW:=aI (.s .n (.s .n (.s (.s .n (.s (.lp [.row 5 5 9 1 (.str),.leaf 6 (.int .i64)] 0 false .n) .n)) .n))) [] [] [] (.cons xg .nil) Tryz.mixed Tryz.func52
def SH:Ent:=⟨[.ag 5],[.lf (.bool)],fun x=>CS x.1⟩
theorem SG:EOk prog 129 SH:=aI (.s .n (.s (.s .n (.s (.lp [.leaf 3 (.int .i64)] 0 true (.s .n (.s (.s (.s .n (.s .n (.s (.lp [.leaf 5 (.int .i64)] 2 true (.s .n (.s (.s (.s .n (.s (.s .n (.s (.lp [.leaf 6 (.int .i64),.leaf 7 (.int .i64)] 4 false .n) .n)) .n)) .n) .n))) .n))) .n) .n))) .n)) .n)) [] [] [] (.cons vo (.cons rD .nil)) Tryz.mixed Tryz.func129
def Ot:Ent:=⟨[.ag 5],[.lf (.int .i64)],fun x=>uq x.1⟩
theorem Oq:EOk prog 79 Ot:=aI (.s .n (.s .n (.s .n (.s (.s .n (.s (.lp [.leaf 3 (.int .i64)] 0 true .n) .n)) (.s (.s .n (.s (.lp [.leaf 4 (.int .i64)] 2 true .n) .n)) .n))))) [] [] [] (.cons L3 (.cons Om (.cons SG .nil))) Tryz.mixed Tryz.func79
def SJ:Ent:=⟨[.ag 5,.lf (.str)],[.lf (.bool)],fun x=>kh x.1 x.2.1⟩
theorem AV:EOk prog 81 SJ:=aI .n [] [] [] (.cons rD (.cons vo .nil)) Tryz.mixed Tryz.func81
def Xh:Ent:=⟨[.lf (.str)],[.lf (.sl (.str))],fun x=>yC x.1⟩
theorem JC:EOk prog 197 Xh:=aI (.s .n (.s .n (.s (.s (.lp [.row 3 3 9 1 (.str),.leaf 0 (.str)] 0 false .n) .n) .n))) [] [] [] (.cons xg .nil) Tryz.mixed Tryz.func197
def SF:Ent:=⟨[.ag 12,.lf (.int .i64)],[.ag 0],fun x=>sF x.1 x.2.1⟩
theorem SE:EOk prog 199 SF:=aI (.s .n (.s .n (.s (.s .n (.s (.lp [.box 5 27 0 [],.leaf 6 (.int .i64)] 0 false .n) .n)) .n))) [] [4] [] (.cons f6 .nil) Tryz.mixed Tryz.func199
def Oi:Ent:=⟨[.ag 12,.lf (.int .i64)],[.ag 0],fun x=>jc x.1 x.2.1⟩
theorem pB:EOk prog 30 Oi:=aI (.s .n (.s .n (.s (.s .n (.s (.lp [.box 5 27 0 [],.leaf 6 (.int .i64)] 0 false .n) .n)) .n))) [] [4] [] (.cons f6 .nil) Tryz.mixed Tryz.func30
def SA:Ent:=⟨[.ag 12,.lf (.str),.lf (.int .i64),.lf (.bool)],[.ag 0],fun x=>sE x.1 x.2.1 x.2.2.1 x.2.2.2.1⟩
theorem HQ:EOk prog 207 SA:=aI (.s .n (.s .n (.s .n (.s .n (.s .n (.s (.s .n (.s (.lp [.box 11 27 0 [],.leaf 13 (.int .i64)] 0 false (.s .n (.s (.s (.s .n (.s .n (.s (.s .n (.j [.leaf 16 (.int .i64)] .n)) .n))) .n) .n))) .n)) .n)))))) [] [8] [] (.cons rD (.cons pB (.cons JC (.cons Fa .nil)))) Tryz.mixed Tryz.func207
def E0:Ent:=⟨[.ag 12,.lf (.str),.lf (.int .i64)],[.ag 0],fun x=>lC x.1 x.2.1 x.2.2.1⟩
theorem pC:EOk prog 188 E0:=aI .n [] [6] [] (.cons HQ .nil) Tryz.mixed Tryz.func188
def HU:Ent:=⟨[.ag 12,.lf (.str),.lf (.int .i64)],[.ag 0],fun x=>vk x.1 x.2.1 x.2.2.1⟩
theorem HR:EOk prog 198 HU:=aI .n [] [6] [] (.cons HQ .nil) Tryz.mixed Tryz.func198
def SC:Ent:=⟨[.ag 12,.lf (.str),.lf (.int .i64)],[.ag 0],fun x=>CR x.1 x.2.1 x.2.2.1⟩
theorem SB:EOk prog 194 SC:=aI .n [] [6] [] (.cons rD (.cons pC (.cons Fa .nil))) Tryz.mixed Tryz.func194
def PE:Ent:=⟨[.ag 12,.lf (.int .i64)],[.ag 12],fun x=>n5 x.1 x.2.1⟩
theorem Fz:EOk prog 98 PE:=aI (.s .n (.s .n (.s (.s .n (.s (.lp [.row 5 5 85 9 (.st 6),.leaf 6 (.int .i64)] 0 false .n) .n)) .n))) [] [4] [] .nil Tryz.mixed Tryz.func98
def PD:Ent:=⟨[.ag 12,.lf (.int .i64)],[.ag 6,.lf (.bool)],fun x=>eT x.1 x.2.1⟩
theorem nc:EOk prog 87 PD:=aI (.s .n (.s (.s .n (.s (.lp [.leaf 6 (.int .i64)] 0 true .n) .n)) .n)) [] [4] [] .nil Tryz.mixed Tryz.func87
def PB:Ent:=⟨[.ag 12,.lf (.int .i64)],[.ag 2,.lf (.bool)],fun x=>dE x.1 x.2.1⟩
theorem gX:EOk prog 91 PB:=aI (.s .n (.s (.s .n (.s (.lp [.leaf 6 (.int .i64)] 0 true .n) .n)) .n)) [] [4] [] .nil Tryz.mixed Tryz.func91
def PA:Ent:=⟨[.ag 2],[.lf (.bool)],fun x=>dD x.1⟩
theorem gW:EOk prog 80 PA:=aI .n [] [] [] .nil Tryz.mixed Tryz.func80
def Tc:Ent:=⟨[.ag 12,.ag 2],[.ag 12],fun x=>cZ x.1 x.2.1⟩
theorem o9:EOk prog 93 Tc:=aI (.s .n (.s .n (.s (.s (.lp [.leaf 5 (.int .i64)] 0 false .n) .n) (.s .n (.s .n (.s (.s .n (.j [.leaf 5 (.int .i64)] .n)) .n)))))) [] [4] [] .nil Tryz.mixed Tryz.func93
def Pv:Ent:=⟨[.ag 12,.lf (.int .i64)],[.ag 12,.lf (.sl (.int .i64))],fun x=>l7 x.1 x.2.1⟩
theorem Fx:EOk prog 131 Pv:=aI (.s .n (.s .n (.s .n (.s .n (.s (.s .n (.s (.lp [.row 8 8 3 1 (.int .i64),.row 6 6 85 9 (.st 6),.leaf 9 (.int .i64)] 0 false .n) .n)) (.s (.s .n (.s (.lp [.row 7 7 87 3 (.st 11),.leaf 10 (.int .i64)] 2 false .n) .n)) .n)))))) [] [4] [] .nil Tryz.mixed Tryz.func131
def Te:Ent:=⟨[.ag 12,.lf (.int .i64),.lf (.int .i64)],[.ag 12,.lf (.sl (.int .i64))],fun x=>zA x.1 x.2.1 x.2.2.1⟩
theorem Td:EOk prog 100 Te:=aI .n [] [6] [] (.cons gX (.cons gW (.cons o9 (.cons Fx .nil)))) Tryz.mixed Tryz.func100
def MT:Ent:=⟨[.ag 2],[.lf (.sl (.st 1))],fun x=>o8 x.1⟩
theorem BZ:EOk prog 94 MT:=aI .n [] [] [] .nil Tryz.mixed Tryz.func94
def Gp:Ent:=⟨[.lf (.sl (.int .i64)),.lf (.int .i64)],[.lf (.sl (.int .i64)),.lf (.bool)],fun x=>jo x.1 x.2.1⟩
theorem wi:EOk prog 99 Gp:=aI (.s .n (.s .n (.s (.s .n (.s (.lp [.row 6 6 3 1 (.int .i64),.leaf 7 (.int .i64)] 0 false .n) .n)) .n))) [] [] [] .nil Tryz.mixed Tryz.func99
def Py:Ent:=⟨[.ag 12,.lf (.sl (.int .i64))],[.ag 12],fun x=>fq x.1 x.2.1⟩
theorem xq:EOk prog 88 Py:=aI (.s .n (.s (.s .n (.s (.lp [.box 2 41 12 [],.leaf 5 (.int .i64)] 0 false (.s .n (.s (.s (.s .n (.s .n (.s .n (.s .n (.s .n (.s .n (.s .n (.s (.s .n (.j [.box 8 71 2 []] .n)) .n)))))))) .n) .n))) .n)) .n)) [(4,[73,76,79,80]),(6,[73,76,79,80]),(8,[73,76,79,80]),(11,[73,76,79,80]),(12,[73,76,79,80]),(14,[73,76,79,80]),(17,[73,76,79,80])] [4] [] (.cons nc (.cons gX (.cons BZ (.cons o9 (.cons Fx (.cons Fz (.cons wi .nil))))))) Tryz.mixed Tryz.func88
def J7:Ent:=⟨[.ag 12],[.lf (.sl (.int .i64))],fun x=>sQ x.1⟩
theorem J6:EOk prog 104 J7:=aI (.s .n (.s .n (.s (.s .n (.s (.lp [.row 3 3 3 1 (.int .i64),.leaf 4 (.int .i64)] 0 false .n) .n)) .n))) [] [] [] .nil Tryz.mixed Tryz.func104
def Px:Ent:=⟨[.lf (.int .i64)],[.lf (.bool)],fun x=>rM x.1⟩
theorem Pw:EOk prog 90 Px:=aI .n [] [] [] .nil Tryz.mixed Tryz.func90
def J3:Ent:=⟨[.ag 12],[.ag 12],fun x=>mZ x.1⟩
theorem J2:EOk prog 92 J3:=aI (.s .n (.s .n (.s .n (.s (.s .n (.s (.lp [.leaf 4 (.bool),.row 3 3 71 14 (.st 2),.leaf 5 (.int .i64)] 0 false .n) .n)) .n)))) [(6,[30,31])] [2] [] (.cons gW .nil) Tryz.mixed Tryz.func92
def J5:Ent:=⟨[.ag 12,.ag 2],[.ag 12,.lf (.int .i64)],fun x=>na x.1 x.2.1⟩
theorem J4:EOk prog 45 J5:=aI (.s .n (.s .n (.s .n (.s .n (.s .n (.s (.s .n (.s (.lp [.leaf 8 (.int .i64),.leaf 9 (.int .i64)] 0 false .n) .n)) (.s .n (.s .n (.s (.s .n (.j [.box 2 41 12 []] .n)) .n))))))))) [] [4] [] (.cons Pw (.cons gX (.cons gW (.cons AV (.cons J2 (.cons BZ (.cons o9 .nil))))))) Tryz.mixed Tryz.func45
def Sh:Ent:=⟨[.lf (.int .i64)],[.lf (.bool)],fun x=>vg x.1⟩
theorem Sg:EOk prog 161 Sh:=aI .n [] [] [] .nil Tryz.mixed Tryz.func161
def Oc:Ent:=⟨[.ag 1,.lf (.int .i64)],[.lf (.int .i64)],fun x=>lA x.1 x.2.1⟩
theorem Ob:EOk prog 133 Oc:=aI .n [] [] [] (.cons Sg .nil) Tryz.mixed Tryz.func133
def Vu:Ent:=⟨[.lf (.sl (.st 1)),.lf (.int .i64)],[.ag 1,.lf (.bool)],fun x=>AM x.1 x.2.1⟩
theorem Vt:EOk prog 176 Vu:=aI (.s .n (.s (.s .n (.s (.lp [.leaf 6 (.int .i64)] 0 true .n) .n)) .n)) [] [4] [] .nil Tryz.mixed Tryz.func176
def Sn:Ent:=⟨[.lf (.sl (.st 1)),.lf (.int .i64)],[.lf (.sl (.st 1))],fun x=>vi x.1 x.2.1⟩
theorem Sm:EOk prog 202 Sn:=aI (.s .n (.s .n (.s (.s .n (.s (.lp [.row 5 7 126 8 (.st 1),.leaf 6 (.int .i64)] 0 false .n) .n)) .n))) [] [] [] .nil Tryz.mixed Tryz.func202
def Jx:Ent:=⟨[.lf (.sl (.st 1)),.lf (.int .i64)],[.ag 0],fun x=>kE x.1 x.2.1⟩
theorem Jw:EOk prog 208 Jx:=aI (.s .n (.s .n (.s (.s .n (.s (.lp [.box 5 27 0 [],.leaf 6 (.int .i64)] 0 false .n) .n)) .n))) [] [4] [] (.cons f6 .nil) Tryz.mixed Tryz.func208
def Vs:Ent:=⟨[.lf (.sl (.st 1)),.ag 1],[.lf (.sl (.st 1)),.lf (.int .i64)],fun x=>xf x.1 x.2.1⟩
theorem Vr:EOk prog 134 Vs:=aI (.s .n (.s .n (.s .n (.s .n (.s (.s .n (.s (.lp [.row 6 6 126 8 (.st 1),.leaf 7 (.bool),.leaf 8 (.int .i64)] 0 false (.s .n (.s (.s (.s (.s .n (.j [.row 6 6 126 8 (.st 1),.leaf 7 (.bool)] .n)) .n) .n) .n))) .n)) (.s (.s .n (.j [.row 6 6 126 8 (.st 1)] .n)) .n)))))) [] [] [] .nil Tryz.mixed Tryz.func134
def Sj:Ent:=⟨[.lf (.sl (.st 1)),.lf (.int .i64)],[.lf (.sl (.st 1)),.lf (.bool)],fun x=>vh x.1 x.2.1⟩
theorem Si:EOk prog 200 Sj:=aI (.s .n (.s .n (.s .n (.s (.s .n (.s (.lp [.leaf 7 (.bool),.row 6 6 126 8 (.st 1),.leaf 8 (.int .i64)] 0 false .n) .n)) .n)))) [] [] [] .nil Tryz.mixed Tryz.func200
def MR:Ent:=⟨[.lf (.str),.lf (.str)],[.lf (.bool)],fun x=>mY x.1 x.2.1⟩
theorem BV:EOk prog 205 MR:=aI (.s .n (.s .n (.s (.s .n (.s (.lp [.leaf 6 (.int .i64)] 0 true .n) .n)) .n))) [] [] [] (.cons JC .nil) Tryz.mixed Tryz.func205
def wh:Ent:=⟨[.ag 12,.lf (.str),.lf (.int .i64)],[.ag 0],fun x=>nZ x.1 x.2.1 x.2.2.1⟩
theorem wg:EOk prog 189 wh:=aI (.s .n (.s .n (.s (.s .n (.s (.lp [.box 7 27 0 [],.leaf 8 (.int .i64)] 0 false .n) .n)) .n))) [] [6] [] (.cons gW (.cons BV (.cons Jw (.cons f6 .nil)))) Tryz.mixed Tryz.func189
def Pt:Ent:=⟨[.ag 12,.lf (.str),.lf (.int .i64),.lf (.bool),.lf (.int .i64)],[.ag 0],fun x=>uD x.1 x.2.1 x.2.2.1 x.2.2.2.1 x.2.2.2.2.1⟩
theorem Fq:EOk prog 186 Pt:=aI (.s .n (.s .n (.s (.s .n (.s (.lp [.box 11 27 0 [],.leaf 12 (.int .i64)] 0 false .n) .n)) .n))) [] [10] [] (.cons gX (.cons BV (.cons f6 .nil))) Tryz.mixed Tryz.func186
def Fv:Ent:=⟨[.ag 12,.lf (.str),.lf (.int .i64)],[.ag 0],fun x=>eO x.1 x.2.1 x.2.2.1⟩
theorem kH:EOk prog 162 Fv:=aI .n [] [6] [] (.cons Fq .nil) Tryz.mixed Tryz.func162
def Pu:Ent:=⟨[.ag 12,.lf (.str),.lf (.int .i64),.ag 0],[.lf (.bool)],fun x=>uE x.1 x.2.1 x.2.2.1 x.2.2.2.1⟩
theorem Fw:EOk prog 181 Pu:=aI (.s .n (.s .n (.s (.s .n (.s (.lp [.leaf 10 (.int .i64)] 0 true .n) .n)) .n))) [] [] [] (.cons JC (.cons kH (.cons f6 (.cons HR (.cons o4 (.cons pB (.cons SE (.cons H6 .nil)))))))) Tryz.mixed Tryz.func181
def Fu:Ent:=⟨[.ag 12,.lf (.str),.lf (.int .i64),.lf (.int .i64)],[.ag 0],fun x=>oN x.1 x.2.1 x.2.2.1 x.2.2.2.1⟩
theorem Ft:EOk prog 193 Fu:=aI .n [] [8] [] (.cons Fq .nil) Tryz.mixed Tryz.func193
def Pr:Ent:=⟨[.ag 12,.lf (.str)],[.lf (.sl (.int .i64))],fun x=>zo x.1 x.2.1⟩
theorem Pq:EOk prog 184 Pr:=aI (.s .n (.s .n (.s (.s .n (.s (.lp [.leaf 5 (.sl (.st 2)),.leaf 6 (.int .i64)] 0 false (.s .n (.s (.s (.s .n (.s .n (.s .n (.s (.s (.lp [.leaf 8 (.int .i64)] 2 false .n) .n) .n)))) .n) .n))) .n)) (.s .n (.s (.s .n (.s (.lp [.row 10 10 3 1 (.int .i64),.leaf 11 (.int .i64)] 4 false .n) .n)) .n))))) [(6,[5,53,56,57,62,75,76])] [] [] (.cons gW .nil) Tryz.mixed Tryz.func184
def MO:Ent:=⟨[.ag 12,.lf (.str),.lf (.str),.lf (.int .i64)],[.lf (.bool)],fun x=>vx x.1 x.2.1 x.2.2.1 x.2.2.2.1⟩
theorem MN:EOk prog 214 MO:=aI .n [] [] [] (.cons kH (.cons pC (.cons OK .nil))) Tryz.mixed Tryz.func214
def Fp:Ent:=⟨[.ag 12,.lf (.str),.lf (.int .i64)],[.lf (.sl (.str))],fun x=>zk x.1 x.2.1 x.2.2.1⟩
theorem Pp:EOk prog 210 Fp:=aI (.s .n (.s .n (.s .n (.s (.s .n (.s (.lp [.leaf 8 (.sl (.str)),.leaf 9 (.int .i64)] 0 false (.s .n (.s (.s (.s .n (.s (.s (.lp [.leaf 10 (.int .i64)] 2 false .n) .n) .n)) .n) .n))) .n)) .n)))) [(1,[8,46,52,53,58]),(7,[8,46,52,53,58])] [] [] (.cons vo (.cons MN .nil)) Tryz.mixed Tryz.func210
theorem JX (k:Nat) (x:cJ [.ag 12,.lf (.str),.lf (.int .i64)]) : kz ⟨prog,[(201,⟨[.ag 12,.lf (.str),.lf (.int .i64)],[.lf (.sl (.str))],fun x=>jl k x.1 x.2.1 x.2.2.1⟩),(210,Fp)],35,[.lf (.sl (.str))],[.tmp 6],[(1,[18,33]),(8,[18])],[],[]⟩ ((Tryz.f201).body.getD .skip) (.s (.n) (.s (.n) (.s (.n) (.s (.n) (.s (.s (.n) (.s (.lp [.row 8 8 9 1 (.str),.leaf 9 (.int .i64)] 0 false (.n)) .n)) (.n)))))) [.ag 12,.lf (.str),.lf (.int .i64)] x=jl (k + 1) x.1 x.2.1 x.2.2.1:=by kernel_rfl
theorem zi:∀ k:Nat,bR prog 201 [.ag 12,.lf (.str),.lf (.int .i64)] [.lf (.sl (.str))] (fun x=>jl k x.1 x.2.1 x.2.2.1)
 | 0=>fun x r h=>by cases h
 | k + 1=>cT (n:=35) (.cons (zi k) (.cons (Pp) (.nil))) Tryz.mixed Tryz.func201 rfl (by kernel_rfl) rfl rfl rfl (JX k)
def J0:Ent:=⟨[.ag 12,.lf (.int .i64)],[.lf (.sl (.str))],fun x=>sP x.1 x.2.1⟩
theorem JZ:EOk prog 183 J0:=aI .n [] [] [] (.cons (zi ac) .nil) Tryz.mixed Tryz.func183
def MM:Ent:=⟨[.ag 1,.ag 7],[.lf (.int .i64)],fun x=>mX x.1 x.2.1⟩
theorem BS:EOk prog 192 MM:=aI .n [] [] [] .nil Tryz.mixed Tryz.func192
def Tb:Ent:=⟨[.ag 1,.ag 7],[.lf (.bool)],fun x=>sO x.1 x.2.1⟩
theorem Ib:EOk prog 177 Tb:=aI .n [] [] [] (.cons BS .nil) Tryz.mixed Tryz.func177
def Sv:Ent:=⟨[.ag 12,.lf (.int .i64)],[.ag 7,.lf (.bool)],fun x=>np x.1 x.2.1⟩
theorem oZ:EOk prog 83 Sv:=aI (.s .n (.s (.s .n (.s (.lp [.leaf 6 (.int .i64)] 0 true .n) .n)) .n)) [] [4] [] .nil Tryz.mixed Tryz.func83
def Vv:Ent:=⟨[.ag 12,.ag 7],[.ag 12],fun x=>AO x.1 x.2.1⟩
theorem EV:EOk prog 84 Vv:=aI (.s .n (.s .n (.s (.s (.lp [.leaf 5 (.int .i64)] 0 false .n) .n) (.s .n (.s .n (.s (.s .n (.j [.leaf 5 (.int .i64)] .n)) .n)))))) [] [4] [] .nil Tryz.mixed Tryz.func84
def Sz:Ent:=⟨[.ag 12,.lf (.int .i64),.lf (.int .i64)],[.ag 12,.lf (.int .i64)],fun x=>CQ x.1 x.2.1 x.2.2.1⟩
theorem Sy:EOk prog 86 Sz:=aI .n [] [6] [] (.cons oZ (.cons EV .nil)) Tryz.mixed Tryz.func86
def Sx:Ent:=⟨[.ag 12,.lf (.int .i64)],[.ag 12],fun x=>yA x.1 x.2.1⟩
theorem Sw:EOk prog 103 Sx:=aI .n [] [4] [] (.cons oZ (.cons EV .nil)) Tryz.mixed Tryz.func103
def Ss:Ent:=⟨[.ag 12,.lf (.int .i64)],[.ag 0],fun x=>CP x.1 x.2.1⟩
theorem Sr:EOk prog 196 Ss:=aI (.s .n (.s .n (.s (.s .n (.s (.lp [.box 5 27 0 [],.leaf 6 (.int .i64)] 0 false .n) .n)) .n))) [] [4] [] (.cons f6 .nil) Tryz.mixed Tryz.func196
def Su:Ent:=⟨[.ag 12,.lf (.int .i64)],[.ag 0],fun x=>yz x.1 x.2.1⟩
theorem HM:EOk prog 180 Su:=aI .n [] [4] [] (.cons oZ (.cons Sr (.cons H6 .nil))) Tryz.mixed Tryz.func180
def Sq:Ent:=⟨[.lf (.int .i64)],[.lf (.bool)],fun x=>yy x.1⟩
theorem Sp:EOk prog 82 Sq:=aI .n [] [] [] .nil Tryz.mixed Tryz.func82
def Gg:Ent:=⟨[.ag 12,.ag 7],[.ag 12,.lf (.int .i64)],fun x=>qw x.1 x.2.1⟩
theorem Gf:EOk prog 43 Gg:=aI .n [] [4] [] (.cons Sp (.cons oZ (.cons EV .nil))) Tryz.mixed Tryz.func43
def L1:Ent:=⟨[.ag 12],[.lf (.sl (.int .i64))],fun x=>vj x.1⟩
theorem L0:EOk prog 101 L1:=aI (.s .n (.s .n (.s (.s .n (.s (.lp [.row 3 3 3 1 (.int .i64),.leaf 4 (.int .i64)] 0 false .n) .n)) .n))) [] [] [] .nil Tryz.mixed Tryz.func101
def Pe:Ent:=⟨[.ag 12,.lf (.int .i64)],[.ag 11,.lf (.bool)],fun x=>y7 x.1 x.2.1⟩
theorem Pd:EOk prog 158 Pe:=aI (.s .n (.s (.s .n (.s (.lp [.leaf 6 (.int .i64)] 0 true .n) .n)) .n)) [] [4] [] .nil Tryz.mixed Tryz.func158
def S6:Ent:=⟨[.ag 12,.lf (.str),.ag 1],[.lf (.bool)],fun x=>za x.1 x.2.1 x.2.2.1⟩
theorem Ia:EOk prog 178 S6:=aI .n [] [] [] (.cons kH (.cons f6 (.cons pC (.cons o4 .nil)))) Tryz.mixed Tryz.func178
def Pf:Ent:=⟨[.ag 12,.lf (.str),.lf (.int .i64),.lf (.int .i64)],[.lf (.bool)],fun x=>uC x.1 x.2.1 x.2.2.1 x.2.2.2.1⟩
theorem Fh:EOk prog 179 Pf:=aI .n [] [] [] (.cons Ft (.cons SB (.cons o4 .nil))) Tryz.mixed Tryz.func179
def JW:Ent:=⟨[.ag 12,.lf (.int .i64)],[.ag 12],fun x=>dU x.1 x.2.1⟩
theorem zc:EOk prog 102 JW:=aI (.s .n (.s .n (.s (.s .n (.s (.lp [.row 5 5 87 3 (.st 11),.leaf 6 (.int .i64)] 0 false .n) .n)) .n))) [] [4] [] .nil Tryz.mixed Tryz.func102
def MJ:Ent:=⟨[.ag 12,.ag 7,.ag 2,.ag 1],[.ag 12,.ag 6],fun x=>jF x.1 x.2.1 x.2.2.1 x.2.2.2.1⟩
theorem BR:EOk prog 182 MJ:=aI (.s .n (.s .n (.s .n (.s .n (.s (.s .n (.j [.box 6 71 2 []] .n)) (.s .n (.s (.s (.lp [.leaf 11 (.int .i64)] 0 false .n) .n) .n))))))) [(3,[54,57,60,61,86,89,90,96]),(13,[54,57,60,61,81,86,89,90,96])] [8,9] [] (.cons Si (.cons o9 .nil)) Tryz.mixed Tryz.func182
def Ph:Ent:=⟨[.ag 12,.ag 7,.ag 11],[.ag 12,.lf (.int .i64),.ag 6,.lf (.bool)],fun x=>nX x.1 x.2.1 x.2.2.1⟩
theorem Pg:EOk prog 159 Ph:=aI .n [] [6,8] [] (.cons gX (.cons Vt (.cons gW (.cons Ib (.cons o4 (.cons Ia (.cons Fh (.cons zc (.cons HM (.cons Fw (.cons BR .nil))))))))))) Tryz.mixed Tryz.func159
def MH:Ent:=⟨[.ag 12,.lf (.int .i64),.lf (.int .i64)],[.lf (.bool)],fun x=>vu x.1 x.2.1 x.2.2.1⟩
theorem MG:EOk prog 203 MH:=aI (.s .n (.s (.s .n (.s (.lp [.leaf 7 (.int .i64)] 0 true .n) .n)) .n)) [] [] [] .nil Tryz.mixed Tryz.func203
def Pj:Ent:=⟨[.ag 12,.ag 11],[.ag 12],fun x=>nY x.1 x.2.1⟩
theorem Pi:EOk prog 204 Pj:=aI (.s .n (.s .n (.s (.s (.lp [.leaf 5 (.int .i64)] 0 false .n) .n) .n))) [] [4] [] .nil Tryz.mixed Tryz.func204
def S8:Ent:=⟨[.ag 12,.ag 7,.ag 2,.ag 1,.lf (.bool)],[.ag 12,.lf (.int .i64),.ag 6],fun x=>qx x.1 x.2.1 x.2.2.1 x.2.2.2.1 x.2.2.2.2.1⟩
theorem S7:EOk prog 185 S8:=aI (.s .n (.s .n (.s .n (.s (.s .n (.s (.s (.s .n (.j [.box 7 71 2 [],.box 5 41 12 []] .n)) .n) .n)) .n)))) [] [10,12] [] (.cons Ia (.cons BS (.cons o4 (.cons Ib (.cons Sm (.cons o9 (.cons Fw (.cons HM (.cons BR (.cons MG (.cons Pi .nil))))))))))) Tryz.mixed Tryz.func185
def ME:Ent:=⟨[.ag 12,.ag 7,.lf (.bool)],[.ag 12,.lf (.int .i64),.ag 6],fun x=>cR x.1 x.2.1 x.2.2.1⟩
theorem MD:EOk prog 160 ME:=aI (.s .n (.s .n (.s (.s .n (.s (.lp [.box 3 41 12 [],.leaf 10 (.int .i64)] 0 true (.s .n (.s (.s (.s .n (.s .n (.s (.lp [.box 3 41 12 [],.leaf 12 (.int .i64)] 2 true (.s .n (.s (.s (.s .n (.s .n (.s .n (.s (.lp [.box 3 41 12 [],.leaf 15 (.int .i64)] 4 true .n) .n)))) .n) .n))) .n))) .n) .n))) .n)) .n))) [] [6,8] [] (.cons JZ (.cons Pq (.cons gX (.cons Fh (.cons S7 .nil))))) Tryz.mixed Tryz.func160
def Ta:Ent:=⟨[.ag 12,.lf (.int .i64)],[.ag 12,.lf (.int .i64),.ag 6],fun x=>qy x.1 x.2.1⟩
theorem S9:EOk prog 132 Ta:=aI .n [] [4,6] [] (.cons oZ (.cons Pd (.cons Pg (.cons MD .nil)))) Tryz.mixed Tryz.func132
def Po:Ent:=⟨[.ag 12,.lf (.int .i64)],[.ag 12,.lf (.sl (.st 6))],fun x=>lW x.1 x.2.1⟩
theorem Pn:EOk prog 89 Po:=aI (.s .n (.s .n (.s (.s .n (.s (.lp [.box 2 41 12 [],.row 6 6 85 9 (.st 6),.leaf 7 (.int .i64)] 0 false .n) .n)) .n))) [(5,[27,28])] [4] [] (.cons S9 .nil) Tryz.mixed Tryz.func89
def O3:Ent:=⟨[.lf (.int .i64)],[.lf (.int .i64)],fun x=>lO x.1⟩
theorem O2:EOk prog 211 O3:=aI .n [] [] [] .nil Tryz.mixed Tryz.func211
def BP:Ent:=⟨[.lf (.int .i64),.lf (.sl (.int .i64)),.lf (.sl (.int .i64)),.lf (.sl (.int .i64))],[.lf (.sl (.int .i64))],fun x=>vr x.1 x.2.1 x.2.2.1 x.2.2.2.1⟩
theorem Mw:EOk prog 206 BP:=aI (.s .n (.s .n (.s .n (.s .n (.s (.s .n (.s (.lp [.row 11 11 3 1 (.int .i64),.leaf 10 (.int .i64),.leaf 12 (.int .i64)] 0 false .n) .n)) (.s (.s .n (.s (.lp [.row 11 11 3 1 (.int .i64),.leaf 10 (.int .i64),.leaf 14 (.int .i64)] 2 false .n) .n)) .n)))))) [(2,[49,50]),(7,[49,50]),(13,[49,50])] [] [] (.cons O2 .nil) Tryz.mixed Tryz.func206
theorem O4 (k:Nat) (x:cJ [.ag 12,.lf (.str),.lf (.int .i64),.lf (.int .i64)]) : kz ⟨prog,[(187,⟨[.ag 12,.lf (.str),.lf (.int .i64),.lf (.int .i64)],[.lf (.sl (.st 18))],fun x=>lQ k x.1 x.2.1 x.2.2.1 x.2.2.2.1⟩),(52,HW),(188,E0),(198,HU),(162,Fv),(189,wh),(206,BP)],101,[.lf (.sl (.st 18))],[.tmp 8],[(1,[27,43,44,54,55,74,75,99]),(8,[27,54,55,74,75,99]),(9,[27,43,44,74,75,99]),(10,[27,43,44,54,55,99]),(11,[10,11,12,27,43,44,54,55,74,75,99]),(16,[10,11,12,27,43,44,54,55,74,75])],[],[]⟩ ((Tryz.f187).body.getD .skip) (.s (.n) (.s (.n) (.s (.n) (.s (.n) (.s (.s (.n) (.s (.lp [.row 10 10 3 1 (.int .i64),.row 12 12 3 1 (.int .i64),.row 11 11 3 1 (.int .i64),.leaf 13 (.int .i64)] 0 false (.n)) .n)) (.s (.n) (.s (.n) (.s (.s (.n) (.s (.lp [.row 15 15 222 2 (.st 18),.leaf 16 (.int .i64)] 2 false (.n)) .n)) (.n))))))))) [.ag 12,.lf (.str),.lf (.int .i64),.lf (.int .i64)] x=lQ (k + 1) x.1 x.2.1 x.2.2.1 x.2.2.2.1:=by kernel_rfl
theorem Fg:∀ k:Nat,bR prog 187 [.ag 12,.lf (.str),.lf (.int .i64),.lf (.int .i64)] [.lf (.sl (.st 18))] (fun x=>lQ k x.1 x.2.1 x.2.2.1 x.2.2.2.1)
 | 0=>fun x r h=>by cases h
 | k + 1=>cT (n:=101) (.cons (Fg k) (.cons (vo) (.cons (pC) (.cons (HR) (.cons (kH) (.cons (wg) (.cons (Mw) (.nil)))))))) Tryz.mixed Tryz.func187 rfl (by kernel_rfl) rfl rfl rfl (O4 k)
def JT:Ent:=⟨[.ag 12,.lf (.int .i64)],[.lf (.sl (.st 18))],fun x=>pT x.1 x.2.1⟩
theorem yY:EOk prog 166 JT:=aI (.s .n (.s .n (.s .n (.s (.s .n (.s (.lp [.leaf 5 (.sl (.st 18)),.leaf 7 (.int .i64)] 0 false (.s .n (.s (.s (.s .n (.s (.s (.lp [.leaf 8 (.int .i64)] 2 false .n) .n) .n)) .n) .n))) .n)) .n)))) [(2,[5,46,52,53,58])] [] [] (.cons pB (.cons (Fg ac) .nil)) Tryz.mixed Tryz.func166
def S2:Ent:=⟨[.ag 12,.lf (.int .i64),.lf (.str)],[.lf (.int .i64)],fun x=>yX x.1 x.2.1 x.2.2.1⟩
theorem S1:EOk prog 165 S2:=aI (.s .n (.s .n (.s (.s .n (.s (.lp [.leaf 8 (.int .i64)] 0 true .n) .n)) .n))) [] [] [] (.cons yY .nil) Tryz.mixed Tryz.func165
def O1:Ent:=⟨[.ag 12,.ag 12],[.lf (.sl (.int .i64))],fun x=>uy x.1 x.2.1⟩
theorem Ff:EOk prog 107 O1:=aI (.s .n (.s .n (.s (.s .n (.s (.lp [.row 5 5 3 1 (.int .i64),.leaf 6 (.int .i64)] 0 false .n) .n)) .n))) [(5,[36,37])] [] [] (.cons nc .nil) Tryz.mixed Tryz.func107
def Mp:Ent:=⟨[.ag 12,.lf (.str),.lf (.int .i64)],[.lf (.int .i64)],fun x=>rI x.1 x.2.1 x.2.2.1⟩
theorem Mo:EOk prog 167 Mp:=aI (.s .n (.s .n (.s (.s .n (.s (.lp [.leaf 9 (.int .i64)] 0 true (.s .n (.s (.s (.s .n (.s .n (.s (.lp [.leaf 11 (.int .i64)] 2 true .n) .n))) .n) .n))) .n)) .n))) [] [] [] (.cons kH (.cons pC (.cons gW (.cons wg .nil)))) Tryz.mixed Tryz.func167
def OW:Ent:=⟨[.ag 12,.ag 6],[.lf (.str)],fun x=>jh x.1 x.2.1⟩
theorem xl:EOk prog 163 OW:=aI .n [] [] [] (.cons gX .nil) Tryz.mixed Tryz.func163
def VA:Ent:=⟨[.lf (.sl (.int .i64)),.lf (.int .i64)],[.lf (.bool)],fun x=>xm x.1 x.2.1⟩
theorem Mr:EOk prog 190 VA:=aI (.s .n (.s (.s .n (.s (.lp [.leaf 5 (.int .i64)] 0 true .n) .n)) .n)) [] [] [] .nil Tryz.mixed Tryz.func190
def JQ:Ent:=⟨[.ag 12,.lf (.str),.lf (.int .i64),.lf (.sl (.int .i64))],[.lf (.int .i64)],fun x=>mW x.1 x.2.1 x.2.2.1 x.2.2.2.1⟩
theorem JP:EOk prog 168 JQ:=aI (.s .n (.s .n (.s (.s .n (.s (.lp [.leaf 9 (.int .i64),.leaf 10 (.int .i64)] 0 false .n) .n)) .n))) [] [] [] (.cons xl (.cons Mr .nil)) Tryz.mixed Tryz.func168
def JN:Ent:=⟨[.ag 12,.lf (.str),.lf (.int .i64),.lf (.sl (.int .i64))],[.ag 6,.lf (.bool)],fun x=>pN x.1 x.2.1 x.2.2.1 x.2.2.2.1⟩
theorem JM:EOk prog 169 JN:=aI (.s .n (.s .n (.s (.s .n (.s (.lp [.box 10 85 6 [],.leaf 11 (.bool),.leaf 12 (.int .i64)] 0 false .n) .n)) .n))) [] [8] [] (.cons xl (.cons Mr .nil)) Tryz.mixed Tryz.func169
def O0:Ent:=⟨[.ag 12,.lf (.int .i64)],[.lf (.sl (.int .i64))],fun x=>yV x.1 x.2.1⟩
theorem OZ:EOk prog 136 O0:=aI (.s .n (.s .n (.s .n (.s (.s .n (.s (.lp [.leaf 6 (.int .i64),.leaf 7 (.int .i64)] 0 false .n) .n)) (.s .n (.s (.s (.lp [.row 8 8 3 1 (.int .i64)] 2 true (.s .n (.s (.s .n (.s (.s .n (.s (.lp [.leaf 9 (.int .i64),.box 10 85 6 [],.leaf 11 (.int .i64)] 4 false .n) .n)) .n)) .n))) .n) .n)))))) [(1,[103,104]),(2,[103,104]),(6,[103,104]),(8,[103,104]),(14,[103,104]),(15,[103,104])] [] [] (.cons yY (.cons pB (.cons kH (.cons Mo (.cons JP (.cons JM .nil)))))) Tryz.mixed Tryz.func136
def JL:Ent:=⟨[.ag 12,.ag 6],[.lf (.int .i64)],fun x=>pM x.1 x.2.1⟩
theorem JK:EOk prog 164 JL:=aI (.s .n (.s .n (.s (.s .n (.s (.lp [.leaf 5 (.int .i64),.leaf 6 (.int .i64)] 0 false .n) .n)) .n))) [] [] [] .nil Tryz.mixed Tryz.func164
def OV:Ent:=⟨[.ag 12,.lf (.int .i64),.lf (.int .i64)],[.ag 12],fun x=>jY x.1 x.2.1 x.2.2.1⟩
theorem Fd:EOk prog 137 OV:=aI (.s .n (.s .n (.s (.s .n (.s (.lp [.row 7 9 85 9 (.st 6),.leaf 8 (.int .i64)] 0 false .n) .n)) .n))) [] [6] [] .nil Tryz.mixed Tryz.func137
def OY:Ent:=⟨[.ag 12,.lf (.int .i64)],[.ag 12],fun x=>rJ x.1 x.2.1⟩
theorem OX:EOk prog 135 OY:=aI (.s .n (.s .n (.s (.s .n (.s (.lp [.row 5 5 85 9 (.st 6),.leaf 6 (.int .i64)] 0 false .n) .n)) (.s (.s .n (.s (.lp [.box 2 41 12 [],.leaf 8 (.int .i64)] 2 false .n) .n)) .n)))) [(11,[5,43,44,84]),(13,[5,43,44,84]),(14,[5,43,44]),(15,[5,43,44,84])] [4] [] (.cons nc (.cons xl (.cons kH (.cons JK (.cons S1 (.cons xq (.cons Fd .nil))))))) Tryz.mixed Tryz.func135
def Mt:Ent:=⟨[.ag 12],[.ag 12,.lf (.sl (.int .i64))],fun x=>o7 x.1⟩
theorem Ms:EOk prog 106 Mt:=aI (.s .n (.s .n (.s (.s .n (.s (.lp [.box 1 41 12 [],.leaf 5 (.int .i64)] 0 false (.s .n (.s (.s (.s .n (.s .n (.s .n (.s (.lp [.box 1 41 12 [],.leaf 7 (.int .i64)] 2 false .n) .n)))) .n) .n))) .n)) .n))) [] [2] [] (.cons OX (.cons OZ (.cons Fd (.cons Ff .nil)))) Tryz.mixed Tryz.func106
def O7:Ent:=⟨[.lf (.int .i64)],[.lf (.bool)],fun x=>uA x.1⟩
theorem O6:EOk prog 69 O7:=aI .n [] [] [] .nil Tryz.mixed Tryz.func69
def VC:Ent:=⟨[.lf (.sl (.st 8)),.lf (.int .i64),.lf (.int .i64)],[.ag 0],fun x=>uB x.1 x.2.1 x.2.2.1⟩
theorem VB:EOk prog 117 VC:=aI (.s .n (.s .n (.s (.s .n (.s (.lp [.box 7 27 0 [],.leaf 8 (.int .i64)] 0 false .n) .n)) .n))) [] [6] [] (.cons f6 .nil) Tryz.mixed Tryz.func117
def O9:Ent:=⟨[.lf (.sl (.st 8)),.ag 0,.ag 8,.lf (.int .i64),.lf (.int .i64)],[.lf (.bool)],fun x=>rK x.1 x.2.1 x.2.2.1 x.2.2.2.1 x.2.2.2.2.1⟩
theorem O8:EOk prog 70 O9:=aI (.s .n (.s .n (.s (.s .n (.s (.lp [.leaf 11 (.int .i64)] 0 true .n) .n)) .n))) [] [] [] (.cons VB (.cons f6 (.cons o4 .nil))) Tryz.mixed Tryz.func70
def MA:Ent:=⟨[.lf (.sl (.st 8)),.ag 0,.ag 8,.lf (.int .i64)],[.lf (.int .i64),.lf (.int .i64)],fun x=>vt x.1 x.2.1 x.2.2.1 x.2.2.2.1⟩
theorem Mz:EOk prog 29 MA:=aI (.s .n (.s .n (.s .n (.s (.s .n (.s (.lp [.leaf 10 (.int .i64),.leaf 11 (.int .i64)] 0 false (.s .n (.s (.s (.s .n (.s (.s .n (.j [.leaf 12 (.int .i64)] .n)) .n)) .n) .n))) .n)) .n)))) [] [] [] (.cons O6 (.cons O8 .nil)) Tryz.mixed Tryz.func29
def S5:Ent:=⟨[.ag 12,.ag 8,.lf (.int .i64)],[.ag 12,.lf (.int .i64),.lf (.int .i64)],fun x=>sN x.1 x.2.1 x.2.2.1⟩
theorem S4:EOk prog 11 S5:=aI (.s .n (.s .n (.s .n (.s (.s .n (.s (.lp [.leaf 9 (.int .i64),.leaf 10 (.int .i64)] 0 true .n) .n)) .n)))) [] [6] [] (.cons pB (.cons Mz .nil)) Tryz.mixed Tryz.func11
def Pb:Ent:=⟨[.ag 12,.lf (.int .i64)],[.ag 12,.lf (.int .i64)],fun x=>pU x.1 x.2.1⟩
theorem Pa:EOk prog 14 Pb:=aI (.s .n (.s .n (.s (.s .n (.s (.lp [.row 6 6 29 6 (.st 8),.leaf 7 (.int .i64)] 0 false .n) .n)) .n))) [] [4] [] .nil Tryz.mixed Tryz.func14
theorem JD (k:Nat) (x:cJ [.lf (.int .i64)]) : kz ⟨prog,[(50,⟨[.lf (.int .i64)],[.lf (.str)],fun x=>dp k x.1⟩)],25,[.lf (.str)],[.tmp 2],[],[],[]⟩ ((Tryz.f50).body.getD .skip) (.n) [.lf (.int .i64)] x=dp (k + 1) x.1:=by kernel_rfl
theorem yI:∀ k:Nat,bR prog 50 [.lf (.int .i64)] [.lf (.str)] (fun x=>dp k x.1)
 | 0=>fun x r h=>by cases h
 | k + 1=>cT (n:=25) (.cons (yI k) (.nil)) Tryz.mixed Tryz.func50 rfl (by kernel_rfl) rfl rfl rfl (JD k)
def Vx:Ent:=⟨[.lf (.str),.lf (.int .u8)],[.lf (.sl (.str))],fun x=>E7 x.1 x.2.1⟩
theorem Mc:EOk prog 124 Vx:=aI (.s .n (.s .n (.s .n (.s (.s .n (.s (.lp [.row 5 5 9 1 (.str),.leaf 6 (.int .i64),.leaf 7 (.int .i64)] 0 false .n) .n)) (.s (.s .n (.j [.row 5 5 9 1 (.str)] .n)) .n))))) [] [] [] .nil Tryz.mixed Tryz.func124
def Ov:Ent:=⟨[.lf (.str)],[.lf (.sl (.str))],fun x=>yD x.1⟩
theorem Ou:EOk prog 125 Ov:=aI (.s .n (.s .n (.s .n (.s (.s .n (.s (.lp [.row 3 3 9 1 (.str),.leaf 5 (.int .i64)] 0 false .n) .n)) .n)))) [] [] [] (.cons Mc .nil) Tryz.mixed Tryz.func125
def Mb:Ent:=⟨[.lf (.str)],[.lf (.int .i64),.lf (.bool)],fun x=>o0 x.1⟩
theorem BK:EOk prog 154 Mb:=aI (.s .n (.s .n (.s .n (.s (.s .n (.s (.lp [.leaf 4 (.int .i64),.leaf 5 (.int .i64)] 0 true .n) .n)) .n)))) [] [] [] .nil Tryz.mixed Tryz.func154
def Ox:Ent:=⟨[.lf (.str)],[.ag 3,.lf (.bool)],fun x=>yE x.1⟩
theorem Ow:EOk prog 155 Ox:=aI (.s .n (.s .n (.s (.s (.lp [.leaf 4 (.int .i64)] 0 false .n) .n) .n))) [] [2] [] (.cons BK .nil) Tryz.mixed Tryz.func155
def Oz:Ent:=⟨[.lf (.sl (.str)),.lf (.int .i64)],[.ag 4,.lf (.bool)],fun x=>yF x.1 x.2.1⟩
theorem Oy:EOk prog 126 Oz:=aI (.s .n (.s .n (.s .n (.s .n (.s (.s .n (.s (.lp [.leaf 7 (.bool),.box 8 101 4 [(1,1161,98,2,.st 3)],.leaf 9 (.int .i64)] 0 false .n) .n)) .n))))) [] [4] [] (.cons BK (.cons Ow .nil)) Tryz.mixed Tryz.func126
def OB:Ent:=⟨[.lf (.str)],[.ag 5,.lf (.int .i64)],fun x=>yH x.1⟩
theorem OA:EOk prog 78 OB:=aI (.s .n (.s .n (.s .n (.s .n (.s .n (.s (.s .n (.s (.lp [.box 4 34 5 [],.leaf 5 (.bool),.leaf 7 (.int .i64)] 0 true (.s .n (.s (.s (.s .n (.s .n (.s .n (.s .n (.s .n (.s .n (.s .n (.s (.s (.lp [.leaf 11 (.int .i64)] 2 false .n) .n) .n)))))))) .n) .n))) .n)) .n)))))) [] [2] [] (.cons Mc (.cons Ou (.cons Oy .nil))) Tryz.mixed Tryz.func78
def AW:Ent:=⟨[.ag 5],[.lf (.str)],fun x=>yG x.1⟩
theorem H3:EOk prog 22 AW:=aI (.s .n (.s .n (.s (.s .n (.s (.lp [.leaf 3 (.str),.leaf 4 (.int .i64)] 0 false .n) .n)) (.s .n (.s (.s .n (.s (.lp [.leaf 3 (.str),.leaf 5 (.int .i64)] 2 false (.s .n (.s (.s (.s .n (.s .n (.s (.s .n (.s (.lp [.leaf 3 (.str),.leaf 7 (.int .i64)] 4 false .n) .n)) .n))) .n) .n))) .n)) .n))))) [] [] [] (.cons (yI ac) .nil) Tryz.mixed Tryz.func22
def AX:Ent:=⟨[],[.ag 12],fun x=>JJ ⟩
theorem H7:EOk prog 20 AX:=aI .n [] [0] [] .nil Tryz.mixed Tryz.func20
def S0:Ent:=⟨[.ag 12,.lf (.int .i64)],[.ag 12,.ag 10],fun x=>cY x.1 x.2.1⟩
theorem o6:EOk prog 49 S0:=aI .n [] [4,5] [] .nil Tryz.mixed Tryz.func49
def JI:Ent:=⟨[.ag 12,.lf (.str)],[.ag 12,.ag 10],fun x=>mS x.1 x.2.1⟩
theorem JH:EOk prog 42 JI:=aI (.s .n (.s .n (.s (.s .n (.j [.leaf 7 (.int .i64)] .n)) (.s .n (.s .n (.s (.s .n (.s (.lp [.leaf 8 (.int .i64)] 0 true .n) .n)) (.s (.s .n (.s (.lp [.leaf 9 (.int .i64)] 2 true .n) .n)) .n))))))) [] [4,5] [] (.cons OA (.cons Oq (.cons o6 (.cons gW (.cons AV .nil))))) Tryz.mixed Tryz.func42
def Vz:Ent:=⟨[.ag 12,.lf (.int .i64)],[.lf (.sl (.int .i64))],fun x=>sK x.1 x.2.1⟩
theorem Mj:EOk prog 85 Vz:=aI (.s .n (.s .n (.s (.s .n (.s (.lp [.row 5 5 3 1 (.int .i64),.leaf 6 (.int .i64)] 0 false .n) .n)) .n))) [] [] [] .nil Tryz.mixed Tryz.func85
def OS:Ent:=⟨[.ag 12,.ag 9],[.ag 12,.ag 10],fun x=>rH x.1 x.2.1⟩
theorem OQ:EOk prog 44 OS:=aI (.s .n (.s .n (.s .n (.s .n (.s .n (.s .n (.s (.s .n (.s (.lp [.row 10 10 3 1 (.int .i64),.leaf 11 (.int .i64)] 0 false .n) .n)) .n))))))) [(1,[83,84]),(3,[83,84]),(4,[83,84]),(6,[83,84]),(11,[83,84]),(14,[10,83,84]),(15,[10,83,84]),(16,[10,83,84])] [4,5] [] (.cons oZ (.cons Mj (.cons Sy (.cons o6 (.cons nc (.cons xq (.cons Pn .nil))))))) Tryz.mixed Tryz.func44
def Mm:Ent:=⟨[.ag 12,.lf (.sl (.int .i64))],[.lf (.sl (.st 6))],fun x=>rG x.1 x.2.1⟩
theorem Ml:EOk prog 95 Mm:=aI (.s .n (.s .n (.s (.s .n (.s (.lp [.row 5 5 85 9 (.st 6),.leaf 6 (.int .i64)] 0 false .n) .n)) .n))) [(5,[27,28])] [] [] (.cons nc .nil) Tryz.mixed Tryz.func95
def Gi:Ent:=⟨[.ag 12,.lf (.int .i64)],[.lf (.sl (.int .i64))],fun x=>nU x.1 x.2.1⟩
theorem Gh:EOk prog 96 Gi:=aI (.s .n (.s .n (.s (.s .n (.s (.lp [.row 5 5 3 1 (.int .i64),.leaf 6 (.int .i64)] 0 false .n) .n)) .n))) [] [] [] .nil Tryz.mixed Tryz.func96
def Mi:Ent:=⟨[.ag 12,.lf (.sl (.st 1)),.lf (.sl (.st 1))],[.lf (.sl (.st 1)),.lf (.int .i64)],fun x=>o5 x.1 x.2.1 x.2.2.1⟩
theorem Mh:EOk prog 97 Mi:=aI (.s .n (.s (.s .n (.s (.lp [.leaf 1 (.sl (.st 1)),.leaf 8 (.int .i64)] 0 true .n) .n)) .n)) [] [] [] (.cons Ob (.cons Vr .nil)) Tryz.mixed Tryz.func97
def JG:Ent:=⟨[.ag 12,.ag 9],[.ag 12,.ag 10],fun x=>mR x.1 x.2.1⟩
theorem JF:EOk prog 46 JG:=aI (.s .n (.s .n (.s .n (.s .n (.s .n (.s (.s .n (.s (.lp [.box 2 41 12 [],.box 6 71 2 [],.leaf 10 (.int .i64)] 1 false .n) .n)) .n)))))) [(1,[61,64,144,147]),(3,[61,64,144,147]),(5,[61,64,144,147]),(7,[61,64,144,147]),(9,[144,147]),(11,[61,64,144,147]),(12,[61,64,144,147]),(14,[61,64,144,147]),(18,[61,64,144,147]),(20,[61,64,144,147]),(21,[61,64,144,147]),(22,[61,64]),(25,[61,64,144,147])] [4,5] [] (.cons gX (.cons o6 (.cons Ml (.cons Gh (.cons Mh (.cons nc (.cons Fz (.cons wi (.cons o9 .nil))))))))) Tryz.mixed Tryz.func46
def SZ:Ent:=⟨[.ag 12,.lf (.int .i64),.lf (.int .i64)],[.ag 12,.ag 10],fun x=>sM x.1 x.2.1 x.2.2.1⟩
theorem SY:EOk prog 47 SZ:=aI .n [] [6,7] [] (.cons gX (.cons o6 (.cons gW (.cons Td .nil)))) Tryz.mixed Tryz.func47
def OP:Ent:=⟨[.ag 12,.lf (.int .i64)],[.lf (.int .i64)],fun x=>uw x.1 x.2.1⟩
theorem OO:EOk prog 105 OP:=aI (.s .n (.s (.s .n (.s (.lp [.leaf 5 (.int .i64)] 0 true .n) .n)) .n)) [] [] [] .nil Tryz.mixed Tryz.func105
def ON:Ent:=⟨[.ag 12,.lf (.int .i64)],[.ag 12,.ag 10],fun x=>rF x.1 x.2.1⟩
theorem OM:EOk prog 48 ON:=aI (.s .n (.s .n (.s .n (.s .n (.s .n (.s .n (.s (.s .n (.s (.lp [.box 2 41 12 [],.leaf 8 (.int .i64)] 0 false .n) .n)) (.s .n (.s (.s .n (.s (.lp [.box 2 41 12 [],.leaf 9 (.int .i64)] 2 false .n) .n)) (.s .n (.s (.s .n (.s (.lp [.row 10 10 29 6 (.st 8),.leaf 11 (.int .i64)] 4 false .n) .n)) .n))))))))))) [(2,[79,103,104]),(4,[79,103,104]),(7,[79,103,104]),(11,[79,103,104]),(12,[79,103,104]),(13,[79,103,104]),(17,[103,104]),(25,[10,79,103,104]),(26,[10,79,103,104])] [4,5] [] (.cons o6 (.cons L0 (.cons Sw (.cons zc (.cons Mj (.cons xq (.cons J6 (.cons OO (.cons Ms (.cons Ff .nil)))))))))) Tryz.mixed Tryz.func48
def Fc:Ent:=⟨[.ag 12,.ag 9],[.ag 12,.ag 10],fun x=>nW x.1 x.2.1⟩
theorem OT:EOk prog 21 Fc:=aI .n [] [4,5] [] (.cons JH (.cons Gf (.cons OQ (.cons J4 (.cons JF (.cons SY (.cons OM (.cons S4 (.cons Pa (.cons o6 .nil)))))))))) Tryz.mixed Tryz.func21
noncomputable def xx (x:cJ []) : Option (bh [.lf (.bool)]):=kz ⟨prog,[(20,AX),(35,xw),(36,p6),(17,uQ)],37,[.lf (.bool)],[.tmp 0],[],[],[]⟩ ((Tryz.f15).body.getD .skip) (.n) [] x
noncomputable def PG:Ent:=⟨[],[.lf (.bool)],xx⟩
theorem PF:bR prog 15 [] [.lf (.bool)] xx:=cT (n:=37) (.cons (H7) (.cons (xu) (.cons (pZ) (.cons (uP) (.nil))))) Tryz.mixed Tryz.func15 rfl (by kernel_rfl) rfl rfl rfl (fun _=>rfl)
abbrev Tx:=List UInt8
def sv (l:Tx) : Value:=.string ⟨l.toArray⟩
theorem YE (S:ByteArray) : sv S.data.toList = .string S:=by cases S; rfl
structure QD where
 path:Tx
 caps:List (Int×Int)
 user:Int
def above (l:Tx) : Tx:=((l.reverse.dropWhile (fun b=>b != 46)).drop 1).reverse
theorem Vl {l:Tx} (h:(46:UInt8) ∉ l) : above l = []:=by
 unfold above
 have hp:∀ x∈l.reverse,(x != 46)=true:=fun x hx=>by
  simp
  intro e
  subst e
  exact h (List.mem_reverse.1 hx)
 have:=List.dropWhile_append_of_pos (l₂:=[]) hp
 rw [List.append_nil] at this
 rw [this]
 rfl
theorem Vm {a t:Tx} (h:(46:UInt8) ∉ t) : above (a++46::t)=a:=by
 unfold above
 have hp:∀ x∈t.reverse,(x != 46)=true:=fun x hx=>by simp; intro e; subst e; exact h (List.mem_reverse.1 hx)
 rw [List.reverse_append,List.reverse_cons,List.append_assoc,List.dropWhile_append_of_pos hp]
 simp
def lm (p:Tx) (q:QD) : Bool:=decide (p≠[])&&decide (above q.path=p)
def cu (p:Tx) (l:List QD) : List Tx:=(l.filter (lm p)).map (·.path)
theorem DU (l:List QD) : cu [] l = []:=by
 unfold cu
 have:l.filter (lm []) = []:=by
  rw [List.filter_eq_nil_iff]
  intro q _
  simp [lm]
 rw [this]; rfl
theorem RK {p:Tx} {l:List QD} {k:Nat} (h:k < l.length) : cu p (l.take (k + 1))=cu p (l.take k)++if lm p l[k] then [l[k].path] else []:=by
 unfold cu
 rw [List.take_succ_eq_append_getElem h,List.filter_append,List.map_append]
 congr 1
 by_cases hk:lm p l[k] = true
 ·simp [hk]
 ·simp [hk]
theorem Us (p:Tx) (l:List QD) : (cu p l).length≤l.length:=by
 unfold cu
 rw [List.length_map]
 exact List.length_filter_le _ _
theorem WA {p:Tx} {q:QD} (h0:p≠[]) (h:above q.path=p) : lm p q=true:=by simp [lm,h0,h]
theorem Yb {p:Tx} {q:QD} (h : ¬ above q.path=p) : lm p q=false:=by simp [lm,h]
theorem XA {z x:ByteArray} (h : ¬ z=x) : (z.toList==x.toList)=false:=by
 rw [beq_eq_false_iff_ne]
 intro e
 rw [ByteArray.toList_eq,ByteArray.toList_eq] at e
 apply h
 cases z; cases x
 simp only at e
 rw [Array.toList_inj] at e
 rw [e]
theorem vf (S:ByteArray) : S.size=S.data.toList.length:=by cases S; rfl
theorem Vf (S:ByteArray) (k:Nat) (h:k < S.size) : S[k] = S.data.toList[k]'(by rw [← vf]; exact h):=by cases S; rfl
theorem Yt {S:ByteArray} : S=⟨#[]⟩↔S.data.toList = []:=by
 cases S with
 | mk d => constructor
           ·intro h; injection h with h; rw [h]
           ·intro h; simp at h; rw [h]
theorem QI (S:ByteArray) (i j:Nat) : (S.extract i j).data.toList=(S.data.toList.drop i).take (j - i):=by
 cases S with
 | mk d=>simp [ByteArray.extract,ByteArray.copySlice,Array.toList_extract,List.extract_eq_take_drop]
theorem XB {T S:ByteArray} (e:T.data.toList=S.data.toList) : T=S:=by
 cases T; cases S; simp only at e; rw [Array.toList_inj] at e; rw [e]
def bV (cs:List (Int×Int)) : List Value:=cs.flatMap fun p=>[.int .i64 p.1,.int .i64 p.2]
theorem Gb (cs:List (Int×Int)) (a b:Int) : bV (cs ++ [(a,b)])=bV cs ++ [.int .i64 a,.int .i64 b]:=by simp [bV]
structure QC where
 p:ByteArray
 A:Option Addr
 n:Nat
 c:Nat
 u:Int
def KH (q:QC) : List Value:=[.string q.p,.slice q.A q.n q.c,.int .i64 q.u]
def fR (qs:List QC) : List Value:=qs.flatMap KH
theorem KI (qs:List QC) (q:QC) : fR (qs ++ [q])=fR qs++KH q:=by simp [fR]
theorem Tryz.infoStr:(prog.info? 9).map (fun i=>(i.zero,i.size,i.bytes))=some (some (.string ⟨#[]⟩),1,16):=by kernel_rfl
theorem Tryz.infoQ:(prog.info? 101).map (fun i=>(i.zero,i.size,i.bytes))=some (some (.agg #[.string ⟨#[]⟩,.slice none 0 0,.int .i64 0]),3,48):=by kernel_rfl
theorem Zy {s:ByteArray} {A:Option Addr} {n c:Nat} {i:Int} : ∀ u∈[Value.string s,Value.slice A n c,Value.int .i64 i],u.oneCell' = true:=by
 intro u hu
 simp only [List.mem_cons,List.mem_nil_iff,or_false] at hu
 rcases hu with rfl | rfl | rfl <;> rfl
structure XE (w:World) (g k:Nat) (q:QD) : Prop where
 ex:∃ (P:ByteArray) (A:Option Addr) (c:Nat),w.cell? ⟨g,k * 3,none⟩=some (.string P)∧w.cell? ⟨g,k * 3 + 1,none⟩=some (.slice A q.caps.length c)∧w.cell? ⟨g,k * 3 + 2,none⟩=some (.int .i64 q.user)∧P.data.toList=q.path∧RdK 2 w (.slice A q.caps.length c) q.caps.length (bV q.caps)
def QAt (w:World) (v:Value) (ds:List QD) : Prop:=∃ A c,v = .slice A ds.length c∧ds.length≤c∧c≤maxLen∧(0 < ds.length→∃ g,A=some ⟨g,0,none⟩∧g < w.heap.size∧∀ k (h:k < ds.length),XE w g k ds[k])
theorem QAt.open {w:World} {v:Value} {ds:List QD} (h:QAt w v ds) : ∃ A N c,v = .slice A N c∧N=ds.length∧N≤c∧c≤9223372036854775807∧(0 < N→∃ g,A=some ⟨g,0,none⟩∧g < w.heap.size∧∀ k (h:k < ds.length),XE w g k ds[k]):=by
 obtain ⟨A,c,rfl,h1,h2,h3⟩:=h
 unfold maxLen at h2
 exact ⟨A,_,c,rfl,rfl,h1,by omega,h3⟩
theorem Kj (a n:Int) (w:World) (hn : 0 < n∧n≤1125899906842625) :
  Calls prog 51 #[.int .i64 a,.int .i64 n] w fun e w'=>e = .returned (.int .i64 (a % n))∧w=w':=by
 obtain ⟨n0,n1⟩:=hn
 have hz:(n==0)=false:=by simp; omega
 have l1:a.tmod n < n:=Int.tmod_lt_of_pos a n0
 have l2 : -n < a.tmod n:=by have:=Int.lt_tmod_of_pos a n0; omega
 by_cases hneg:a.tmod n < 0
 ·rw [Lv n0 hneg]
  go_enter Tryz.func51,Tryz.ntmps51
  go_wp2
  go_ret
  exact ⟨rfl,rfl⟩
 ·rw [Lu n0 hneg]
  go_enter Tryz.func51,Tryz.ntmps51
  go_wp2
  go_ret
  exact ⟨rfl,rfl⟩
theorem gK (a:Int) (n:Nat) (m:Int) (w:World) (hm:m=(n:Int)) (hn : 0 < n∧n≤1125899906842625) :
  Calls prog 51 #[.int .i64 a,.int .i64 m] w fun e w'=>∃ y:Nat,e = .returned (.int .i64 (y:Int))∧(y:Int)=a % (n:Int)∧y < n∧w=w':=by
 subst hm
 refine (Kj a n w ⟨by omega,by omega⟩).mono ?_
 rintro e w' ⟨rfl,rfl⟩
 have h0:=Int.emod_nonneg a (show (n:Int)≠0 by omega)
 have h1:=Int.emod_lt_of_pos a (show (0:Int) < n by omega)
 refine ⟨(a % (n:Int)).toNat,?_,by omega,by omega,rfl⟩
 rw [show (((a % (n:Int)).toNat:Nat) : Int)=a % (n:Int) from by omega]
theorem Nt {w:World} {base:Nat} {e:TypeId} {k:Nat} {v:Value} {n:Nat} {xs:List Value} (h:w.ownsRow base e k v n xs) {B:Nat} (hB:B≤base) : ∀ k,v.ownBlock=some k→B≤k :=
 fun k hk=>Nat.le_trans hB (h.lt k hk).1
theorem Nm (S:ByteArray) (w:World) (hs:S.size≤1000000000) : Calls prog 108 #[.string S] w fun e w'=>∃ T:ByteArray,e = .returned (.string T)∧T.data.toList=above S.data.toList∧T.size≤S.size∧w=w':=by
 go_enter Tryz.func108,Tryz.ntmps108
 go_wp2
 go_loop [3] (fun i=>∃ k:Nat,k≤S.size∧i = .int .i64 ((k:Int) - 1)∧(46:UInt8) ∉ S.data.toList.drop k) (fun i=>(intOf i + 1).toNat)
 case atStart=>exact ⟨S.size,Nat.le_refl _,rfl,by rw [List.drop_of_length_le (by rw [vf]; omega)]; simp⟩
 case round =>
  obtain ⟨k,hk,rfl,hno⟩:=hrel
  have HNO:=Lib.hid hno
  clear hno
  cases k with
  | zero =>
   have H2:=Lib.hid (Vl (l:=S.data.toList) (by have:=HNO.out; simpa using this))
   go_wp2
   go_ret
   exact ⟨⟨#[]⟩,rfl,H2.out.symm,Nat.zero_le _,rfl⟩
  | succ k =>
   have hkl:k < S.data.toList.length:=by rw [← vf]; omega
   have e1:((k + 1:Nat) : Int) - 1=(k:Int):=by omega
   rw [e1]
   have i0:(0:Int)≤(k:Int):=by omega
   have i1:(k:Int) < (S.size:Int):=by omega
   have i2:(k:Int)≤1000000000:=by omega
   clear e1
   by_cases hd:S[k]'(by omega)=46
   ·have H2:=Lib.hid (show above S.data.toList=S.data.toList.take k by
     have e:S.data.toList=S.data.toList.take k++46::S.data.toList.drop (k + 1):=by
      have h4:S.data.toList[k] = 46:=by rw [← Vf S k (by omega)]; exact hd
      have:=List.take_append_drop k S.data.toList
      rw [List.drop_eq_getElem_cons hkl,h4] at this
      exact this.symm
     have:=Vm (a:=S.data.toList.take k) HNO.out
     rw [← e] at this
     exact this)
    have hq:(((S[k]'(by omega)).toNat:Int) != 46)=false:=by rw [hd]; rfl
    have hq2:((S[k]'(by omega)).toNat:Int)=46:=by rw [hd]; rfl
    clear hd
    go_wp2
    go_ret
    refine ⟨_,rfl,?_,?_,rfl⟩
    ·rw [QI,H2.out]; simp
    ·rw [vf,QI,vf]; simp; omega
   ·have hq : ¬ ((S[k]'(by omega)).toNat:Int)=46:=fun h=>hd (UInt8.toNat.inj (by have:(46:UInt8).toNat=46:=rfl; omega))
    have hq2:(((S[k]'(by omega)).toNat:Int) != 46)=true:=by simpa using hq
    have HN2:=Lib.hid (show (46:UInt8) ∉ S.data.toList.drop k by
     rw [List.drop_eq_getElem_cons hkl,List.mem_cons,not_or]
     exact ⟨fun e=>hd (by rw [Vf S k (by omega)]; exact e.symm),HNO.out⟩)
    clear hd
    go_wp2
    go_round
    case rel=>exact ⟨k,by omega,by simp,HN2.out⟩
    case measure=>simp [intOf]
def VI (p:Tx) (ds:List QD) (w:World) (e:Ending) (w':World) : Prop:=∃ A n c,e = .returned (.slice A n c)∧n=(cu p ds).length∧w'.ownsRow w.heap.size 9 1 (.slice A n c) n ((cu p ds).map sv)∧Ext w w'
theorem Dw {w:World} {B B':Nat} {e:TypeId} {k:Nat} {v:Value} {n:Nat} {xs:List Value} (h:w.ownsRow B e k v n xs) (hB:B'≤B) : w.ownsRow B' e k v n xs:=by
 refine ⟨h.1,?_⟩
 rcases h.2 with hn | ⟨g,cap,cur,rfl,hb,hr⟩
 ·exact .inl hn
 ·exact .inr ⟨g,cap,cur,rfl,Nat.le_trans hB hb,hr⟩
theorem Jv {w wr V w3:World} {B n:Nat} {v v':Value} {l:List Tx} {T:ByteArray} (HX:Ext w wr) (hV:Ext wr V) (hn:n=l.length) (HO:wr.ownsRow B 9 1 v n (l.map sv)) (hB:w.heap.size≤B)
  (ho3:w3.ownsRow B 9 1 v' (n + 1) (l.map sv ++ [.string T])) (hg3:V.grownBy w3 v.ownBlock) : w3.ownsRow B 9 1 v' (l ++ [T.data.toList]).length ((l ++ [T.data.toList]).map sv)∧Ext w w3:=by
 refine ⟨?_,(HX.trans hV).trans' (cE hg3 ?_ (Nt HO hB))⟩
 ·rw [List.length_append,List.length_singleton,← hn,List.map_append,List.map_singleton,YE]
  exact ho3
 ·exact Nat.le_trans HX.size hV.size
theorem Rp (ds:List QD) (vl vq:Value) (S:ByteArray) (w:World) (hq:QAt w vq ds) (hlen:ds.length≤1000) (hp:∀ q∈ds,q.path.length≤1000000000) :
  Calls prog 52 #[.agg #[vl,vq],.string S] w (VI S.data.toList ds w):=by
 obtain ⟨j0,hj,hy0,hy1,hy2⟩:=info_parts Tryz.infoStr
 obtain ⟨A,N,c,rfl,hN,hc1,hc2,hcell⟩:=hq.open
 have HC:=Lib.hid hcell
 have HN:=Lib.hid hN
 have HP:=Lib.hid hp
 have hN1:N≤1000:=by omega
 clear hcell hN hq hp
 go_enter Tryz.func52,Tryz.ntmps52
 go_wp2
 refine Vh (fun W0 hW0=>?_)
 have X0:=Lib.hid (show Ext w W0 by rw [hW0]; exact aP _ _)
 have b1:W0.cell? ⟨w.heap.size,1,none⟩=some (.slice A N c):=by rw [hW0]; simp [go_sem]
 clear hW0
 go_loopw [5,6] (fun v i wr=>∃ (k:Nat),k≤N∧i = .int .i64 k∧wr.ownsRow W0.heap.size 9 1 v (cu S.data.toList (ds.take k)).length ((cu S.data.toList (ds.take k)).map sv)∧Ext W0 wr) (fun _ i _=>N - (intOf i).toNat)
 case atStart=>exact ⟨0,by omega,rfl,World.ownsRow_nil W0 _ _ 1,Ext.refl _⟩
 case round =>
  obtain ⟨k,hkN,rfl,ho,hx⟩:=hrel
  have HX:=Lib.hid hx
  have b1r:=hx.cell' b1
  have hkd:=Us S.data.toList (ds.take k)
  rw [List.length_take] at hkd
  obtain ⟨n,hn⟩ : ∃ n,n=(cu S.data.toList (ds.take k)).length:=⟨_,rfl⟩
  rw [← hn] at ho hkd
  obtain ⟨Av,cv,rfl,hv1,hv2⟩:=cx ho
  have HNN:=Lib.hid hn
  have HO:=Lib.hid ho
  have hn1:n≤1000:=by omega
  clear hx ho hn hkd
  have i0:(0:Int)≤(k:Int):=by omega
  by_cases hlt:k < N
  ·have i1:(k:Int) < (N:Int):=by omega
   have hkl:k < ds.length:=by have:=HN.out; omega
   have HS:=Lib.hid (RK (p:=S.data.toList) hkl)
   by_cases hS:S=⟨#[]⟩
   ·have hE:S.toList = []:=by rw [hS,ByteArray.toList_eq]
    have HK:=Lib.hid (show cu S.data.toList (ds.take (k + 1))=cu S.data.toList (ds.take k) by rw [hS]; show cu [] _ = cu [] _; rw [DU,DU])
    clear hS
    go_wp2
    go_roundw
    case rel=>exact ⟨k + 1,by omega,by simp,by rw [HK.out,← HNN.out]; exact HO.out,HX.out⟩
    case measure=>simp [intOf]; omega
   ·have hne:S.data.toList≠[]:=fun h=>hS (Yt.2 h)
    have hE : ¬ S.toList = []:=by rw [ByteArray.toList_eq]; exact hne
    have hE2:S.toList.isEmpty=false:=by simp [hE]
    have hE3:(!S.toList.isEmpty)=true:=by simp [hE]
    obtain ⟨g,rfl,hg,hqc⟩:=HC.out (by omega)
    obtain ⟨P,Ac,cc,h1,h2,h3,h4,h5⟩:=(hqc k hkl).ex
    have c0:=(X0.out.trans HX.out).cell h1
    have HPP:=Lib.hid h4
    have hPs:P.size≤1000000000:=by rw [vf,h4]; exact HP.out _ (List.getElem_mem hkl)
    clear hqc h1 h2 h3 h4 h5 hS
    go_wp2_with fail
    (with_reducible refine (Nm P _ hPs).mono ?_)
    rintro e w2 ⟨T,rfl,hT,hTs,rfl⟩
    have HT:=Lib.hid hT
    clear hT
    by_cases hTS:T=S
    ·have HK:=Lib.hid (show cu S.data.toList (ds.take (k + 1))=cu S.data.toList (ds.take k) ++ [P.data.toList] by
      rw [HS.out,WA hne (by rw [← HPP.out,← HT.out,hTS]),HPP.out]; rfl)
     have q1:(T.toList==S.toList)=true:=by rw [hTS]; simp
     clear hTS hne
     go_wp2_with (at_builtin; refine CX _ rfl (.tmp 27) (.tmp 34) 31 31 rfl W0.heap.size 9 j0 (.string ⟨#[]⟩) 16 Tryz.underlying31 hj hy0 hy1 hy2 rfl _ n ((cu S.data.toList (ds.take k)).map sv) rfl (HO.out.alloc _) _ 1 _ rfl ((Rd.one _ _ _ _ _ rfl rfl).src ?c1 Tryz.underlying31) ?c3 ?c4 ?c5 ?_)
     case c1=>first | rfl | (intro u hu; simp at hu; subst hu; rfl)
     case c3=>simp [maxLen]; omega
     case c4=>omega
     case c5=>have h2:=HX.out.size; simp; omega
     intro v' w3 ho3 hg3 _ _
     obtain ⟨y1,y2⟩:=Jv HX.out (aP wr _) HNN.out HO.out (Nat.le_refl _) ho3 hg3
     have Y1:=Lib.hid y1
     have Y2:=Lib.hid y2
     obtain ⟨A3,c3,rfl,_,_⟩:=cx ho3
     clear y1 y2 ho3 hg3
     go_wp2
     go_roundw
     case rel=>exact ⟨k + 1,by omega,by simp,by rw [HK.out]; exact Y1.out,Y2.out⟩
     case measure=>simp [intOf]; omega
    ·have HK:=Lib.hid (show cu S.data.toList (ds.take (k + 1))=cu S.data.toList (ds.take k) by
      rw [HS.out,Yb (by intro e; apply hTS; rw [← HPP.out,← HT.out] at e; cases T; cases S; simp only at e; rw [Array.toList_inj] at e; rw [e])]; simp)
     have q1:(T.toList==S.toList)=false:=XA hTS
     clear hTS hne
     go_wp2
     go_roundw
     case rel=>exact ⟨k + 1,by omega,by simp,by rw [HK.out,← HNN.out]; exact HO.out,HX.out⟩
     case measure=>simp [intOf]; omega
  ·have i1 : ¬ (k:Int) < (N:Int):=by omega
   have HK:=Lib.hid (show cu S.data.toList (ds.take k)=cu S.data.toList ds by rw [List.take_of_length_le (by have:=HN.out; omega)])
   go_wp2
   go_ret
   exact ⟨Av,n,cv,rfl,by rw [← HK.out]; exact HNN.out,by rw [← HK.out]; exact Dw HO.out X0.out.size,X0.out.trans HX.out⟩
theorem yq:∀ (cs:List (Int×Int)) (k:Nat) (a b:Int),k < cs.length→bV (cs.set k (a,b))=((bV cs).set (k * 2) (.int .i64 a)).set (k * 2 + 1) (.int .i64 b)
 | [],k,_,_,h=>by simp at h
 | p::cs,0,a,b,_=>rfl
 | p::cs,k + 1,a,b,h=>by
  have ih:=yq cs k a b (by simpa using h)
  rw [List.set_cons_succ]
  show [Value.int .i64 p.1,.int .i64 p.2] ++ bV (cs.set k (a,b))=((([Value.int .i64 p.1,.int .i64 p.2] ++ bV cs).set ((k + 1) * 2) (.int .i64 a)).set ((k + 1) * 2 + 1) (.int .i64 b))
  rw [ih,show (k + 1) * 2=k * 2 + 1 + 1 by omega]
  rfl
theorem Jp (cs:List (Int×Int)) (k:Nat) (h:k < cs.length) : (bV cs)[k * 2]? = some (.int .i64 cs[k].1)∧(bV cs)[k * 2 + 1]? = some (.int .i64 cs[k].2):=by
 induction cs generalizing k with
 | nil=>simp at h
 | cons p cs ih =>
  cases k with
  | zero=>exact ⟨rfl,rfl⟩
  | succ k =>
   obtain ⟨h1,h2⟩:=ih k (by simpa using h)
   have e:bV (p::cs) = .int .i64 p.1 :: .int .i64 p.2::bV cs:=rfl
   rw [e,show (k + 1) * 2=k * 2 + 1 + 1 by omega]
   exact ⟨h1,h2⟩
theorem tF (qs:List QC) (k:Nat) (q:QC) (h:qs[k]? = some q) : (fR qs)[k * 3]? = some (.string q.p)∧(fR qs)[k * 3 + 1]? = some (.slice q.A q.n q.c)∧(fR qs)[k * 3 + 2]? = some (.int .i64 q.u):=by
 induction qs generalizing k with
 | nil=>simp at h
 | cons p qs ih =>
  have e:fR (p::qs) = .string p.p :: .slice p.A p.n p.c :: .int .i64 p.u::fR qs:=rfl
  cases k with
  | zero =>
   simp at h
   subst h
   exact ⟨rfl,rfl,rfl⟩
  | succ k =>
   obtain ⟨h1,h2,h3⟩:=ih k (by simpa using h)
   rw [e,show (k + 1) * 3=k * 3 + 1 + 1 + 1 by omega]
   exact ⟨h1,h2,h3⟩
def cb (q:QC) : Option Nat:=(Value.slice q.A q.n q.c).ownBlock
def wq (w:World) (B:Nat) (q:QC) (d:QD) : Prop:=q.p.data.toList=d.path∧q.u=d.user∧q.n=d.caps.length∧w.ownsRow B 98 2 (.slice q.A q.n q.c) q.n (bV d.caps)
theorem wq.ext {w w':World} {B:Nat} {q:QC} {d:QD} (h:wq w B q d) (x:Ext w w') : wq w' B q d:=⟨h.1,h.2.1,h.2.2.1,ld h.2.2.2 x⟩
theorem wq.kept {w w':World} {B:Nat} {row:Option Nat} {q:QC} {d:QD} (h:wq w B q d) (x:w.grownBy w' row) (hr:cb q=none∨cb q≠row) : wq w' B q d:=⟨h.1,h.2.1,h.2.2.1,h.2.2.2.kept x hr⟩
structure iV (w:World) (B:Nat) (v:Value) (ds:List QD) (qs:List QC) : Prop where
 row:w.ownsRow B 101 3 v ds.length (fR qs)
 len:qs.length=ds.length
 each:∀ (k:Nat) (q:QC) (h:k < ds.length),qs[k]? = some q→wq w B q ds[k]
 apart:∀ (i j:Nat) (qi qj:QC),i≠j→qs[i]? = some qi→qs[j]? = some qj→∀ g,cb qi=some g→cb qj≠some g
theorem iV.nil (w:World) (B:Nat) : iV w B (.slice none 0 0) [] []:=⟨World.ownsRow_nil w _ _ 3,rfl,fun k _ h=>absurd h (by simp),fun i j qi qj _ h=>by simp at h⟩
theorem iV.ext {w w':World} {B:Nat} {v:Value} {ds:List QD} {qs:List QC} (h:iV w B v ds qs) (x:Ext w w') : iV w' B v ds qs :=
 ⟨ld h.row x,h.len,fun k q hk hq=>(h.each k q hk hq).ext x,h.apart⟩
theorem oU {w:World} {B e e' k n R:Nat} {v:Value} {xs:List Value} {cur:Array Value} {f:Nat×Nat} (h:w.ownsRow B e k v n xs) (hR:w.heap[R]? = some (.cells cur e' f)) (he:e≠e') : v.ownBlock≠some R:=by
 rcases h.2 with ⟨rfl,_⟩ | ⟨g,cap,cur',rfl,_,hg,_⟩
 ·intro e1; cases e1
 ·intro e1
  simp [Value.ownBlock] at e1
  subst e1
  rw [hg] at hR
  injection hR with hR
  injection hR with _ h2
  exact he h2
theorem iV.kept {w w':World} {B R:Nat} {v:Value} {ds:List QD} {qs:List QC} {cur:Array Value} {e':TypeId} {f:Nat×Nat} (h:iV w B v ds qs) (x:w.grownBy w' (some R)) (hR:w.heap[R]? = some (.cells cur e' f)) (h1 : 101≠e') (h2 : 98≠e') : iV w' B v ds qs :=
 ⟨h.row.kept x (.inr (oU h.row hR h1)),h.len,fun k q hk hq=>(h.each k q hk hq).kept x (.inr (oU (h.each k q hk hq).2.2.2 hR h2)),h.apart⟩
theorem iV.rd {w:World} {B:Nat} {v:Value} {ds:List QD} {qs:List QC} (h:iV w B v ds qs) : QAt w v ds:=by
 have hl:=h.len
 rcases h.row.2 with ⟨rfl,h0⟩ | ⟨g,cap,cur,rfl,hb,hg,hc,hm,_⟩
 ·exact ⟨none,0,by rw [h0],by omega,by simp [maxLen],fun hn=>by omega⟩
 ·refine ⟨_,cap,rfl,hc,hm,fun hn=>⟨g,rfl,(Array.getElem?_eq_some_iff.1 hg).1,fun k hk=>?_⟩⟩
  obtain ⟨q,hq⟩ : ∃ q,qs[k]? = some q:=⟨qs[k]'(by omega),by rw [zq]⟩
  obtain ⟨h1,h2,h3,h4⟩:=h.each k q hk hq
  obtain ⟨c1,c2,c3⟩:=tF qs k q hq
  have hat:=fun j (hj:j < ds.length * 3)=>h.row.cellAt j hj
  refine ⟨q.p,q.A,q.c,?_,?_,?_,h1,?_⟩
  ·rw [hat _ (by omega)]; exact c1
  ·rw [hat _ (by omega),← h3]; exact c2
  ·rw [hat _ (by omega),← h2]; exact c3
  ·rw [← h3]; exact RdK.of_own h4
theorem iV.snoc {w V w4:World} {B:Nat} {v v':Value} {ds:List QD} {qs:List QC} {q:QC} {d:QD} (h:iV w B v ds qs) (x:Ext w V) (hq:wq V B q d) (hnew:∀ g,cb q=some g→∀ (i:Nat) (qi:QC),qs[i]? = some qi→cb qi≠some g)
  (hown:w4.ownsRow B 101 3 v' (ds.length + 1) (fR qs++KH q)) (hg:V.grownBy w4 v.ownBlock) : iV w4 B v' (ds ++ [d]) (qs ++ [q]):=by
 have hx:=h.ext x
 have hne:∀ q' d',wq V B q' d'→cb q' = none∨cb q'≠v.ownBlock:=fun q' d' h'=>XX h'.2.2.2 hx.row (by decide)
 refine ⟨by rw [List.length_append,List.length_singleton,KI]; exact hown,by simp [h.len],fun k q' hk hq'=>?_,fun i j qi qj hij hi hj g hgi=>?_⟩
 ·rw [List.length_append,List.length_singleton] at hk
  by_cases hlt:k < ds.length
  ·rw [List.getElem?_append_left (by rw [h.len]; exact hlt)] at hq'
   rw [List.getElem_append_left hlt]
   exact (hx.each k q' hlt hq').kept hg (hne _ _ (hx.each k q' hlt hq'))
  ·obtain rfl:k=ds.length:=by omega
   rw [List.getElem?_append_right (by rw [h.len]; exact Nat.le_refl _),h.len] at hq'
   simp at hq'
   subst hq'
   rw [List.getElem_append_right (Nat.le_refl _)]
   simp only [Nat.sub_self,List.getElem_cons_zero]
   exact hq.kept hg (hne _ _ hq)
 ·by_cases h1:i < qs.length
  ·rw [List.getElem?_append_left h1] at hi
   by_cases h2:j < qs.length
   ·rw [List.getElem?_append_left h2] at hj
    exact h.apart i j qi qj hij hi hj g hgi
   ·rw [List.getElem?_append_right (by omega)] at hj
    have h3:j - qs.length=0:=by
     have:=(zg.1 hj).1
     simp at this; omega
    rw [h3] at hj
    simp at hj
    subst hj
    intro e
    exact hnew g e i qi hi hgi
  ·rw [List.getElem?_append_right (by omega)] at hi
   have h3:i - qs.length=0:=by
    have:=(zg.1 hi).1
    simp at this; omega
   rw [h3] at hi
   simp at hi
   subst hi
   by_cases h2:j < qs.length
   ·rw [List.getElem?_append_left h2] at hj
    exact hnew g hgi j qj hj
   ·exfalso
    have:=(zg.1 hj).1
    simp at this
    omega
def IJ (ds:List QD) (m k:Nat) (a b:Int) : List QD:=ds.modify m fun q=>⟨q.path,q.caps.set k (a,b),q.user⟩
theorem qF (ds:List QD) (m k:Nat) (a b:Int) : (IJ ds m k a b).length=ds.length:=by simp [IJ]
theorem iV.put {w:World} {B:Nat} {v:Value} {ds:List QD} {qs:List QC} (h:iV w B v ds qs) {m k:Nat} (hm:m < ds.length) (hk:k < (ds[m]).caps.length) :
  ∃ gq cq g c,v = .slice (some ⟨gq,0,none⟩) ds.length cq∧w.cell? ⟨gq,m * 3 + 1,none⟩=some (.slice (some ⟨g,0,none⟩) (ds[m]).caps.length c)∧B≤g∧g < w.heap.size∧(∃ cur,w.heap[g]? = some (.cells cur 98 (0,0))) ∧
   (∀ j,w.frozen? ⟨g,j,none⟩=false)∧w.cell? ⟨g,k * 2,none⟩=some (.int .i64 ((ds[m]).caps[k]).1)∧w.cell? ⟨g,k * 2 + 1,none⟩=some (.int .i64 ((ds[m]).caps[k]).2) ∧
   ∀ a b,iV ((w.setCell ⟨g,k * 2,none⟩ (.int .i64 a)).setCell ⟨g,k * 2 + 1,none⟩ (.int .i64 b)) B v (IJ ds m k a b) qs∧w.grownBy ((w.setCell ⟨g,k * 2,none⟩ (.int .i64 a)).setCell ⟨g,k * 2 + 1,none⟩ (.int .i64 b)) (some g):=by
 have hl:=h.len
 obtain ⟨q,hq⟩ : ∃ q,qs[m]? = some q:=⟨qs[m]'(by omega),by rw [zq]⟩
 obtain ⟨h1,h2,h3,h4⟩:=h.each m q hm hq
 rcases h.row.2 with ⟨_,h0⟩ | ⟨gq,cq,cur,rfl,hb,hg,hc,hmx,_⟩
 ·omega
 rcases h4.2 with ⟨_,h0⟩ | ⟨g,c,cur',ev,hb',hg',hc',hm',_⟩
 ·omega
 injection ev with eA eN eC
 have h4':w.ownsRow B 98 2 (.slice (some ⟨g,0,none⟩) q.n q.c) q.n (bV ds[m].caps):=by rw [← eA]; exact h4
 have hcq:cb q=some g:=by unfold cb; rw [eA]; rfl
 have hcell:=h.row.cellAt (m * 3 + 1) (by omega)
 rw [(tF qs m q hq).2.1,h3,eA] at hcell
 obtain ⟨k1,k2⟩:=Jp ds[m].caps k hk
 have c1:=h4'.cellAt (k * 2) (by omega)
 have c2:=h4'.cellAt (k * 2 + 1) (by omega)
 rw [k1] at c1
 rw [k2] at c2
 refine ⟨gq,cq,g,q.c,rfl,hcell,hb',(Array.getElem?_eq_some_iff.1 hg').1,⟨cur',hg'⟩,h4'.frozenAt,c1,c2,fun a b=>?_⟩
 have hgr:w.grownBy ((w.setCell ⟨g,k * 2,none⟩ (.int .i64 a)).setCell ⟨g,k * 2 + 1,none⟩ (.int .i64 b)) (some g) :=
  ⟨rfl,rfl,rfl,by simp [World.setCell],fun i _ hi=>(Below.heap_setCell _ _ _ _ (fun e=>hi (by rw [e]))).trans (Below.heap_setCell _ _ _ _ (fun e=>hi (by rw [e])))⟩
 have st:=(h4'.stored (k * 2) (.int .i64 a)).1.stored (k * 2 + 1) (.int .i64 b)
 rw [← yq _ _ _ _ hk] at st
 refine ⟨⟨?_,by rw [qF]; exact hl,fun i q' hi hq'=>?_,h.apart⟩,hgr⟩
 ·rw [qF]
  exact h.row.kept hgr (.inr (oU h.row hg' (by decide)))
 ·rw [qF] at hi
  simp only [IJ,List.getElem_modify]
  by_cases him:m=i
  ·subst him
   rw [hq] at hq'
   injection hq' with hq'
   subst hq'
   rw [if_pos rfl]
   refine ⟨h1,h2,by simpa using h3,?_⟩
   rw [eA]
   exact st.1
  ·rw [if_neg him]
   exact (h.each i q' hi hq').kept hgr (.inr fun e=>h.apart m i q q' him hq hq' g hcq e)
def TO:Tx:=[114,111,111,116]
def mu:Nat→List Tx
 | 0=>[[114,111,111,116]]
 | 1=>[[114,111,111,116],[114,111,111,116,46,97],[114,111,111,116,46,98]]
 | 2=>[[114,111,111,116],[114,111,111,116,46,97],[114,111,111,116,46,97,46,120],[114,111,111,116,46,97,46,121],[114,111,111,116,46,98]]
 | 3=>[[114,111,111,116],[114,111,111,116,46,97],[114,111,111,116,46,98],[114,111,111,116,46,98,46,120],[114,111,111,116,46,98,46,120,46,112],[114,111,111,116,46,98,46,120,46,113],[114,111,111,116,46,99]]
 | _=>[[114,111,111,116],[114,111,111,116,46,97]]
def gpu:Tx:=[103,112,117]
def B9 (nl:Nat) : List Tx:=([[],gpu] : List Tx).take nl
theorem qn {nl:Nat} (h:nl≤2) : (B9 nl).length=nl:=by simp [B9]; omega
theorem Kq (y:Nat) : (mu y).length≤7:=by
 unfold mu
 split <;> decide
theorem Kp (y:Nat) : ∀ p∈mu y,p.length≤11:=by
 unfold mu
 split <;> decide
theorem M6 (y:Nat) : (mu y).Nodup:=by
 unfold mu
 split <;> decide
def Bu (p:Tx) (ps:List Tx) : List Tx:=ps.filter fun x=>decide (p≠[])&&decide (above x=p)
theorem DV (p:Tx) (ds:List QD) : cu p ds=Bu p (ds.map (·.path)):=by
 unfold cu Bu
 rw [List.filter_map]
 rfl
def qO:Int×Int:=(10000,10000)
structure G1 (nl:Nat) (ps:List Tx) (k:Nat) (ds:List QD) : Prop where
 paths:ds.map (·.path)=ps.take k
 each:∀ q∈ds,q.caps=List.replicate nl qO∧1≤q.user∧q.user≤1000000
theorem G1.nil (nl:Nat) (ps:List Tx) : G1 nl ps 0 []:=⟨rfl,by simp⟩
theorem G1.snoc {nl k:Nat} {ps:List Tx} {ds:List QD} (h:G1 nl ps k ds) (hk:k < ps.length) {u:Int} (h1 : 1≤u) (h2:u≤1000000) : G1 nl ps (k + 1) (ds ++ [⟨ps[k],List.replicate nl qO,u⟩]):=by
 refine ⟨?_,fun q hq=>?_⟩
 ·rw [List.map_append,h.paths,List.take_succ_eq_append_getElem hk]; rfl
 ·rcases List.mem_append.1 hq with hq | hq
  ·exact h.each q hq
  ·simp at hq; subst hq; exact ⟨rfl,h1,h2⟩
def Zn (c:Int×Int) : Prop:=0≤c.1∧c.1≤c.2∧c.2≤10000
structure Gd (nl:Nat) (ps:List Tx) (ds:List QD) : Prop where
 paths:ds.map (·.path)=ps
 each:∀ q∈ds,q.caps.length=nl∧1≤q.user∧q.user≤1000000∧∀ c∈q.caps,Zn c
 root:∀ q∈ds,q.path=TO→q.caps=List.replicate nl qO
theorem Gd.len {nl:Nat} {ps:List Tx} {ds:List QD} (h:Gd nl ps ds) : ds.length=ps.length:=by
 have:=congrArg List.length h.paths
 simpa using this
def GX (k:Nat) (q:QD) : Int:=(q.caps.getD k (0,0)).1
def Ny (k:Nat) (l:List QD) : Int:=(l.map (GX k)).sum
def mJ (p:Tx) (ds:List QD) : List QD:=ds.filter (lm p)
theorem tS (p:Tx) (ds:List QD) : (mJ p ds).length=(cu p ds).length:=by simp [mJ,cu]
def Xj (k:Nat) (p:Tx) (ds:List QD) : Prop:=mJ p ds≠[]→Ny k (mJ p ds)=10000
structure GI (nl:Nat) (ps:List Tx) (i:Nat) (ds:List QD) : Prop where
 gd:Gd nl ps ds
 done:∀ i' (h:i' < ps.length),i' < i→∀ k,k < nl→Xj k ps[i'] ds
structure GK (nl:Nat) (ps:List Tx) (i k:Nat) (ds:List QD) : Prop where
 gi:GI nl ps i ds
 part:∀ h:i < ps.length,∀ k',k' < k→Xj k' ps[i] ds
structure GJ (nl:Nat) (ps:List Tx) (i k j:Nat) (left:Int) (ds:List QD) : Prop where
 gk:GK nl ps i k ds
 lo : 0≤left
 hi:left≤10000
 sum:∀ h:i < ps.length,Ny k ((mJ ps[i] ds).take j)=10000 - left
 last:∀ h:i < ps.length,0 < j→j=(mJ ps[i] ds).length→left=0
def qc (p:Tx) (k:Nat) (a b:Int) (q:QD) : QD:=if q.path=p then ⟨q.path,q.caps.set k (a,b),q.user⟩ else q
def iJ (p:Tx) (k:Nat) (a b:Int) (ds:List QD) : List QD:=ds.map (qc p k a b)
def eU (p:Tx) (k:Nat) (a b:Int) (ds:List QD) (m:Nat) : List QD:=(ds.take m).map (qc p k a b)++ds.drop m
theorem De (p:Tx) (k:Nat) (a b:Int) (ds:List QD) : eU p k a b ds 0=ds:=by simp [eU]
theorem GM (p:Tx) (k:Nat) (a b:Int) (ds:List QD) : eU p k a b ds ds.length=iJ p k a b ds:=by simp [eU,iJ]
theorem gN (p:Tx) (k:Nat) (a b:Int) (ds:List QD) (m:Nat) : (eU p k a b ds m).length=ds.length:=by simp [eU]; omega
theorem zT (p:Tx) (k:Nat) (a b:Int) (ds:List QD) (m:Nat) (hm:m < ds.length) (h:m < (eU p k a b ds m).length) : (eU p k a b ds m)[m] = ds[m]:=by
 have h2:(eU p k a b ds m)[m]? = ds[m]? := by
  unfold eU
  rw [List.getElem?_append_right (by simp; omega),List.getElem?_drop]
  congr 1
  simp
  omega
 rw [zq h,zq hm] at h2
 injection h2
theorem zX (p:Tx) (k:Nat) (a b:Int) (q:QD) : (qc p k a b q).path=q.path:=by unfold qc; split <;> rfl
theorem Ru (p:Tx) (k:Nat) (a b:Int) (q:QD) : (qc p k a b q).caps.length=q.caps.length:=by unfold qc; split <;> simp
theorem GP (p:Tx) (k:Nat) (a b:Int) (q:QD) : (qc p k a b q).user=q.user:=by unfold qc; split <;> rfl
theorem II {p:Tx} {k:Nat} {a b:Int} {q:QD} (h:q.path≠p) : qc p k a b q=q:=by unfold qc; rw [if_neg h]
theorem Ky {p:Tx} {k:Nat} {a b:Int} {ds:List QD} {m:Nat} (hm:m < ds.length) (h:ds[m].path≠p) : eU p k a b ds (m + 1)=eU p k a b ds m:=by
 unfold eU
 rw [List.take_succ_eq_append_getElem hm,List.map_append,List.drop_eq_getElem_cons hm]
 simp [II h]
theorem DH {α : Type} : ∀ (l:List α) (x : α) (r:List α) (f : α→α) (n:Nat),l.length=n→(l++x::r).modify n f=l++f x::r
 | [],x,r,f,_,h=>by subst h; rfl
 | y::l,x,r,f,n,h=>by
  subst h
  simp only [List.cons_append,List.length_cons,List.modify_succ_cons]
  rw [DH l x r f _ rfl]
theorem GL {p:Tx} {k:Nat} {a b:Int} {ds:List QD} {m:Nat} (hm:m < ds.length) (h:ds[m].path=p) : eU p k a b ds (m + 1)=(eU p k a b ds m).modify m (fun q=>⟨q.path,q.caps.set k (a,b),q.user⟩):=by
 have hl:((ds.take m).map (qc p k a b)).length=m:=by simp; omega
 unfold eU
 rw [List.take_succ_eq_append_getElem hm,List.map_append,List.append_assoc]
 conv=>rhs; rw [List.drop_eq_getElem_cons hm]
 rw [DH _ _ _ _ _ hl]
 simp [qc,h]
theorem G1.start {nl:Nat} {ps:List Tx} {ds:List QD} (h:G1 nl ps ps.length ds) : GI nl ps 0 ds:=by
 refine ⟨⟨by rw [h.paths,List.take_length],fun q hq=>?_,fun q hq _=>(h.each q hq).1⟩,fun _ _ h=>by omega⟩
 obtain ⟨h1,h2,h3⟩:=h.each q hq
 refine ⟨by rw [h1]; simp,h2,h3,fun c hc=>?_⟩
 rw [h1] at hc
 have:=List.eq_of_mem_replicate hc
 subst this
 exact ⟨by decide,by decide,by decide⟩
theorem GI.toK {nl i:Nat} {ps:List Tx} {ds:List QD} (h:GI nl ps i ds) : GK nl ps i 0 ds:=⟨h,fun _ _ h=>by omega⟩
theorem GK.toJ {nl i k:Nat} {ps:List Tx} {ds:List QD} (h:GK nl ps i k ds) : GJ nl ps i k 0 10000 ds:=⟨h,by omega,by omega,fun _=>by simp [Ny],fun _ h=>by omega⟩
theorem GJ.end {nl i k j:Nat} {left:Int} {ps:List Tx} {ds:List QD} (h:GJ nl ps i k j left ds) (hj:∀ h:i < ps.length,j=(cu ps[i] ds).length) : GK nl ps i (k + 1) ds:=by
 refine ⟨h.gk.gi,fun hi k' hk' hne=>?_⟩
 rcases Nat.lt_or_ge k' k with h1 | h1
 ·exact h.gk.part hi k' h1 hne
 ·obtain rfl:k' = k:=by omega
  have h2:=hj hi
  rw [← tS] at h2
  have h3:=h.sum hi
  have h4:=h.last hi (by
   have:(mJ ps[i] ds).length≠0:=fun e=>hne (List.eq_nil_of_length_eq_zero e)
   omega) h2
  rw [h2,List.take_length] at h3
  omega
theorem GK.end {nl i:Nat} {ps:List Tx} {ds:List QD} (h:GK nl ps i nl ds) : GI nl ps (i + 1) ds:=by
 refine ⟨h.gi.gd,fun i' hi' hlt k hk=>?_⟩
 rcases Nat.lt_or_ge i' i with h1 | h1
 ·exact h.gi.done i' hi' h1 k hk
 ·obtain rfl:i' = i:=by omega
  exact h.part hi' k hk
theorem KT {α : Type} {l:List α} (h:l.Nodup) {i j:Nat} (hi:i < l.length) (hj:j < l.length) (e:l[i] = l[j]) : i=j:=by
 rcases Nat.lt_trichotomy i j with h1 | h1 | h1
 ·exact absurd e (List.pairwise_iff_getElem.1 h i j hi hj h1)
 ·exact h1
 ·exact absurd e.symm (List.pairwise_iff_getElem.1 h j i hj hi h1)
theorem FW {p:Tx} {k k':Nat} {a b:Int} {q:QD} (h:k'≠k) : GX k' (qc p k a b q)=GX k' q:=by
 unfold qc GX
 split
 ·simp only [List.getD_eq_getElem?_getD]
  rw [List.getElem?_set_ne (by omega)]
 ·rfl
theorem Dp {p:Tx} {k:Nat} {a b:Int} {q:QD} (h:q.path=p) (hk:k < q.caps.length) : GX k (qc p k a b q)=a:=by
 unfold qc GX
 rw [if_pos h]
 simp only [List.getD_eq_getElem?_getD]
 rw [List.getElem?_set_self (by simpa using hk)]
 rfl
theorem ND (pp p:Tx) (k:Nat) (a b:Int) (q:QD) : lm pp (qc p k a b q)=lm pp q:=by unfold lm; rw [zX]
theorem yf (pp p:Tx) (k:Nat) (a b:Int) (ds:List QD) : mJ pp (iJ p k a b ds)=(mJ pp ds).map (qc p k a b):=by
 unfold mJ iJ
 rw [List.filter_map]
 congr 1
 apply List.filter_congr
 intro q _
 exact ND pp p k a b q
theorem Ww {p:Tx} {k k':Nat} {a b:Int} (l:List QD) (h:k'≠k) : Ny k' (l.map (qc p k a b))=Ny k' l:=by
 unfold Ny
 rw [List.map_map]
 congr 1
 apply List.map_congr_left
 intro q _
 exact FW h
theorem Br {p:Tx} {k:Nat} {a b:Int} (l:List QD) (h:∀ q∈l,q.path≠p) : l.map (qc p k a b)=l:=by
 conv=>rhs; rw [← List.map_id l]
 apply List.map_congr_left
 intro q hq
 exact II (h q hq)
theorem wT {pp:Tx} {ds:List QD} {q:QD} (h:q∈mJ pp ds) : above q.path=pp∧pp≠[]:=by
 unfold mJ at h
 have:=(List.mem_filter.1 h).2
 simp [lm] at this
 exact ⟨this.2,this.1⟩
theorem Gd.set {nl k:Nat} {p:Tx} {n mo:Int} {ps:List Tx} {ds:List QD} (h:Gd nl ps ds) (hp:p≠TO) (h0 : 0≤n) (h2:n≤mo) (h3:mo≤10000) : Gd nl ps (iJ p k n mo ds):=by
 refine ⟨?_,fun q hq=>?_,fun q hq hr=>?_⟩
 ·unfold iJ
  rw [List.map_map,← h.paths]
  apply List.map_congr_left
  intro q _
  exact zX _ _ _ _ _
 ·unfold iJ at hq
  obtain ⟨q',hq',rfl⟩:=List.mem_map.1 hq
  obtain ⟨h4,h5,h6,h7⟩:=h.each q' hq'
  refine ⟨by rw [Ru]; exact h4,by rw [GP]; exact h5,by rw [GP]; exact h6,fun c hc=>?_⟩
  unfold qc at hc
  split at hc
  ·rcases List.mem_or_eq_of_mem_set hc with hc | hc
   ·exact h7 c hc
   ·subst hc; exact ⟨h0,h2,h3⟩
  ·exact h7 c hc
 ·unfold iJ at hq
  obtain ⟨q',hq',rfl⟩:=List.mem_map.1 hq
  rw [zX] at hr
  rw [II (by rw [hr]; exact fun e=>hp e.symm)]
  exact h.root q' hq' hr
theorem GJ.step {nl i k j:Nat} {left n mo:Int} {ps:List Tx} {ds:List QD} (h:GJ nl ps i k j left ds) (hps:ps.Nodup) (hi:i < ps.length) (hj:j < (cu ps[i] ds).length) (hk:k < nl) (h0 : 0≤n) (h1:n≤left) (hlast:j + 1=(cu ps[i] ds).length→n=left) (h2:n≤mo) (h3:mo≤10000) :
  GJ nl ps i k (j + 1) (left - n) (iJ ((cu ps[i] ds)[j]) k n mo ds):=by
 have hgd:=h.gk.gi.gd
 have hjl:j < (mJ ps[i] ds).length:=by rw [tS]; exact hj
 obtain ⟨p,hp⟩ : ∃ p,p=(cu ps[i] ds)[j]:=⟨_,rfl⟩
 have hpp:(mJ ps[i] ds)[j].path=p:=by rw [hp]; simp [cu,mJ]
 have hmem:(mJ ps[i] ds)[j]∈mJ ps[i] ds:=List.getElem_mem hjl
 have hab:above p=ps[i]:=by rw [← hpp]; exact (wT hmem).1
 have hne0:ps[i]≠[]:=(wT hmem).2
 have hroot:p≠TO:=by
  intro e
  rw [e] at hab
  exact hne0 (hab.symm.trans (by decide))
 rw [← hp]
 have hnd:((mJ ps[i] ds).map (·.path)).Nodup:=by
  unfold mJ
  have h5:(ds.map (·.path)).Nodup:=by rw [hgd.paths]; exact hps
  exact List.Nodup.sublist (List.Sublist.map _ List.filter_sublist) h5
 have other:∀ i' (hi':i' < ps.length),i'≠i→mJ ps[i'] (iJ p k n mo ds)=mJ ps[i'] ds:=by
  intro i' hi' hne
  rw [yf,Br]
  intro q hq e
  have:=(wT hq).1
  rw [e,hab] at this
  exact hne (KT hps hi' hi this.symm)
 have hcap:k < ((mJ ps[i] ds)[j]).caps.length:=by
  have:(mJ ps[i] ds)[j]∈ds:=(List.mem_filter.1 hmem).1
  rw [(hgd.each _ this).1]; exact hk
 have before:((mJ ps[i] ds).take j).map (qc p k n mo)=(mJ ps[i] ds).take j:=by
  apply Br
  intro q hq e
  obtain ⟨j',hj',e2⟩:=List.mem_iff_getElem.1 hq
  rw [List.length_take] at hj'
  rw [List.getElem_take] at e2
  have e3:((mJ ps[i] ds).map (·.path))[j']'(by simp; omega)=((mJ ps[i] ds).map (·.path))[j]'(by simpa using hjl):=by
   simp only [List.getElem_map]
   rw [e2,e,hpp]
  have:=KT hnd _ _ e3
  omega
 refine ⟨⟨⟨hgd.set hroot h0 h2 h3,fun i' hi' hlt k' hk'=>?_⟩,fun _ k' hk'=>?_⟩,by omega,by have:=h.hi; omega,fun _=>?_,fun _ _ hjj=>?_⟩
 ·unfold Xj
  rw [other i' hi' (by omega)]
  exact h.gk.gi.done i' hi' hlt k' hk'
 ·unfold Xj
  rw [yf,Ww _ (by omega)]
  intro hne
  exact h.gk.part hi k' hk' (fun e=>hne (by rw [e]; rfl))
 ·rw [yf,← List.map_take,List.take_succ_eq_append_getElem hjl,List.map_append,before]
  have hs:=h.sum hi
  unfold Ny at hs ⊢
  rw [List.map_append,List.sum_append,hs]
  simp only [List.map_cons,List.map_nil,List.sum_cons,List.sum_nil]
  rw [Dp hpp hcap]
  omega
 ·rw [yf,List.length_map,tS] at hjj
  rw [hlast hjj]
  omega
def gw (v_l:(List ByteArray)) (v_s:aa) (af:Int) (st:(List ByteArray)) (v_i:Int) (x_:ByteArray) : Option (((List ByteArray))⊕(((List ByteArray)×Int))) :=
 let ak:=st
 let v_k:Int:=0
 (ah (jm ak v_s v_i v_l af) ac v_k).bind fun r13 =>
 let v_k:=r13
 (hiO ak v_k).bind fun b14=>(aW ([] : (List ByteArray)) b14).bind fun b15=>let v_x:(List ByteArray):=b15
 (aW v_x [x_]).bind fun b16=>let v_x:(List ByteArray):=b16
 (loO ak v_k).bind fun b17=>(aW v_x b17).bind fun b18=>let ak:(List ByteArray):=b18
 some (.inl ak)
theorem zj (v_l:(List ByteArray)) (v_s:aa) (af:Int) (a_:(List ByteArray)) (hl:v_l.length≤1000000) : ah (lX v_l v_s af) ac (a_,(0))=nC (gw v_l v_s af) (fun a_=>(a_,((v_l.length:Int)))) a_ 0 v_l :=
 fa v_l (S:=(List ByteArray)×Int) (fun a_ k_=>(a_,(k_))) (gw v_l v_s af) (fun a_=>(a_,((v_l.length:Int)))) (an hl) (fun k a x hx=>by
  unfold lX gw; exact bE)
  (fun a=>by unfold lX; exact cA) a_
def gy (v_s:aa) (ow:ByteArray) (st:(List az)) (x_:az) : Option (((List az))⊕(((List az)×Int))) :=
 let ak:=st
 let v_a:az:=x_
 (dD v_a).bind fun c12=>(if (!c12)=true then some true else some (!(v_a.bO.toList==ow.toList))).bind fun q13=>if q13=true then
 some (.inl ak)
 else
 let v_k:Int:=0
 (ah (jn ak v_a) ac v_k).bind fun r14 =>
 let v_k:=r14
 (hiO ak v_k).bind fun b15=>(aW ([] : (List az)) b15).bind fun b16=>let v_x:(List az):=b16
 (aW v_x [v_a]).bind fun b17=>let v_x:(List az):=b17
 (loO ak v_k).bind fun b18=>(aW v_x b18).bind fun b19=>let ak:(List az):=b19
 some (.inl ak)
theorem zn (v_s:aa) (ow:ByteArray) (a_:(List az)) (hl:v_s.ao.length≤1000000) : ah (lZ v_s ow) ac (a_,(0))=bl (gy v_s ow) (fun a_=>(a_,((v_s.ao.length:Int)))) a_ v_s.ao :=
 ax v_s.ao (S:=(List az)×Int) (fun a_ k_=>(a_,(k_))) (gy v_s ow) (fun a_=>(a_,((v_s.ao.length:Int)))) (an hl) (fun k a x hx=>by
  unfold lZ gy; exact bE)
  (fun a=>by unfold lZ; exact cA) a_
def gx (ak:(List az)) (st:(List Int)) (x_:az) : Option (((List Int))⊕(((List Int)×Int))) :=
 let v_l:=st
 (aW v_l [x_.fId]).bind fun b15=>let v_l:(List Int):=b15
 some (.inl v_l)
theorem zl (ak:(List az)) (a_:(List Int)) (hl:ak.length≤1000000) : ah (lY ak) ac (a_,(0))=bl (gx ak) (fun a_=>(a_,((ak.length:Int)))) a_ ak :=
 ax ak (S:=(List Int)×Int) (fun a_ k_=>(a_,(k_))) (gx ak) (fun a_=>(a_,((ak.length:Int)))) (an hl) (fun k a x hx=>by
  unfold lY gx; exact bE)
  (fun a=>by unfold lY; exact cA) a_
def iR (iW:(List ByteArray)) (au:ByteArray) (st:Unit) (x_:ByteArray) : Option ((Unit)⊕((Int)⊕(Bool))) :=
 if (x_.toList==au.toList)=true then
 some (.inr (.inr true))
 else
 some (.inl ())
theorem xp (iW:(List ByteArray)) (au:ByteArray) (a_:Unit) (hl:iW.length≤1000000) : ah (kt iW au) ac (0)=bl (iR iW au) (fun a_=>(.inl ((iW.length:Int)))) a_ iW :=
 ax iW (S:=Int) (fun a_ k_=>(k_)) (iR iW au) (fun a_=>(.inl ((iW.length:Int)))) (an hl) (fun k a x hx=>by
  unfold kt iR; exact bE)
  (fun a=>by unfold kt; exact cA) a_
def gz (v_s:aa) (af:Int) (au:ByteArray) (xJ:Bool) (mr:Int) (st:av) (x_:ai) : Option ((av)⊕((av×Int))) :=
 let v_v:=st
 (dE v_s x_.bz).bind fun c11=>let v_a:az:=c11.1
 let bK:Bool:=c11.2
 (if bK=true then some (x_.a8==af) else some false).bind fun q12=>(if q12=true then (mY v_a.bO au).bind fun c13=>some c13 else some false).bind fun q14=>(if q14=true then (if xJ=true then some true else some (v_a.eh==mr)).bind fun q15=>some q15 else some false).bind fun q16=>if q16=true then
 (cX v_v x_.bu).bind fun c17=>let v_v:av:=c17
 some (.inl v_v)
 else
 some (.inl v_v)
theorem zp (v_s:aa) (af:Int) (au:ByteArray) (xJ:Bool) (mr:Int) (a_:av) (hl:v_s.ab.length≤1000000) : ah (l5 v_s af au xJ mr) ac (a_,(0))=bl (gz v_s af au xJ mr) (fun a_=>(a_,((v_s.ab.length:Int)))) a_ v_s.ab :=
 ax v_s.ab (S:=av×Int) (fun a_ k_=>(a_,(k_))) (gz v_s af au xJ mr) (fun a_=>(a_,((v_s.ab.length:Int)))) (an hl) (fun k a x hx=>by
  unfold l5 gz; exact bE)
  (fun a=>by unfold l5; exact cA) a_
def d8 (v_s:aa) (af:Int) (au:ByteArray) (st:av) (x_:az) : Option ((av)⊕((av×Int))) :=
 let v_v:=st
 (dD x_).bind fun c9=>(if c9=true then (mY x_.bO au).bind fun c10=>some c10 else some false).bind fun q11=>if q11=true then
 (kE x_.bQ af).bind fun c12=>(cX v_v c12).bind fun c13=>let v_v:av:=c13
 some (.inl v_v)
 else
 some (.inl v_v)
theorem uG (v_s:aa) (af:Int) (au:ByteArray) (a_:av) (hl:v_s.ao.length≤1000000) : ah (iT v_s af au) ac (a_,(0))=bl (d8 v_s af au) (fun a_=>(a_,((v_s.ao.length:Int)))) a_ v_s.ao :=
 ax v_s.ao (S:=av×Int) (fun a_ k_=>(a_,(k_))) (d8 v_s af au) (fun a_=>(a_,((v_s.ao.length:Int)))) (an hl) (fun k a x hx=>by
  unfold iT d8; exact bE)
  (fun a=>by unfold iT; exact cA) a_
def gA (iW:(List ByteArray)) (v_s:aa) (af:Int) (rS:av) (st:Unit) (x_:ByteArray) : Option ((Unit)⊕((Int)⊕(Bool))) :=
 (eO v_s x_ af).bind fun c14=>(cX c14 rS).bind fun c15=>let v_v:av:=c15
 (vk v_s x_ af).bind fun c16=>(fL v_v c16).bind fun c17=>if (!c17)=true then
 some (.inr (.inr false))
 else
 (if (x_.toList==(⟨#[114,111,111,116]⟩ : ByteArray).toList)=true then (jc v_s af).bind fun c18=>(sF v_s af).bind fun c19=>(vp c18 c19).bind fun c20=>(fL v_v c20).bind fun c21=>some (!c21) else some false).bind fun q22=>if q22=true then
 some (.inr (.inr false))
 else
 some (.inl ())
theorem zu (iW:(List ByteArray)) (v_s:aa) (af:Int) (rS:av) (a_:Unit) (hl:iW.length≤1000000) : ah (l6 iW v_s af rS) ac (0)=bl (gA iW v_s af rS) (fun a_=>(.inl ((iW.length:Int)))) a_ iW :=
 ax iW (S:=Int) (fun a_ k_=>(k_)) (gA iW v_s af rS) (fun a_=>(.inl ((iW.length:Int)))) (an hl) (fun k a x hx=>by
  unfold l6 gA; exact bE)
  (fun a=>by unfold l6; exact cA) a_
def jb (v_l:(List aJ)) (v_a:aJ) (st:(List aJ)×Bool) (x_:aJ) : Option (((List aJ)×Bool)⊕(((List aJ)×Bool×Int))) :=
 let ak:=st.1
 let cn:=st.2
 (if (!cn)=true then some (decide (x_.bD > v_a.bD)) else some false).bind fun q8=>(if q8=true then
 (aW ak [v_a]).bind fun b10=>let ak:(List aJ):=b10
 let cn:Bool:=true
 some (ak,cn)
 else
 some (ak,cn)).bind fun j9=>let ak:=j9.1
 let cn:=j9.2
 if (x_.bD != v_a.bD)=true then
 (aW ak [x_]).bind fun b11=>let ak:(List aJ):=b11
 some (.inl (ak,cn))
 else
 some (.inl (ak,cn))
theorem Ce (v_l:(List aJ)) (v_a:aJ) (a_:(List aJ)×Bool) (hl:v_l.length≤1000000) : ah (lx v_l v_a) ac (a_.1,a_.2,(0))=bl (jb v_l v_a) (fun a_=>(a_.1,a_.2,((v_l.length:Int)))) a_ v_l :=
 ax v_l (S:=(List aJ)×Bool×Int) (fun a_ k_=>(a_.1,a_.2,(k_))) (jb v_l v_a) (fun a_=>(a_.1,a_.2,((v_l.length:Int)))) (an hl) (fun k a x hx=>by
  unfold lx jb; exact bE)
  (fun a=>by unfold lx; exact cA) a_
def ly (v_l:(List aJ)) (cC:Int) (st:Unit) (x_:aJ) : Option ((Unit)⊕((Int)⊕(aJ×Bool))) :=
 if (x_.bD==cC)=true then
 some (.inr (.inr (x_,true)))
 else
 some (.inl ())
theorem Cf (v_l:(List aJ)) (cC:Int) (a_:Unit) (hl:v_l.length≤1000000) : ah (lz v_l cC) ac (0)=bl (ly v_l cC) (fun a_=>(.inl ((v_l.length:Int)))) a_ v_l :=
 ax v_l (S:=Int) (fun a_ k_=>(k_)) (ly v_l cC) (fun a_=>(.inl ((v_l.length:Int)))) (an hl) (fun k a x hx=>by
  unfold lz ly; exact bE)
  (fun a=>by unfold lz; exact cA) a_
def ic (v_l:(List aJ)) (cC:Int) (st:Bool×(List aJ)) (x_:aJ) : Option ((Bool×(List aJ))⊕((Bool×(List aJ)×Int))) :=
 let bK:=st.1
 let ak:=st.2
 let v_a:aJ:=x_
 if (v_a.bD==cC)=true then
 let bK:Bool:=true
 let t6:Int:=(i64.wrap (v_a.ja - 1))
 let t7:Int:=0
 let v_a:aJ:={ v_a with ja:=t6 }
 let v_a:aJ:={ v_a with ke:=t7 }
 if (decide (v_a.ja≤0))=true then
 some (.inl (bK,ak))
 else
 (aW ak [v_a]).bind fun b8=>let ak:(List aJ):=b8
 some (.inl (bK,ak))
 else
 (aW ak [v_a]).bind fun b9=>let ak:(List aJ):=b9
 some (.inl (bK,ak))
theorem AL (v_l:(List aJ)) (cC:Int) (a_:Bool×(List aJ)) (hl:v_l.length≤1000000) : ah (jW v_l cC) ac (a_.1,a_.2,(0))=bl (ic v_l cC) (fun a_=>(a_.1,a_.2,((v_l.length:Int)))) a_ v_l :=
 ax v_l (S:=Bool×(List aJ)×Int) (fun a_ k_=>(a_.1,a_.2,(k_))) (ic v_l cC) (fun a_=>(a_.1,a_.2,((v_l.length:Int)))) (an hl) (fun k a x hx=>by
  unfold jW ic; exact bE)
  (fun a=>by unfold jW; exact cA) a_
def eD (v_l:(List aJ)) (af:Int) (st:av) (x_:aJ) : Option ((av)⊕((av×Int))) :=
 let v_v:=st
 if (x_.a8==af)=true then
 (cX v_v (⟨(i64.wrap (x_.bu.be * x_.ja)),(i64.wrap (x_.bu.aF * x_.ja))⟩ : av)).bind fun c7=>let v_v:av:=c7
 some (.inl v_v)
 else
 some (.inl v_v)
theorem vI (v_l:(List aJ)) (af:Int) (a_:av) (hl:v_l.length≤1000000) : ah (jy v_l af) ac (a_,(0))=bl (eD v_l af) (fun a_=>(a_,((v_l.length:Int)))) a_ v_l :=
 ax v_l (S:=av×Int) (fun a_ k_=>(a_,(k_))) (eD v_l af) (fun a_=>(a_,((v_l.length:Int)))) (an hl) (fun k a x hx=>by
  unfold jy eD; exact bE)
  (fun a=>by unfold jy; exact cA) a_
def AJ (a b:av) : av:=⟨i64.wrap (a.be + b.be),i64.wrap (a.aF + b.aF)⟩
def Lj (a b:av) : Bool:=decide (a.be≤b.be)&&decide (a.aF≤b.aF)
def inV (n:Int) : Bool:=decide (n≥0)&&decide (n≤1125899906842624)
def FY (a:av) : Bool:=inV a.be&&inV a.aF
theorem dP (a b:av) : cX a b=some (AJ a b):=rfl
theorem gV (a b:av) : fL a b=some (Lj a b):=by unfold fL Lj; simp only [dM,zb]
theorem OG (n:Int) : yK n=some (inV n):=by unfold yK inV; simp only [dM,zb]
theorem H4 (a:av) : sJ a=some (FY a):=by unfold sJ FY; simp only [OG,dM,zb]
def Qo (a b:av) : av:=(vp a b).getD av.zero
theorem Fb (a b:av) : vp a b=some (Qo a b):=rfl
def wI (n bp:Int) : Int:=(ur n bp).getD 0
theorem Me (n bp:Int) : ur n bp=some (wI n bp):=rfl
def YB (a b:Int) : Int×Int:=(yJ a b).getD (0,0)
theorem OC (a b:Int) : yJ a b=some (YB a b):=rfl
def N7 (a:av) (bp:Int) : av×Int :=
 if (!FY a||decide (bp < 0)||decide (bp > 1000000))=true then (av.zero,1)
 else if FY ⟨wI a.be bp,wI a.aF bp⟩=true then (⟨wI a.be bp,wI a.aF bp⟩,0) else (av.zero,11)
theorem BM (a:av) (bp:Int) : ut a bp=some (N7 a bp):=by
 unfold ut N7
 simp only [H4,orB,zb,Me]
 generalize (!FY a||decide (bp < 0)||decide (bp > 1000000))=b1
 generalize FY ⟨wI a.be bp,wI a.aF bp⟩=b2
 cases b1 <;> cases b2 <;> rfl
theorem rV {α : Type} (c:Bool) (a b : α) : (if c=true then some a else some b)=some (if c=true then a else b):=by cases c <;> rfl
def IM (x y:a7) : Int:=(pK x y).getD 0
theorem BL (x y:a7) : pK x y=some (IM x y):=by
 unfold IM
 have:∃ r,pK x y=some r:=by
  unfold pK
  simp only [orB,dM,zb,OC,rV]
  exact ⟨_,rfl⟩
 obtain ⟨r,hr⟩:=this
 rw [hr]
 rfl
def Qn (a p:av) : a7:=if decide (IM ⟨a.be,p.be⟩ ⟨a.aF,p.aF⟩ < 0)=true then ⟨a.aF,p.aF⟩ else ⟨a.be,p.be⟩
theorem OI (a p:av) : yL a p=some (Qn a p):=by
 unfold yL Qn
 simp only [BL,zb,rV]
def VE (a p b q:av) : Int:=if (!FY a || !FY p || !FY b || !FY q)=true then 0 else IM (Qn a p) (Qn b q)
theorem Mg (a p b q:av) : yM a p b q=some (VE a p b q):=by
 unfold yM VE
 simp only [H4,orB,zb,OI,BL]
 simp only [rV]
end Go.Proofs.YtaknepbdbappdaaGreat
