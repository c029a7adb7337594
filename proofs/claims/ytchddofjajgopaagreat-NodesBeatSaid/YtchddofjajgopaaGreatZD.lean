/- My texts, in one. -/
import Derived.Test.YtchddofjajgopaaGreatZC
set_option linter.all false
set_option maxRecDepth 100000
set_option maxHeartbeats 4000000
namespace Go.Proofs.YtchddofjajgopaaGreat
open Go.RowKit
open IntKind (i64)
open Go.Proofs.Tryz (prog)
theorem lh {w w':World} {base:Nat} {e:TypeId} {k:Nat} {v:Value} {n:Nat} {xs:List Value} (h:w.ownsRow base e k v n xs) (x:Ext w w') : w'.ownsRow base e k v n xs:=by
 refine ⟨h.1,?_⟩
 rcases h.2 with hn | ⟨g,cap,cur,rfl,hb,hg,hr⟩
 ·exact .inl hn
 ·exact .inr ⟨g,cap,cur,rfl,hb,(x.block g (Array.getElem?_eq_some_iff.1 hg).1).trans hg,hr⟩
def RdK (k:Nat) (w:World) (v:Value) (n:Nat) (xs:List Value) : Prop :=
 ∃ A c,v = .slice A n c∧n≤c∧c≤maxLen∧xs.length=n * k∧(0 < xs.length→∃ a,A=some a∧a.block < w.heap.size∧∀ j u,xs[j]? = some u→w.cell? (a.add j)=some u)
theorem RdK.of_own {k:Nat} {w:World} {base:Nat} {e:TypeId} {v:Value} {n:Nat} {xs:List Value} (h:w.ownsRow base e k v n xs) : RdK k w v n xs:=by
 have hl:=h.1
 rcases h.2 with ⟨rfl,h0⟩ | ⟨g,cap,cur,rfl,_,hg,hc,hm,_⟩
 ·subst h0; exact ⟨none,0,rfl,Nat.le_refl _,by simp [maxLen],hl,fun hn=>by omega⟩
 ·exact ⟨_,cap,rfl,hc,hm,hl,fun hn=>⟨⟨g,0,none⟩,rfl,(Array.getElem?_eq_some_iff.1 hg).1,h.cells (g:=g) rfl⟩⟩
theorem cC {w:World} {B e k n:Nat} {v:Value} {xs:List Value} (h:w.ownsRow B e k v n xs) : ∃ A c,v = .slice A n c∧n≤c∧c≤9223372036854775807:=by
 rcases h.2 with ⟨rfl,h0⟩ | ⟨g,cap,cur,rfl,_,_,hc,hm,_⟩
 ·subst h0; exact ⟨none,0,rfl,Nat.le_refl _,by omega⟩
 ·unfold maxLen at hm; exact ⟨_,cap,rfl,hc,by omega⟩
theorem FG (w:World) (x y z:Value) (t:TypeId) : ∀ j u,[x,y,z][j]? = some u→(w.alloc (.cells #[x,y,z] t)).cell? ((⟨w.heap.size,0,none⟩ : Addr).add j)=some u:=by
 intro j u hu
 have hadd:(⟨w.heap.size,0,none⟩ : Addr).add j=⟨w.heap.size,j,none⟩:=by unfold Addr.add; split <;> simp_all
 rw [hadd,cell_of_row _ w.heap.size j _ t (0,0) (heap_alloc_new w _),← Array.getElem?_toList]
 exact hu
theorem Zr {w:World} {B B' e e' k k' n n':Nat} {v v':Value} {xs xs':List Value} (h:w.ownsRow B e k v n xs) (h':w.ownsRow B' e' k' v' n' xs') (he:e≠e') : v.ownBlock=none∨v.ownBlock≠v'.ownBlock:=by
 rcases h.2 with ⟨rfl,_⟩ | ⟨g,cap,cur,rfl,_,hg,_⟩
 ·exact .inl rfl
 ·refine .inr fun e1=>?_
  rcases h'.2 with ⟨rfl,_⟩ | ⟨g',cap',cur',rfl,_,hg',_⟩
  ·cases e1
  ·simp [Value.ownBlock] at e1
   subst e1
   rw [hg] at hg'
   injection hg' with hg'
   injection hg' with _ h2
   exact he h2
theorem fo (W:World) (B:Nat) (e:TypeId) (k:Nat) (h:B≤W.heap.size) : (W.alloc (.cells #[] e)).ownsRow B e k (.slice (some ⟨W.heap.size,0,none⟩) 0 0) 0 [] :=
 ⟨by simp,.inr ⟨W.heap.size,0,#[],rfl,h,heap_alloc_new W _,Nat.le_refl _,by simp [maxLen],by simp,by simp⟩⟩
section
section
variable {P:Program} (w:World)
end
end
def gy (k:Nat) (t:TypeId) (n:Nat) (xs:List Value) (w:World) (e:Ending) (w':World) : Prop:=∃ A' c',e = .returned (.slice A' n c')∧w'.ownsRow w.heap.size t k (.slice A' n c') n xs∧Ext w w'
theorem Tryz.infoClNode:(prog.info? 29).map (fun i=>(i.zero,i.size,i.bytes))=some (some (.agg #[.int .i64 0,.int .i64 0,.int .i64 0,.int .i64 0,.int .i64 0,.int .i64 0,.int .i64 0,.bool false]),8,64):=by kernel_rfl
theorem G8 (v:Value) (n:Nat) (xs:List Value) (w:World) (h:RdK 8 w v n xs) (h1:∀ u∈xs,u.oneCell' = true) (h2:n≤1000000) :
  Calls prog 61 #[v] w (gy 8 29 n xs w):=by
 obtain ⟨c0,hc,hcz0,hcz1,hcz2⟩:=info_parts Tryz.infoClNode
 obtain ⟨A,c,rfl,hc1,hc2,hl,hcell⟩:=h
 have hn:=fun (W:World) (A:Option Addr) (n c n' c':Nat)=>Lib.run_eql_slice_nil (P:=prog) W 35 29 A n c n' c' Tryz.underlying35
 have HL:=Lib.hid hl
 have H1:=Lib.hid h1
 cases A with
 | none =>
  have hx:xs = []:=by
   rcases xs with _ | ⟨x,xs⟩
   ·rfl
   ·obtain ⟨a,e,_⟩:=hcell (by simp)
    cases e
  subst hx
  have hn0:n=0:=by simp at hl; omega
  subst hn0
  clear hcell hl
  go_enter Tryz.func61,Tryz.ntmps61
  go_wp2
  go_ret
  exact ⟨none,0,rfl,World.ownsRow_nil _ _ _ 8,Ext.refl _⟩
 | some a =>
  have HO:=Lib.hid (fo w w.heap.size 29 8 (Nat.le_refl _))
  have HCS:=Lib.hid (show ∀ (j:Nat) (u:Value),xs[j]? = some u→(w.alloc (.cells #[] 29)).cell? (a.add j)=some u from fun j u hu=>by
   obtain ⟨a',e,hb,hcs⟩:=hcell (by have:=(zg.1 hu).1; omega)
   obtain rfl:a=a':=Option.some.inj e
   exact (Below.cell (aO w _) (p:=a.add j) (by rw [cX]; exact hb)).trans (hcs j u hu))
  clear hcell hl h1
  go_enter Tryz.func61,Tryz.ntmps61
  go_wp2_with (at_builtin; go_loud (refine wpList_append_own_at _ rfl (.tmp 5) (.tmp 6) 35 rfl w.heap.size 29 c0 _ 8 64 Tryz.underlying35 hc hcz0 hcz1 hcz2 rfl (by decide) _ 0 [] rfl HO.out a n c xs rfl HL.out HCS.out H1.out ?c3 ?c4 ?c5 ?_))
  case c3=>simp [maxLen]; omega
  case c4=>omega
  case c5=>simp
  intro v' w3 ho3 hg3 _ hat3
  have HE:=Lib.hid ((aO w (.cells #[] 29)).trans' (cI hg3 (by simp) (fun k hk=>by simp [Value.ownBlock] at hk; omega)))
  have HO3:=Lib.hid ho3
  obtain ⟨A3,c3,rfl,_,_⟩:=cC ho3
  clear ho3 hg3 hat3
  go_wp2
  go_ret
  exact ⟨_,_,rfl,HO3.out,HE.out⟩
theorem Tryz.infoClCont:(prog.info? 86).map (fun i=>(i.zero,i.size,i.bytes))=some (some (.agg #[.int .i64 0,.int .i64 0,.int .i64 0,.int .i64 0,.int .i64 0,.int .i64 0,.int .i64 0,.bool false,.int .i64 0]),9,72):=by kernel_rfl
theorem G9 (v:Value) (n:Nat) (xs:List Value) (w:World) (h:RdK 9 w v n xs) (h1:∀ u∈xs,u.oneCell' = true) (h2:n≤1000000) :
  Calls prog 64 #[v] w (gy 9 86 n xs w):=by
 obtain ⟨c0,hc,hcz0,hcz1,hcz2⟩:=info_parts Tryz.infoClCont
 obtain ⟨A,c,rfl,hc1,hc2,hl,hcell⟩:=h
 have hn:=fun (W:World) (A:Option Addr) (n c n' c':Nat)=>Lib.run_eql_slice_nil (P:=prog) W 37 86 A n c n' c' Tryz.underlying37
 have HL:=Lib.hid hl
 have H1:=Lib.hid h1
 cases A with
 | none =>
  have hx:xs = []:=by
   rcases xs with _ | ⟨x,xs⟩
   ·rfl
   ·obtain ⟨a,e,_⟩:=hcell (by simp)
    cases e
  subst hx
  have hn0:n=0:=by simp at hl; omega
  subst hn0
  clear hcell hl
  go_enter Tryz.func64,Tryz.ntmps64
  go_wp2
  go_ret
  exact ⟨none,0,rfl,World.ownsRow_nil _ _ _ 9,Ext.refl _⟩
 | some a =>
  have HO:=Lib.hid (fo w w.heap.size 86 9 (Nat.le_refl _))
  have HCS:=Lib.hid (show ∀ (j:Nat) (u:Value),xs[j]? = some u→(w.alloc (.cells #[] 86)).cell? (a.add j)=some u from fun j u hu=>by
   obtain ⟨a',e,hb,hcs⟩:=hcell (by have:=(zg.1 hu).1; omega)
   obtain rfl:a=a':=Option.some.inj e
   exact (Below.cell (aO w _) (p:=a.add j) (by rw [cX]; exact hb)).trans (hcs j u hu))
  clear hcell hl h1
  go_enter Tryz.func64,Tryz.ntmps64
  go_wp2_with (at_builtin; go_loud (refine wpList_append_own_at _ rfl (.tmp 5) (.tmp 6) 37 rfl w.heap.size 86 c0 _ 9 72 Tryz.underlying37 hc hcz0 hcz1 hcz2 rfl (by decide) _ 0 [] rfl HO.out a n c xs rfl HL.out HCS.out H1.out ?c3 ?c4 ?c5 ?_))
  case c3=>simp [maxLen]; omega
  case c4=>omega
  case c5=>simp
  intro v' w3 ho3 hg3 _ hat3
  have HE:=Lib.hid ((aO w (.cells #[] 86)).trans' (cI hg3 (by simp) (fun k hk=>by simp [Value.ownBlock] at hk; omega)))
  have HO3:=Lib.hid ho3
  obtain ⟨A3,c3,rfl,_,_⟩:=cC ho3
  clear ho3 hg3 hat3
  go_wp2
  go_ret
  exact ⟨_,_,rfl,HO3.out,HE.out⟩
theorem Tryz.infoClSlot:(prog.info? 88).map (fun i=>(i.zero,i.size,i.bytes))=some (some (.agg #[.int .i64 0,.int .i64 0,.int .i64 0]),3,24):=by kernel_rfl
theorem G6 (v:Value) (n:Nat) (xs:List Value) (w:World) (h:RdK 3 w v n xs) (h1:∀ u∈xs,u.oneCell' = true) (h2:n≤1000000) :
  Calls prog 65 #[v] w (gy 3 88 n xs w):=by
 obtain ⟨c0,hc,hcz0,hcz1,hcz2⟩:=info_parts Tryz.infoClSlot
 obtain ⟨A,c,rfl,hc1,hc2,hl,hcell⟩:=h
 have hn:=fun (W:World) (A:Option Addr) (n c n' c':Nat)=>Lib.run_eql_slice_nil (P:=prog) W 38 88 A n c n' c' Tryz.underlying38
 have HL:=Lib.hid hl
 have H1:=Lib.hid h1
 cases A with
 | none =>
  have hx:xs = []:=by
   rcases xs with _ | ⟨x,xs⟩
   ·rfl
   ·obtain ⟨a,e,_⟩:=hcell (by simp)
    cases e
  subst hx
  have hn0:n=0:=by simp at hl; omega
  subst hn0
  clear hcell hl
  go_enter Tryz.func65,Tryz.ntmps65
  go_wp2
  go_ret
  exact ⟨none,0,rfl,World.ownsRow_nil _ _ _ 3,Ext.refl _⟩
 | some a =>
  have HO:=Lib.hid (fo w w.heap.size 88 3 (Nat.le_refl _))
  have HCS:=Lib.hid (show ∀ (j:Nat) (u:Value),xs[j]? = some u→(w.alloc (.cells #[] 88)).cell? (a.add j)=some u from fun j u hu=>by
   obtain ⟨a',e,hb,hcs⟩:=hcell (by have:=(zg.1 hu).1; omega)
   obtain rfl:a=a':=Option.some.inj e
   exact (Below.cell (aO w _) (p:=a.add j) (by rw [cX]; exact hb)).trans (hcs j u hu))
  clear hcell hl h1
  go_enter Tryz.func65,Tryz.ntmps65
  go_wp2_with (at_builtin; go_loud (refine wpList_append_own_at _ rfl (.tmp 5) (.tmp 6) 38 rfl w.heap.size 88 c0 _ 3 24 Tryz.underlying38 hc hcz0 hcz1 hcz2 rfl (by decide) _ 0 [] rfl HO.out a n c xs rfl HL.out HCS.out H1.out ?c3 ?c4 ?c5 ?_))
  case c3=>simp [maxLen]; omega
  case c4=>omega
  case c5=>simp
  intro v' w3 ho3 hg3 _ hat3
  have HE:=Lib.hid ((aO w (.cells #[] 88)).trans' (cI hg3 (by simp) (fun k hk=>by simp [Value.ownBlock] at hk; omega)))
  have HO3:=Lib.hid ho3
  obtain ⟨A3,c3,rfl,_,_⟩:=cC ho3
  clear ho3 hg3 hat3
  go_wp2
  go_ret
  exact ⟨_,_,rfl,HO3.out,HE.out⟩
theorem Tryz.infoClPlan:(prog.info? 72).map (fun i=>(i.zero,i.size,i.bytes))=some (some (.agg #[.int .i64 0,.int .i64 0,.int .i64 0,.int .i64 0,.int .i64 0,.int .i64 0]),6,48):=by kernel_rfl
theorem G7 (v:Value) (n:Nat) (xs:List Value) (w:World) (h:RdK 6 w v n xs) (h1:∀ u∈xs,u.oneCell' = true) (h2:n≤1000000) :
  Calls prog 66 #[v] w (gy 6 72 n xs w):=by
 obtain ⟨c0,hc,hcz0,hcz1,hcz2⟩:=info_parts Tryz.infoClPlan
 obtain ⟨A,c,rfl,hc1,hc2,hl,hcell⟩:=h
 have hn:=fun (W:World) (A:Option Addr) (n c n' c':Nat)=>Lib.run_eql_slice_nil (P:=prog) W 39 72 A n c n' c' Tryz.underlying39
 have HL:=Lib.hid hl
 have H1:=Lib.hid h1
 cases A with
 | none =>
  have hx:xs = []:=by
   rcases xs with _ | ⟨x,xs⟩
   ·rfl
   ·obtain ⟨a,e,_⟩:=hcell (by simp)
    cases e
  subst hx
  have hn0:n=0:=by simp at hl; omega
  subst hn0
  clear hcell hl
  go_enter Tryz.func66,Tryz.ntmps66
  go_wp2
  go_ret
  exact ⟨none,0,rfl,World.ownsRow_nil _ _ _ 6,Ext.refl _⟩
 | some a =>
  have HO:=Lib.hid (fo w w.heap.size 72 6 (Nat.le_refl _))
  have HCS:=Lib.hid (show ∀ (j:Nat) (u:Value),xs[j]? = some u→(w.alloc (.cells #[] 72)).cell? (a.add j)=some u from fun j u hu=>by
   obtain ⟨a',e,hb,hcs⟩:=hcell (by have:=(zg.1 hu).1; omega)
   obtain rfl:a=a':=Option.some.inj e
   exact (Below.cell (aO w _) (p:=a.add j) (by rw [cX]; exact hb)).trans (hcs j u hu))
  clear hcell hl h1
  go_enter Tryz.func66,Tryz.ntmps66
  go_wp2_with (at_builtin; go_loud (refine wpList_append_own_at _ rfl (.tmp 5) (.tmp 6) 39 rfl w.heap.size 72 c0 _ 6 48 Tryz.underlying39 hc hcz0 hcz1 hcz2 rfl (by decide) _ 0 [] rfl HO.out a n c xs rfl HL.out HCS.out H1.out ?c3 ?c4 ?c5 ?_))
  case c3=>simp [maxLen]; omega
  case c4=>omega
  case c5=>simp
  intro v' w3 ho3 hg3 _ hat3
  have HE:=Lib.hid ((aO w (.cells #[] 72)).trans' (cI hg3 (by simp) (fun k hk=>by simp [Value.ownBlock] at hk; omega)))
  have HO3:=Lib.hid ho3
  obtain ⟨A3,c3,rfl,_,_⟩:=cC ho3
  clear ho3 hg3 hat3
  go_wp2
  go_ret
  exact ⟨_,_,rfl,HO3.out,HE.out⟩
theorem Tryz.infoClStr:(prog.info? 9).map (fun i=>(i.zero,i.size,i.bytes))=some (some (.string ⟨#[]⟩),1,16):=by kernel_rfl
theorem Ko (v:Value) (n:Nat) (xs:List Value) (w:World) (h:RdK 1 w v n xs) (h1:∀ u∈xs,u.oneCell' = true) (h2:n≤1000000) :
  Calls prog 125 #[v] w (gy 1 9 n xs w):=by
 obtain ⟨c0,hc,hcz0,hcz1,hcz2⟩:=info_parts Tryz.infoClStr
 obtain ⟨A,c,rfl,hc1,hc2,hl,hcell⟩:=h
 have hn:=fun (W:World) (A:Option Addr) (n c n' c':Nat)=>Lib.run_eql_slice_nil (P:=prog) W 31 9 A n c n' c' Tryz.underlying31
 have HL:=Lib.hid hl
 have H1:=Lib.hid h1
 cases A with
 | none =>
  have hx:xs = []:=by
   rcases xs with _ | ⟨x,xs⟩
   ·rfl
   ·obtain ⟨a,e,_⟩:=hcell (by simp)
    cases e
  subst hx
  have hn0:n=0:=by simp at hl; omega
  subst hn0
  clear hcell hl
  go_enter Tryz.func125,Tryz.ntmps125
  go_wp2
  go_ret
  exact ⟨none,0,rfl,World.ownsRow_nil _ _ _ 1,Ext.refl _⟩
 | some a =>
  have HO:=Lib.hid (fo w w.heap.size 9 1 (Nat.le_refl _))
  have HCS:=Lib.hid (show ∀ (j:Nat) (u:Value),xs[j]? = some u→(w.alloc (.cells #[] 9)).cell? (a.add j)=some u from fun j u hu=>by
   obtain ⟨a',e,hb,hcs⟩:=hcell (by have:=(zg.1 hu).1; omega)
   obtain rfl:a=a':=Option.some.inj e
   exact (Below.cell (aO w _) (p:=a.add j) (by rw [cX]; exact hb)).trans (hcs j u hu))
  clear hcell hl h1
  go_enter Tryz.func125,Tryz.ntmps125
  go_wp2_with (at_builtin; go_loud (refine wpList_append_own_at _ rfl (.tmp 5) (.tmp 6) 31 rfl w.heap.size 9 c0 _ 1 16 Tryz.underlying31 hc hcz0 hcz1 hcz2 rfl (by decide) _ 0 [] rfl HO.out a n c xs rfl HL.out HCS.out H1.out ?c3 ?c4 ?c5 ?_))
  case c3=>simp [maxLen]; omega
  case c4=>omega
  case c5=>simp
  intro v' w3 ho3 hg3 _ hat3
  have HE:=Lib.hid ((aO w (.cells #[] 9)).trans' (cI hg3 (by simp) (fun k hk=>by simp [Value.ownBlock] at hk; omega)))
  have HO3:=Lib.hid ho3
  obtain ⟨A3,c3,rfl,_,_⟩:=cC ho3
  clear ho3 hg3 hat3
  go_wp2
  go_ret
  exact ⟨_,_,rfl,HO3.out,HE.out⟩
theorem Tryz.infoClQueue:(prog.info? 99).map (fun i=>(i.zero,i.size,i.bytes))=some (some (.agg #[.string ⟨#[]⟩,.slice none 0 0,.int .i64 0]),3,48):=by kernel_rfl
theorem Fy (v:Value) (n:Nat) (xs:List Value) (w:World) (h:RdK 3 w v n xs) (h1:∀ u∈xs,u.oneCell' = true) (h2:n≤1000000) :
  Calls prog 127 #[v] w (gy 3 99 n xs w):=by
 obtain ⟨c0,hc,hcz0,hcz1,hcz2⟩:=info_parts Tryz.infoClQueue
 obtain ⟨A,c,rfl,hc1,hc2,hl,hcell⟩:=h
 have hn:=fun (W:World) (A:Option Addr) (n c n' c':Nat)=>Lib.run_eql_slice_nil (P:=prog) W 32 99 A n c n' c' Tryz.underlying32
 have HL:=Lib.hid hl
 have H1:=Lib.hid h1
 cases A with
 | none =>
  have hx:xs = []:=by
   rcases xs with _ | ⟨x,xs⟩
   ·rfl
   ·obtain ⟨a,e,_⟩:=hcell (by simp)
    cases e
  subst hx
  have hn0:n=0:=by simp at hl; omega
  subst hn0
  clear hcell hl
  go_enter Tryz.func127,Tryz.ntmps127
  go_wp2
  go_ret
  exact ⟨none,0,rfl,World.ownsRow_nil _ _ _ 3,Ext.refl _⟩
 | some a =>
  have HO:=Lib.hid (fo w w.heap.size 99 3 (Nat.le_refl _))
  have HCS:=Lib.hid (show ∀ (j:Nat) (u:Value),xs[j]? = some u→(w.alloc (.cells #[] 99)).cell? (a.add j)=some u from fun j u hu=>by
   obtain ⟨a',e,hb,hcs⟩:=hcell (by have:=(zg.1 hu).1; omega)
   obtain rfl:a=a':=Option.some.inj e
   exact (Below.cell (aO w _) (p:=a.add j) (by rw [cX]; exact hb)).trans (hcs j u hu))
  clear hcell hl h1
  go_enter Tryz.func127,Tryz.ntmps127
  go_wp2_with (at_builtin; go_loud (refine wpList_append_own_at _ rfl (.tmp 5) (.tmp 6) 32 rfl w.heap.size 99 c0 _ 3 48 Tryz.underlying32 hc hcz0 hcz1 hcz2 rfl (by decide) _ 0 [] rfl HO.out a n c xs rfl HL.out HCS.out H1.out ?c3 ?c4 ?c5 ?_))
  case c3=>simp [maxLen]; omega
  case c4=>omega
  case c5=>simp
  intro v' w3 ho3 hg3 _ hat3
  have HE:=Lib.hid ((aO w (.cells #[] 99)).trans' (cI hg3 (by simp) (fun k hk=>by simp [Value.ownBlock] at hk; omega)))
  have HO3:=Lib.hid ho3
  obtain ⟨A3,c3,rfl,_,_⟩:=cC ho3
  clear ho3 hg3 hat3
  go_wp2
  go_ret
  exact ⟨_,_,rfl,HO3.out,HE.out⟩
theorem Tryz.infoClCap:(prog.info? 96).map (fun i=>(i.zero,i.size,i.bytes))=some (some (.agg #[.int .i64 0,.int .i64 0]),2,16):=by kernel_rfl
theorem Kq (v:Value) (n:Nat) (xs:List Value) (w:World) (h:RdK 2 w v n xs) (h1:∀ u∈xs,u.oneCell' = true) (h2:n≤1000000) :
  Calls prog 128 #[v] w (gy 2 96 n xs w):=by
 obtain ⟨c0,hc,hcz0,hcz1,hcz2⟩:=info_parts Tryz.infoClCap
 obtain ⟨A,c,rfl,hc1,hc2,hl,hcell⟩:=h
 have hn:=fun (W:World) (A:Option Addr) (n c n' c':Nat)=>Lib.run_eql_slice_nil (P:=prog) W 97 96 A n c n' c' Tryz.underlying97
 have HL:=Lib.hid hl
 have H1:=Lib.hid h1
 cases A with
 | none =>
  have hx:xs = []:=by
   rcases xs with _ | ⟨x,xs⟩
   ·rfl
   ·obtain ⟨a,e,_⟩:=hcell (by simp)
    cases e
  subst hx
  have hn0:n=0:=by simp at hl; omega
  subst hn0
  clear hcell hl
  go_enter Tryz.func128,Tryz.ntmps128
  go_wp2
  go_ret
  exact ⟨none,0,rfl,World.ownsRow_nil _ _ _ 2,Ext.refl _⟩
 | some a =>
  have HO:=Lib.hid (fo w w.heap.size 96 2 (Nat.le_refl _))
  have HCS:=Lib.hid (show ∀ (j:Nat) (u:Value),xs[j]? = some u→(w.alloc (.cells #[] 96)).cell? (a.add j)=some u from fun j u hu=>by
   obtain ⟨a',e,hb,hcs⟩:=hcell (by have:=(zg.1 hu).1; omega)
   obtain rfl:a=a':=Option.some.inj e
   exact (Below.cell (aO w _) (p:=a.add j) (by rw [cX]; exact hb)).trans (hcs j u hu))
  clear hcell hl h1
  go_enter Tryz.func128,Tryz.ntmps128
  go_wp2_with (at_builtin; go_loud (refine wpList_append_own_at _ rfl (.tmp 5) (.tmp 6) 97 rfl w.heap.size 96 c0 _ 2 16 Tryz.underlying97 hc hcz0 hcz1 hcz2 rfl (by decide) _ 0 [] rfl HO.out a n c xs rfl HL.out HCS.out H1.out ?c3 ?c4 ?c5 ?_))
  case c3=>simp [maxLen]; omega
  case c4=>omega
  case c5=>simp
  intro v' w3 ho3 hg3 _ hat3
  have HE:=Lib.hid ((aO w (.cells #[] 96)).trans' (cI hg3 (by simp) (fun k hk=>by simp [Value.ownBlock] at hk; omega)))
  have HO3:=Lib.hid ho3
  obtain ⟨A3,c3,rfl,_,_⟩:=cC ho3
  clear ho3 hg3 hat3
  go_wp2
  go_ret
  exact ⟨_,_,rfl,HO3.out,HE.out⟩
theorem Tryz.infoClAsk:(prog.info? 122).map (fun i=>(i.zero,i.size,i.bytes))=some (some (.agg #[.int .i64 0,.int .i64 0,.int .i64 0,.int .i64 0,.int .i64 0,.int .i64 0,.int .i64 0,.int .i64 0]),8,64):=by kernel_rfl
theorem Kr (v:Value) (n:Nat) (xs:List Value) (w:World) (h:RdK 8 w v n xs) (h1:∀ u∈xs,u.oneCell' = true) (h2:n≤1000000) :
  Calls prog 106 #[v] w (gy 8 122 n xs w):=by
 obtain ⟨c0,hc,hcz0,hcz1,hcz2⟩:=info_parts Tryz.infoClAsk
 obtain ⟨A,c,rfl,hc1,hc2,hl,hcell⟩:=h
 have hn:=fun (W:World) (A:Option Addr) (n c n' c':Nat)=>Lib.run_eql_slice_nil (P:=prog) W 68 122 A n c n' c' Tryz.underlying68
 have HL:=Lib.hid hl
 have H1:=Lib.hid h1
 cases A with
 | none =>
  have hx:xs = []:=by
   rcases xs with _ | ⟨x,xs⟩
   ·rfl
   ·obtain ⟨a,e,_⟩:=hcell (by simp)
    cases e
  subst hx
  have hn0:n=0:=by simp at hl; omega
  subst hn0
  clear hcell hl
  go_enter Tryz.func106,Tryz.ntmps106
  go_wp2
  go_ret
  exact ⟨none,0,rfl,World.ownsRow_nil _ _ _ 8,Ext.refl _⟩
 | some a =>
  have HO:=Lib.hid (fo w w.heap.size 122 8 (Nat.le_refl _))
  have HCS:=Lib.hid (show ∀ (j:Nat) (u:Value),xs[j]? = some u→(w.alloc (.cells #[] 122)).cell? (a.add j)=some u from fun j u hu=>by
   obtain ⟨a',e,hb,hcs⟩:=hcell (by have:=(zg.1 hu).1; omega)
   obtain rfl:a=a':=Option.some.inj e
   exact (Below.cell (aO w _) (p:=a.add j) (by rw [cX]; exact hb)).trans (hcs j u hu))
  clear hcell hl h1
  go_enter Tryz.func106,Tryz.ntmps106
  go_wp2_with (at_builtin; go_loud (refine wpList_append_own_at _ rfl (.tmp 5) (.tmp 6) 68 rfl w.heap.size 122 c0 _ 8 64 Tryz.underlying68 hc hcz0 hcz1 hcz2 rfl (by decide) _ 0 [] rfl HO.out a n c xs rfl HL.out HCS.out H1.out ?c3 ?c4 ?c5 ?_))
  case c3=>simp [maxLen]; omega
  case c4=>omega
  case c5=>simp
  intro v' w3 ho3 hg3 _ hat3
  have HE:=Lib.hid ((aO w (.cells #[] 122)).trans' (cI hg3 (by simp) (fun k hk=>by simp [Value.ownBlock] at hk; omega)))
  have HO3:=Lib.hid ho3
  obtain ⟨A3,c3,rfl,_,_⟩:=cC ho3
  clear ho3 hg3 hat3
  go_wp2
  go_ret
  exact ⟨_,_,rfl,HO3.out,HE.out⟩
theorem Tryz.infoClInt:(prog.info? 3).map (fun i=>(i.zero,i.size,i.bytes))=some (some (.int .i64 0),1,8):=by kernel_rfl
theorem Kp (v:Value) (n:Nat) (xs:List Value) (w:World) (h:RdK 1 w v n xs) (h1:∀ u∈xs,u.oneCell' = true) (h2:n≤1000000) :
  Calls prog 107 #[v] w (gy 1 3 n xs w):=by
 obtain ⟨c0,hc,hcz0,hcz1,hcz2⟩:=info_parts Tryz.infoClInt
 obtain ⟨A,c,rfl,hc1,hc2,hl,hcell⟩:=h
 have hn:=fun (W:World) (A:Option Addr) (n c n' c':Nat)=>Lib.run_eql_slice_nil (P:=prog) W 22 3 A n c n' c' Tryz.underlying22
 have HL:=Lib.hid hl
 have H1:=Lib.hid h1
 cases A with
 | none =>
  have hx:xs = []:=by
   rcases xs with _ | ⟨x,xs⟩
   ·rfl
   ·obtain ⟨a,e,_⟩:=hcell (by simp)
    cases e
  subst hx
  have hn0:n=0:=by simp at hl; omega
  subst hn0
  clear hcell hl
  go_enter Tryz.func107,Tryz.ntmps107
  go_wp2
  go_ret
  exact ⟨none,0,rfl,World.ownsRow_nil _ _ _ 1,Ext.refl _⟩
 | some a =>
  have HO:=Lib.hid (fo w w.heap.size 3 1 (Nat.le_refl _))
  have HCS:=Lib.hid (show ∀ (j:Nat) (u:Value),xs[j]? = some u→(w.alloc (.cells #[] 3)).cell? (a.add j)=some u from fun j u hu=>by
   obtain ⟨a',e,hb,hcs⟩:=hcell (by have:=(zg.1 hu).1; omega)
   obtain rfl:a=a':=Option.some.inj e
   exact (Below.cell (aO w _) (p:=a.add j) (by rw [cX]; exact hb)).trans (hcs j u hu))
  clear hcell hl h1
  go_enter Tryz.func107,Tryz.ntmps107
  go_wp2_with (at_builtin; go_loud (refine wpList_append_own_at _ rfl (.tmp 5) (.tmp 6) 22 rfl w.heap.size 3 c0 _ 1 8 Tryz.underlying22 hc hcz0 hcz1 hcz2 rfl (by decide) _ 0 [] rfl HO.out a n c xs rfl HL.out HCS.out H1.out ?c3 ?c4 ?c5 ?_))
  case c3=>simp [maxLen]; omega
  case c4=>omega
  case c5=>simp
  intro v' w3 ho3 hg3 _ hat3
  have HE:=Lib.hid ((aO w (.cells #[] 3)).trans' (cI hg3 (by simp) (fun k hk=>by simp [Value.ownBlock] at hk; omega)))
  have HO3:=Lib.hid ho3
  obtain ⟨A3,c3,rfl,_,_⟩:=cC ho3
  clear ho3 hg3 hat3
  go_wp2
  go_ret
  exact ⟨_,_,rfl,HO3.out,HE.out⟩
theorem Tryz.infoClApp:(prog.info? 70).map (fun i=>(i.zero,i.size,i.bytes))=some (some (.agg #[.int .i64 0,.int .i64 0,.string ⟨#[]⟩,.int .i64 0,.int .i64 0,.int .i64 0,.int .i64 0,.slice none 0 0,.int .i64 0,.int .i64 0,.slice none 0 0,.slice none 0 0,.slice none 0 0,.slice none 0 0]),14,200):=by kernel_rfl
theorem Ks (v:Value) (n:Nat) (xs:List Value) (w:World) (h:RdK 14 w v n xs) (h1:∀ u∈xs,u.oneCell' = true) (h2:n≤1000000) :
  Calls prog 105 #[v] w (gy 14 70 n xs w):=by
 obtain ⟨c0,hc,hcz0,hcz1,hcz2⟩:=info_parts Tryz.infoClApp
 obtain ⟨A,c,rfl,hc1,hc2,hl,hcell⟩:=h
 have hn:=fun (W:World) (A:Option Addr) (n c n' c':Nat)=>Lib.run_eql_slice_nil (P:=prog) W 36 70 A n c n' c' Tryz.underlying36
 have HL:=Lib.hid hl
 have H1:=Lib.hid h1
 cases A with
 | none =>
  have hx:xs = []:=by
   rcases xs with _ | ⟨x,xs⟩
   ·rfl
   ·obtain ⟨a,e,_⟩:=hcell (by simp)
    cases e
  subst hx
  have hn0:n=0:=by simp at hl; omega
  subst hn0
  clear hcell hl
  go_enter Tryz.func105,Tryz.ntmps105
  go_wp2
  go_ret
  exact ⟨none,0,rfl,World.ownsRow_nil _ _ _ 14,Ext.refl _⟩
 | some a =>
  have HO:=Lib.hid (fo w w.heap.size 70 14 (Nat.le_refl _))
  have HCS:=Lib.hid (show ∀ (j:Nat) (u:Value),xs[j]? = some u→(w.alloc (.cells #[] 70)).cell? (a.add j)=some u from fun j u hu=>by
   obtain ⟨a',e,hb,hcs⟩:=hcell (by have:=(zg.1 hu).1; omega)
   obtain rfl:a=a':=Option.some.inj e
   exact (Below.cell (aO w _) (p:=a.add j) (by rw [cX]; exact hb)).trans (hcs j u hu))
  clear hcell hl h1
  go_enter Tryz.func105,Tryz.ntmps105
  go_wp2_with (at_builtin; go_loud (refine wpList_append_own_at _ rfl (.tmp 5) (.tmp 6) 36 rfl w.heap.size 70 c0 _ 14 200 Tryz.underlying36 hc hcz0 hcz1 hcz2 rfl (by decide) _ 0 [] rfl HO.out a n c xs rfl HL.out HCS.out H1.out ?c3 ?c4 ?c5 ?_))
  case c3=>simp [maxLen]; omega
  case c4=>omega
  case c5=>simp
  intro v' w3 ho3 hg3 _ hat3
  have HE:=Lib.hid ((aO w (.cells #[] 70)).trans' (cI hg3 (by simp) (fun k hk=>by simp [Value.ownBlock] at hk; omega)))
  have HO3:=Lib.hid ho3
  obtain ⟨A3,c3,rfl,_,_⟩:=cC ho3
  clear ho3 hg3 hat3
  go_wp2
  go_ret
  exact ⟨_,_,rfl,HO3.out,HE.out⟩
end Go.Proofs.YtchddofjajgopaaGreat
section
namespace Go.Proofs
open Go.Shelf
def Tryz.laysM316_ren:Go.Shelf.Ren:=⟨fun | 316=>126 | n=>n,fun | 9=>9 | 3=>3 | 4=>4 | 37=>153 | 0=>0 | 127=>203 | 5=>5 | n=>n,fun | n=>n⟩
theorem Tryz.laysM316:Go.Proofs.LaysM.n316 prog Tryz.laysM316_ren:={
 mixed:=by kernel_rfl
 f316:=Tryz.func126.trans (congrArg some (by kernel_rfl))
 t0:=Tryz.underlying0
 a0:=Tryz.isAgg0
 z0:=Tryz.sizeOf0
 v0:=Tryz.zeroValue0
 t3:=Tryz.underlying3
 a3:=Tryz.isAgg3
 z3:=Tryz.sizeOf3
 v3:=Tryz.zeroValue3
 t4:=Tryz.underlying4
 a4:=Tryz.isAgg4
 z4:=Tryz.sizeOf4
 v4:=Tryz.zeroValue4
 t9:=Tryz.underlying9
 a9:=Tryz.isAgg9
 z9:=Tryz.sizeOf9
 v9:=Tryz.zeroValue9
 t37:=Tryz.underlying153
 a37:=Tryz.isAgg153
 z37:=Tryz.sizeOf153
 v37:=Tryz.zeroValue153
 t127:=Tryz.underlying203
 a127:=Tryz.isAgg203
 z127:=Tryz.sizeOf203
 v127:=Tryz.zeroValue203
 t5:=Tryz.underlying5
 a5:=Tryz.isAgg5
 z5:=Tryz.sizeOf5
 v5:=Tryz.zeroValue5
 i0:=by kernel_rfl
 i3:=by kernel_rfl
 i4:=by kernel_rfl
 i5:=by kernel_rfl
 i9:=by kernel_rfl
 i37:=by kernel_rfl
 i127:=by kernel_rfl }
open Go.RowKit in
theorem Tryz.stringslite_Clone (s:ByteArray) (w:World) (hlim:s.size≤281474976710656) :
  Calls prog 126 #[.string s] w fun e w'=>e = .returned (.string s)∧Below w.heap.size w w':=Any.stringslite_Clone Tryz.laysM316 s w hlim
end Go.Proofs
end
namespace Go.Proofs.YtchddofjajgopaaGreat
open Go.RowKit
open IntKind (i64)
open Go.Proofs.Tryz (prog)
theorem Jw (S:ByteArray) (w:World) (hs:S.size≤1000000000000) : Calls prog 102 #[.string S] w fun e w'=>e = .returned (.string S)∧Ext w w':=by
 have hcon:=fun W=>Tryz.stringslite_Clone S W (by omega)
 go_enter Tryz.func102,Tryz.ntmps102
 go_wp2_with (go_at_call 126; refine (hcon _).mono ?_; rintro e w' ⟨rfl,hx⟩)
 go_ret
 exact ⟨rfl,hx⟩
def Fz {α : Type} (xs:List α) : Option (List α):=if xs.length≤1000000 then some xs else none
def fq (ty:Ty) (e k:Nat) (x:ct [.lf (.sl ty)]) : Option (bc [.io [.no],.own e k ty]):=(Fz (show List ty.den from x.1)).bind fun z=>some (((),()),z)
theorem iq {P:Program} {f:FuncId} (ty:Ty) {e k:Nat} (hk:tyN ty=k) (hk0 : 0 < k) (hcall:eh P f=true)
  (hC:∀ (v:Value) (n:Nat) (us:List Value) (w:World),RdK k w v n us→(∀ u∈us,u.oneCell' = true)→n≤1000000→Calls P f #[v] w (gy k e n us w)) :
  bN P f [.lf (.sl ty)] [.io [.no],.own e k ty] (fq ty e k):=by
 refine YB (F:=Fz) hk hk0 hcall fun xs zs w G v hF hG hd=>?_
 unfold Fz at hF
 split at hF
 ·rename_i hle
  injection hF with hF
  subst hF
  cases hd with
  | sl A n c k0 _ us hn hc hm hkk hA hA0 hcell hrep =>
   have hlen:∀ y∈xs.map (bR ty),y.length=k:=fun y hy=>by
    obtain ⟨z,_,rfl⟩:=List.mem_map.1 hy
    rw [pG,hk]
   have hfl:=cJ k (xs.map (bR ty)) hlen
   rw [List.length_map] at hn hfl
   have hul:((List.range (xs.map (bR ty)).flatten.length).map us).length=xs.length * k:=by rw [List.length_map,List.length_range,hfl]
   have hget:∀ (j:Nat) u,((List.range (xs.map (bR ty)).flatten.length).map us)[j]? = some u→j < (xs.map (bR ty)).flatten.length∧u=us j:=fun j u hu=>by
    rw [List.getElem?_map,zm] at hu
    obtain ⟨i,hi,rfl⟩:=hu
    obtain ⟨rfl,hlt⟩:=nD hi
    exact ⟨hlt,rfl⟩
   refine (hC _ n ((List.range (xs.map (bR ty)).flatten.length).map us) w ⟨A,c,rfl,hc,hm,by rw [hul,hn],fun h0=>?_⟩ (fun u hu=>?_) (by omega)).mono ?_
   ·obtain ⟨a, ha, hFa⟩ := hA (by rw [hn]; rcases Nat.eq_zero_or_pos xs.length with e | e
                                  ·rw [hul,e,Nat.zero_mul] at h0; omega
                                  ·exact e)
    refine ⟨a,ha,hG _ hFa,fun j u hu=>?_⟩
    obtain ⟨hlt,rfl⟩:=hget j u hu
    exact hcell a j _ ha (zq hlt)
   ·obtain ⟨j,hj⟩:=List.getElem?_of_mem hu
    obtain ⟨hlt,rfl⟩:=hget j u hj
    exact (hrep j _ (zq hlt)).one
   ·rintro en w' ⟨A',c',rfl,ho,hx⟩
    refine ⟨_,_,rfl,by rw [← hn]; exact ho,hx,hul,fun j u d hu hd=>?_⟩
    obtain ⟨hlt,rfl⟩:=hget j u hu
    exact hrep j d hd
 ·cases hF
noncomputable def UX:Ent:=⟨[.lf (.sl (.st 7))],[.io [.no],.own 29 8 (.st 7)],fq (.st 7) 29 8⟩
theorem UW:bN prog 61 [.lf (.sl (.st 7))] [.io [.no],.own 29 8 (.st 7)] (fq (.st 7) 29 8):=iq (.st 7) (by kernel_rfl) (by decide) (by kernel_rfl) (fun v n us w h1 h2 h3=>G8 v n us w h1 h2 h3)
noncomputable def UZ:Ent:=⟨[.lf (.sl (.st 6))],[.io [.no],.own 86 9 (.st 6)],fq (.st 6) 86 9⟩
theorem UY:bN prog 64 [.lf (.sl (.st 6))] [.io [.no],.own 86 9 (.st 6)] (fq (.st 6) 86 9):=iq (.st 6) (by kernel_rfl) (by decide) (by kernel_rfl) (fun v n us w h1 h2 h3=>G9 v n us w h1 h2 h3)
noncomputable def UT:Ent:=⟨[.lf (.sl (.st 11))],[.io [.no],.own 88 3 (.st 11)],fq (.st 11) 88 3⟩
theorem US:bN prog 65 [.lf (.sl (.st 11))] [.io [.no],.own 88 3 (.st 11)] (fq (.st 11) 88 3):=iq (.st 11) (by kernel_rfl) (by decide) (by kernel_rfl) (fun v n us w h1 h2 h3=>G6 v n us w h1 h2 h3)
noncomputable def UV:Ent:=⟨[.lf (.sl (.st 8))],[.io [.no],.own 72 6 (.st 8)],fq (.st 8) 72 6⟩
theorem UU:bN prog 66 [.lf (.sl (.st 8))] [.io [.no],.own 72 6 (.st 8)] (fq (.st 8) 72 6):=iq (.st 8) (by kernel_rfl) (by decide) (by kernel_rfl) (fun v n us w h1 h2 h3=>G7 v n us w h1 h2 h3)
noncomputable def Xs:Ent:=⟨[.lf (.sl (.str))],[.io [.no],.own 9 1 (.str)],fq (.str) 9 1⟩
theorem Xr:bN prog 125 [.lf (.sl (.str))] [.io [.no],.own 9 1 (.str)] (fq (.str) 9 1):=iq (.str) (by kernel_rfl) (by decide) (by kernel_rfl) (fun v n us w h1 h2 h3=>Ko v n us w h1 h2 h3)
noncomputable def Q9:Ent:=⟨[.lf (.sl (.st 4))],[.io [.no],.own 99 3 (.st 4)],fq (.st 4) 99 3⟩
theorem Q8:bN prog 127 [.lf (.sl (.st 4))] [.io [.no],.own 99 3 (.st 4)] (fq (.st 4) 99 3):=iq (.st 4) (by kernel_rfl) (by decide) (by kernel_rfl) (fun v n us w h1 h2 h3=>Fy v n us w h1 h2 h3)
noncomputable def Xw:Ent:=⟨[.lf (.sl (.st 3))],[.io [.no],.own 96 2 (.st 3)],fq (.st 3) 96 2⟩
theorem Xv:bN prog 128 [.lf (.sl (.st 3))] [.io [.no],.own 96 2 (.st 3)] (fq (.st 3) 96 2):=iq (.st 3) (by kernel_rfl) (by decide) (by kernel_rfl) (fun v n us w h1 h2 h3=>Kq v n us w h1 h2 h3)
noncomputable def Xy:Ent:=⟨[.lf (.sl (.st 1))],[.io [.no],.own 122 8 (.st 1)],fq (.st 1) 122 8⟩
theorem Xx:bN prog 106 [.lf (.sl (.st 1))] [.io [.no],.own 122 8 (.st 1)] (fq (.st 1) 122 8):=iq (.st 1) (by kernel_rfl) (by decide) (by kernel_rfl) (fun v n us w h1 h2 h3=>Kr v n us w h1 h2 h3)
noncomputable def Xu:Ent:=⟨[.lf (.sl (.int .i64))],[.io [.no],.own 3 1 (.int .i64)],fq (.int .i64) 3 1⟩
theorem Xt:bN prog 107 [.lf (.sl (.int .i64))] [.io [.no],.own 3 1 (.int .i64)] (fq (.int .i64) 3 1):=iq (.int .i64) (by kernel_rfl) (by decide) (by kernel_rfl) (fun v n us w h1 h2 h3=>Kp v n us w h1 h2 h3)
noncomputable def XA:Ent:=⟨[.lf (.sl (.st 2))],[.io [.no],.own 70 14 (.st 2)],fq (.st 2) 70 14⟩
theorem Xz:bN prog 105 [.lf (.sl (.st 2))] [.io [.no],.own 70 14 (.st 2)] (fq (.st 2) 70 14):=iq (.st 2) (by kernel_rfl) (by decide) (by kernel_rfl) (fun v n us w h1 h2 h3=>Ks v n us w h1 h2 h3)
noncomputable def v8:Ent:=⟨[.lf .str],[.lf .str],fun x=>if (show ByteArray from x.1).size≤1000000000 then some x.1 else none⟩
theorem v7:bN prog 102 [.lf .str] [.lf .str] (fun x=>if (show ByteArray from x.1).size≤1000000000 then some x.1 else none):=YA (by kernel_rfl) fun x z w hF=>by
 dsimp only at hF
 split at hF
 ·rename_i hle
  injection hF with hF
  subst hF
  exact Jw x w (Nat.le_trans hle (by decide))
 ·cases hF
noncomputable def rr (x:ct [.ag 2]) : Option (bc [.ag 2]):=gz ⟨prog,[(102,v8),(106,Xy),(107,Xu)],28,[.ag 2],[.cell 2 70],[],[2],[]⟩ ((Tryz.f63).body.getD .skip) (.n) [.ag 2] x
noncomputable def Hr:Ent:=⟨[.ag 2],[.ag 2],rr⟩
theorem Hq:bN prog 63 [.ag 2] [.ag 2] rr:=cj (n:=28) (.cons (v7) (.cons (Xx) (.cons (Xt) (.nil)))) Tryz.mixed Tryz.func63 rfl (by kernel_rfl) rfl rfl rfl (fun _=>rfl)
noncomputable def ow (x:ct [.ag 4]) : Option (bc [.ag 4]):=gz ⟨prog,[(102,v8),(128,Xw)],12,[.ag 4],[.cell 2 99],[],[2],[]⟩ ((Tryz.f104).body.getD .skip) (.n) [.ag 4] x
noncomputable def C7:Ent:=⟨[.ag 4],[.ag 4],ow⟩
theorem C6:bN prog 104 [.ag 4] [.ag 4] ow:=cj (n:=12) (.cons (v7) (.cons (Xv) (.nil))) Tryz.mixed Tryz.func104 rfl (by kernel_rfl) rfl rfl rfl (fun _=>rfl)
noncomputable def oy (x:ct [.lf (.sl .str),.fn 102 [] []]) : Option (bc [.lf (.sl .str)]):=gz ⟨prog,[(125,Xs),(102,v8)],24,[.lf (.sl .str)],[.tmp 4],[],[],[]⟩ ((Tryz.f101).body.getD .skip) (.s (.n) (.s (.n) (.s (.s (.n) (.s (.lp [.row 0 500512 9 1 (.str),.row 9 500512 9 1 (.str),.leaf 11 (.int .i64)] 0 false (.n)) .n)) (.n)))) [.lf (.sl .str),.fn 102 [] []] x
noncomputable def C9:Ent:=⟨[.lf (.sl .str),.fn 102 [] []],[.lf (.sl .str)],oy⟩
theorem C8:bN prog 101 [.lf (.sl .str),.fn 102 [] []] [.lf (.sl .str)] oy:=cj (n:=24) (.cons (Xr) (.cons (v7) (.nil))) Tryz.mixed Tryz.func101 rfl (by kernel_rfl) rfl rfl rfl (fun _=>rfl)
noncomputable def oz (x:ct [.lf (.sl (.st 4)),.fn 104 [] []]) : Option (bc [.lf (.sl (.st 4))]):=gz ⟨prog,[(127,Q9),(104,C7)],24,[.lf (.sl (.st 4))],[.tmp 4],[],[],[]⟩ ((Tryz.f103).body.getD .skip) (.s (.n) (.s (.n) (.s (.s (.n) (.s (.lp [.row 0 500512 99 3 (.st 4),.row 9 500512 99 3 (.st 4),.leaf 11 (.int .i64)] 0 false (.n)) .n)) (.n)))) [.lf (.sl (.st 4)),.fn 104 [] []] x
noncomputable def Db:Ent:=⟨[.lf (.sl (.st 4)),.fn 104 [] []],[.lf (.sl (.st 4))],oz⟩
theorem Da:bN prog 103 [.lf (.sl (.st 4)),.fn 104 [] []] [.lf (.sl (.st 4))] oz:=cj (n:=24) (.cons (Q8) (.cons (C6) (.nil))) Tryz.mixed Tryz.func103 rfl (by kernel_rfl) rfl rfl rfl (fun _=>rfl)
noncomputable def oA (x:ct [.lf (.sl (.st 2)),.fn 63 [] []]) : Option (bc [.io [.no,.no],.own 70 14 (.st 2)]):=Ro ⟨prog,[(105,XA),(63,Hr)],24,[.io [.no,.no],.own 70 14 (.st 2)],[.tmp 4],[],[],[]⟩ ((Tryz.f62).body.getD .skip) (.s (.n) (.s (.n) (.s (.s (.n) (.s (.lp [.row 0 500512 70 14 (.st 2),.row 9 500512 70 14 (.st 2),.leaf 11 (.int .i64)] 0 false (.n)) .n)) (.n)))) [.lf (.sl (.st 2)),.fn 63 [] []] x
noncomputable def Dd:Ent:=⟨[.lf (.sl (.st 2)),.fn 63 [] []],[.io [.no,.no],.own 70 14 (.st 2)],oA⟩
theorem Dc:bN prog 62 [.lf (.sl (.st 2)),.fn 63 [] []] [.io [.no,.no],.own 70 14 (.st 2)] oA:=Sk (n:=24) (.cons (Xz) (.cons (Hq) (.nil))) Tryz.mixed Tryz.func62 rfl (by kernel_rfl) rfl rfl (by kernel_rfl) (fun _ _ _=>(by first | trivial | exact ⟨trivial,trivial⟩)) (fun _=>rfl)
noncomputable def qt (x:ct [.ag 5]) : Option (bc [.ag 5]):=gz ⟨prog,[(101,C9),(103,Db),(102,v8)],10,[.ag 5],[.cell 2 34],[],[2],[]⟩ ((Tryz.f60).body.getD .skip) (.n) [.ag 5] x
noncomputable def GF:Ent:=⟨[.ag 5],[.ag 5],qt⟩
theorem GD:bN prog 60 [.ag 5] [.ag 5] qt:=cj (n:=10) (.cons (C8) (.cons (Da) (.cons (v7) (.nil)))) Tryz.mixed Tryz.func60 rfl (by kernel_rfl) rfl rfl rfl (fun _=>rfl)
noncomputable def oB (x:ct [.ag 12]) : Option (bc [.io [.no],.agr 12 [(2,29,8,.st 7),(3,70,14,.st 2),(4,86,9,.st 6),(5,88,3,.st 11),(6,72,6,.st 8)]]):=Ro ⟨prog,[(60,GF),(61,UX),(62,Dd),(64,UZ),(65,UT),(66,UV)],28,[.io [.no],.agr 12 [(2,29,8,.st 7),(3,70,14,.st 2),(4,86,9,.st 6),(5,88,3,.st 11),(6,72,6,.st 8)]],[.cell 2 41],[],[2],[]⟩ ((Tryz.f31).body.getD .skip) (.n) [.ag 12] x
noncomputable def tP:Ent:=⟨[.ag 12],[.io [.no],.agr 12 [(2,29,8,.st 7),(3,70,14,.st 2),(4,86,9,.st 6),(5,88,3,.st 11),(6,72,6,.st 8)]],oB⟩
theorem tO:bN prog 31 [.ag 12] [.io [.no],.agr 12 [(2,29,8,.st 7),(3,70,14,.st 2),(4,86,9,.st 6),(5,88,3,.st 11),(6,72,6,.st 8)]] oB:=Sk (n:=28) (.cons (GD) (.cons (UW) (.cons (Dc) (.cons (UY) (.cons (US) (.cons (UU) (.nil))))))) Tryz.mixed Tryz.func31 rfl (by kernel_rfl) rfl rfl (by kernel_rfl) (fun _ _ _=>(by first | trivial | exact ⟨trivial,trivial⟩)) (fun _=>rfl)
noncomputable def vg (x:ct [.lf (.int .i64),.ag 7]) : Option (bc [.lf (.bool)]):=gz ⟨prog,[],9,[.lf (.bool)],[.tmp 4],[],[],[]⟩ ((Tryz.f40).body.getD .skip) (.n) [.lf (.int .i64),.ag 7] x
noncomputable def Gy:Ent:=⟨[.lf (.int .i64),.ag 7],[.lf (.bool)],vg⟩
theorem Gx:bN prog 40 [.lf (.int .i64),.ag 7] [.lf (.bool)] vg:=cj (n:=9) (.nil) Tryz.mixed Tryz.func40 rfl (by kernel_rfl) rfl rfl rfl (fun _=>rfl)
noncomputable def sA (x:ct [.lf (.int .i64),.ag 7]) : Option (bc [.lf (.bool)]):=gz ⟨prog,[],9,[.lf (.bool)],[.tmp 4],[],[],[]⟩ ((Tryz.f68).body.getD .skip) (.n) [.lf (.int .i64),.ag 7] x
noncomputable def BR:Ent:=⟨[.lf (.int .i64),.ag 7],[.lf (.bool)],sA⟩
theorem BQ:bN prog 68 [.lf (.int .i64),.ag 7] [.lf (.bool)] sA:=cj (n:=9) (.nil) Tryz.mixed Tryz.func68 rfl (by kernel_rfl) rfl rfl rfl (fun _=>rfl)
noncomputable def qR (x:ct [.lf (.int .i64),.ag 7]) : Option (bc [.lf (.bool)]):=gz ⟨prog,[],9,[.lf (.bool)],[.tmp 4],[],[],[]⟩ ((Tryz.f69).body.getD .skip) (.n) [.lf (.int .i64),.ag 7] x
noncomputable def Au:Ent:=⟨[.lf (.int .i64),.ag 7],[.lf (.bool)],qR⟩
theorem Ar:bN prog 69 [.lf (.int .i64),.ag 7] [.lf (.bool)] qR:=cj (n:=9) (.nil) Tryz.mixed Tryz.func69 rfl (by kernel_rfl) rfl rfl rfl (fun _=>rfl)
noncomputable def vm (x:ct [.lf (.sl (.st 7)),.fn 40 [.v (.int .i64)] []]) : Option (bc [.lf (.int .i64)]):=gz ⟨prog,[(40,Gy)],19,[.lf (.int .i64)],[.tmp 4],[],[],[]⟩ ((Tryz.f72).body.getD .skip) (.s (.n) (.s (.s (.n) (.s (.lp [.leaf 4 (.int .i64),.leaf 8 (.int .i64)] 0 true (.n)) .n)) (.n))) [.lf (.sl (.st 7)),.fn 40 [.v (.int .i64)] []] x
noncomputable def N6:Ent:=⟨[.lf (.sl (.st 7)),.fn 40 [.v (.int .i64)] []],[.lf (.int .i64)],vm⟩
theorem N5:bN prog 72 [.lf (.sl (.st 7)),.fn 40 [.v (.int .i64)] []] [.lf (.int .i64)] vm:=cj (n:=19) (.cons (Gx) (.nil)) Tryz.mixed Tryz.func72 rfl (by kernel_rfl) rfl rfl rfl (fun _=>rfl)
noncomputable def wX (x:ct [.lf (.sl (.st 7)),.fn 68 [.v (.int .i64)] []]) : Option (bc [.lf (.int .i64)]):=gz ⟨prog,[(68,BR)],19,[.lf (.int .i64)],[.tmp 4],[],[],[]⟩ ((Tryz.f72).body.getD .skip) (.s (.n) (.s (.s (.n) (.s (.lp [.leaf 4 (.int .i64),.leaf 8 (.int .i64)] 0 true (.n)) .n)) (.n))) [.lf (.sl (.st 7)),.fn 68 [.v (.int .i64)] []] x
noncomputable def Hp:Ent:=⟨[.lf (.sl (.st 7)),.fn 68 [.v (.int .i64)] []],[.lf (.int .i64)],wX⟩
theorem Ho:bN prog 72 [.lf (.sl (.st 7)),.fn 68 [.v (.int .i64)] []] [.lf (.int .i64)] wX:=cj (n:=19) (.cons (BQ) (.nil)) Tryz.mixed Tryz.func72 rfl (by kernel_rfl) rfl rfl rfl (fun _=>rfl)
noncomputable def vn (x:ct [.lf (.sl (.st 7)),.fn 69 [.v (.int .i64)] []]) : Option (bc [.lf (.int .i64)]):=gz ⟨prog,[(69,Au)],19,[.lf (.int .i64)],[.tmp 4],[],[],[]⟩ ((Tryz.f72).body.getD .skip) (.s (.n) (.s (.s (.n) (.s (.lp [.leaf 4 (.int .i64),.leaf 8 (.int .i64)] 0 true (.n)) .n)) (.n))) [.lf (.sl (.st 7)),.fn 69 [.v (.int .i64)] []] x
noncomputable def GC:Ent:=⟨[.lf (.sl (.st 7)),.fn 69 [.v (.int .i64)] []],[.lf (.int .i64)],vn⟩
theorem GB:bN prog 72 [.lf (.sl (.st 7)),.fn 69 [.v (.int .i64)] []] [.lf (.int .i64)] vn:=cj (n:=19) (.cons (Ar) (.nil)) Tryz.mixed Tryz.func72 rfl (by kernel_rfl) rfl rfl rfl (fun _=>rfl)
noncomputable def tB (x:ct [.lf (.sl (.st 7)),.fn 40 [.v (.int .i64)] []]) : Option (bc [.lf (.int .i64)]):=gz ⟨prog,[(72,N6)],14,[.lf (.int .i64)],[.tmp 4],[],[],[]⟩ ((Tryz.f39).body.getD .skip) (.n) [.lf (.sl (.st 7)),.fn 40 [.v (.int .i64)] []] x
noncomputable def Az:Ent:=⟨[.lf (.sl (.st 7)),.fn 40 [.v (.int .i64)] []],[.lf (.int .i64)],tB⟩
theorem Ay:bN prog 39 [.lf (.sl (.st 7)),.fn 40 [.v (.int .i64)] []] [.lf (.int .i64)] tB:=cj (n:=14) (.cons (N5) (.nil)) Tryz.mixed Tryz.func39 rfl (by kernel_rfl) rfl rfl rfl (fun _=>rfl)
noncomputable def qu (x:ct [.lf (.sl (.st 7)),.fn 68 [.v (.int .i64)] []]) : Option (bc [.lf (.int .i64)]):=gz ⟨prog,[(72,Hp)],14,[.lf (.int .i64)],[.tmp 4],[],[],[]⟩ ((Tryz.f39).body.getD .skip) (.n) [.lf (.sl (.st 7)),.fn 68 [.v (.int .i64)] []] x
noncomputable def GH:Ent:=⟨[.lf (.sl (.st 7)),.fn 68 [.v (.int .i64)] []],[.lf (.int .i64)],qu⟩
theorem GG:bN prog 39 [.lf (.sl (.st 7)),.fn 68 [.v (.int .i64)] []] [.lf (.int .i64)] qu:=cj (n:=14) (.cons (Ho) (.nil)) Tryz.mixed Tryz.func39 rfl (by kernel_rfl) rfl rfl rfl (fun _=>rfl)
noncomputable def oC (x:ct [.lf (.sl (.st 7)),.fn 69 [.v (.int .i64)] []]) : Option (bc [.lf (.int .i64)]):=gz ⟨prog,[(72,GC)],14,[.lf (.int .i64)],[.tmp 4],[],[],[]⟩ ((Tryz.f39).body.getD .skip) (.n) [.lf (.sl (.st 7)),.fn 69 [.v (.int .i64)] []] x
noncomputable def Df:Ent:=⟨[.lf (.sl (.st 7)),.fn 69 [.v (.int .i64)] []],[.lf (.int .i64)],oC⟩
theorem De:bN prog 39 [.lf (.sl (.st 7)),.fn 69 [.v (.int .i64)] []] [.lf (.int .i64)] oC:=cj (n:=14) (.cons (GB) (.nil)) Tryz.mixed Tryz.func39 rfl (by kernel_rfl) rfl rfl rfl (fun _=>rfl)
noncomputable def qq (x:ct [.ag 12,.lf (.int .i64)]) : Option (bc [.ag 7,.lf (.bool)]):=gz ⟨prog,[(39,Az)],23,[.ag 7,.lf (.bool)],[.cell 4 29,.tmp 5],[],[4],[]⟩ ((Tryz.f16).body.getD .skip) (.n) [.ag 12,.lf (.int .i64)] x
noncomputable def jg:Ent:=⟨[.ag 12,.lf (.int .i64)],[.ag 7,.lf (.bool)],qq⟩
theorem jf:bN prog 16 [.ag 12,.lf (.int .i64)] [.ag 7,.lf (.bool)] qq:=cj (n:=23) (.cons (Ay) (.nil)) Tryz.mixed Tryz.func16 rfl (by kernel_rfl) rfl rfl rfl (fun _=>rfl)
noncomputable def rq (x:ct [.lf (.sl (.st 7)),.ag 7]) : Option (bc [.lf (.sl (.st 7))]):=gz ⟨prog,[(39,GH),(39,Df)],46,[.lf (.sl (.st 7))],[.tmp 4],[],[],[]⟩ ((Tryz.f33).body.getD .skip) (.n) [.lf (.sl (.st 7)),.ag 7] x
noncomputable def Hn:Ent:=⟨[.lf (.sl (.st 7)),.ag 7],[.lf (.sl (.st 7))],rq⟩
theorem Hm:bN prog 33 [.lf (.sl (.st 7)),.ag 7] [.lf (.sl (.st 7))] rq:=cj (n:=46) (.cons (GG) (.cons (De) (.nil))) Tryz.mixed Tryz.func33 rfl (by kernel_rfl) rfl rfl rfl (fun _=>rfl)
noncomputable def nc (x:ct [.lf (.int .i64),.lf (.int .i64)]) : Option (bc [.lf (.bool)]):=gz ⟨prog,[],12,[.lf (.bool)],[.tmp 4],[],[],[]⟩ ((Tryz.f108).body.getD .skip) (.n) [.lf (.int .i64),.lf (.int .i64)] x
noncomputable def BN:Ent:=⟨[.lf (.int .i64),.lf (.int .i64)],[.lf (.bool)],nc⟩
theorem BM:bN prog 108 [.lf (.int .i64),.lf (.int .i64)] [.lf (.bool)] nc:=cj (n:=12) (.nil) Tryz.mixed Tryz.func108 rfl (by kernel_rfl) rfl rfl rfl (fun _=>rfl)
noncomputable def mg (x:ct [.ag 7,.lf (.int .i64)]) : Option (bc [.lf (.bool)]):=gz ⟨prog,[(108,BN)],32,[.lf (.bool)],[.tmp 4],[],[],[]⟩ ((Tryz.f67).body.getD .skip) (.n) [.ag 7,.lf (.int .i64)] x
noncomputable def Ax:Ent:=⟨[.ag 7,.lf (.int .i64)],[.lf (.bool)],mg⟩
theorem Aw:bN prog 67 [.ag 7,.lf (.int .i64)] [.lf (.bool)] mg:=cj (n:=32) (.cons (BM) (.nil)) Tryz.mixed Tryz.func67 rfl (by kernel_rfl) rfl rfl rfl (fun _=>rfl)
noncomputable def kG (x:ct [.ag 12,.ag 7]) : Option (bc [.lf (.int .i64)]):=gz ⟨prog,[(16,jg),(67,Ax)],34,[.lf (.int .i64)],[.tmp 4],[],[],[]⟩ ((Tryz.f32).body.getD .skip) (.n) [.ag 12,.ag 7] x
noncomputable def xW:Ent:=⟨[.ag 12,.ag 7],[.lf (.int .i64)],kG⟩
theorem xV:bN prog 32 [.ag 12,.ag 7] [.lf (.int .i64)] kG:=cj (n:=34) (.cons (jf) (.cons (Aw) (.nil))) Tryz.mixed Tryz.func32 rfl (by kernel_rfl) rfl rfl rfl (fun _=>rfl)
noncomputable def kH (x:ct [.ag 12,.ag 7]) : Option (bc [.ag 12,.lf (.int .i64)]):=gz ⟨prog,[(31,tP),(32,xW),(33,Hn)],32,[.ag 12,.lf (.int .i64)],[.cell 4 41,.tmp 5],[],[4],[]⟩ ((Tryz.f11).body.getD .skip) (.n) [.ag 12,.ag 7] x
noncomputable def qo:Ent:=⟨[.ag 12,.ag 7],[.ag 12,.lf (.int .i64)],kH⟩
theorem qn:bN prog 11 [.ag 12,.ag 7] [.ag 12,.lf (.int .i64)] kH:=cj (n:=32) (.cons (tO) (.cons (xV) (.cons (Hm) (.nil)))) Tryz.mixed Tryz.func11 rfl (by kernel_rfl) rfl rfl rfl (fun _=>rfl)
noncomputable def qm (x:ct [.ag 12,.lf (.int .i64)]) : Option (bc [.ag 0]):=gz ⟨prog,[],35,[.ag 0],[.cell 4 27],[],[4],[]⟩ ((Tryz.f18).body.getD .skip) (.s (.n) (.s (.n) (.s (.s (.n) (.s (.lp [.leaf 11 (.int .i64),.box 5 27 0 []] 0 false (.n)) .n)) (.n)))) [.ag 12,.lf (.int .i64)] x
noncomputable def vi:Ent:=⟨[.ag 12,.lf (.int .i64)],[.ag 0],qm⟩
theorem vh:bN prog 18 [.ag 12,.lf (.int .i64)] [.ag 0] qm:=cj (n:=35) (.nil) Tryz.mixed Tryz.func18 rfl (by kernel_rfl) rfl rfl rfl (fun _=>rfl)
noncomputable def ou (x:ct [.lf (.int .i64),.lf (.int .i64)]) : Option (bc [.lf (.int .u64)]):=gz ⟨prog,[],10,[.lf (.int .u64)],[.tmp 4],[],[],[]⟩ ((Tryz.f71).body.getD .skip) (.n) [.lf (.int .i64),.lf (.int .i64)] x
noncomputable def tN:Ent:=⟨[.lf (.int .i64),.lf (.int .i64)],[.lf (.int .u64)],ou⟩
theorem tM:bN prog 71 [.lf (.int .i64),.lf (.int .i64)] [.lf (.int .u64)] ou:=cj (n:=10) (.nil) Tryz.mixed Tryz.func71 rfl (by kernel_rfl) rfl rfl rfl (fun _=>rfl)
noncomputable def qp (x:ct [.ag 12,.lf (.int .i64)]) : Option (bc [.ag 0]):=gz ⟨prog,[(16,jg),(18,vi)],36,[.ag 0],[.cell 4 27],[],[4],[]⟩ ((Tryz.f20).body.getD .skip) (.n) [.ag 12,.lf (.int .i64)] x
noncomputable def vk:Ent:=⟨[.ag 12,.lf (.int .i64)],[.ag 0],qp⟩
theorem vj:bN prog 20 [.ag 12,.lf (.int .i64)] [.ag 0] qp:=cj (n:=36) (.cons (jf) (.cons (vh) (.nil))) Tryz.mixed Tryz.func20 rfl (by kernel_rfl) rfl rfl rfl (fun _=>rfl)
noncomputable def sy (x:ct [.lf (.int .i64),.ag 7]) : Option (bc [.lf (.bool)]):=gz ⟨prog,[(71,tN)],20,[.lf (.bool)],[.tmp 4],[],[],[]⟩ ((Tryz.f42).body.getD .skip) (.n) [.lf (.int .i64),.ag 7] x
noncomputable def BP:Ent:=⟨[.lf (.int .i64),.ag 7],[.lf (.bool)],sy⟩
theorem BO:bN prog 42 [.lf (.int .i64),.ag 7] [.lf (.bool)] sy:=cj (n:=20) (.cons (tM) (.nil)) Tryz.mixed Tryz.func42 rfl (by kernel_rfl) rfl rfl rfl (fun _=>rfl)
noncomputable def nf (x:ct [.ag 12]) : Option (bc [.lf (.sl (.int .i64))]):=gz ⟨prog,[(42,BP)],26,[.lf (.sl (.int .i64))],[.tmp 2],[],[],[]⟩ ((Tryz.f23).body.getD .skip) (.s (.n) (.s (.n) (.s (.s (.n) (.s (.lp [.row 2 2 3 1 (.int .i64),.leaf 12 (.int .i64)] 0 false (.n)) .n)) (.n)))) [.ag 12] x
noncomputable def BT:Ent:=⟨[.ag 12],[.lf (.sl (.int .i64))],nf⟩
theorem BS:bN prog 23 [.ag 12] [.lf (.sl (.int .i64))] nf:=cj (n:=26) (.cons (BO) (.nil)) Tryz.mixed Tryz.func23 rfl (by kernel_rfl) rfl rfl rfl (fun _=>rfl)
abbrev EOk (P:Program) (f:FuncId) (e:Ent) : Prop:=bN P f e.ps e.rs e.f
theorem aH {P:Program} {T:List (Nat×Ent)} {e:Ent} {f:FuncId} {fn:Func} (h:tV) (fz:List (Nat×List Nat)) (sc:List Nat) (fb:List (Nat×List Nat)) (hT:qQ P T) (hm:P.follows .mixedOrders=true) (hf:P.funcs[f]? = some fn) (hb:fn.body=some (fn.body.getD .skip):=by kernel_rfl) (hcb:eh P f=true:=by kernel_rfl) (hl:((decide (e.ps.length≤fn.ntmps)&&ul e.ps) && !(oW e.ps||oW e.rs))=true:=by kernel_rfl)
  (hF:∀ x,gz ⟨P,T,fn.ntmps,e.rs,fn.results.toList,fz,sc,fb⟩ (fn.body.getD .skip) h e.ps x=e.f x:=by intro x; kernel_rfl) : bN P f e.ps e.rs e.f:=cj hT hm hf hb hcb rfl rfl hl hF
def zu (v_n:Int) : Option (Bool) :=
 (if (decide (v_n≥0))=true then some (decide (v_n≤1125899906842624)) else some false).bind fun q1=>some q1
def tp (v_a:aw) : Option (Bool) :=
 (zu v_a.br).bind fun c1=>(if c1=true then (zu v_a.aV).bind fun c2=>some c2 else some false).bind fun q3=>some q3
def fF (v_a:aw) (v_b:aw) : Option (Bool) :=
 (if (decide (v_a.br≤v_b.br))=true then some (decide (v_a.aV≤v_b.aV)) else some false).bind fun q1=>some q1
def vP (v_a:aw) (v_b:aw) : Option (aw) :=
 some (⟨(if 0 > (i64.wrap (v_a.br - v_b.br)) then 0 else (i64.wrap (v_a.br - v_b.br))),(if 0 > (i64.wrap (v_a.aV - v_b.aV)) then 0 else (i64.wrap (v_a.aV - v_b.aV)))⟩ : aw)
def db (v_a:aw) (v_b:aw) : Option (aw) :=
 some (⟨(i64.wrap (v_a.br + v_b.br)),(i64.wrap (v_a.aV + v_b.aV))⟩ : aw)
def uQ (v_n:Int) (AH:Int) : Option (Int) :=
 some (i64.wrap ((i64.wrap ((i64.wrap (Int.tdiv v_n 10000)) * AH)) + (i64.wrap (Int.tdiv (i64.wrap ((Int.tmod v_n 10000) * AH)) 10000))))
def uR (v_a:aw) (AH:Int) : Option (aw×Int) :=
 (tp v_a).bind fun c1=>(if (!c1)=true then some true else some (decide (AH < 0))).bind fun q2=>(if q2=true then some true else some (decide (AH > 1000000))).bind fun q3=>if q3=true then
 some ((⟨0,0⟩ : aw),1)
 else
 (uQ v_a.br AH).bind fun c4=>(uQ v_a.aV AH).bind fun c5=>let v_c:aw:=(⟨c4,c5⟩ : aw)
 (tp v_c).bind fun c6=>if (!c6)=true then
 some ((⟨0,0⟩ : aw),11)
 else
 some (v_c,0)
def zr (v_a:Int) (v_b:Int) : Option (Int×Int) :=
 let t1:Int:=(Int.fdiv v_a (2 ^ (min (Int.toNat 25) (IntKind.i64.bits))))
 let t2:Int:=(bits .and .i64 v_a 33554431)
 let t3:Int:=(Int.fdiv v_b (2 ^ (min (Int.toNat 25) (IntKind.i64.bits))))
 let t4:Int:=(bits .and .i64 v_b 33554431)
 let SB:Int:=t1
 let U4:Int:=t2
 let SA:Int:=t3
 let U3:Int:=t4
 let YQ:Int:=(i64.wrap ((i64.wrap (SB * U3)) + (i64.wrap (U4 * SA))))
 let YS:Int:=(i64.wrap ((i64.wrap (U4 * U3)) + (i64.wrap ((bits .and .i64 YQ 33554431) * 2 ^ (min (Int.toNat 25) (IntKind.i64.bits))))))
 let Ze:Int:=(i64.wrap ((i64.wrap ((i64.wrap (SB * SA)) + (Int.fdiv YQ (2 ^ (min (Int.toNat 25) (IntKind.i64.bits)))))) + (Int.fdiv YS (2 ^ (min (Int.toNat 50) (IntKind.i64.bits))))))
 some (Ze,(bits .and .i64 YS 1125899906842623))
def pW (v_x:bb) (v_y:bb) : Option (Int) :=
 (if (v_x.fA==0)=true then
 let v_x:bb:={ v_x with fP:=1 }
 some v_x
 else
 some v_x).bind fun j1=>let v_x:=j1
 (if (v_y.fA==0)=true then
 let v_y:bb:={ v_y with fP:=1 }
 some v_y
 else
 some v_y).bind fun j2=>let v_y:=j2
 (if (v_x.fP==0)=true then some true else some (v_y.fP==0)).bind fun q3=>if q3=true then
 (if (v_x.fP==0)=true then some (v_y.fP==0) else some false).bind fun q4=>if q4=true then
 some 0
 else
 if (v_x.fP==0)=true then
 some 1
 else
 some (-1)
 else
 (zr v_x.fA v_y.fP).bind fun c5=>let SB:Int:=c5.1
 let U4:Int:=c5.2
 (zr v_y.fA v_x.fP).bind fun c6=>let SA:Int:=c6.1
 let U3:Int:=c6.2
 (if (decide (SB < SA))=true then some true else (if (SB==SA)=true then some (decide (U4 < U3)) else some false).bind fun q7=>some q7).bind fun q8=>if q8=true then
 some (-1)
 else
 (if (SB==SA)=true then some (U4==U3) else some false).bind fun q9=>if q9=true then
 some 0
 else
 some 1
def zv (v_a:aw) (v_p:aw) : Option (bb) :=
 let t1:bb:=(⟨v_a.br,v_p.br⟩ : bb)
 let t2:bb:=(⟨v_a.aV,v_p.aV⟩ : bb)
 let v_x:bb:=t1
 let v_y:bb:=t2
 (pW v_x v_y).bind fun c3=>if (decide (c3 < 0))=true then
 some v_y
 else
 some v_x
def zw (v_a:aw) (v_p:aw) (v_b:aw) (v_q:aw) : Option (Int) :=
 (tp v_a).bind fun c1=>(if (!c1)=true then some true else (tp v_p).bind fun c2=>some (!c2)).bind fun q3=>(if q3=true then some true else (tp v_b).bind fun c4=>some (!c4)).bind fun q5=>(if q5=true then some true else (tp v_q).bind fun c6=>some (!c6)).bind fun q7=>if q7=true then
 some 0
 else
 (zv v_a v_p).bind fun c8=>(zv v_b v_q).bind fun c9=>(pW c8 c9).bind fun c10=>some c10
def rc (v_s:ByteArray) (st:Int) : Option ((Int)⊕((Int)⊕(Bool))) :=
 let v_i:=st
 if (decide (v_i < (v_s.size:Int)))=true then
 (lc v_s v_i).bind fun b2=>let v_c:Int:=b2
 (if (decide (v_c < 97))=true then some true else some (decide (v_c > 122))).bind fun q3=>(if q3=true then (if (decide (v_c < 48))=true then some true else some (decide (v_c > 57))).bind fun q4=>some q4 else some false).bind fun q5=>(if q5=true then some (v_c != 45) else some false).bind fun q6=>if q6=true then
 some (.inr (.inr false))
 else
 let v_i:Int:=(i64.wrap (v_i + 1))
 some (.inl v_i)
 else
 some (.inr (.inl v_i))
def vN (v_s:ByteArray) : Option (Bool) :=
 (if (decide ((v_s.size:Int) < 1))=true then some true else some (decide ((v_s.size:Int) > 12))).bind fun q1=>if q1=true then
 some false
 else
 let v_i:Int:=0
 (ah (rc v_s) ab v_i).bind fun r7=>match r7 with
 | .inr m8=>some m8
 | .inl m8 =>
 let v_i:=m8
 some true
def iY (av:ByteArray) (st:Int) : Option ((Int)⊕((Int))) :=
 let v_k:=st
 (if (decide (v_k≥0))=true then (lc av v_k).bind fun b1=>some (b1 != 46) else some false).bind fun q2=>if q2=true then
 let v_k:Int:=(i64.wrap (v_k - 1))
 some (.inl v_k)
 else
 some (.inr v_k)
def dP (av:ByteArray) : Option (ByteArray) :=
 let v_k:Int:=(i64.wrap ((av.size:Int) - 1))
 (ah (iY av) ab v_k).bind fun r3 =>
 let v_k:=r3
 if (decide (v_k < 0))=true then
 some (⟨#[]⟩ : ByteArray)
 else
 (Ox av v_k).bind fun b4=>some b4
def nS (st:(List ByteArray)×ByteArray) : Option (((List ByteArray)×ByteArray)⊕(((List ByteArray)×ByteArray))) :=
 let v_l:=st.1
 let av:=st.2
 if (!(av.toList==(⟨#[]⟩ : ByteArray).toList))=true then
 (aX v_l [av]).bind fun b1=>let v_l:(List ByteArray):=b1
 (dP av).bind fun c2=>let av:ByteArray:=c2
 some (.inl (v_l,av))
 else
 some (.inr (v_l,av))
def zi (av:ByteArray) : Option ((List ByteArray)) :=
 let v_l:(List ByteArray):=[]
 (ah (nS) ab (v_l,av)).bind fun r3 =>
 let v_l:=r3.1
 let av:=r3.2
 some v_l
def og (v_s:ByteArray) (st:Int×Int×Int) : Option ((Int×Int×Int)⊕((Int×Int×Int)⊕(Bool))) :=
 let oL:=st.1
 let v_n:=st.2.1
 let v_i:=st.2.2
 if (decide (v_i≤(v_s.size:Int)))=true then
 (if (decide (v_i < (v_s.size:Int)))=true then (lc v_s v_i).bind fun b3=>some (b3 != 46) else some false).bind fun q4=>if q4=true then
 let v_i:Int:=(i64.wrap (v_i + 1))
 some (.inl (oL,v_n,v_i))
 else
 (JC v_s oL v_i).bind fun b5=>(vN b5).bind fun c6=>(if (!c6)=true then some true else (if (v_n==0)=true then (JC v_s oL v_i).bind fun b7=>some (!(b7.toList==(⟨#[114,111,111,116]⟩ : ByteArray).toList)) else some false).bind fun q8=>some q8).bind fun q9=>if q9=true then
 some (.inr (.inr false))
 else
 let oL:Int:=(i64.wrap (v_i + 1))
 let v_n:Int:=(i64.wrap (v_n + 1))
 let v_i:Int:=(i64.wrap (v_i + 1))
 some (.inl (oL,v_n,v_i))
 else
 some (.inr (.inl (oL,v_n,v_i)))
def vM (v_s:ByteArray) : Option (Bool) :=
 let t1:Int:=0
 let t2:Int:=0
 let oL:Int:=t1
 let v_n:Int:=t2
 let v_i:Int:=0
 (ah (og v_s) ab (oL,v_n,v_i)).bind fun r10=>match r10 with
 | .inr m11=>some m11
 | .inl m11 =>
 let oL:=m11.1
 let v_n:=m11.2.1
 let v_i:=m11.2.2
 some (decide (v_n≤4))
def nv (v_c:ax) (av:ByteArray) (st:Int) : Option ((Int)⊕((Int)⊕(aB×Bool))) :=
 let v_i:=st
 if (decide (v_i < (v_c.ae.length:Int)))=true then
 (au v_c.ae v_i).bind fun b1=>if (b1.aI.toList==av.toList)=true then
 (au v_c.ae v_i).bind fun b2=>let v_q:aB:=b2
 (aX ([] : (List ec)) v_q.bl).bind fun b3=>let v_q:aB:={ v_q with bl:=b3 }
 some (.inr (.inr (v_q,true)))
 else
 let v_i:Int:=(i64.wrap (v_i + 1))
 some (.inl v_i)
 else
 some (.inr (.inl v_i))
def jr (v_c:ax) (av:ByteArray) : Option (aB×Bool) :=
 let v_i:Int:=0
 (ah (nv v_c av) ab v_i).bind fun r4=>match r4 with
 | .inr m5=>some m5
 | .inl m5 =>
 let v_i:=m5
 some ((⟨⟨#[]⟩,[],0⟩ : aB),false)
def nu (v_c:ax) (av:ByteArray) (st:(List ByteArray)×Int) : Option (((List ByteArray)×Int)⊕(((List ByteArray)×Int))) :=
 let v_l:=st.1
 let v_i:=st.2
 if (decide (v_i < (v_c.ae.length:Int)))=true then
 (if (!(av.toList==(⟨#[]⟩ : ByteArray).toList))=true then (au v_c.ae v_i).bind fun b1=>(dP b1.aI).bind fun c2=>some (c2.toList==av.toList) else some false).bind fun q3=>if q3=true then
 (au v_c.ae v_i).bind fun b4=>(aX v_l [b4.aI]).bind fun b5=>let v_l:(List ByteArray):=b5
 let v_i:Int:=(i64.wrap (v_i + 1))
 some (.inl (v_l,v_i))
 else
 let v_i:Int:=(i64.wrap (v_i + 1))
 some (.inl (v_l,v_i))
 else
 some (.inr (v_l,v_i))
def eX (v_c:ax) (av:ByteArray) : Option ((List ByteArray)) :=
 let v_l:(List ByteArray):=[]
 let v_i:Int:=0
 (ah (nu v_c av) ab (v_l,v_i)).bind fun r6 =>
 let v_l:=r6.1
 let v_i:=r6.2
 some v_l
def jV (v_c:ax) (av:ByteArray) : Option (Bool) :=
 (jr v_c av).bind fun c1=>let bS:Bool:=c1.2
 (if bS=true then (eX v_c av).bind fun c2=>some ((c2.length:Int)==0) else some false).bind fun q3=>some q3
def oe (v_c:ax) (st:Int) : Option ((Int)⊕((Int)⊕(Int))) :=
 let v_i:=st
 if (decide (v_i < (v_c.ai.length:Int)))=true then
 (au v_c.ai v_i).bind fun b4=>(vN b4).bind fun c5=>if (!c5)=true then
 some (.inr (.inr 12))
 else
 let v_i:Int:=(i64.wrap (v_i + 1))
 some (.inl v_i)
 else
 some (.inr (.inl v_i))
def ob (aK:Int) (v_c:ax) (st:Int) : Option ((Int)⊕((Int)⊕(Int))) :=
 let v_k:=st
 if (decide (v_k < aK))=true then
 (au v_c.ai aK).bind fun b8=>(au v_c.ai v_k).bind fun b9=>if (b8.toList==b9.toList)=true then
 some (.inr (.inr 7))
 else
 let v_k:Int:=(i64.wrap (v_k + 1))
 some (.inl v_k)
 else
 some (.inr (.inl v_k))
def od (v_c:ax) (st:Int) : Option ((Int)⊕((Int)⊕(Int))) :=
 let aK:=st
 if (decide (aK < (v_c.ai.length:Int)))=true then
 let v_k:Int:=1
 (ah (ob aK v_c) ab v_k).bind fun r10=>match r10 with
 | .inr m11=>some (.inr (.inr m11))
 | .inl m11 =>
 let v_k:=m11
 let aK:Int:=(i64.wrap (aK + 1))
 some (.inl aK)
 else
 some (.inr (.inl aK))
def si (v_c:ax) : Option (Int) :=
 (if (decide ((v_c.ai.length:Int) < 1))=true then some true else some (decide ((v_c.ai.length:Int) > 3))).bind fun q1=>(if q1=true then some true else some (decide ((v_c.ae.length:Int) > 16))).bind fun q2=>if q2=true then
 some 4
 else
 (au v_c.ai 0).bind fun b3=>if (!(b3.toList==(⟨#[]⟩ : ByteArray).toList))=true then
 some 12
 else
 let v_i:Int:=1
 (ah (oe v_c) ab v_i).bind fun r6=>match r6 with
 | .inr m7=>some m7
 | .inl m7 =>
 let v_i:=m7
 let aK:Int:=1
 (ah (od v_c) ab aK).bind fun r12=>match r12 with
 | .inr m13=>some m13
 | .inl m13 =>
 let aK:=m13
 some 0
def lB (v_q:aB) (st:Int) : Option ((Int)⊕((Int)⊕(Int))) :=
 let v_k:=st
 if (decide (v_k < (v_q.bl.length:Int)))=true then
 (au v_q.bl v_k).bind fun b10=>let v_x:ec:=b10
 (if (decide (v_x.kw < 0))=true then some true else some (decide (v_x.kw > 10000))).bind fun q11=>(if q11=true then some true else some (decide (v_x.rU < 0))).bind fun q12=>(if q12=true then some true else some (decide (v_x.rU > 10000))).bind fun q13=>(if q13=true then some true else some (decide (v_x.kw > v_x.rU))).bind fun q14=>if q14=true then
 some (.inr (.inr 1))
 else
 let v_k:Int:=(i64.wrap (v_k + 1))
 some (.inl v_k)
 else
 some (.inr (.inl v_k))
def uN (v_c:ax) (v_i:Int) : Option (Int) :=
 (au v_c.ae v_i).bind fun b1=>let v_q:aB:=b1
 (vM v_q.aI).bind fun c2=>if (!c2)=true then
 some 12
 else
 (if (decide (v_i > 0))=true then (au v_c.ae (i64.wrap (v_i - 1))).bind fun b3=>some (Op.bytesLess v_q.aI.toList b3.aI.toList||(v_q.aI.toList==b3.aI.toList)) else some false).bind fun q4=>if q4=true then
 some 7
 else
 (dP v_q.aI).bind fun c5=>(jr v_c c5).bind fun c6=>let bS:Bool:=c6.2
 (if (decide (v_i > 0))=true then some (!bS) else some false).bind fun q7=>if q7=true then
 some 12
 else
 (if (decide (v_q.cZ < 1))=true then some true else some (decide (v_q.cZ > 1000000))).bind fun q8=>(if q8=true then some true else some ((v_q.bl.length:Int) != (v_c.ai.length:Int))).bind fun q9=>if q9=true then
 some 1
 else
 let v_k:Int:=0
 (ah (lB v_q) ab v_k).bind fun r15=>match r15 with
 | .inr m16=>some m16
 | .inl m16 =>
 let v_k:=m16
 some 0
def jR (bz:(List ByteArray)) (v_c:ax) (v_k:Int) (st:Int×Int) : Option ((Int×Int)⊕((Int×Int))) :=
 let v_n:=st.1
 let v_j:=st.2
 if (decide (v_j < (bz.length:Int)))=true then
 (au bz v_j).bind fun b4=>(jr v_c b4).bind fun c5=>let v_q:aB:=c5.1
 (au v_q.bl v_k).bind fun b6=>let v_n:Int:=(i64.wrap (v_n + b6.kw))
 let v_j:Int:=(i64.wrap (v_j + 1))
 some (.inl (v_n,v_j))
 else
 some (.inr (v_n,v_j))
def nq (v_c:ax) (bz:(List ByteArray)) (st:Int) : Option ((Int)⊕((Int)⊕(Bool))) :=
 let v_k:=st
 (if (decide (v_k < (v_c.ai.length:Int)))=true then some (decide ((bz.length:Int) > 0)) else some false).bind fun q3=>if q3=true then
 let v_n:Int:=0
 let v_j:Int:=0
 (ah (jR bz v_c v_k) ab (v_n,v_j)).bind fun r7 =>
 let v_n:=r7.1
 let v_j:=r7.2
 if (v_n != 10000)=true then
 some (.inr (.inr false))
 else
 let v_k:Int:=(i64.wrap (v_k + 1))
 some (.inl v_k)
 else
 some (.inr (.inl v_k))
def nr (v_c:ax) (st:Int) : Option ((Int)⊕((Int)⊕(Bool))) :=
 let v_i:=st
 if (decide (v_i < (v_c.ae.length:Int)))=true then
 (au v_c.ae v_i).bind fun b1=>(eX v_c b1.aI).bind fun c2=>let bz:(List ByteArray):=c2
 let v_k:Int:=0
 (ah (nq v_c bz) ab v_k).bind fun r8=>match r8 with
 | .inr m9=>some (.inr (.inr m9))
 | .inl m9 =>
 let v_k:=m9
 let v_i:Int:=(i64.wrap (v_i + 1))
 some (.inl v_i)
 else
 some (.inr (.inl v_i))
def DD (v_c:ax) : Option (Bool) :=
 let v_i:Int:=0
 (ah (nr v_c) ab v_i).bind fun r10=>match r10 with
 | .inr m11=>some m11
 | .inl m11 =>
 let v_i:=m11
 some true
def pP (v_c:ax) (st:Int) : Option ((Int)⊕((Int)⊕(Int))) :=
 let v_i:=st
 if (decide (v_i < (v_c.ae.length:Int)))=true then
 (uN v_c v_i).bind fun c5=>if (c5 != 0)=true then
 (uN v_c v_i).bind fun c6=>some (.inr (.inr c6))
 else
 let v_i:Int:=(i64.wrap (v_i + 1))
 some (.inl v_i)
 else
 some (.inr (.inl v_i))
def pO (v_c:ax) (st:Int) : Option ((Int)⊕((Int)⊕(Int))) :=
 let v_k:=st
 if (decide (v_k < (v_c.ai.length:Int)))=true then
 (au v_c.ae 0).bind fun b9=>(au b9.bl v_k).bind fun b10=>if (!((b10.kw==(⟨10000,10000⟩ : ec).kw)&&(b10.rU==(⟨10000,10000⟩ : ec).rU)))=true then
 some (.inr (.inr 13))
 else
 let v_k:Int:=(i64.wrap (v_k + 1))
 some (.inl v_k)
 else
 some (.inr (.inl v_k))
def uP (v_c:ax) : Option (Int) :=
 (si v_c).bind fun c1=>if (c1 != 0)=true then
 (si v_c).bind fun c2=>some c2
 else
 (if ((v_c.ae.length:Int)==0)=true then some true else (au v_c.ae 0).bind fun b3=>some (!(b3.aI.toList==(⟨#[114,111,111,116]⟩ : ByteArray).toList))).bind fun q4=>if q4=true then
 some 12
 else
 let v_i:Int:=0
 (ah (pP v_c) ab v_i).bind fun r7=>match r7 with
 | .inr m8=>some m8
 | .inl m8 =>
 let v_i:=m8
 let v_k:Int:=0
 (ah (pO v_c) ab v_k).bind fun r11=>match r11 with
 | .inr m12=>some m12
 | .inl m12 =>
 let v_k:=m12
 (DD v_c).bind fun c13=>if (!c13)=true then
 some 13
 else
 some 0
def lz (v_s:aa) (af:Int) (st:aw×Int) : Option ((aw×Int)⊕((aw×Int))) :=
 let v_v:=st.1
 let v_i:=st.2
 if (decide (v_i < (v_s.aj.length:Int)))=true then
 (au v_s.aj v_i).bind fun b1=>(if b1.fUp=true then (au v_s.aj v_i).bind fun b2=>some (b2.aP==af) else some false).bind fun q3=>if q3=true then
 (au v_s.aj v_i).bind fun b4=>(db v_v b4.dL).bind fun c5=>let v_v:aw:=c5
 let v_i:Int:=(i64.wrap (v_i + 1))
 some (.inl (v_v,v_i))
 else
 let v_i:Int:=(i64.wrap (v_i + 1))
 some (.inl (v_v,v_i))
 else
 some (.inr (v_v,v_i))
def iX (v_s:aa) (af:Int) : Option (aw) :=
 let v_v:aw:=(⟨0,0⟩ : aw)
 let v_i:Int:=0
 (ah (lz v_s af) ab (v_v,v_i)).bind fun r6 =>
 let v_v:=r6.1
 let v_i:=r6.2
 some v_v
def np (v_s:aa) (af:Int) (st:aw×Int) : Option ((aw×Int)⊕((aw×Int))) :=
 let v_v:=st.1
 let v_i:=st.2
 if (decide (v_i < (v_s.bh.length:Int)))=true then
 (au v_s.bh v_i).bind fun b1=>let v_p:a8:=b1
 (if (v_p.aP==af)=true then some (decide (v_p.nL≤v_s.bQ)) else some false).bind fun q2=>(if q2=true then some (decide (v_s.bQ < v_p.jK)) else some false).bind fun q3=>if q3=true then
 (db v_v v_p.iC).bind fun c4=>let v_v:aw:=c4
 let v_i:Int:=(i64.wrap (v_i + 1))
 some (.inl (v_v,v_i))
 else
 let v_i:Int:=(i64.wrap (v_i + 1))
 some (.inl (v_v,v_i))
 else
 some (.inr (v_v,v_i))
def th (v_s:aa) (af:Int) : Option (aw) :=
 let v_v:aw:=(⟨0,0⟩ : aw)
 let v_i:Int:=0
 (ah (np v_s af) ab (v_v,v_i)).bind fun r5 =>
 let v_v:=r5.1
 let v_i:=r5.2
 some v_v
def rb (v_s:aa) (iL:(List ByteArray)) (af:Int) (bV:Bool) (st:aw×Int) : Option ((aw×Int)⊕((aw×Int))) :=
 let v_v:=st.1
 let v_i:=st.2
 if (decide (v_i≥0))=true then
 (au iL v_i).bind fun b6=>(jr v_s.bC b6).bind fun c7=>let v_q:aB:=c7.1
 (au v_q.bl af).bind fun b8=>let AH:Int:=b8.rU
 (if bV=true then
 (au v_q.bl af).bind fun b10=>let AH:Int:=b10.kw
 some AH
 else
 some AH).bind fun j9=>let AH:=j9
 (uR v_v AH).bind fun c11=>let v_v:aw:=c11.1
 let v_i:Int:=(i64.wrap (v_i - 1))
 some (.inl (v_v,v_i))
 else
 some (.inr (v_v,v_i))
def tg (v_s:aa) (av:ByteArray) (af:Int) (bV:Bool) : Option (aw) :=
 (jr v_s.bC av).bind fun c1=>let bS:Bool:=c1.2
 (if (!bS)=true then some true else some (decide (af < 0))).bind fun q2=>(if q2=true then some true else some (decide (af≥(v_s.bC.ai.length:Int)))).bind fun q3=>if q3=true then
 some (⟨0,0⟩ : aw)
 else
 (iX v_s af).bind fun c4=>let v_v:aw:=c4
 (zi av).bind fun c5=>let iL:(List ByteArray):=c5
 let v_i:Int:=(i64.wrap ((iL.length:Int) - 2))
 (ah (rb v_s iL af bV) ab (v_v,v_i)).bind fun r12 =>
 let v_v:=r12.1
 let v_i:=r12.2
 some v_v
def lA (v_s:aa) (av:ByteArray) (af:Int) : Option (aw) :=
 (tg v_s av af true).bind fun c1=>some c1
def vL (v_s:aa) (av:ByteArray) (af:Int) : Option (aw) :=
 (tg v_s av af false).bind fun c1=>some c1
def DC (v_s:aa) (av:ByteArray) (af:Int) : Option (aw) :=
 (jr v_s.bC av).bind fun c1=>let v_q:aB:=c1.1
 let bS:Bool:=c1.2
 if (!bS)=true then
 some (⟨0,0⟩ : aw)
 else
 (lA v_s av af).bind fun c2=>(uR c2 v_q.cZ).bind fun c3=>let v_v:aw:=c3.1
 some v_v
def l9 (v_s:aa) (bA:Int) (st:Int) : Option ((Int)⊕((Int)⊕(aC×Bool))) :=
 let v_i:=st
 if (decide (v_i < (v_s.aq.length:Int)))=true then
 (au v_s.aq v_i).bind fun b1=>if (b1.fId==bA)=true then
 (au v_s.aq v_i).bind fun b2=>some (.inr (.inr (b2,true)))
 else
 let v_i:Int:=(i64.wrap (v_i + 1))
 some (.inl v_i)
 else
 some (.inr (.inl v_i))
def eG (v_s:aa) (bA:Int) : Option (aC×Bool) :=
 let v_i:Int:=0
 (ah (l9 v_s bA) ab v_i).bind fun r3=>match r3 with
 | .inr m4=>some m4
 | .inl m4 =>
 let v_i:=m4
 some ((⟨0,0,⟨#[]⟩,0,0,aw.zero,[],0,0,[],[],[],[]⟩ : aC),false)
def ny (v_s:aa) (v_a:aC) (st:Int) : Option ((Int)⊕((Int))) :=
 let v_k:=st
 (if (decide (v_k < (v_s.aq.length:Int)))=true then (au v_s.aq v_k).bind fun b1=>some (decide (b1.fId < v_a.fId)) else some false).bind fun q2=>if q2=true then
 let v_k:Int:=(i64.wrap (v_k + 1))
 some (.inl v_k)
 else
 some (.inr v_k)
def eI (v_s:aa) (v_a:aC) : Option (aa) :=
 let v_k:Int:=0
 (ah (ny v_s v_a) ab v_k).bind fun r3 =>
 let v_k:=r3
 (hiO v_s.aq v_k).bind fun b4=>(aX ([] : (List aC)) b4).bind fun b5=>let v_l:(List aC):=b5
 (aX v_l [v_a]).bind fun b6=>let v_l:(List aC):=b6
 (if (decide (v_k < (v_s.aq.length:Int)))=true then (au v_s.aq v_k).bind fun b7=>some (b7.fId==v_a.fId) else some false).bind fun q8=>(if q8=true then
 let v_k:Int:=(i64.wrap (v_k + 1))
 some v_k
 else
 some v_k).bind fun j9=>let v_k:=j9
 (loO v_s.aq v_k).bind fun b10=>(aX v_l b10).bind fun b11=>let v_s:aa:={ v_s with aq:=b11 }
 some v_s
def dx (v_a:aC) : Option (Bool) :=
 (if (v_a.dr==1)=true then some true else some (v_a.dr==2)).bind fun q1=>some q1
def vb (v_n:Int) : Option (Bool) :=
 (if (decide (v_n≥1))=true then some (decide (v_n≤1073741824)) else some false).bind fun q1=>some q1
def pj (v_a:aC) : Option ((List aQ)) :=
 some ([(⟨0,0,v_a.bG,1,(-1),(-1),0⟩ : aQ)] : (List aQ))
def jC (v_s:aa) (st:Bool×(List aC)×Int) : Option ((Bool×(List aC)×Int)⊕((Bool×(List aC)×Int))) :=
 let cw:=st.1
 let v_l:=st.2.1
 let v_i:=st.2.2
 if (decide (v_i < (v_s.aq.length:Int)))=true then
 (if (!cw)=true then (au v_s.aq v_i).bind fun b1=>(dx b1).bind fun c2=>some (!c2) else some false).bind fun q3=>if q3=true then
 let cw:Bool:=true
 let v_i:Int:=(i64.wrap (v_i + 1))
 some (.inl (cw,v_l,v_i))
 else
 (au v_s.aq v_i).bind fun b4=>(aX v_l [b4]).bind fun b5=>let v_l:(List aC):=b5
 let v_i:Int:=(i64.wrap (v_i + 1))
 some (.inl (cw,v_l,v_i))
 else
 some (.inr (cw,v_l,v_i))
def tv (v_s:aa) : Option (aa) :=
 let v_l:(List aC):=[]
 let cw:Bool:=false
 let v_i:Int:=0
 (ah (jC v_s) ab (cw,v_l,v_i)).bind fun r6 =>
 let cw:=r6.1
 let v_l:=r6.2.1
 let v_i:=r6.2.2
 let v_s:aa:={ v_s with aq:=v_l }
 some v_s
def jD (v_s:aa) (st:Int×Int) : Option ((Int×Int)⊕((Int×Int))) :=
 let kX:=st.1
 let v_i:=st.2
 if (decide (v_i < (v_s.aq.length:Int)))=true then
 (au v_s.aq v_i).bind fun b11=>(dx b11).bind fun c12=>if c12=true then
 let kX:Int:=(i64.wrap (kX + 1))
 let v_i:Int:=(i64.wrap (v_i + 1))
 some (.inl (kX,v_i))
 else
 let v_i:Int:=(i64.wrap (v_i + 1))
 some (.inl (kX,v_i))
 else
 some (.inr (kX,v_i))
def tz (v_s:aa) (v_a:aC) : Option (aa×Int) :=
 (if (decide (v_a.fId < 0))=true then some true else some (decide (v_a.fId > 9999))).bind fun q1=>(if q1=true then some true else some (decide (v_a.cZ < 0))).bind fun q2=>(if q2=true then some true else some (decide (v_a.cZ > 99))).bind fun q3=>(if q3=true then some true else some (decide (v_a.bw < 0))).bind fun q4=>(if q4=true then some true else some (decide (v_a.bw > 9))).bind fun q5=>(if q5=true then some true else (vb v_a.bG.br).bind fun c6=>some (!c6)).bind fun q7=>(if q7=true then some true else (vb v_a.bG.aV).bind fun c8=>some (!c8)).bind fun q9=>if q9=true then
 some (v_s,1)
 else
 (eG v_s v_a.fId).bind fun c10=>let bS:Bool:=c10.2
 if bS=true then
 some (v_s,7)
 else
 let kX:Int:=0
 let v_i:Int:=0
 (ah (jD v_s) ab (kX,v_i)).bind fun r13 =>
 let kX:=r13.1
 let v_i:=r13.2
 if (decide (kX≥16))=true then
 some (v_s,4)
 else
 (jV v_s.bC v_a.bP).bind fun c14=>if (!c14)=true then
 some (v_s,19)
 else
 (if (decide ((v_s.aq.length:Int)≥16))=true then
 (tv v_s).bind fun c16=>let v_s:aa:=c16
 some v_s
 else
 some v_s).bind fun j15=>let v_s:=j15
 (pj v_a).bind fun c17=>(eI v_s (⟨v_a.fId,1,v_a.bP,v_a.cZ,v_a.bw,v_a.bG,c17,v_s.bQ,0,[],[],[],[]⟩ : aC)).bind fun c18=>some (c18,0)
def l7 (v_s:aa) (bA:Int) (st:(List Int)×(List am)×Int) : Option (((List Int)×(List am)×Int)⊕(((List Int)×(List am)×Int))) :=
 let jJ:=st.1
 let v_l:=st.2.1
 let v_i:=st.2.2
 if (decide (v_i < (v_s.ac.length:Int)))=true then
 (au v_s.ac v_i).bind fun b1=>if (b1.bF==bA)=true then
 (au v_s.ac v_i).bind fun b2=>(aX jJ [b2.fId]).bind fun b3=>let jJ:(List Int):=b3
 let v_i:Int:=(i64.wrap (v_i + 1))
 some (.inl (jJ,v_l,v_i))
 else
 (au v_s.ac v_i).bind fun b4=>(aX v_l [b4]).bind fun b5=>let v_l:(List am):=b5
 let v_i:Int:=(i64.wrap (v_i + 1))
 some (.inl (jJ,v_l,v_i))
 else
 some (.inr (jJ,v_l,v_i))
def l6 (v_s:aa) (bA:Int) (st:(List bu)×Int) : Option (((List bu)×Int)⊕(((List bu)×Int))) :=
 let iz:=st.1
 let aK:=st.2
 if (decide (aK < (v_s.aU.length:Int)))=true then
 (au v_s.aU aK).bind fun b7=>if (b7.bF != bA)=true then
 (au v_s.aU aK).bind fun b8=>(aX iz [b8]).bind fun b9=>let iz:(List bu):=b9
 let aK:Int:=(i64.wrap (aK + 1))
 some (.inl (iz,aK))
 else
 let aK:Int:=(i64.wrap (aK + 1))
 some (.inl (iz,aK))
 else
 some (.inr (iz,aK))
def sw (v_s:aa) (bA:Int) : Option (aa×(List Int)) :=
 let v_l:(List am):=[]
 let iz:(List bu):=[]
 let jJ:(List Int):=[]
 let v_i:Int:=0
 (ah (l7 v_s bA) ab (jJ,v_l,v_i)).bind fun r6 =>
 let jJ:=r6.1
 let v_l:=r6.2.1
 let v_i:=r6.2.2
 let aK:Int:=0
 (ah (l6 v_s bA) ab (iz,aK)).bind fun r10 =>
 let iz:=r10.1
 let aK:=r10.2
 let t11:(List am):=v_l
 let t12:(List bu):=iz
 let v_s:aa:={ v_s with ac:=t11 }
 let v_s:aa:={ v_s with aU:=t12 }
 some (v_s,jJ)
def Ld (v_s:aa) (bA:Int) (Jp:Int) : Option (aa×(List Int)) :=
 (eG v_s bA).bind fun c1=>let v_a:aC:=c1.1
 let bS:Bool:=c1.2
 (if (!bS)=true then some true else (dx v_a).bind fun c2=>some (!c2)).bind fun q3=>if q3=true then
 some (v_s,[])
 else
 let v_a:aC:={ v_a with dr:=Jp }
 let t4:(List aQ):=[]
 let t5:(List Int):=[]
 let t6:(List Int):=[]
 let t7:(List Int):=[]
 let t8:(List Int):=[]
 let v_a:aC:={ v_a with bL:=t4 }
 let v_a:aC:={ v_a with ca:=t5 }
 let v_a:aC:={ v_a with fp:=t6 }
 let v_a:aC:={ v_a with oE:=t7 }
 let v_a:aC:={ v_a with pE:=t8 }
 (eI v_s v_a).bind fun c9=>(sw c9 bA).bind fun c10=>some c10
def mc (v_s:aa) (bA:Int) (st:Int) : Option ((Int)⊕((Int)⊕(am×Bool))) :=
 let v_i:=st
 if (decide (v_i < (v_s.ac.length:Int)))=true then
 (au v_s.ac v_i).bind fun b1=>if (b1.fId==bA)=true then
 (au v_s.ac v_i).bind fun b2=>some (.inr (.inr (b2,true)))
 else
 let v_i:Int:=(i64.wrap (v_i + 1))
 some (.inl v_i)
 else
 some (.inr (.inl v_i))
def eH (v_s:aa) (bA:Int) : Option (am×Bool) :=
 let v_i:Int:=0
 (ah (mc v_s bA) ab v_i).bind fun r3=>match r3 with
 | .inr m4=>some m4
 | .inl m4 =>
 let v_i:=m4
 some ((⟨0,0,0,aw.zero,0,0,false,0⟩ : am),false)
def me (v_s:aa) (bA:Int) (st:(List am)×Int) : Option (((List am)×Int)⊕(((List am)×Int))) :=
 let v_l:=st.1
 let v_i:=st.2
 if (decide (v_i < (v_s.ac.length:Int)))=true then
 (au v_s.ac v_i).bind fun b1=>if (b1.fId != bA)=true then
 (au v_s.ac v_i).bind fun b2=>(aX v_l [b2]).bind fun b3=>let v_l:(List am):=b3
 let v_i:Int:=(i64.wrap (v_i + 1))
 some (.inl (v_l,v_i))
 else
 let v_i:Int:=(i64.wrap (v_i + 1))
 some (.inl (v_l,v_i))
 else
 some (.inr (v_l,v_i))
def ql (v_s:aa) (bA:Int) : Option (aa) :=
 let v_l:(List am):=[]
 let v_i:Int:=0
 (ah (me v_s bA) ab (v_l,v_i)).bind fun r4 =>
 let v_l:=r4.1
 let v_i:=r4.2
 let v_s:aa:={ v_s with ac:=v_l }
 some v_s
def iJ (v_l:(List Int)) (v_n:Int) (st:(List Int)×Int) : Option (((List Int)×Int)⊕(((List Int)×Int))) :=
 let al:=st.1
 let v_i:=st.2
 if (decide (v_i < (v_l.length:Int)))=true then
 (au v_l v_i).bind fun b1=>if (b1 != v_n)=true then
 (au v_l v_i).bind fun b2=>(aX al [b2]).bind fun b3=>let al:(List Int):=b3
 let v_i:Int:=(i64.wrap (v_i + 1))
 some (.inl (al,v_i))
 else
 let v_i:Int:=(i64.wrap (v_i + 1))
 some (.inl (al,v_i))
 else
 some (.inr (al,v_i))
def jd (v_l:(List Int)) (v_n:Int) : Option ((List Int)×Bool) :=
 let al:(List Int):=[]
 let v_i:Int:=0
 (ah (iJ v_l v_n) ab (al,v_i)).bind fun r4 =>
 let al:=r4.1
 let v_i:=r4.2
 some (al,(decide ((al.length:Int) < (v_l.length:Int))))
def l8 (cm:(List Int)) (st:aa×Int) : Option ((aa×Int)⊕((aa×Int))) :=
 let v_s:=st.1
 let v_i:=st.2
 if (decide (v_i < (cm.length:Int)))=true then
 (au cm v_i).bind fun b1=>(eH v_s b1).bind fun c2=>let v_c:am:=c2.1
 let bS:Bool:=c2.2
 if (!bS)=true then
 let v_i:Int:=(i64.wrap (v_i + 1))
 some (.inl (v_s,v_i))
 else
 (eG v_s v_c.bF).bind fun c3=>let v_a:aC:=c3.1
 if v_c.bG=true then
 (pj v_a).bind fun c4=>let t5:Int:=1
 let t6:(List aQ):=c4
 let v_a:aC:={ v_a with dr:=t5 }
 let v_a:aC:={ v_a with bL:=t6 }
 let t7:(List Int):=[]
 let t8:(List Int):=[]
 let t9:(List Int):=[]
 let t10:(List Int):=[]
 let v_a:aC:={ v_a with ca:=t7 }
 let v_a:aC:={ v_a with fp:=t8 }
 let v_a:aC:={ v_a with oE:=t9 }
 let v_a:aC:={ v_a with pE:=t10 }
 let t11:Int:=0
 let t12:Int:=v_s.bQ
 let v_a:aC:={ v_a with bD:=t11 }
 let v_a:aC:={ v_a with bB:=t12 }
 (eI v_s v_a).bind fun c13=>(sw c13 v_c.bF).bind fun c14=>let v_s:aa:=c14.1
 let v_i:Int:=(i64.wrap (v_i + 1))
 some (.inl (v_s,v_i))
 else
 (ql v_s v_c.fId).bind fun c15=>let v_s:aa:=c15
 let tY:Bool:=false
 (jd v_a.ca v_c.fId).bind fun c16=>let v_a:aC:={ v_a with ca:=c16.1 }
 let tY:Bool:=c16.2
 (if (!tY)=true then
 (aX ([] : (List Int)) v_a.fp).bind fun b18=>(aX b18 [v_c.fId]).bind fun b19=>let v_a:aC:={ v_a with fp:=b19 }
 some v_a
 else
 some v_a).bind fun j17=>let v_a:=j17
 (eI v_s v_a).bind fun c20=>let v_s:aa:=c20
 let v_i:Int:=(i64.wrap (v_i + 1))
 some (.inl (v_s,v_i))
 else
 some (.inr (v_s,v_i))
def je (v_s:aa) (cm:(List Int)) : Option (aa) :=
 let v_i:Int:=0
 (ah (l8 cm) ab (v_s,v_i)).bind fun r21 =>
 let v_s:=r21.1
 let v_i:=r21.2
 some v_s
def jE (v_s:aa) (st:(List Int)×Int) : Option (((List Int)×Int)⊕(((List Int)×Int))) :=
 let v_l:=st.1
 let v_i:=st.2
 if (decide (v_i < (v_s.aq.length:Int)))=true then
 (au v_s.aq v_i).bind fun b1=>(if (b1.dr==2)=true then (au v_s.aq v_i).bind fun b2=>some (decide ((i64.wrap (v_s.bQ - b2.bB))≥15)) else some false).bind fun q3=>if q3=true then
 (au v_s.aq v_i).bind fun b4=>(aX v_l [b4.fId]).bind fun b5=>let v_l:(List Int):=b5
 let v_i:Int:=(i64.wrap (v_i + 1))
 some (.inl (v_l,v_i))
 else
 let v_i:Int:=(i64.wrap (v_i + 1))
 some (.inl (v_l,v_i))
 else
 some (.inr (v_l,v_i))
def tA (v_s:aa) : Option ((List Int)) :=
 let v_l:(List Int):=[]
 let v_i:Int:=0
 (ah (jE v_s) ab (v_l,v_i)).bind fun r6 =>
 let v_l:=r6.1
 let v_i:=r6.2
 some v_l
def y7 (v_n:Int) : Option (Bool) :=
 (if (decide (v_n≥1))=true then some (decide (v_n≤1073741824)) else some false).bind fun q1=>some q1
def pK (v_a:aQ) (rx:Int) : Option (Int) :=
 (if (decide (v_a.bw < 0))=true then some true else some (decide (v_a.bw > 9))).bind fun q1=>(if q1=true then some true else some (decide (v_a.aP < 0))).bind fun q2=>(if q2=true then some true else some (decide (v_a.aP≥rx))).bind fun q3=>(if q3=true then some true else (y7 v_a.cp.br).bind fun c4=>some (!c4)).bind fun q5=>(if q5=true then some true else (y7 v_a.cp.aV).bind fun c6=>some (!c6)).bind fun q7=>(if q7=true then some true else some (decide (v_a.bH < (-1)))).bind fun q8=>(if q8=true then some true else some (decide (v_a.bH > 999))).bind fun q9=>(if q9=true then some true else some (decide (v_a.da < (-1)))).bind fun q10=>(if q10=true then some true else some (decide (v_a.da > 99))).bind fun q11=>(if q11=true then some true else (if (decide (v_a.bH≥0))=true then some (decide (v_a.da < 0)) else some false).bind fun q12=>some q12).bind fun q13=>if q13=true then
 some 1
 else
 (if (decide (v_a.gG < 0))=true then some true else some (decide (v_a.gG > 50))).bind fun q14=>if q14=true then
 some 4
 else
 some 0
def oX (v_l:(List aQ)) (v_a:aQ) (st:(List aQ)×Bool×Int) : Option (((List aQ)×Bool×Int)⊕(((List aQ)×Bool×Int))) :=
 let al:=st.1
 let cw:=st.2.1
 let v_i:=st.2.2
 if (decide (v_i < (v_l.length:Int)))=true then
 (if (!cw)=true then (au v_l v_i).bind fun b1=>some (decide (b1.bw > v_a.bw)) else some false).bind fun q2=>(if q2=true then
 (aX al [v_a]).bind fun b4=>let al:(List aQ):=b4
 let cw:Bool:=true
 some (al,cw)
 else
 some (al,cw)).bind fun j3=>let al:=j3.1
 let cw:=j3.2
 (au v_l v_i).bind fun b5=>if (b5.bw != v_a.bw)=true then
 (au v_l v_i).bind fun b6=>(aX al [b6]).bind fun b7=>let al:(List aQ):=b7
 let v_i:Int:=(i64.wrap (v_i + 1))
 some (.inl (al,cw,v_i))
 else
 let v_i:Int:=(i64.wrap (v_i + 1))
 some (.inl (al,cw,v_i))
 else
 some (.inr (al,cw,v_i))
def FO (v_l:(List aQ)) (v_a:aQ) : Option ((List aQ)×Int) :=
 let al:(List aQ):=[]
 let cw:Bool:=(v_a.gG==0)
 let v_a:aQ:={ v_a with iE:=0 }
 let v_i:Int:=0
 (ah (oX v_l v_a) ab (al,cw,v_i)).bind fun r8 =>
 let al:=r8.1
 let cw:=r8.2.1
 let v_i:=r8.2.2
 (if (!cw)=true then
 (aX al [v_a]).bind fun b10=>let al:(List aQ):=b10
 some al
 else
 some al).bind fun j9=>let al:=j9
 if (decide ((al.length:Int) > 8))=true then
 some ([],4)
 else
 some (al,0)
def oY (v_l:(List aQ)) (cG:Int) (st:Int) : Option ((Int)⊕((Int)⊕(aQ×Bool))) :=
 let v_i:=st
 if (decide (v_i < (v_l.length:Int)))=true then
 (au v_l v_i).bind fun b1=>if (b1.bw==cG)=true then
 (au v_l v_i).bind fun b2=>some (.inr (.inr (b2,true)))
 else
 let v_i:Int:=(i64.wrap (v_i + 1))
 some (.inl v_i)
 else
 some (.inr (.inl v_i))
def KG (v_l:(List aQ)) (cG:Int) : Option (aQ×Bool) :=
 let v_i:Int:=0
 (ah (oY v_l cG) ab v_i).bind fun r3=>match r3 with
 | .inr m4=>some m4
 | .inl m4 =>
 let v_i:=m4
 some ((⟨0,0,aw.zero,0,0,0,0⟩ : aQ),false)
def ni (v_l:(List aQ)) (cG:Int) (st:Bool×(List aQ)×Int) : Option ((Bool×(List aQ)×Int)⊕((Bool×(List aQ)×Int))) :=
 let bS:=st.1
 let al:=st.2.1
 let v_i:=st.2.2
 if (decide (v_i < (v_l.length:Int)))=true then
 (au v_l v_i).bind fun b1=>let v_a:aQ:=b1
 if (v_a.bw==cG)=true then
 let bS:Bool:=true
 let t2:Int:=(i64.wrap (v_a.gG - 1))
 let t3:Int:=0
 let v_a:aQ:={ v_a with gG:=t2 }
 let v_a:aQ:={ v_a with iE:=t3 }
 if (decide (v_a.gG≤0))=true then
 let v_i:Int:=(i64.wrap (v_i + 1))
 some (.inl (bS,al,v_i))
 else
 (aX al [v_a]).bind fun b4=>let al:(List aQ):=b4
 let v_i:Int:=(i64.wrap (v_i + 1))
 some (.inl (bS,al,v_i))
 else
 (aX al [v_a]).bind fun b5=>let al:(List aQ):=b5
 let v_i:Int:=(i64.wrap (v_i + 1))
 some (.inl (bS,al,v_i))
 else
 some (.inr (bS,al,v_i))
def DA (v_l:(List aQ)) (cG:Int) : Option ((List aQ)×Bool) :=
 let al:(List aQ):=[]
 let bS:Bool:=false
 let v_i:Int:=0
 (ah (ni v_l cG) ab (bS,al,v_i)).bind fun r6 =>
 let bS:=r6.1
 let al:=r6.2.1
 let v_i:=r6.2.2
 some (al,bS)
def qZ (cG:Int) (st:(List aQ)×Int) : Option (((List aQ)×Int)⊕(((List aQ)×Int))) :=
 let al:=st.1
 let v_i:=st.2
 if (decide (v_i < (al.length:Int)))=true then
 (au al v_i).bind fun b2=>if (b2.bw==cG)=true then
 (au al v_i).bind fun b3=>(au al v_i).bind fun b4=>let al:(List aQ):=(List.set al (Int.toNat v_i) ({ b4 with iE:=(if 100 < (i64.wrap (b3.iE + 1)) then 100 else (i64.wrap (b3.iE + 1))) }))
 let v_i:Int:=(i64.wrap (v_i + 1))
 some (.inl (al,v_i))
 else
 let v_i:Int:=(i64.wrap (v_i + 1))
 some (.inl (al,v_i))
 else
 some (.inr (al,v_i))
def DB (v_l:(List aQ)) (cG:Int) : Option ((List aQ)) :=
 (aX ([] : (List aQ)) v_l).bind fun b1=>let al:(List aQ):=b1
 let v_i:Int:=0
 (ah (qZ cG) ab (al,v_i)).bind fun r5 =>
 let al:=r5.1
 let v_i:=r5.2
 some al
def jp (v_l:(List aQ)) (af:Int) (st:aw×Int) : Option ((aw×Int)⊕((aw×Int))) :=
 let v_v:=st.1
 let v_i:=st.2
 if (decide (v_i < (v_l.length:Int)))=true then
 (au v_l v_i).bind fun b1=>if (b1.aP==af)=true then
 (au v_l v_i).bind fun b2=>(au v_l v_i).bind fun b3=>(au v_l v_i).bind fun b4=>(au v_l v_i).bind fun b5=>(db v_v (⟨(i64.wrap (b2.cp.br * b3.gG)),(i64.wrap (b4.cp.aV * b5.gG))⟩ : aw)).bind fun c6=>let v_v:aw:=c6
 let v_i:Int:=(i64.wrap (v_i + 1))
 some (.inl (v_v,v_i))
 else
 let v_i:Int:=(i64.wrap (v_i + 1))
 some (.inl (v_v,v_i))
 else
 some (.inr (v_v,v_i))
def kz (v_l:(List aQ)) (af:Int) : Option (aw) :=
 let v_v:aw:=(⟨0,0⟩ : aw)
 let v_i:Int:=0
 (ah (jp v_l af) ab (v_v,v_i)).bind fun r7 =>
 let v_v:=r7.1
 let v_i:=r7.2
 some v_v
def kg (iL:(List ByteArray)) (av:ByteArray) (st:Int) : Option ((Int)⊕((Int)⊕(Bool))) :=
 let v_i:=st
 if (decide (v_i < (iL.length:Int)))=true then
 (au iL v_i).bind fun b2=>if (b2.toList==av.toList)=true then
 some (.inr (.inr true))
 else
 let v_i:Int:=(i64.wrap (v_i + 1))
 some (.inl v_i)
 else
 some (.inr (.inl v_i))
def mY (w7:ByteArray) (av:ByteArray) : Option (Bool) :=
 (zi w7).bind fun c1=>let iL:(List ByteArray):=c1
 let v_i:Int:=0
 (ah (kg iL av) ab v_i).bind fun r3=>match r3 with
 | .inr m4=>some m4
 | .inl m4 =>
 let v_i:=m4
 some false
def lZ (v_s:aa) (af:Int) (av:ByteArray) (ym:Bool) (mu:Int) (st:aw×Int) : Option ((aw×Int)⊕((aw×Int))) :=
 let v_v:=st.1
 let v_i:=st.2
 if (decide (v_i < (v_s.ac.length:Int)))=true then
 (au v_s.ac v_i).bind fun b1=>(eG v_s b1.bF).bind fun c2=>let v_a:aC:=c2.1
 let bS:Bool:=c2.2
 (if bS=true then (au v_s.ac v_i).bind fun b3=>some (b3.aP==af) else some false).bind fun q4=>(if q4=true then (mY v_a.bP av).bind fun c5=>some c5 else some false).bind fun q6=>(if q6=true then (if ym=true then some true else some (v_a.cZ==mu)).bind fun q7=>some q7 else some false).bind fun q8=>if q8=true then
 (au v_s.ac v_i).bind fun b9=>(db v_v b9.cp).bind fun c10=>let v_v:aw:=c10
 let v_i:Int:=(i64.wrap (v_i + 1))
 some (.inl (v_v,v_i))
 else
 let v_i:Int:=(i64.wrap (v_i + 1))
 some (.inl (v_v,v_i))
 else
 some (.inr (v_v,v_i))
def u6 (v_s:aa) (av:ByteArray) (af:Int) (ym:Bool) (mu:Int) : Option (aw) :=
 let v_v:aw:=(⟨0,0⟩ : aw)
 let v_i:Int:=0
 (ah (lZ v_s af av ym mu) ab (v_v,v_i)).bind fun r11 =>
 let v_v:=r11.1
 let v_i:=r11.2
 some v_v
def eB (v_s:aa) (av:ByteArray) (af:Int) : Option (aw) :=
 (u6 v_s av af true 0).bind fun c1=>some c1
def o6 (v_s:aa) (av:ByteArray) (af:Int) (mu:Int) : Option (aw) :=
 (u6 v_s av af false mu).bind fun c1=>some c1
def iI (v_s:aa) (af:Int) (av:ByteArray) (st:aw×Int) : Option ((aw×Int)⊕((aw×Int))) :=
 let v_v:=st.1
 let v_i:=st.2
 if (decide (v_i < (v_s.aq.length:Int)))=true then
 (au v_s.aq v_i).bind fun b1=>(dx b1).bind fun c2=>(if c2=true then (au v_s.aq v_i).bind fun b3=>(mY b3.bP av).bind fun c4=>some c4 else some false).bind fun q5=>if q5=true then
 (au v_s.aq v_i).bind fun b6=>(kz b6.bL af).bind fun c7=>(db v_v c7).bind fun c8=>let v_v:aw:=c8
 let v_i:Int:=(i64.wrap (v_i + 1))
 some (.inl (v_v,v_i))
 else
 let v_i:Int:=(i64.wrap (v_i + 1))
 some (.inl (v_v,v_i))
 else
 some (.inr (v_v,v_i))
def nW (v_s:aa) (av:ByteArray) (af:Int) : Option (aw) :=
 let v_v:aw:=(⟨0,0⟩ : aw)
 let v_i:Int:=0
 (ah (iI v_s af av) ab (v_v,v_i)).bind fun r9 =>
 let v_v:=r9.1
 let v_i:=r9.2
 some v_v
def l5 (iL:(List ByteArray)) (v_s:aa) (af:Int) (sG:aw) (st:Int) : Option ((Int)⊕((Int)⊕(Bool))) :=
 let v_i:=st
 if (decide (v_i < (iL.length:Int)))=true then
 (au iL v_i).bind fun b2=>(eB v_s b2 af).bind fun c3=>(db c3 sG).bind fun c4=>let v_v:aw:=c4
 (au iL v_i).bind fun b5=>(vL v_s b5 af).bind fun c6=>(fF v_v c6).bind fun c7=>if (!c7)=true then
 some (.inr (.inr false))
 else
 (au iL v_i).bind fun b8=>(if (b8.toList==(⟨#[114,111,111,116]⟩ : ByteArray).toList)=true then (iX v_s af).bind fun c9=>(th v_s af).bind fun c10=>(vP c9 c10).bind fun c11=>(fF v_v c11).bind fun c12=>some (!c12) else some false).bind fun q13=>if q13=true then
 some (.inr (.inr false))
 else
 let v_i:Int:=(i64.wrap (v_i + 1))
 some (.inl v_i)
 else
 some (.inr (.inl v_i))
def u7 (v_s:aa) (av:ByteArray) (af:Int) (sG:aw) : Option (Bool) :=
 (zi av).bind fun c1=>let iL:(List ByteArray):=c1
 let v_i:Int:=0
 (ah (l5 iL v_s af sG) ab v_i).bind fun r14=>match r14 with
 | .inr m15=>some m15
 | .inl m15 =>
 let v_i:=m15
 some true
def vY (v_s:aa) (v_a:ByteArray) (v_b:ByteArray) (af:Int) : Option (Bool) :=
 (eB v_s v_a af).bind fun c1=>(lA v_s v_a af).bind fun c2=>(eB v_s v_b af).bind fun c3=>(lA v_s v_b af).bind fun c4=>(zw c1 c2 c3 c4).bind fun c5=>let v_o:Int:=c5
 (if (decide (v_o < 0))=true then some true else (if (v_o==0)=true then some (Op.bytesLess v_a.toList v_b.toList) else some false).bind fun q6=>some q6).bind fun q7=>some q7
def jb (al:(List ByteArray)) (v_s:aa) (v_i:Int) (v_l:(List ByteArray)) (af:Int) (st:Int) : Option ((Int)⊕((Int))) :=
 let v_k:=st
 (if (decide (v_k < (al.length:Int)))=true then (au v_l v_i).bind fun b2=>(au al v_k).bind fun b3=>(vY v_s b2 b3 af).bind fun c4=>some (!c4) else some false).bind fun q5=>if q5=true then
 let v_k:Int:=(i64.wrap (v_k + 1))
 some (.inl v_k)
 else
 some (.inr v_k)
def lW (v_l:(List ByteArray)) (v_s:aa) (af:Int) (st:(List ByteArray)×Int) : Option (((List ByteArray)×Int)⊕(((List ByteArray)×Int))) :=
 let al:=st.1
 let v_i:=st.2
 if (decide (v_i < (v_l.length:Int)))=true then
 let v_k:Int:=0
 (ah (jb al v_s v_i v_l af) ab v_k).bind fun r6 =>
 let v_k:=r6
 (hiO al v_k).bind fun b7=>(aX ([] : (List ByteArray)) b7).bind fun b8=>let v_x:(List ByteArray):=b8
 (au v_l v_i).bind fun b9=>(aX v_x [b9]).bind fun b10=>let v_x:(List ByteArray):=b10
 (loO al v_k).bind fun b11=>(aX v_x b11).bind fun b12=>let al:(List ByteArray):=b12
 let v_i:Int:=(i64.wrap (v_i + 1))
 some (.inl (al,v_i))
 else
 some (.inr (al,v_i))
def z8 (v_s:aa) (av:ByteArray) (af:Int) : Option ((List ByteArray)) :=
 (eX v_s.bC av).bind fun c1=>let v_l:(List ByteArray):=c1
 let al:(List ByteArray):=[]
 let v_i:Int:=0
 (ah (lW v_l v_s af) ab (al,v_i)).bind fun r13 =>
 let al:=r13.1
 let v_i:=r13.2
 some al
def jB (self:(aa→ByteArray→Int→Option ((List ByteArray)))) (v_l:(List ByteArray)) (v_s:aa) (af:Int) (st:(List ByteArray)×Int) : Option (((List ByteArray)×Int)⊕(((List ByteArray)×Int))) :=
 let al:=st.1
 let v_i:=st.2
 if (decide (v_i < (v_l.length:Int)))=true then
 (au v_l v_i).bind fun b2=>(self v_s b2 af).bind fun c3=>(aX al c3).bind fun b4=>let al:(List ByteArray):=b4
 let v_i:Int:=(i64.wrap (v_i + 1))
 some (.inl (al,v_i))
 else
 some (.inr (al,v_i))
def ja:Nat→aa→ByteArray→Int→Option ((List ByteArray))
 | 0=>fun _ _ _=>none
 | fuel + 1=>fun v_s av af =>
 let self:=ja fuel
 (z8 v_s av af).bind fun c1=>let v_l:(List ByteArray):=c1
 if ((v_l.length:Int)==0)=true then
 some ([av] : (List ByteArray))
 else
 let al:(List ByteArray):=[]
 let v_i:Int:=0
 (ah (jB self v_l v_s af) ab (al,v_i)).bind fun r5 =>
 let al:=r5.1
 let v_i:=r5.2
 some al
def tu (v_s:aa) (af:Int) : Option ((List ByteArray)) :=
 (ja ab v_s (⟨#[114,111,111,116]⟩ : ByteArray) af).bind fun c1=>some c1
def jc (al:(List aC)) (v_a:aC) (st:Int) : Option ((Int)⊕((Int))) :=
 let v_k:=st
 (if (decide (v_k < (al.length:Int)))=true then (au al v_k).bind fun b4=>some (decide (b4.bw≥v_a.bw)) else some false).bind fun q5=>if q5=true then
 let v_k:Int:=(i64.wrap (v_k + 1))
 some (.inl v_k)
 else
 some (.inr v_k)
def lY (v_s:aa) (oJ:ByteArray) (st:(List aC)×Int) : Option (((List aC)×Int)⊕(((List aC)×Int))) :=
 let al:=st.1
 let v_i:=st.2
 if (decide (v_i < (v_s.aq.length:Int)))=true then
 (au v_s.aq v_i).bind fun b1=>let v_a:aC:=b1
 (dx v_a).bind fun c2=>(if (!c2)=true then some true else some (!(v_a.bP.toList==oJ.toList))).bind fun q3=>if q3=true then
 let v_i:Int:=(i64.wrap (v_i + 1))
 some (.inl (al,v_i))
 else
 let v_k:Int:=0
 (ah (jc al v_a) ab v_k).bind fun r6 =>
 let v_k:=r6
 (hiO al v_k).bind fun b7=>(aX ([] : (List aC)) b7).bind fun b8=>let v_x:(List aC):=b8
 (aX v_x [v_a]).bind fun b9=>let v_x:(List aC):=b9
 (loO al v_k).bind fun b10=>(aX v_x b10).bind fun b11=>let al:(List aC):=b11
 let v_i:Int:=(i64.wrap (v_i + 1))
 some (.inl (al,v_i))
 else
 some (.inr (al,v_i))
def lX (al:(List aC)) (st:(List Int)×Int) : Option (((List Int)×Int)⊕(((List Int)×Int))) :=
 let v_l:=st.1
 let aK:=st.2
 if (decide (aK < (al.length:Int)))=true then
 (au al aK).bind fun b13=>(aX v_l [b13.fId]).bind fun b14=>let v_l:(List Int):=b14
 let aK:Int:=(i64.wrap (aK + 1))
 some (.inl (v_l,aK))
 else
 some (.inr (v_l,aK))
def Ad (v_s:aa) (oJ:ByteArray) : Option ((List Int)) :=
 let al:(List aC):=[]
 let v_i:Int:=0
 (ah (lY v_s oJ) ab (al,v_i)).bind fun r12 =>
 let al:=r12.1
 let v_i:=r12.2
 let v_l:(List Int):=[]
 let aK:Int:=0
 (ah (lX al) ab (v_l,aK)).bind fun r15 =>
 let v_l:=r15.1
 let aK:=r15.2
 some v_l
def mX (v_a:aQ) (v_n:aA) : Option (Int) :=
 (if (!v_n.fUp)=true then some true else some (v_n.aP != v_a.aP)).bind fun q1=>if q1=true then
 some 4
 else
 (if (v_a.da==(-1))=true then some true else some (v_a.bH==v_n.fId)).bind fun q2=>(if q2=true then some true else (if (v_a.bH==(-1))=true then some (v_a.da==v_n.da) else some false).bind fun q3=>some q3).bind fun q4=>if q4=true then
 some 1
 else
 if (v_a.da==v_n.da)=true then
 some 2
 else
 some 3
def tt (v_a:aQ) (v_n:aA) : Option (Bool) :=
 (mX v_a v_n).bind fun c1=>if (c1==1)=true then
 some true
 else
 if (c1==2)=true then
 some (decide (v_a.iE≥2))
 else
 if (c1==3)=true then
 some (decide (v_a.iE≥4))
 else
 some false
def nn (v_s:aa) (bA:Int) (st:Int) : Option ((Int)⊕((Int)⊕(aA×Bool))) :=
 let v_i:=st
 if (decide (v_i < (v_s.aj.length:Int)))=true then
 (au v_s.aj v_i).bind fun b1=>if (b1.fId==bA)=true then
 (au v_s.aj v_i).bind fun b2=>some (.inr (.inr (b2,true)))
 else
 let v_i:Int:=(i64.wrap (v_i + 1))
 some (.inl v_i)
 else
 some (.inr (.inl v_i))
def ly (v_s:aa) (bA:Int) : Option (aA×Bool) :=
 let v_i:Int:=0
 (ah (nn v_s bA) ab v_i).bind fun r3=>match r3 with
 | .inr m4=>some m4
 | .inl m4 =>
 let v_i:=m4
 some ((⟨0,0,0,aw.zero,0,0,false⟩ : aA),false)
def y8 (v_n:Int) : Option (Bool) :=
 (if (decide (v_n≥0))=true then some (decide (v_n≤1073741824)) else some false).bind fun q1=>some q1
def oZ (v_s:aa) (v_n:aA) (st:Int) : Option ((Int)⊕((Int))) :=
 let v_k:=st
 (if (decide (v_k < (v_s.aj.length:Int)))=true then (au v_s.aj v_k).bind fun b1=>some (decide (b1.fId < v_n.fId)) else some false).bind fun q2=>if q2=true then
 let v_k:Int:=(i64.wrap (v_k + 1))
 some (.inl v_k)
 else
 some (.inr v_k)
def BB (v_s:aa) (v_n:aA) : Option (aa) :=
 let v_k:Int:=0
 (ah (oZ v_s v_n) ab v_k).bind fun r3 =>
 let v_k:=r3
 (hiO v_s.aj v_k).bind fun b4=>(aX ([] : (List aA)) b4).bind fun b5=>let v_l:(List aA):=b5
 (aX v_l [v_n]).bind fun b6=>let v_l:(List aA):=b6
 (if (decide (v_k < (v_s.aj.length:Int)))=true then (au v_s.aj v_k).bind fun b7=>some (b7.fId==v_n.fId) else some false).bind fun q8=>(if q8=true then
 let v_k:Int:=(i64.wrap (v_k + 1))
 some v_k
 else
 some v_k).bind fun j9=>let v_k:=j9
 (loO v_s.aj v_k).bind fun b10=>(aX v_l b10).bind fun b11=>let v_s:aa:={ v_s with aj:=b11 }
 some v_s
def nN (v_s:aa) (v_n:aA) : Option (aa×Int) :=
 (if (decide (v_n.fId < 0))=true then some true else some (decide (v_n.fId > 999))).bind fun q1=>(if q1=true then some true else some (decide (v_n.aP < 0))).bind fun q2=>(if q2=true then some true else some (decide (v_n.aP≥(v_s.bC.ai.length:Int)))).bind fun q3=>(if q3=true then some true else some (decide (v_n.da < 0))).bind fun q4=>(if q4=true then some true else some (decide (v_n.da > 99))).bind fun q5=>(if q5=true then some true else (y8 v_n.dL.br).bind fun c6=>some (!c6)).bind fun q7=>(if q7=true then some true else (y8 v_n.dL.aV).bind fun c8=>some (!c8)).bind fun q9=>if q9=true then
 some (v_s,1)
 else
 (ly v_s v_n.fId).bind fun c10=>let v_x:aA:=c10.1
 let bS:Bool:=c10.2
 (if bS=true then some v_x.fUp else some false).bind fun q11=>if q11=true then
 some (v_s,7)
 else
 (if (!bS)=true then some (decide ((v_s.aj.length:Int)≥12)) else some false).bind fun q12=>if q12=true then
 some (v_s,4)
 else
 (BB v_s (⟨v_n.fId,v_n.aP,v_n.da,v_n.dL,v_s.bQ,0,true⟩ : aA)).bind fun c13=>some (c13,0)
def ze (v_s:aa) (bA:Int) (Jq:Int) : Option (aa×Int) :=
 (ly v_s bA).bind fun c1=>let v_n:aA:=c1.1
 let bS:Bool:=c1.2
 if (!bS)=true then
 some (v_s,2)
 else
 if (!v_n.fUp)=true then
 some (v_s,18)
 else
 if (decide (Jq < 0))=true then
 some (v_s,15)
 else
 if (decide (Jq < v_n.bD))=true then
 some (v_s,15)
 else
 if (decide ((i64.wrap (Jq - v_n.bD)) > 1))=true then
 some (v_s,1)
 else
 let t2:Int:=v_s.bQ
 let t3:Int:=Jq
 let v_n:aA:={ v_n with bB:=t2 }
 let v_n:aA:={ v_n with bD:=t3 }
 (BB v_s v_n).bind fun c4=>some (c4,0)
def zc (v_s:aa) (bA:Int) : Option (aa) :=
 (ly v_s bA).bind fun c1=>let v_n:aA:=c1.1
 let bS:Bool:=c1.2
 if (!bS)=true then
 some v_s
 else
 let v_n:aA:={ v_n with fUp:=false }
 (BB v_s v_n).bind fun c2=>some c2
def nj (v_s:aa) (bA:Int) (st:aw×Int) : Option ((aw×Int)⊕((aw×Int))) :=
 let v_v:=st.1
 let v_i:=st.2
 if (decide (v_i < (v_s.ac.length:Int)))=true then
 (au v_s.ac v_i).bind fun b1=>if (b1.bH==bA)=true then
 (au v_s.ac v_i).bind fun b2=>(db v_v b2.cp).bind fun c3=>let v_v:aw:=c3
 let v_i:Int:=(i64.wrap (v_i + 1))
 some (.inl (v_v,v_i))
 else
 let v_i:Int:=(i64.wrap (v_i + 1))
 some (.inl (v_v,v_i))
 else
 some (.inr (v_v,v_i))
def y9 (v_s:aa) (bA:Int) : Option (aw) :=
 let v_v:aw:=(⟨0,0⟩ : aw)
 let v_i:Int:=0
 (ah (nj v_s bA) ab (v_v,v_i)).bind fun r4 =>
 let v_v:=r4.1
 let v_i:=r4.2
 some v_v
def vK (v_s:aa) (bA:Int) : Option (aw) :=
 (ly v_s bA).bind fun c1=>let v_n:aA:=c1.1
 let bS:Bool:=c1.2
 (if (!bS)=true then some true else some (!v_n.fUp)).bind fun q2=>if q2=true then
 some (⟨0,0⟩ : aw)
 else
 (y9 v_s bA).bind fun c3=>(vP v_n.dL c3).bind fun c4=>some c4
def jU (v_s:aa) (st:(List Int)×Int) : Option (((List Int)×Int)⊕(((List Int)×Int))) :=
 let v_l:=st.1
 let v_i:=st.2
 if (decide (v_i < (v_s.aj.length:Int)))=true then
 (au v_s.aj v_i).bind fun b1=>(if b1.fUp=true then (au v_s.aj v_i).bind fun b2=>some (decide ((i64.wrap (v_s.bQ - b2.bB))≥10)) else some false).bind fun q3=>if q3=true then
 (au v_s.aj v_i).bind fun b4=>(aX v_l [b4.fId]).bind fun b5=>let v_l:(List Int):=b5
 let v_i:Int:=(i64.wrap (v_i + 1))
 some (.inl (v_l,v_i))
 else
 let v_i:Int:=(i64.wrap (v_i + 1))
 some (.inl (v_l,v_i))
 else
 some (.inr (v_l,v_i))
def sg (v_s:aa) : Option ((List Int)) :=
 let v_l:(List Int):=[]
 let v_i:Int:=0
 (ah (jU v_s) ab (v_l,v_i)).bind fun r6 =>
 let v_l:=r6.1
 let v_i:=r6.2
 some v_l
def zV (v_s:aa) (w7:ByteArray) (v_a:aQ) : Option (Bool) :=
 (eB v_s w7 v_a.aP).bind fun c1=>(db c1 v_a.cp).bind fun c2=>(lA v_s w7 v_a.aP).bind fun c3=>(fF c2 c3).bind fun c4=>some c4
def u5 (v_s:aa) (w7:ByteArray) (af:Int) (mu:Int) : Option (Bool) :=
 (o6 v_s w7 af mu).bind fun c1=>(DC v_s w7 af).bind fun c2=>(fF c1 c2).bind fun c3=>some c3
def ib (v_s:aa) (v_c:am) (st:Int) : Option ((Int)⊕((Int))) :=
 let v_k:=st
 (if (decide (v_k < (v_s.ac.length:Int)))=true then (au v_s.ac v_k).bind fun b9=>some (decide (b9.fId < v_c.fId)) else some false).bind fun q10=>if q10=true then
 let v_k:Int:=(i64.wrap (v_k + 1))
 some (.inl v_k)
 else
 some (.inr v_k)
def mW (v_s:aa) (v_n:aA) (v_a:aC) (v_x:aQ) : Option (aa×am) :=
 let v_s:aa:={ v_s with rT:=(i64.wrap (v_s.rT + 1)) }
 let v_c:am:=(⟨(i64.wrap ((i64.wrap (v_s.pF * 2 ^ (min (Int.toNat 20) (IntKind.i64.bits)))) + v_s.rT)),v_a.fId,v_n.fId,v_x.cp,v_x.bw,v_n.aP,(v_a.dr==1),0⟩ : am)
 (DA v_a.bL v_x.bw).bind fun c1=>let v_a:aC:={ v_a with bL:=c1.1 }
 (if v_c.bG=true then
 let t3:Int:=2
 let t4:(List aQ):=[]
 let t5:Int:=v_s.bQ
 let t6:Int:=0
 let v_a:aC:={ v_a with dr:=t3 }
 let v_a:aC:={ v_a with bL:=t4 }
 let v_a:aC:={ v_a with bB:=t5 }
 let v_a:aC:={ v_a with bD:=t6 }
 some v_a
 else
 (aX ([] : (List Int)) v_a.ca).bind fun b7=>(aX b7 [v_c.fId]).bind fun b8=>let v_a:aC:={ v_a with ca:=b8 }
 some v_a).bind fun j2=>let v_a:=j2
 let v_k:Int:=0
 (ah (ib v_s v_c) ab v_k).bind fun r11 =>
 let v_k:=r11
 (hiO v_s.ac v_k).bind fun b12=>(aX ([] : (List am)) b12).bind fun b13=>let v_l:(List am):=b13
 (aX v_l [v_c]).bind fun b14=>let v_l:(List am):=b14
 (loO v_s.ac v_k).bind fun b15=>(aX v_l b15).bind fun b16=>let v_s:aa:={ v_s with ac:=b16 }
 (eI v_s v_a).bind fun c17=>some (c17,v_c)
def jA (v_s:aa) (cu:Int) (st:(List bu)×Int) : Option (((List bu)×Int)⊕(((List bu)×Int))) :=
 let v_l:=st.1
 let v_i:=st.2
 if (decide (v_i < (v_s.aU.length:Int)))=true then
 (au v_s.aU v_i).bind fun b1=>if (b1.bH != cu)=true then
 (au v_s.aU v_i).bind fun b2=>(aX v_l [b2]).bind fun b3=>let v_l:(List bu):=b3
 let v_i:Int:=(i64.wrap (v_i + 1))
 some (.inl (v_l,v_i))
 else
 let v_i:Int:=(i64.wrap (v_i + 1))
 some (.inl (v_l,v_i))
 else
 some (.inr (v_l,v_i))
def fv (v_s:aa) (cu:Int) : Option (aa) :=
 let v_l:(List bu):=[]
 let v_i:Int:=0
 (ah (jA v_s cu) ab (v_l,v_i)).bind fun r4 =>
 let v_l:=r4.1
 let v_i:=r4.2
 let v_s:aa:={ v_s with aU:=v_l }
 some v_s
def lU (v_s:aa) (cu:Int) (st:Int) : Option ((Int)⊕((Int)⊕(bu×Bool))) :=
 let v_i:=st
 if (decide (v_i < (v_s.aU.length:Int)))=true then
 (au v_s.aU v_i).bind fun b1=>if (b1.bH==cu)=true then
 (au v_s.aU v_i).bind fun b2=>some (.inr (.inr (b2,true)))
 else
 let v_i:Int:=(i64.wrap (v_i + 1))
 some (.inl v_i)
 else
 some (.inr (.inl v_i))
def zS (v_s:aa) (cu:Int) : Option (bu×Bool) :=
 let v_i:Int:=0
 (ah (lU v_s cu) ab v_i).bind fun r3=>match r3 with
 | .inr m4=>some m4
 | .inl m4 =>
 let v_i:=m4
 some ((⟨0,0,0⟩ : bu),false)
def ke (v_s:aa) (eR:Int) (cG:Int) (st:Int) : Option ((Int)⊕((Int)⊕(Bool))) :=
 let v_i:=st
 if (decide (v_i < (v_s.aU.length:Int)))=true then
 (au v_s.aU v_i).bind fun b1=>(if (b1.bF==eR)=true then (au v_s.aU v_i).bind fun b2=>some (b2.bw==cG) else some false).bind fun q3=>if q3=true then
 some (.inr (.inr true))
 else
 let v_i:Int:=(i64.wrap (v_i + 1))
 some (.inl v_i)
 else
 some (.inr (.inl v_i))
def vU (v_s:aa) (eR:Int) (cG:Int) : Option (Bool) :=
 let v_i:Int:=0
 (ah (ke v_s eR cG) ab v_i).bind fun r4=>match r4 with
 | .inr m5=>some m5
 | .inl m5 =>
 let v_i:=m5
 some false
def lV (v_s:aa) (v_x:bu) (st:Int) : Option ((Int)⊕((Int))) :=
 let v_k:=st
 (if (decide (v_k < (v_s.aU.length:Int)))=true then (au v_s.aU v_k).bind fun b1=>some (decide (b1.bH < v_x.bH)) else some false).bind fun q2=>if q2=true then
 let v_k:Int:=(i64.wrap (v_k + 1))
 some (.inl v_k)
 else
 some (.inr v_k)
def ss (v_s:aa) (v_x:bu) : Option (aa) :=
 let v_k:Int:=0
 (ah (lV v_s v_x) ab v_k).bind fun r3 =>
 let v_k:=r3
 (hiO v_s.aU v_k).bind fun b4=>(aX ([] : (List bu)) b4).bind fun b5=>let v_l:(List bu):=b5
 (aX v_l [v_x]).bind fun b6=>let v_l:(List bu):=b6
 (loO v_s.aU v_k).bind fun b7=>(aX v_l b7).bind fun b8=>let v_s:aa:={ v_s with aU:=b8 }
 some v_s
def sr (v_s:aa) (v_n:aA) (v_x:bu) : Option (aa×Int×am×Bool) :=
 (eG v_s v_x.bF).bind fun c1=>let v_a:aC:=c1.1
 let bS:Bool:=c1.2
 (KG v_a.bL v_x.bw).bind fun c2=>let v_k:aQ:=c2.1
 let yl:Bool:=c2.2
 (if (!bS)=true then some true else (dx v_a).bind fun c3=>some (!c3)).bind fun q4=>(if q4=true then some true else some (!yl)).bind fun q5=>(if q5=true then some true else (tt v_k v_n).bind fun c6=>some (!c6)).bind fun q7=>(if q7=true then some true else (fF v_k.cp v_n.dL).bind fun c8=>some (!c8)).bind fun q9=>(if q9=true then some true else (zV v_s v_a.bP v_k).bind fun c10=>some (!c10)).bind fun q11=>(if q11=true then some true else (u5 v_s v_a.bP v_n.aP v_a.cZ).bind fun c12=>some (!c12)).bind fun q13=>if q13=true then
 (fv v_s v_n.fId).bind fun c14=>some (c14,0,(⟨0,0,0,aw.zero,0,0,false,0⟩ : am),false)
 else
 (vK v_s v_n.fId).bind fun c15=>(fF v_k.cp c15).bind fun c16=>(if (!c16)=true then some true else (u7 v_s v_a.bP v_n.aP v_k.cp).bind fun c17=>some (!c17)).bind fun q18=>if q18=true then
 some (v_s,3,(⟨0,0,0,aw.zero,0,0,false,0⟩ : am),true)
 else
 (fv v_s v_n.fId).bind fun c19=>(mW c19 v_n v_a v_k).bind fun c20=>let v_t:aa:=c20.1
 let v_c:am:=c20.2
 some (v_t,1,v_c,true)
def vV (v_s:aa) (v_n:aA) (v_a:aC) (v_x:aQ) (kZ:Bool) : Option (aa×Int×am) :=
 (zV v_s v_a.bP v_x).bind fun c1=>let bS:Bool:=c1
 (mX v_x v_n).bind fun c2=>(if (c2==4)=true then some true else (fF v_x.cp v_n.dL).bind fun c3=>some (!c3)).bind fun q4=>(if q4=true then some true else (if kZ=true then some (!bS) else some false).bind fun q5=>some q5).bind fun q6=>if q6=true then
 some (v_s,0,(⟨0,0,0,aw.zero,0,0,false,0⟩ : am))
 else
 (tt v_x v_n).bind fun c7=>if (!c7)=true then
 (if (kZ==bS)=true then
 (DB v_a.bL v_x.bw).bind fun c9=>let v_a:aC:={ v_a with bL:=c9 }
 (eI v_s v_a).bind fun c10=>let v_s:aa:=c10
 some (v_a,v_s)
 else
 some (v_a,v_s)).bind fun j8=>let v_a:=j8.1
 let v_s:=j8.2
 some (v_s,0,(⟨0,0,0,aw.zero,0,0,false,0⟩ : am))
 else
 (u7 v_s v_a.bP v_n.aP v_x.cp).bind fun c11=>if (!c11)=true then
 some (v_s,0,(⟨0,0,0,aw.zero,0,0,false,0⟩ : am))
 else
 (vK v_s v_n.fId).bind fun c12=>(fF v_x.cp c12).bind fun c13=>if c13=true then
 (mW v_s v_n v_a v_x).bind fun c14=>let v_t:aa:=c14.1
 let v_c:am:=c14.2
 some (v_t,1,v_c)
 else
 (if kZ=true then (vU v_s v_a.fId v_x.bw).bind fun c15=>some (!c15) else some false).bind fun q16=>if q16=true then
 (ss v_s (⟨v_n.fId,v_a.fId,v_x.bw⟩ : bu)).bind fun c17=>some (c17,2,(⟨0,0,0,aw.zero,0,0,false,0⟩ : am))
 else
 some (v_s,0,(⟨0,0,0,aw.zero,0,0,false,0⟩ : am))
def hJ (v_a:aC) (v_j:Int) (cm:(List Int)) (v_n:aA) (kZ:Bool) (st:aa×Int) : Option ((aa×Int)⊕((aa×Int)⊕(aa×Int×am))) :=
 let v_s:=st.1
 let v_k:=st.2
 if (decide (v_k < (v_a.bL.length:Int)))=true then
 (au cm v_j).bind fun b8=>(eG v_s b8).bind fun c9=>let v_b:aC:=c9.1
 (au v_a.bL v_k).bind fun b10=>(vV v_s v_n v_b b10 kZ).bind fun c11=>let v_t:aa:=c11.1
 let AF:Int:=c11.2.1
 let v_c:am:=c11.2.2
 let v_s:aa:=v_t
 if (AF != 0)=true then
 some (.inr (.inr (v_s,AF,v_c)))
 else
 let v_k:Int:=(i64.wrap (v_k + 1))
 some (.inl (v_s,v_k))
 else
 some (.inr (.inl (v_s,v_k)))
def hZ (cm:(List Int)) (v_i:Int) (jM:(List ByteArray)) (v_n:aA) (kZ:Bool) (st:aa×Int) : Option ((aa×Int)⊕((aa×Int)⊕(aa×Int×am))) :=
 let v_s:=st.1
 let v_j:=st.2
 if (decide (v_j < (cm.length:Int)))=true then
 (au cm v_j).bind fun b4=>(eG v_s b4).bind fun c5=>let v_a:aC:=c5.1
 (au jM v_i).bind fun b6=>(u5 v_s b6 v_n.aP v_a.cZ).bind fun c7=>if (!c7)=true then
 let v_j:Int:=(i64.wrap (v_j + 1))
 some (.inl (v_s,v_j))
 else
 let v_k:Int:=0
 (ah (hJ v_a v_j cm v_n kZ) ab (v_s,v_k)).bind fun r12=>match r12 with
 | .inr m13=>some (.inr (.inr m13))
 | .inl m13 =>
 let v_s:=m13.1
 let v_k:=m13.2
 let v_j:Int:=(i64.wrap (v_j + 1))
 some (.inl (v_s,v_j))
 else
 some (.inr (.inl (v_s,v_j)))
def ia (jM:(List ByteArray)) (v_n:aA) (kZ:Bool) (st:aa×Int) : Option ((aa×Int)⊕((aa×Int)⊕(aa×Int×am))) :=
 let v_s:=st.1
 let v_i:=st.2
 if (decide (v_i < (jM.length:Int)))=true then
 (au jM v_i).bind fun b2=>(Ad v_s b2).bind fun c3=>let cm:(List Int):=c3
 let v_j:Int:=0
 (ah (hZ cm v_i jM v_n kZ) ab (v_s,v_j)).bind fun r14=>match r14 with
 | .inr m15=>some (.inr (.inr m15))
 | .inl m15 =>
 let v_s:=m15.1
 let v_j:=m15.2
 let v_i:Int:=(i64.wrap (v_i + 1))
 some (.inl (v_s,v_i))
 else
 some (.inr (.inl (v_s,v_i)))
def eb (v_s:aa) (v_n:aA) (kZ:Bool) : Option (aa×Int×am) :=
 (tu v_s v_n.aP).bind fun c1=>let jM:(List ByteArray):=c1
 let v_i:Int:=0
 (ah (ia jM v_n kZ) ab (v_s,v_i)).bind fun r16=>match r16 with
 | .inr m17=>some m17
 | .inl m17 =>
 let v_s:=m17.1
 let v_i:=m17.2
 some (v_s,0,(⟨0,0,0,aw.zero,0,0,false,0⟩ : am))
def vX (v_s:aa) (cu:Int) : Option (aa×Int×am) :=
 (ly v_s cu).bind fun c1=>let v_n:aA:=c1.1
 let bS:Bool:=c1.2
 (if (!bS)=true then some true else some (!v_n.fUp)).bind fun q2=>(if q2=true then some true else some (decide ((v_s.ac.length:Int)≥200))).bind fun q3=>(if q3=true then some true else some (decide (v_s.rT≥1048575))).bind fun q4=>if q4=true then
 some (v_s,0,(⟨0,0,0,aw.zero,0,0,false,0⟩ : am))
 else
 (zS v_s cu).bind fun c5=>let v_x:bu:=c5.1
 let Zf:Bool:=c5.2
 if Zf=true then
 (sr v_s v_n v_x).bind fun c6=>let v_t:aa:=c6.1
 let AF:Int:=c6.2.1
 let v_c:am:=c6.2.2.1
 let cw:Bool:=c6.2.2.2
 let v_s:aa:=v_t
 if cw=true then
 some (v_s,AF,v_c)
 else
 (eb v_s v_n true).bind fun c7=>let v_s:aa:=c7.1
 let yk:Int:=c7.2.1
 let w8:am:=c7.2.2
 if (yk != 0)=true then
 some (v_s,yk,w8)
 else
 (eb v_s v_n false).bind fun c8=>some c8
 else
 (eb v_s v_n true).bind fun c9=>let v_s:aa:=c9.1
 let yk:Int:=c9.2.1
 let w8:am:=c9.2.2
 if (yk != 0)=true then
 some (v_s,yk,w8)
 else
 (eb v_s v_n false).bind fun c10=>some c10
def i8 (cu:Int) (st:aa×(List am)×Int) : Option ((aa×(List am)×Int)⊕((aa×(List am)×Int))) :=
 let v_s:=st.1
 let v_l:=st.2.1
 let v_k:=st.2.2
 if (decide (v_k < 3))=true then
 (vX v_s cu).bind fun c1=>let v_t:aa:=c1.1
 let AF:Int:=c1.2.1
 let v_c:am:=c1.2.2
 let v_s:aa:=v_t
 if (AF != 1)=true then
 some (.inr (v_s,v_l,v_k))
 else
 (aX v_l [v_c]).bind fun b2=>let v_l:(List am):=b2
 let v_k:Int:=(i64.wrap (v_k + 1))
 some (.inl (v_s,v_l,v_k))
 else
 some (.inr (v_s,v_l,v_k))
def qk (v_s:aa) (cu:Int) : Option (aa×(List am)) :=
 let v_l:(List am):=[]
 let v_k:Int:=0
 (ah (i8 cu) ab (v_s,v_l,v_k)).bind fun r3 =>
 let v_s:=r3.1
 let v_l:=r3.2.1
 let v_k:=r3.2.2
 some (v_s,v_l)
def lO (v_n:Int) : Option (Int) :=
 (if (decide (v_n < 0))=true then some true else some (decide (v_n > 1125899906842624))).bind fun q1=>if q1=true then
 some 0
 else
 some v_n
def oq (v_n:Int) (bV:(List Int)) (gB:(List Int)) (cn:(List Int)) (st:(List Int)×Int×Int) : Option (((List Int)×Int×Int)⊕(((List Int)×Int×Int))) :=
 let al:=st.1
 let co:=st.2.1
 let v_i:=st.2.2
 if (decide (v_i < v_n))=true then
 (au bV v_i).bind fun b2=>(lO b2).bind fun c3=>(au gB v_i).bind fun b4=>(lO b4).bind fun c5=>(au cn v_i).bind fun b6=>(lO b6).bind fun c7=>let v_x:Int:=(if co < (if c7 < (if c5 < c3 then c5 else c3) then c7 else (if c5 < c3 then c5 else c3)) then co else (if c7 < (if c5 < c3 then c5 else c3) then c7 else (if c5 < c3 then c5 else c3)))
 (aX al [v_x]).bind fun b8=>let al:(List Int):=b8
 let co:Int:=(i64.wrap (co - v_x))
 let v_i:Int:=(i64.wrap (v_i + 1))
 some (.inl (al,co,v_i))
 else
 some (.inr (al,co,v_i))
def om (v_n:Int) (gB:(List Int)) (cn:(List Int)) (st:(List Int)×Int×Int) : Option (((List Int)×Int×Int)⊕(((List Int)×Int×Int))) :=
 let al:=st.1
 let co:=st.2.1
 let aK:=st.2.2
 if (decide (aK < v_n))=true then
 (au gB aK).bind fun b10=>(lO b10).bind fun c11=>(au cn aK).bind fun b12=>(lO b12).bind fun c13=>(au al aK).bind fun b14=>let ZS:Int:=(if co < (if 0 > (i64.wrap ((if c13 < c11 then c13 else c11) - b14)) then 0 else (i64.wrap ((if c13 < c11 then c13 else c11) - b14))) then co else (if 0 > (i64.wrap ((if c13 < c11 then c13 else c11) - b14)) then 0 else (i64.wrap ((if c13 < c11 then c13 else c11) - b14))))
 (au al aK).bind fun b15=>(au al aK).bind fun b16=>let al:(List Int):=(List.set al (Int.toNat aK) (i64.wrap (b15 + ZS)))
 let co:Int:=(i64.wrap (co - ZS))
 let aK:Int:=(i64.wrap (aK + 1))
 some (.inl (al,co,aK))
 else
 some (.inr (al,co,aK))
def vS (fx:Int) (bV:(List Int)) (gB:(List Int)) (cn:(List Int)) : Option ((List Int)) :=
 let v_n:Int:=(if (cn.length:Int) < (if (gB.length:Int) < (bV.length:Int) then (gB.length:Int) else (bV.length:Int)) then (cn.length:Int) else (if (gB.length:Int) < (bV.length:Int) then (gB.length:Int) else (bV.length:Int)))
 (lO fx).bind fun c1=>let co:Int:=c1
 let al:(List Int):=[]
 let v_i:Int:=0
 (ah (oq v_n bV gB cn) ab (al,co,v_i)).bind fun r9 =>
 let al:=r9.1
 let co:=r9.2.1
 let v_i:=r9.2.2
 let aK:Int:=0
 (ah (om v_n gB cn) ab (al,co,aK)).bind fun r17 =>
 let al:=r17.1
 let co:=r17.2.1
 let aK:=r17.2.2
 some al
def qg (self:(aa→ByteArray→Int→Int→Option ((List ak)))) (bz:(List ByteArray)) (v_s:aa) (af:Int) (st:(List Int)×(List Int)×(List Int)×Int) : Option (((List Int)×(List Int)×(List Int)×Int)⊕(((List Int)×(List Int)×(List Int)×Int))) :=
 let bV:=st.1
 let cn:=st.2.1
 let gB:=st.2.2.1
 let v_i:=st.2.2.2
 if (decide (v_i < (bz.length:Int)))=true then
 (au bz v_i).bind fun b2=>(lA v_s b2 af).bind fun c3=>(aX bV [c3.br]).bind fun b4=>let bV:(List Int):=b4
 (au bz v_i).bind fun b5=>(vL v_s b5 af).bind fun c6=>(aX cn [c6.br]).bind fun b7=>let cn:(List Int):=b7
 (au bz v_i).bind fun b8=>(eB v_s b8 af).bind fun c9=>(au bz v_i).bind fun b10=>(nW v_s b10 af).bind fun c11=>(aX gB [(i64.wrap (c9.br + c11.br))]).bind fun b12=>let gB:(List Int):=b12
 let v_i:Int:=(i64.wrap (v_i + 1))
 some (.inl (bV,cn,gB,v_i))
 else
 some (.inr (bV,cn,gB,v_i))
def qf (self:(aa→ByteArray→Int→Int→Option ((List ak)))) (bz:(List ByteArray)) (v_s:aa) (af:Int) (v_x:(List Int)) (st:(List ak)×Int) : Option (((List ak)×Int)⊕(((List ak)×Int))) :=
 let al:=st.1
 let aK:=st.2
 if (decide (aK < (bz.length:Int)))=true then
 (au bz aK).bind fun b15=>(au v_x aK).bind fun b16=>(self v_s b15 af b16).bind fun c17=>(aX al c17).bind fun b18=>let al:(List ak):=b18
 let aK:Int:=(i64.wrap (aK + 1))
 some (.inl (al,aK))
 else
 some (.inr (al,aK))
def lQ:Nat→aa→ByteArray→Int→Int→Option ((List ak))
 | 0=>fun _ _ _ _=>none
 | fuel + 1=>fun v_s av af YR =>
 let self:=lQ fuel
 (eX v_s.bC av).bind fun c1=>let bz:(List ByteArray):=c1
 if ((bz.length:Int)==0)=true then
 some ([(⟨av,YR⟩ : ak)] : (List ak))
 else
 let bV:(List Int):=[]
 let gB:(List Int):=[]
 let cn:(List Int):=[]
 let v_i:Int:=0
 (ah (qg self bz v_s af) ab (bV,cn,gB,v_i)).bind fun r13 =>
 let bV:=r13.1
 let cn:=r13.2.1
 let gB:=r13.2.2.1
 let v_i:=r13.2.2.2
 (vS YR bV gB cn).bind fun c14=>let v_x:(List Int):=c14
 let al:(List ak):=[]
 let aK:Int:=0
 (ah (qf self bz v_s af v_x) ab (al,aK)).bind fun r19 =>
 let al:=r19.1
 let aK:=r19.2
 some al
def gc (al:(List ak)) (v_i:Int) (v_l:(List ak)) (st:Int) : Option ((Int)⊕((Int))) :=
 let v_k:=st
 (if (decide (v_k < (al.length:Int)))=true then (au al v_k).bind fun b3=>(au v_l v_i).bind fun b4=>some (Op.bytesLess b3.aI.toList b4.aI.toList) else some false).bind fun q5=>if q5=true then
 let v_k:Int:=(i64.wrap (v_k + 1))
 some (.inl v_k)
 else
 some (.inr v_k)
def jy (v_l:(List ak)) (st:(List ak)×Int) : Option (((List ak)×Int)⊕(((List ak)×Int))) :=
 let al:=st.1
 let v_i:=st.2
 if (decide (v_i < (v_l.length:Int)))=true then
 let v_k:Int:=0
 (ah (gc al v_i v_l) ab v_k).bind fun r6 =>
 let v_k:=r6
 (hiO al v_k).bind fun b7=>(aX ([] : (List ak)) b7).bind fun b8=>let v_x:(List ak):=b8
 (au v_l v_i).bind fun b9=>(aX v_x [b9]).bind fun b10=>let v_x:(List ak):=b10
 (loO al v_k).bind fun b11=>(aX v_x b11).bind fun b12=>let al:(List ak):=b12
 let v_i:Int:=(i64.wrap (v_i + 1))
 some (.inl (al,v_i))
 else
 some (.inr (al,v_i))
def qh (v_s:aa) (af:Int) : Option ((List ak)) :=
 let al:(List ak):=[]
 (iX v_s af).bind fun c1=>(lQ ab v_s (⟨#[114,111,111,116]⟩ : ByteArray) af c1.br).bind fun c2=>let v_l:(List ak):=c2
 let v_i:Int:=0
 (ah (jy v_l) ab (al,v_i)).bind fun r13 =>
 let al:=r13.1
 let v_i:=r13.2
 some al
def nw (v_l:(List ak)) (av:ByteArray) (st:Int) : Option ((Int)⊕((Int)⊕(Int))) :=
 let v_i:=st
 if (decide (v_i < (v_l.length:Int)))=true then
 (au v_l v_i).bind fun b2=>if (b2.aI.toList==av.toList)=true then
 (au v_l v_i).bind fun b3=>some (.inr (.inr b3.br))
 else
 let v_i:Int:=(i64.wrap (v_i + 1))
 some (.inl v_i)
 else
 some (.inr (.inl v_i))
def zM (v_s:aa) (af:Int) (av:ByteArray) : Option (Int) :=
 (qh v_s af).bind fun c1=>let v_l:(List ak):=c1
 let v_i:Int:=0
 (ah (nw v_l av) ab v_i).bind fun r4=>match r4 with
 | .inr m5=>some m5
 | .inl m5 =>
 let v_i:=m5
 some 0
def i6 (v_s:aa) (v_c:am) : Option (ByteArray) :=
 (eG v_s v_c.bF).bind fun c1=>let v_a:aC:=c1.1
 some v_a.bP
def jY (v_a:aC) (av:ByteArray) (v_s:aa) (af:Int) (bV:Int) (mw:Int) (st:Int) : Option ((Int)⊕((Int)⊕(Int))) :=
 let v_k:=st
 (if (decide (v_k < (v_a.bL.length:Int)))=true then (dx v_a).bind fun c6=>some c6 else some false).bind fun q7=>(if q7=true then some (v_a.bP.toList==av.toList) else some false).bind fun q8=>if q8=true then
 (au v_a.bL v_k).bind fun b9=>(if (b9.aP==af)=true then (au v_a.bL v_k).bind fun b10=>some (decide ((i64.wrap (b10.cp.br + mw))≤bV)) else some false).bind fun q11=>if q11=true then
 (nW v_s av af).bind fun c12=>some (.inr (.inr (if (i64.wrap (bV - mw)) < c12.br then (i64.wrap (bV - mw)) else c12.br)))
 else
 let v_k:Int:=(i64.wrap (v_k + 1))
 some (.inl v_k)
 else
 some (.inr (.inl v_k))
def jZ (v_s:aa) (av:ByteArray) (af:Int) (bV:Int) (mw:Int) (st:Int) : Option ((Int)⊕((Int)⊕(Int))) :=
 let v_i:=st
 if (decide (v_i < (v_s.aq.length:Int)))=true then
 (au v_s.aq v_i).bind fun b5=>let v_a:aC:=b5
 let v_k:Int:=0
 (ah (jY v_a av v_s af bV mw) ab v_k).bind fun r13=>match r13 with
 | .inr m14=>some (.inr (.inr m14))
 | .inl m14 =>
 let v_k:=m14
 let v_i:Int:=(i64.wrap (v_i + 1))
 some (.inl v_i)
 else
 some (.inr (.inl v_i))
def sp (v_s:aa) (av:ByteArray) (af:Int) : Option (Int) :=
 (eB v_s av af).bind fun c1=>(lA v_s av af).bind fun c2=>let t3:Int:=c1.br
 let t4:Int:=c2.br
 let mw:Int:=t3
 let bV:Int:=t4
 let v_i:Int:=0
 (ah (jZ v_s av af bV mw) ab v_i).bind fun r15=>match r15 with
 | .inr m16=>some m16
 | .inl m16 =>
 let v_i:=m16
 some 0
def o4 (v_l:(List Int)) (v_n:Int) (st:Int) : Option ((Int)⊕((Int)⊕(Bool))) :=
 let v_i:=st
 if (decide (v_i < (v_l.length:Int)))=true then
 (au v_l v_i).bind fun b1=>if (b1==v_n)=true then
 some (.inr (.inr true))
 else
 let v_i:Int:=(i64.wrap (v_i + 1))
 some (.inl v_i)
 else
 some (.inr (.inl v_i))
def xQ (v_l:(List Int)) (v_n:Int) : Option (Bool) :=
 let v_i:Int:=0
 (ah (o4 v_l v_n) ab v_i).bind fun r2=>match r2 with
 | .inr m3=>some m3
 | .inl m3 =>
 let v_i:=m3
 some false
def jx (v_s:aa) (af:Int) (av:ByteArray) (v_l:(List Int)) (st:Int×Int) : Option ((Int×Int)⊕((Int×Int))) :=
 let v_n:=st.1
 let v_i:=st.2
 if (decide (v_i < (v_s.ac.length:Int)))=true then
 (au v_s.ac v_i).bind fun b1=>let v_c:am:=b1
 (if (v_c.aP==af)=true then (if (av.toList==(⟨#[]⟩ : ByteArray).toList)=true then some true else (i6 v_s v_c).bind fun c2=>some (c2.toList==av.toList)).bind fun q3=>some q3 else some false).bind fun q4=>(if q4=true then (if (v_c.jn != 0)=true then some true else (xQ v_l v_c.fId).bind fun c5=>some c5).bind fun q6=>some q6 else some false).bind fun q7=>if q7=true then
 let v_n:Int:=(i64.wrap (v_n + v_c.cp.br))
 let v_i:Int:=(i64.wrap (v_i + 1))
 some (.inl (v_n,v_i))
 else
 let v_i:Int:=(i64.wrap (v_i + 1))
 some (.inl (v_n,v_i))
 else
 some (.inr (v_n,v_i))
def mU (v_s:aa) (av:ByteArray) (af:Int) (v_l:(List Int)) : Option (Int) :=
 let v_n:Int:=0
 let v_i:Int:=0
 (ah (jx v_s af av v_l) ab (v_n,v_i)).bind fun r8 =>
 let v_n:=r8.1
 let v_i:=r8.2
 some v_n
def jw (v_s:aa) (af:Int) (av:ByteArray) (v_l:(List Int)) (st:am×Bool×Int) : Option ((am×Bool×Int)⊕((am×Bool×Int))) :=
 let cK:=st.1
 let bS:=st.2.1
 let v_i:=st.2.2
 if (decide (v_i < (v_s.ac.length:Int)))=true then
 (au v_s.ac v_i).bind fun b3=>let v_c:am:=b3
 (if (v_c.aP != af)=true then some true else (i6 v_s v_c).bind fun c4=>some (!(c4.toList==av.toList))).bind fun q5=>(if q5=true then some true else some (v_c.jn != 0)).bind fun q6=>(if q6=true then some true else (xQ v_l v_c.fId).bind fun c7=>some c7).bind fun q8=>if q8=true then
 let v_i:Int:=(i64.wrap (v_i + 1))
 some (.inl (cK,bS,v_i))
 else
 (if (!bS)=true then some true else (if cK.bG=true then some (!v_c.bG) else some false).bind fun q9=>some q9).bind fun q10=>(if q10=true then some true else (if (cK.bG==v_c.bG)=true then some (decide (v_c.fId > cK.fId)) else some false).bind fun q11=>some q11).bind fun q12=>if q12=true then
 let t13:am:=v_c
 let t14:Bool:=true
 let cK:am:=t13
 let bS:Bool:=t14
 let v_i:Int:=(i64.wrap (v_i + 1))
 some (.inl (cK,bS,v_i))
 else
 let v_i:Int:=(i64.wrap (v_i + 1))
 some (.inl (cK,bS,v_i))
 else
 some (.inr (cK,bS,v_i))
def qc (v_s:aa) (av:ByteArray) (af:Int) (v_l:(List Int)) : Option (am×Bool) :=
 let t1:am:=(⟨0,0,0,aw.zero,0,0,false,0⟩ : am)
 let t2:Bool:=false
 let cK:am:=t1
 let bS:Bool:=t2
 let v_i:Int:=0
 (ah (jw v_s af av v_l) ab (cK,bS,v_i)).bind fun r15 =>
 let cK:=r15.1
 let bS:=r15.2.1
 let v_i:=r15.2.2
 some (cK,bS)
def lM (bO:(List ak)) (v_s:aa) (af:Int) (st:Int×Int) : Option ((Int×Int)⊕((Int×Int))) :=
 let kW:=st.1
 let v_i:=st.2
 if (decide (v_i < (bO.length:Int)))=true then
 (au bO v_i).bind fun b4=>(sp v_s b4.aI af).bind fun c5=>let kW:Int:=(i64.wrap (kW + c5))
 let v_i:Int:=(i64.wrap (v_i + 1))
 some (.inl (kW,v_i))
 else
 some (.inr (kW,v_i))
def lL (bO:(List ak)) (v_s:aa) (af:Int) (v_l:(List Int)) (st:Int×am×Int) : Option ((Int×am×Int)⊕((Int×am×Int))) :=
 let cn:=st.1
 let v_x:=st.2.1
 let aK:=st.2.2
 if (decide (aK < (bO.length:Int)))=true then
 (au bO aK).bind fun b10=>let v_p:ByteArray:=b10.aI
 (eB v_s v_p af).bind fun c11=>(au bO aK).bind fun b12=>(mU v_s v_p af v_l).bind fun c13=>let DK:Int:=(i64.wrap ((i64.wrap (c11.br - b12.br)) - c13))
 (qc v_s v_p af v_l).bind fun c14=>let v_c:am:=c14.1
 let bS:Bool:=c14.2
 (if bS=true then some (decide (DK > cn)) else some false).bind fun q15=>if q15=true then
 let t16:Int:=DK
 let t17:am:=v_c
 let cn:Int:=t16
 let v_x:am:=t17
 let aK:Int:=(i64.wrap (aK + 1))
 some (.inl (cn,v_x,aK))
 else
 let aK:Int:=(i64.wrap (aK + 1))
 some (.inl (cn,v_x,aK))
 else
 some (.inr (cn,v_x,aK))
def qe (v_s:aa) (af:Int) (kW:Int) (bO:(List ak)) (st:(List Int)) : Option (((List Int))⊕(((List Int))⊕((List Int)))) :=
 let v_l:=st
 (mU v_s (⟨#[]⟩ : ByteArray) af v_l).bind fun c7=>if (decide (c7 < kW))=true then
 let t8:Int:=0
 let t9:am:=(⟨0,0,0,aw.zero,0,0,false,0⟩ : am)
 let cn:Int:=t8
 let v_x:am:=t9
 let aK:Int:=0
 (ah (lL bO v_s af v_l) ab (cn,v_x,aK)).bind fun r18 =>
 let cn:=r18.1
 let v_x:=r18.2.1
 let aK:=r18.2.2
 if (cn==0)=true then
 some (.inr (.inr v_l))
 else
 (aX v_l [v_x.fId]).bind fun b19=>let v_l:(List Int):=b19
 some (.inl v_l)
 else
 some (.inr (.inl v_l))
def zK (v_s:aa) (af:Int) : Option ((List Int)) :=
 (qh v_s af).bind fun c1=>let bO:(List ak):=c1
 (iX v_s af).bind fun c2=>(eB v_s (⟨#[114,111,111,116]⟩ : ByteArray) af).bind fun c3=>let kW:Int:=(i64.wrap (0 - (if 0 > (i64.wrap (c2.br - c3.br)) then 0 else (i64.wrap (c2.br - c3.br)))))
 let v_i:Int:=0
 (ah (lM bO v_s af) ab (kW,v_i)).bind fun r6 =>
 let kW:=r6.1
 let v_i:=r6.2
 let v_l:(List Int):=[]
 (ah (qe v_s af kW bO) ab v_l).bind fun r20=>match r20 with
 | .inr m21=>some m21
 | .inl m21 =>
 let v_l:=m21
 some v_l
def qa (v_t:Int) (bA:Int) (st:(List am)×Int) : Option (((List am)×Int)⊕(((List am)×Int))) :=
 let v_l:=st.1
 let v_i:=st.2
 if (decide (v_i < (v_l.length:Int)))=true then
 (au v_l v_i).bind fun b2=>if (b2.fId==bA)=true then
 (au v_l v_i).bind fun b3=>let v_l:(List am):=(List.set v_l (Int.toNat v_i) ({ b3 with jn:=v_t }))
 let v_i:Int:=(i64.wrap (v_i + 1))
 some (.inl (v_l,v_i))
 else
 let v_i:Int:=(i64.wrap (v_i + 1))
 some (.inl (v_l,v_i))
 else
 some (.inr (v_l,v_i))
def nU (v_s:aa) (bA:Int) (v_t:Int) : Option (aa) :=
 (aX ([] : (List am)) v_s.ac).bind fun b1=>let v_l:(List am):=b1
 let v_i:Int:=0
 (ah (qa v_t bA) ab (v_l,v_i)).bind fun r4 =>
 let v_l:=r4.1
 let v_i:=r4.2
 let v_s:aa:={ v_s with ac:=v_l }
 some v_s
def lN (kV:aa) (yj:aa) (st:(List Int)×Int) : Option (((List Int)×Int)⊕(((List Int)×Int))) :=
 let v_l:=st.1
 let v_i:=st.2
 if (decide (v_i < (kV.ac.length:Int)))=true then
 (au kV.ac v_i).bind fun b1=>(eH yj b1.fId).bind fun c2=>let bS:Bool:=c2.2
 if (!bS)=true then
 (au kV.ac v_i).bind fun b3=>(aX v_l [b3.fId]).bind fun b4=>let v_l:(List Int):=b4
 let v_i:Int:=(i64.wrap (v_i + 1))
 some (.inl (v_l,v_i))
 else
 let v_i:Int:=(i64.wrap (v_i + 1))
 some (.inl (v_l,v_i))
 else
 some (.inr (v_l,v_i))
def uW (kV:aa) (yj:aa) : Option ((List Int)) :=
 let v_l:(List Int):=[]
 let v_i:Int:=0
 (ah (lN kV yj) ab (v_l,v_i)).bind fun r5 =>
 let v_l:=r5.1
 let v_i:=r5.2
 some v_l
def mS (v_s:aa) (v_c:am) (st:Int×Int) : Option ((Int×Int)⊕((Int×Int))) :=
 let v_n:=st.1
 let v_i:=st.2
 (if (decide (v_i < (v_s.ac.length:Int)))=true then some v_c.bG else some false).bind fun q1=>if q1=true then
 (au v_s.ac v_i).bind fun b2=>(if (b2.bF==v_c.bF)=true then (au v_s.ac v_i).bind fun b3=>some (b3.fId != v_c.fId) else some false).bind fun q4=>(if q4=true then (au v_s.ac v_i).bind fun b5=>some (b5.aP==v_c.aP) else some false).bind fun q6=>if q6=true then
 (au v_s.ac v_i).bind fun b7=>let v_n:Int:=(i64.wrap (v_n + b7.cp.br))
 let v_i:Int:=(i64.wrap (v_i + 1))
 some (.inl (v_n,v_i))
 else
 let v_i:Int:=(i64.wrap (v_i + 1))
 some (.inl (v_n,v_i))
 else
 some (.inr (v_n,v_i))
def p9 (v_s:aa) (v_c:am) : Option (Int) :=
 let v_n:Int:=0
 let v_i:Int:=0
 (ah (mS v_s v_c) ab (v_n,v_i)).bind fun r8 =>
 let v_n:=r8.1
 let v_i:=r8.2
 some v_n
def qd (v_s:aa) (af:Int) (st:(List am)×Int) : Option (((List am)×Int)⊕(((List am)×Int))) :=
 let v_l:=st.1
 let v_i:=st.2
 if (decide (v_i≥0))=true then
 (au v_s.ac v_i).bind fun b1=>let v_c:am:=b1
 (if (v_c.aP==af)=true then some (v_c.jn != 0) else some false).bind fun q2=>(if q2=true then some (decide ((i64.wrap (v_c.jn + 3))≤v_s.bQ)) else some false).bind fun q3=>if q3=true then
 (aX v_l [v_c]).bind fun b4=>let v_l:(List am):=b4
 let v_i:Int:=(i64.wrap (v_i - 1))
 some (.inl (v_l,v_i))
 else
 let v_i:Int:=(i64.wrap (v_i - 1))
 some (.inl (v_l,v_i))
 else
 some (.inr (v_l,v_i))
def lJ (v_l:(List am)) (af:Int) (st:aa×Int) : Option ((aa×Int)⊕((aa×Int))) :=
 let v_s:=st.1
 let aK:=st.2
 if (decide (aK < (v_l.length:Int)))=true then
 (au v_l aK).bind fun b6=>(eH v_s b6.fId).bind fun c7=>let w8:am:=c7.1
 let bS:Bool:=c7.2
 if (!bS)=true then
 let aK:Int:=(i64.wrap (aK + 1))
 some (.inl (v_s,aK))
 else
 (i6 v_s w8).bind fun c8=>(eB v_s c8 af).bind fun c9=>(p9 v_s w8).bind fun c10=>(i6 v_s w8).bind fun c11=>(zM v_s af c11).bind fun c12=>if (decide ((i64.wrap (c9.br - c10)) > c12))=true then
 (je v_s ([w8.fId] : (List Int))).bind fun c13=>let v_s:aa:=c13
 let aK:Int:=(i64.wrap (aK + 1))
 some (.inl (v_s,aK))
 else
 (nU v_s w8.fId 0).bind fun c14=>let v_s:aa:=c14
 let aK:Int:=(i64.wrap (aK + 1))
 some (.inl (v_s,aK))
 else
 some (.inr (v_s,aK))
def zH (v_s:aa) (af:Int) : Option (aa) :=
 let v_l:(List am):=[]
 let v_i:Int:=(i64.wrap ((v_s.ac.length:Int) - 1))
 (ah (qd v_s af) ab (v_l,v_i)).bind fun r5 =>
 let v_l:=r5.1
 let v_i:=r5.2
 let aK:Int:=0
 (ah (lJ v_l af) ab (v_s,aK)).bind fun r15 =>
 let v_s:=r15.1
 let aK:=r15.2
 some v_s
def j7 (v_l:(List Int)) (st:aa×Int) : Option ((aa×Int)⊕((aa×Int))) :=
 let v_s:=st.1
 let v_i:=st.2
 if (decide (v_i < (v_l.length:Int)))=true then
 (au v_l v_i).bind fun b3=>(nU v_s b3 (if 1 > v_s.bQ then 1 else v_s.bQ)).bind fun c4=>let v_s:aa:=c4
 let v_i:Int:=(i64.wrap (v_i + 1))
 some (.inl (v_s,v_i))
 else
 some (.inr (v_s,v_i))
def ol (st:aa×Int) : Option ((aa×Int)⊕((aa×Int))) :=
 let v_s:=st.1
 let af:=st.2
 if (decide (af < (v_s.bC.ai.length:Int)))=true then
 (zH v_s af).bind fun c1=>let v_s:aa:=c1
 (zK v_s af).bind fun c2=>let v_l:(List Int):=c2
 let v_i:Int:=0
 (ah (j7 v_l) ab (v_s,v_i)).bind fun r5 =>
 let v_s:=r5.1
 let v_i:=r5.2
 let af:Int:=(i64.wrap (af + 1))
 some (.inl (v_s,af))
 else
 some (.inr (v_s,af))
def vR (v_s:aa) : Option (aa×(List Int)) :=
 let kV:aa:=v_s
 let af:Int:=0
 (ah (ol) ab (v_s,af)).bind fun r6 =>
 let v_s:=r6.1
 let af:=r6.2
 (uW kV v_s).bind fun c7=>some (v_s,c7)
def o5 (v_l:(List a8)) (af:Int) (v_t:Int) (st:aw×Int) : Option ((aw×Int)⊕((aw×Int))) :=
 let v_v:=st.1
 let v_i:=st.2
 if (decide (v_i < (v_l.length:Int)))=true then
 (au v_l v_i).bind fun b1=>(if (b1.aP==af)=true then (au v_l v_i).bind fun b2=>some (decide (b2.nL≤v_t)) else some false).bind fun q3=>(if q3=true then (au v_l v_i).bind fun b4=>some (decide (v_t < b4.jK)) else some false).bind fun q5=>if q5=true then
 (au v_l v_i).bind fun b6=>(db v_v b6.iC).bind fun c7=>let v_v:aw:=c7
 let v_i:Int:=(i64.wrap (v_i + 1))
 some (.inl (v_v,v_i))
 else
 let v_i:Int:=(i64.wrap (v_i + 1))
 some (.inl (v_v,v_i))
 else
 some (.inr (v_v,v_i))
def u4 (v_l:(List a8)) (af:Int) (v_t:Int) : Option (aw) :=
 let v_v:aw:=(⟨0,0⟩ : aw)
 let v_i:Int:=0
 (ah (o5 v_l af v_t) ab (v_v,v_i)).bind fun r8 =>
 let v_v:=r8.1
 let v_i:=r8.2
 some v_v
def uY (v_n:Int) : Option (Bool) :=
 (if (decide (v_n≥0))=true then some (decide (v_n≤1073741824)) else some false).bind fun q1=>some q1
def lR (v_l:(List a8)) (v_t:Int) (gD:Int) (v_p:a8) (fx:aw) (st:Int) : Option ((Int)⊕((Int)⊕(Bool))) :=
 let v_i:=st
 if (decide (v_i < (v_l.length:Int)))=true then
 (au v_l v_i).bind fun b4=>let v_u:Int:=b4.nL
 (if (decide (v_u > v_t))=true then some (decide ((i64.wrap (v_u - v_t)) < gD)) else some false).bind fun q5=>(if q5=true then (u4 v_l v_p.aP v_u).bind fun c6=>(db c6 v_p.iC).bind fun c7=>(fF c7 fx).bind fun c8=>some (!c8) else some false).bind fun q9=>if q9=true then
 some (.inr (.inr false))
 else
 let v_i:Int:=(i64.wrap (v_i + 1))
 some (.inl v_i)
 else
 some (.inr (.inl v_i))
def sq (v_l:(List a8)) (fx:aw) (v_p:a8) (v_t:Int) (gD:Int) : Option (Bool) :=
 (u4 v_l v_p.aP v_t).bind fun c1=>(db c1 v_p.iC).bind fun c2=>(fF c2 fx).bind fun c3=>if (!c3)=true then
 some false
 else
 let v_i:Int:=0
 (ah (lR v_l v_t gD v_p fx) ab v_i).bind fun r10=>match r10 with
 | .inr m11=>some m11
 | .inl m11 =>
 let v_i:=m11
 some true
def ot (v_l:(List a8)) (v_p:a8) (gD:Int) (fx:aw) (st:Int×Int) : Option ((Int×Int)⊕((Int×Int))) :=
 let cK:=st.1
 let v_i:=st.2
 if (decide (v_i < (v_l.length:Int)))=true then
 let v_t:Int:=v_p.nL
 (if (decide (v_i≥0))=true then
 (au v_l v_i).bind fun b11=>let v_t:Int:=b11.jK
 some v_t
 else
 some v_t).bind fun j10=>let v_t:=j10
 (if (decide (v_t≥v_p.nL))=true then some (decide (v_t≤1000000)) else some false).bind fun q12=>(if q12=true then some (decide ((i64.wrap (v_t + gD))≤v_p.jK)) else some false).bind fun q13=>(if q13=true then (if (decide (cK < 0))=true then some true else some (decide (v_t < cK))).bind fun q14=>some q14 else some false).bind fun q15=>(if q15=true then (sq v_l fx v_p v_t gD).bind fun c16=>some c16 else some false).bind fun q17=>if q17=true then
 let cK:Int:=v_t
 let v_i:Int:=(i64.wrap (v_i + 1))
 some (.inl (cK,v_i))
 else
 let v_i:Int:=(i64.wrap (v_i + 1))
 some (.inl (cK,v_i))
 else
 some (.inr (cK,v_i))
def vT (v_l:(List a8)) (fx:aw) (v_p:a8) (gD:Int) : Option (Int×Int) :=
 (if (decide (gD < 1))=true then some true else some (decide (gD > 1000))).bind fun q1=>(if q1=true then some true else some (decide (v_p.nL < 0))).bind fun q2=>(if q2=true then some true else some (decide (v_p.nL > 1000000))).bind fun q3=>(if q3=true then some true else some (decide (v_p.jK < 0))).bind fun q4=>(if q4=true then some true else some (decide (v_p.jK > 1000000))).bind fun q5=>(if q5=true then some true else (uY v_p.iC.br).bind fun c6=>some (!c6)).bind fun q7=>(if q7=true then some true else (uY v_p.iC.aV).bind fun c8=>some (!c8)).bind fun q9=>if q9=true then
 some (0,1)
 else
 let cK:Int:=(-1)
 let v_i:Int:=(-1)
 (ah (ot v_l v_p gD fx) ab (cK,v_i)).bind fun r18 =>
 let cK:=r18.1
 let v_i:=r18.2
 if (decide (cK < 0))=true then
 some (0,16)
 else
 some (cK,0)
def nx (v_s:aa) (v_p:a8) (st:Int×Int) : Option ((Int×Int)⊕((Int×Int)⊕(aa×Int×Int))) :=
 let v_k:=st.1
 let v_i:=st.2
 if (decide (v_i < (v_s.bh.length:Int)))=true then
 (au v_s.bh v_i).bind fun b5=>if (b5.fId==v_p.fId)=true then
 some (.inr (.inr (v_s,0,7)))
 else
 (au v_s.bh v_i).bind fun b6=>if (decide (b6.fId < v_p.fId))=true then
 let v_k:Int:=(i64.wrap (v_i + 1))
 let v_i:Int:=(i64.wrap (v_i + 1))
 some (.inl (v_k,v_i))
 else
 let v_i:Int:=(i64.wrap (v_i + 1))
 some (.inl (v_k,v_i))
 else
 some (.inr (.inl (v_k,v_i)))
def zQ (v_s:aa) (v_p:a8) (gD:Int) : Option (aa×Int×Int) :=
 (if (decide (v_p.fId < 0))=true then some true else some (decide (v_p.fId > 999))).bind fun q1=>(if q1=true then some true else some (decide (v_p.aP < 0))).bind fun q2=>(if q2=true then some true else some (decide (v_p.aP≥(v_s.bC.ai.length:Int)))).bind fun q3=>(if q3=true then some true else some ((v_p.iC.br==(⟨0,0⟩ : aw).br)&&(v_p.iC.aV==(⟨0,0⟩ : aw).aV))).bind fun q4=>if q4=true then
 some (v_s,0,1)
 else
 let v_k:Int:=0
 let v_i:Int:=0
 (ah (nx v_s v_p) ab (v_k,v_i)).bind fun r7=>match r7 with
 | .inr m8=>some m8
 | .inl m8 =>
 let v_k:=m8.1
 let v_i:=m8.2
 if (decide ((v_s.bh.length:Int)≥12))=true then
 some (v_s,0,4)
 else
 if (decide (v_p.nL < v_s.bQ))=true then
 some (v_s,0,15)
 else
 (iX v_s v_p.aP).bind fun c9=>(vT v_s.bh c9 v_p gD).bind fun c10=>let v_t:Int:=c10.1
 let v_e:Int:=c10.2
 if (v_e != 0)=true then
 some (v_s,0,v_e)
 else
 (hiO v_s.bh v_k).bind fun b11=>(aX ([] : (List a8)) b11).bind fun b12=>let v_l:(List a8):=b12
 (aX v_l [(⟨v_p.fId,v_p.aP,v_t,(i64.wrap (v_t + gD)),v_p.iC⟩ : a8)]).bind fun b13=>let v_l:(List a8):=b13
 (loO v_s.bh v_k).bind fun b14=>(aX v_l b14).bind fun b15=>let v_s:aa:={ v_s with bh:=b15 }
 some (v_s,v_t,0)
def lS (v_s:aa) (bA:Int) (st:(List a8)×Int) : Option (((List a8)×Int)⊕(((List a8)×Int))) :=
 let v_l:=st.1
 let v_i:=st.2
 if (decide (v_i < (v_s.bh.length:Int)))=true then
 (au v_s.bh v_i).bind fun b1=>if (b1.fId != bA)=true then
 (au v_s.bh v_i).bind fun b2=>(aX v_l [b2]).bind fun b3=>let v_l:(List a8):=b3
 let v_i:Int:=(i64.wrap (v_i + 1))
 some (.inl (v_l,v_i))
 else
 let v_i:Int:=(i64.wrap (v_i + 1))
 some (.inl (v_l,v_i))
 else
 some (.inr (v_l,v_i))
def uZ (v_s:aa) (bA:Int) : Option (aa×Int) :=
 let v_l:(List a8):=[]
 let v_i:Int:=0
 (ah (lS v_s bA) ab (v_l,v_i)).bind fun r4 =>
 let v_l:=r4.1
 let v_i:=r4.2
 if ((v_l.length:Int)==(v_s.bh.length:Int))=true then
 some (v_s,2)
 else
 let v_s:aa:={ v_s with bh:=v_l }
 some (v_s,0)
def tn (v_s:ByteArray) (v_c:Int) (st:(List ByteArray)×Int×Int) : Option (((List ByteArray)×Int×Int)⊕(((List ByteArray)×Int×Int))) :=
 let v_l:=st.1
 let oL:=st.2.1
 let v_i:=st.2.2
 if (decide (v_i < (v_s.size:Int)))=true then
 (lc v_s v_i).bind fun b1=>if (b1==v_c)=true then
 (JC v_s oL v_i).bind fun b2=>(aX v_l [b2]).bind fun b3=>let v_l:(List ByteArray):=b3
 let oL:Int:=(i64.wrap (v_i + 1))
 let v_i:Int:=(i64.wrap (v_i + 1))
 some (.inl (v_l,oL,v_i))
 else
 let v_i:Int:=(i64.wrap (v_i + 1))
 some (.inl (v_l,oL,v_i))
 else
 some (.inr (v_l,oL,v_i))
def FY (v_s:ByteArray) (v_c:Int) : Option ((List ByteArray)) :=
 let v_l:(List ByteArray):=[]
 let oL:Int:=0
 let v_i:Int:=0
 (ah (tn v_s v_c) ab (v_l,oL,v_i)).bind fun r4 =>
 let v_l:=r4.1
 let oL:=r4.2.1
 let v_i:=r4.2.2
 (if (decide (oL < (v_s.size:Int)))=true then
 (SN v_s oL).bind fun b6=>(aX v_l [b6]).bind fun b7=>let v_l:(List ByteArray):=b7
 some v_l
 else
 some v_l).bind fun j5=>let v_l:=j5
 some v_l
def pQ (v_l:(List ByteArray)) (st:(List ByteArray)×Int) : Option (((List ByteArray)×Int)⊕(((List ByteArray)×Int))) :=
 let al:=st.1
 let v_i:=st.2
 if (decide (v_i < (v_l.length:Int)))=true then
 (au v_l v_i).bind fun b2=>if (!(b2.toList==(⟨#[]⟩ : ByteArray).toList))=true then
 (au v_l v_i).bind fun b3=>(aX al [b3]).bind fun b4=>let al:(List ByteArray):=b4
 let v_i:Int:=(i64.wrap (v_i + 1))
 some (.inl (al,v_i))
 else
 let v_i:Int:=(i64.wrap (v_i + 1))
 some (.inl (al,v_i))
 else
 some (.inr (al,v_i))
def zj (v_s:ByteArray) : Option ((List ByteArray)) :=
 let al:(List ByteArray):=[]
 (FY v_s 32).bind fun c1=>let v_l:(List ByteArray):=c1
 let v_i:Int:=0
 (ah (pQ v_l) ab (al,v_i)).bind fun r5 =>
 let al:=r5.1
 let v_i:=r5.2
 some al
def oh (v_s:ByteArray) (st:Int×Int) : Option ((Int×Int)⊕((Int×Int)⊕(Int×Bool))) :=
 let v_n:=st.1
 let v_i:=st.2
 if (decide (v_i < (v_s.size:Int)))=true then
 (lc v_s v_i).bind fun b5=>(if (decide (b5 < 48))=true then some true else (lc v_s v_i).bind fun b6=>some (decide (b6 > 57))).bind fun q7=>if q7=true then
 some (.inr (.inr (0,false)))
 else
 (lc v_s v_i).bind fun b8=>let v_n:Int:=(i64.wrap ((i64.wrap (v_n * 10)) + (i64.wrap (IntKind.u8.wrap (b8 - 48)))))
 let v_i:Int:=(i64.wrap (v_i + 1))
 some (.inl (v_n,v_i))
 else
 some (.inr (.inl (v_n,v_i)))
def pf (v_s:ByteArray) : Option (Int×Bool) :=
 (if (decide ((v_s.size:Int) < 1))=true then some true else some (decide ((v_s.size:Int) > 7))).bind fun q1=>(if q1=true then some true else (lc v_s 0).bind fun b2=>(if (b2==48)=true then some (decide ((v_s.size:Int) > 1)) else some false).bind fun q3=>some q3).bind fun q4=>if q4=true then
 some (0,false)
 else
 let v_n:Int:=0
 let v_i:Int:=0
 (ah (oh v_s) ab (v_n,v_i)).bind fun r9=>match r9 with
 | .inr m10=>some m10
 | .inl m10 =>
 let v_n:=m10.1
 let v_i:=m10.2
 some (v_n,true)
def pR (v_s:ByteArray) (st:Int) : Option ((Int)⊕((Int))) :=
 let v_k:=st
 (if (decide (v_k < (v_s.size:Int)))=true then (lc v_s v_k).bind fun b1=>some (b1 != 47) else some false).bind fun q2=>if q2=true then
 let v_k:Int:=(i64.wrap (v_k + 1))
 some (.inl v_k)
 else
 some (.inr v_k)
def zk (v_s:ByteArray) : Option (ec×Bool) :=
 let v_k:Int:=0
 (ah (pR v_s) ab v_k).bind fun r3 =>
 let v_k:=r3
 if (v_k==(v_s.size:Int))=true then
 some ((⟨0,0⟩ : ec),false)
 else
 (Ox v_s v_k).bind fun b4=>(pf b4).bind fun c5=>let v_a:Int:=c5.1
 let v_p:Bool:=c5.2
 (SN v_s (i64.wrap (v_k + 1))).bind fun b6=>(pf b6).bind fun c7=>let v_b:Int:=c7.1
 let v_q:Bool:=c7.2
 (if v_p=true then some v_q else some false).bind fun q8=>some ((⟨v_a,v_b⟩ : ec),q8)
def pT (v_w:(List ByteArray)) (st:Bool×aB×Int) : Option ((Bool×aB×Int)⊕((Bool×aB×Int))) :=
 let ef:=st.1
 let v_q:=st.2.1
 let v_i:=st.2.2
 (if (decide (v_i < (v_w.length:Int)))=true then some ef else some false).bind fun q6=>if q6=true then
 let v_c:ec:=(⟨0,0⟩ : ec)
 (au v_w v_i).bind fun b7=>(zk b7).bind fun c8=>let v_c:ec:=c8.1
 let ef:Bool:=c8.2
 (aX v_q.bl [v_c]).bind fun b9=>let v_q:aB:={ v_q with bl:=b9 }
 let v_i:Int:=(i64.wrap (v_i + 1))
 some (.inl (ef,v_q,v_i))
 else
 some (.inr (ef,v_q,v_i))
def zl (v_w:(List ByteArray)) (rx:Int) : Option (aB×Bool) :=
 (if ((v_w.length:Int) != (i64.wrap (3 + rx)))=true then some true else (au v_w 0).bind fun b1=>some (!(b1.toList==(⟨#[113,117,101,117,101]⟩ : ByteArray).toList))).bind fun q2=>if q2=true then
 some ((⟨⟨#[]⟩,[],0⟩ : aB),false)
 else
 (au v_w 2).bind fun b3=>(pf b3).bind fun c4=>let v_n:Int:=c4.1
 let ef:Bool:=c4.2
 (au v_w 1).bind fun b5=>let v_q:aB:=(⟨b5,[],v_n⟩ : aB)
 let v_i:Int:=3
 (ah (pT v_w) ab (ef,v_q,v_i)).bind fun r10 =>
 let ef:=r10.1
 let v_q:=r10.2.1
 let v_i:=r10.2.2
 some (v_q,ef)
def pU (v_c:ax) (v_q:aB) (st:Int) : Option ((Int)⊕((Int))) :=
 let v_k:=st
 (if (decide (v_k < (v_c.ae.length:Int)))=true then (au v_c.ae v_k).bind fun b10=>some (Op.bytesLess b10.aI.toList v_q.aI.toList) else some false).bind fun q11=>if q11=true then
 let v_k:Int:=(i64.wrap (v_k + 1))
 some (.inl v_k)
 else
 some (.inr v_k)
def pV (v_l:(List ByteArray)) (st:ax×Bool×Int) : Option ((ax×Bool×Int)⊕((ax×Bool×Int)⊕(ax×Int))) :=
 let v_c:=st.1
 let ng:=st.2.1
 let v_i:=st.2.2
 if (decide (v_i < (v_l.length:Int)))=true then
 (au v_l v_i).bind fun b2=>(zj b2).bind fun c3=>let v_w:(List ByteArray):=c3
 if ((v_w.length:Int)==0)=true then
 let v_i:Int:=(i64.wrap (v_i + 1))
 some (.inl (v_c,ng,v_i))
 else
 if ((v_c.ai.length:Int)==0)=true then
 (au v_w 0).bind fun b4=>if (!(b4.toList==(⟨#[108,97,98,101,108,115]⟩ : ByteArray).toList))=true then
 some (.inr (.inr ((⟨[],[]⟩ : ax),6)))
 else
 if (decide ((v_w.length:Int) > 3))=true then
 some (.inr (.inr ((⟨[],[]⟩ : ax),4)))
 else
 (loO v_w 1).bind fun b5=>(aX ([(⟨#[]⟩ : ByteArray)] : (List ByteArray)) b5).bind fun b6=>let v_c:ax:={ v_c with ai:=b6 }
 let v_i:Int:=(i64.wrap (v_i + 1))
 some (.inl (v_c,ng,v_i))
 else
 (if ((v_c.ae.length:Int)==16)=true then (au v_w 0).bind fun b7=>some (b7.toList==(⟨#[113,117,101,117,101]⟩ : ByteArray).toList) else some false).bind fun q8=>if q8=true then
 some (.inr (.inr ((⟨[],[]⟩ : ax),4)))
 else
 (zl v_w (v_c.ai.length:Int)).bind fun c9=>let v_q:aB:=c9.1
 let ef:Bool:=c9.2
 if (!ef)=true then
 some (.inr (.inr ((⟨[],[]⟩ : ax),6)))
 else
 let v_k:Int:=0
 (ah (pU v_c v_q) ab v_k).bind fun r12 =>
 let v_k:=r12
 (if ng=true then some true else (if (decide (v_k < (v_c.ae.length:Int)))=true then (au v_c.ae v_k).bind fun b13=>some (b13.aI.toList==v_q.aI.toList) else some false).bind fun q14=>some q14).bind fun q15=>let ng:Bool:=q15
 (hiO v_c.ae v_k).bind fun b16=>(aX ([] : (List aB)) b16).bind fun b17=>let v_x:(List aB):=b17
 (aX v_x [v_q]).bind fun b18=>(loO v_c.ae v_k).bind fun b19=>(aX b18 b19).bind fun b20=>let v_c:ax:={ v_c with ae:=b20 }
 let v_i:Int:=(i64.wrap (v_i + 1))
 some (.inl (v_c,ng,v_i))
 else
 some (.inr (.inl (v_c,ng,v_i)))
def zo (v_s:ByteArray) : Option (ax×Int) :=
 if (decide ((v_s.size:Int) > 2000))=true then
 some ((⟨[],[]⟩ : ax),5)
 else
 let v_c:ax:=(⟨[],[]⟩ : ax)
 let ng:Bool:=false
 (FY v_s 10).bind fun c1=>let v_l:(List ByteArray):=c1
 let v_i:Int:=0
 (ah (pV v_l) ab (v_c,ng,v_i)).bind fun r21=>match r21 with
 | .inr m22=>some m22
 | .inl m22 =>
 let v_c:=m22.1
 let ng:=m22.2.1
 let v_i:=m22.2.2
 if ((v_c.ai.length:Int)==0)=true then
 some ((⟨[],[]⟩ : ax),6)
 else
 if ng=true then
 some ((⟨[],[]⟩ : ax),7)
 else
 some (v_c,0)
def dk:Nat→Int→Option (ByteArray)
 | 0=>fun _=>none
 | fuel + 1=>fun v_n =>
 let self:=dk fuel
 if (decide (v_n < 0))=true then
 if (v_n==(-9223372036854775808))=true then
 some (⟨#[45,57,50,50,51,51,55,50,48,51,54,56,53,52,55,55,53,56,48,56]⟩ : ByteArray)
 else
 (self (i64.wrap (0 - v_n))).bind fun c1=>(mq (⟨#[45]⟩ : ByteArray) c1).bind fun b2=>some b2
 else
 if (decide (v_n≥10))=true then
 (self (i64.wrap (Int.tdiv v_n 10))).bind fun c3=>(self (Int.tmod v_n 10)).bind fun c4=>(mq c3 c4).bind fun b5=>some b5
 else
 (XH ([(IntKind.u8.wrap (i64.wrap (48 + v_n)))] : (List Int))).bind fun b6=>some b6
def rh (v_c:ax) (st:ByteArray×Int) : Option ((ByteArray×Int)⊕((ByteArray×Int))) :=
 let al:=st.1
 let v_i:=st.2
 if (decide (v_i < (v_c.ai.length:Int)))=true then
 (mq al (⟨#[32]⟩ : ByteArray)).bind fun b1=>(au v_c.ai v_i).bind fun b2=>(mq b1 b2).bind fun b3=>let al:ByteArray:=b3
 let v_i:Int:=(i64.wrap (v_i + 1))
 some (.inl (al,v_i))
 else
 some (.inr (al,v_i))
def rf (v_q:aB) (st:ByteArray×Int) : Option ((ByteArray×Int)⊕((ByteArray×Int))) :=
 let al:=st.1
 let v_k:=st.2
 if (decide (v_k < (v_q.bl.length:Int)))=true then
 (mq al (⟨#[32]⟩ : ByteArray)).bind fun b12=>(au v_q.bl v_k).bind fun b13=>(dk ab b13.kw).bind fun c14=>(mq b12 c14).bind fun b15=>(mq b15 (⟨#[47]⟩ : ByteArray)).bind fun b16=>(au v_q.bl v_k).bind fun b17=>(dk ab b17.rU).bind fun c18=>(mq b16 c18).bind fun b19=>let al:ByteArray:=b19
 let v_k:Int:=(i64.wrap (v_k + 1))
 some (.inl (al,v_k))
 else
 some (.inr (al,v_k))
def rg (v_c:ax) (st:ByteArray×Int) : Option ((ByteArray×Int)⊕((ByteArray×Int))) :=
 let al:=st.1
 let aK:=st.2
 if (decide (aK < (v_c.ae.length:Int)))=true then
 (au v_c.ae aK).bind fun b6=>let v_q:aB:=b6
 (mq al (⟨#[113,117,101,117,101,32]⟩ : ByteArray)).bind fun b7=>(mq b7 v_q.aI).bind fun b8=>(mq b8 (⟨#[32]⟩ : ByteArray)).bind fun b9=>(dk ab v_q.cZ).bind fun c10=>(mq b9 c10).bind fun b11=>let al:ByteArray:=b11
 let v_k:Int:=0
 (ah (rf v_q) ab (al,v_k)).bind fun r20 =>
 let al:=r20.1
 let v_k:=r20.2
 (mq al (⟨#[10]⟩ : ByteArray)).bind fun b21=>let al:ByteArray:=b21
 let aK:Int:=(i64.wrap (aK + 1))
 some (.inl (al,aK))
 else
 some (.inr (al,aK))
def zn (v_c:ax) : Option (ByteArray) :=
 let al:ByteArray:=(⟨#[108,97,98,101,108,115]⟩ : ByteArray)
 let v_i:Int:=1
 (ah (rh v_c) ab (al,v_i)).bind fun r4 =>
 let al:=r4.1
 let v_i:=r4.2
 (mq al (⟨#[10]⟩ : ByteArray)).bind fun b5=>let al:ByteArray:=b5
 let aK:Int:=0
 (ah (rg v_c) ab (al,aK)).bind fun r22 =>
 let al:=r22.1
 let aK:=r22.2
 some al
def rm (v_a:ax) (v_b:ax) (st:Int) : Option ((Int)⊕((Int)⊕(Bool))) :=
 let v_i:=st
 if (decide (v_i < (v_a.ai.length:Int)))=true then
 (au v_a.ai v_i).bind fun b2=>(au v_b.ai v_i).bind fun b3=>if (!(b2.toList==b3.toList))=true then
 some (.inr (.inr false))
 else
 let v_i:Int:=(i64.wrap (v_i + 1))
 some (.inl v_i)
 else
 some (.inr (.inl v_i))
def rj (v_x:aB) (v_y:aB) (st:Int) : Option ((Int)⊕((Int)⊕(Bool))) :=
 let v_k:=st
 if (decide (v_k < (v_x.bl.length:Int)))=true then
 (au v_x.bl v_k).bind fun b12=>(au v_y.bl v_k).bind fun b13=>if (!((b12.kw==b13.kw)&&(b12.rU==b13.rU)))=true then
 some (.inr (.inr false))
 else
 let v_k:Int:=(i64.wrap (v_k + 1))
 some (.inl v_k)
 else
 some (.inr (.inl v_k))
def rl (v_a:ax) (v_b:ax) (st:Int) : Option ((Int)⊕((Int)⊕(Bool))) :=
 let aK:=st
 if (decide (aK < (v_a.ae.length:Int)))=true then
 (au v_a.ae aK).bind fun b6=>(au v_b.ae aK).bind fun b7=>let t8:aB:=b6
 let t9:aB:=b7
 let v_x:aB:=t8
 let v_y:aB:=t9
 (if (!(v_x.aI.toList==v_y.aI.toList))=true then some true else some (v_x.cZ != v_y.cZ)).bind fun q10=>(if q10=true then some true else some ((v_x.bl.length:Int) != (v_y.bl.length:Int))).bind fun q11=>if q11=true then
 some (.inr (.inr false))
 else
 let v_k:Int:=0
 (ah (rj v_x v_y) ab v_k).bind fun r14=>match r14 with
 | .inr m15=>some (.inr (.inr m15))
 | .inl m15 =>
 let v_k:=m15
 let aK:Int:=(i64.wrap (aK + 1))
 some (.inl aK)
 else
 some (.inr (.inl aK))
def DE (v_a:ax) (v_b:ax) : Option (Bool) :=
 (if ((v_a.ai.length:Int) != (v_b.ai.length:Int))=true then some true else some ((v_a.ae.length:Int) != (v_b.ae.length:Int))).bind fun q1=>if q1=true then
 some false
 else
 let v_i:Int:=0
 (ah (rm v_a v_b) ab v_i).bind fun r4=>match r4 with
 | .inr m5=>some m5
 | .inl m5 =>
 let v_i:=m5
 let aK:Int:=0
 (ah (rl v_a v_b) ab aK).bind fun r16=>match r16 with
 | .inr m17=>some m17
 | .inl m17 =>
 let aK:=m17
 some true
def KP:Option (aa) :=
 some (⟨(⟨([(⟨#[]⟩ : ByteArray)] : (List ByteArray)),([(⟨(⟨#[114,111,111,116]⟩ : ByteArray),([(⟨10000,10000⟩ : ec)] : (List ec)),10000⟩ : aB)] : (List aB))⟩ : ax),[],[],[],[],[],0,0,0⟩ : aa)
def dE (v_s:aa) (v_e:Int) : Option (aa×bt) :=
 some (v_s,(⟨v_e,[],[],[],0⟩ : bt))
def jv (v_s:aa) (v_c:ax) (st:Int) : Option ((Int)⊕((Int)⊕(aa×bt))) :=
 let v_i:=st
 if (decide (v_i < (v_s.bC.ai.length:Int)))=true then
 (au v_c.ai v_i).bind fun b6=>(au v_s.bC.ai v_i).bind fun b7=>if (!(b6.toList==b7.toList))=true then
 (dE v_s 14).bind fun c8=>some (.inr (.inr c8))
 else
 let v_i:Int:=(i64.wrap (v_i + 1))
 some (.inl v_i)
 else
 some (.inr (.inl v_i))
def ju (v_s:aa) (v_c:ax) (st:Int) : Option ((Int)⊕((Int)⊕(aa×bt))) :=
 let aK:=st
 if (decide (aK < (v_s.aq.length:Int)))=true then
 (au v_s.aq aK).bind fun b11=>(dx b11).bind fun c12=>(if c12=true then (au v_s.aq aK).bind fun b13=>(jV v_c b13.bP).bind fun c14=>some (!c14) else some false).bind fun q15=>if q15=true then
 (dE v_s 14).bind fun c16=>some (.inr (.inr c16))
 else
 let aK:Int:=(i64.wrap (aK + 1))
 some (.inl aK)
 else
 some (.inr (.inl aK))
def tr (v_s:aa) (Zd:ByteArray) : Option (aa×bt) :=
 (zo Zd).bind fun c1=>let v_c:ax:=c1.1
 let v_e:Int:=c1.2
 (if (v_e==0)=true then
 (uP v_c).bind fun c3=>let v_e:Int:=c3
 some v_e
 else
 some v_e).bind fun j2=>let v_e:=j2
 if (v_e != 0)=true then
 (dE v_s v_e).bind fun c4=>some c4
 else
 if (decide ((v_c.ai.length:Int) < (v_s.bC.ai.length:Int)))=true then
 (dE v_s 14).bind fun c5=>some c5
 else
 let v_i:Int:=0
 (ah (jv v_s v_c) ab v_i).bind fun r9=>match r9 with
 | .inr m10=>some m10
 | .inl m10 =>
 let v_i:=m10
 let aK:Int:=0
 (ah (ju v_s v_c) ab aK).bind fun r17=>match r17 with
 | .inr m18=>some m18
 | .inl m18 =>
 let aK:=m18
 let v_s:aa:={ v_s with bC:=v_c }
 some (v_s,(⟨0,[],[],[],0⟩ : bt))
def o0 (v_s:aa) (cu:Int) (st:(List Int)×Int) : Option (((List Int)×Int)⊕(((List Int)×Int))) :=
 let v_l:=st.1
 let v_i:=st.2
 if (decide (v_i < (v_s.ac.length:Int)))=true then
 (au v_s.ac v_i).bind fun b1=>if (b1.bH==cu)=true then
 (au v_s.ac v_i).bind fun b2=>(aX v_l [b2.fId]).bind fun b3=>let v_l:(List Int):=b3
 let v_i:Int:=(i64.wrap (v_i + 1))
 some (.inl (v_l,v_i))
 else
 let v_i:Int:=(i64.wrap (v_i + 1))
 some (.inl (v_l,v_i))
 else
 some (.inr (v_l,v_i))
def xL (v_s:aa) (cu:Int) : Option ((List Int)) :=
 let v_l:(List Int):=[]
 let v_i:Int:=0
 (ah (o0 v_s cu) ab (v_l,v_i)).bind fun r4 =>
 let v_l:=r4.1
 let v_i:=r4.2
 some v_l
def lI (v_x:aL) (v_t:aa) (st:(List Int)×Int) : Option (((List Int)×Int)⊕(((List Int)×Int))) :=
 let cm:=st.1
 let v_i:=st.2
 if (decide (v_i < (v_x.fQ.length:Int)))=true then
 (au v_x.fQ v_i).bind fun b7=>(eH v_t b7).bind fun c8=>let v_c:am:=c8.1
 let yl:Bool:=c8.2
 (if yl=true then some (v_c.bH==v_x.fId) else some false).bind fun q9=>if q9=true then
 (aX cm [v_c.fId]).bind fun b10=>let cm:(List Int):=b10
 let v_i:Int:=(i64.wrap (v_i + 1))
 some (.inl (cm,v_i))
 else
 let v_i:Int:=(i64.wrap (v_i + 1))
 some (.inl (cm,v_i))
 else
 some (.inr (cm,v_i))
def zF (v_s:aa) (v_x:aL) : Option (aa×bt) :=
 (ly v_s v_x.fId).bind fun c1=>let v_n:aA:=c1.1
 let bS:Bool:=c1.2
 (if bS=true then some v_n.fUp else some false).bind fun q2=>(if q2=true then some (v_n.bD==v_x.bD) else some false).bind fun q3=>if q3=true then
 (xL v_s v_x.fId).bind fun c4=>some (v_s,(⟨0,[],c4,[],0⟩ : bt))
 else
 (ze v_s v_x.fId v_x.bD).bind fun c5=>let v_t:aa:=c5.1
 let v_e:Int:=c5.2
 if (v_e != 0)=true then
 (dE v_s v_e).bind fun c6=>some c6
 else
 let cm:(List Int):=[]
 let v_i:Int:=0
 (ah (lI v_x v_t) ab (cm,v_i)).bind fun r11 =>
 let cm:=r11.1
 let v_i:=r11.2
 (je v_t cm).bind fun c12=>let v_t:aa:=c12
 (qk v_t v_x.fId).bind fun c13=>let v_t:aa:=c13.1
 (xL v_t v_x.fId).bind fun c14=>some (v_t,(⟨0,[],c14,[],0⟩ : bt))
def jX (cm:(List Int)) (v_s:aa) (st:(List am)×Int) : Option (((List am)×Int)⊕(((List am)×Int))) :=
 let v_l:=st.1
 let v_i:=st.2
 if (decide (v_i < (cm.length:Int)))=true then
 (au cm v_i).bind fun b1=>(eH v_s b1).bind fun c2=>let v_c:am:=c2.1
 let bS:Bool:=c2.2
 if bS=true then
 (aX v_l [v_c]).bind fun b3=>let v_l:(List am):=b3
 let v_i:Int:=(i64.wrap (v_i + 1))
 some (.inl (v_l,v_i))
 else
 let v_i:Int:=(i64.wrap (v_i + 1))
 some (.inl (v_l,v_i))
 else
 some (.inr (v_l,v_i))
def sn (v_s:aa) (cm:(List Int)) : Option ((List am)) :=
 let v_l:(List am):=[]
 let v_i:Int:=0
 (ah (jX cm v_s) ab (v_l,v_i)).bind fun r4 =>
 let v_l:=r4.1
 let v_i:=r4.2
 some v_l
def iG (v_s:aa) (eR:Int) (st:(List Int)×Int) : Option (((List Int)×Int)⊕(((List Int)×Int))) :=
 let v_l:=st.1
 let v_i:=st.2
 if (decide (v_i < (v_s.ac.length:Int)))=true then
 (au v_s.ac v_i).bind fun b1=>(if (b1.bF==eR)=true then (au v_s.ac v_i).bind fun b2=>some (b2.jn != 0) else some false).bind fun q3=>if q3=true then
 (au v_s.ac v_i).bind fun b4=>(aX v_l [b4.fId]).bind fun b5=>let v_l:(List Int):=b5
 let v_i:Int:=(i64.wrap (v_i + 1))
 some (.inl (v_l,v_i))
 else
 let v_i:Int:=(i64.wrap (v_i + 1))
 some (.inl (v_l,v_i))
 else
 some (.inr (v_l,v_i))
def nT (v_s:aa) (eR:Int) : Option ((List Int)) :=
 let v_l:(List Int):=[]
 let v_i:Int:=0
 (ah (iG v_s eR) ab (v_l,v_i)).bind fun r6 =>
 let v_l:=r6.1
 let v_i:=r6.2
 some v_l
def jW (ko:(List aQ)) (v_s:aa) (st:(List aQ)×Int) : Option (((List aQ)×Int)⊕(((List aQ)×Int)⊕((List aQ)×Int))) :=
 let v_l:=st.1
 let v_i:=st.2
 if (decide (v_i < (ko.length:Int)))=true then
 (au ko v_i).bind fun b1=>(pK b1 (v_s.bC.ai.length:Int)).bind fun c2=>let v_e:Int:=c2
 if (v_e != 0)=true then
 some (.inr (.inr ([],v_e)))
 else
 (au ko v_i).bind fun b3=>(FO v_l b3).bind fun c4=>let v_l:(List aQ):=c4.1
 let v_e:Int:=c4.2
 if (v_e != 0)=true then
 some (.inr (.inr ([],v_e)))
 else
 let v_i:Int:=(i64.wrap (v_i + 1))
 some (.inl (v_l,v_i))
 else
 some (.inr (.inl (v_l,v_i)))
def vQ (v_s:aa) (v_l:(List aQ)) (ko:(List aQ)) : Option ((List aQ)×Int) :=
 let v_i:Int:=0
 (ah (jW ko v_s) ab (v_l,v_i)).bind fun r5=>match r5 with
 | .inr m6=>some m6
 | .inl m6 =>
 let v_l:=m6.1
 let v_i:=m6.2
 some (v_l,0)
def jt (v_x:aL) (st:aa×aC×Int) : Option ((aa×aC×Int)⊕((aa×aC×Int))) :=
 let v_s:=st.1
 let v_a:=st.2.1
 let v_i:=st.2.2
 if (decide (v_i < (v_x.fQ.length:Int)))=true then
 (au v_x.fQ v_i).bind fun b11=>(eH v_s b11).bind fun c12=>let v_c:am:=c12.1
 let yl:Bool:=c12.2
 (if yl=true then some (v_c.bF==v_a.fId) else some false).bind fun q13=>(if q13=true then some (!v_c.bG) else some false).bind fun q14=>if q14=true then
 (ql v_s v_c.fId).bind fun c15=>let v_s:aa:=c15
 (jd v_a.ca v_c.fId).bind fun c16=>let v_a:aC:={ v_a with ca:=c16.1 }
 let v_i:Int:=(i64.wrap (v_i + 1))
 some (.inl (v_s,v_a,v_i))
 else
 let v_i:Int:=(i64.wrap (v_i + 1))
 some (.inl (v_s,v_a,v_i))
 else
 some (.inr (v_s,v_a,v_i))
def tq (v_s:aa) (v_x:aL) : Option (aa×bt) :=
 (eG v_s v_x.fId).bind fun c1=>let v_a:aC:=c1.1
 let bS:Bool:=c1.2
 if (!bS)=true then
 (dE v_s 2).bind fun c2=>some c2
 else
 if (v_a.dr != 2)=true then
 (dE v_s 14).bind fun c3=>some c3
 else
 if (decide (v_x.bD < v_a.bD))=true then
 (dE v_s 15).bind fun c4=>some c4
 else
 if (v_x.bD==v_a.bD)=true then
 (sn v_s v_a.oE).bind fun c5=>(nT v_s v_a.fId).bind fun c6=>(aX ([] : (List Int)) v_a.pE).bind fun b7=>some (v_s,(⟨0,c5,c6,b7,0⟩ : bt))
 else
 if (decide ((i64.wrap (v_x.bD - 1)) > v_a.bD))=true then
 (dE v_s 1).bind fun c8=>some c8
 else
 (vQ v_s v_a.bL v_x.bL).bind fun c9=>let v_l:(List aQ):=c9.1
 let v_e:Int:=c9.2
 if (v_e != 0)=true then
 (dE v_s v_e).bind fun c10=>some c10
 else
 let v_i:Int:=0
 (ah (jt v_x) ab (v_s,v_a,v_i)).bind fun r17 =>
 let v_s:=r17.1
 let v_a:=r17.2.1
 let v_i:=r17.2.2
 (sn v_s v_a.ca).bind fun c18=>(nT v_s v_a.fId).bind fun c19=>(aX ([] : (List Int)) v_a.fp).bind fun b20=>let v_o:bt:=(⟨0,c18,c19,b20,0⟩ : bt)
 let t21:(List aQ):=v_l
 let t22:Int:=v_s.bQ
 let t23:Int:=v_x.bD
 let v_a:aC:={ v_a with bL:=t21 }
 let v_a:aC:={ v_a with bB:=t22 }
 let v_a:aC:={ v_a with bD:=t23 }
 let t24:(List Int):=v_a.ca
 let t25:(List Int):=v_a.fp
 let t26:(List Int):=[]
 let t27:(List Int):=[]
 let v_a:aC:={ v_a with oE:=t24 }
 let v_a:aC:={ v_a with pE:=t25 }
 let v_a:aC:={ v_a with ca:=t26 }
 let v_a:aC:={ v_a with fp:=t27 }
 (eI v_s v_a).bind fun c28=>some (c28,v_o)
def zC (v_s:aa) (bA:Int) (Jp:Int) : Option (aa×bt) :=
 (eG v_s bA).bind fun c1=>let v_a:aC:=c1.1
 let bS:Bool:=c1.2
 if (!bS)=true then
 (dE v_s 2).bind fun c2=>some c2
 else
 (dx v_a).bind fun c3=>if (!c3)=true then
 (dE v_s 14).bind fun c4=>some c4
 else
 (Ld v_s bA Jp).bind fun c5=>let v_t:aa:=c5.1
 let jJ:(List Int):=c5.2
 some (v_t,(⟨0,[],[],jJ,0⟩ : bt))
def lH (v_s:aa) (eR:Int) (st:Int) : Option ((Int)⊕((Int)⊕(Int))) :=
 let v_i:=st
 if (decide (v_i < (v_s.ac.length:Int)))=true then
 (au v_s.ac v_i).bind fun b1=>(if (b1.bF==eR)=true then (au v_s.ac v_i).bind fun b2=>some b2.bG else some false).bind fun q3=>if q3=true then
 (au v_s.ac v_i).bind fun b4=>some (.inr (.inr b4.fId))
 else
 let v_i:Int:=(i64.wrap (v_i + 1))
 some (.inl v_i)
 else
 some (.inr (.inl v_i))
def uT (v_s:aa) (eR:Int) : Option (Int) :=
 let v_i:Int:=0
 (ah (lH v_s eR) ab v_i).bind fun r5=>match r5 with
 | .inr m6=>some m6
 | .inl m6 =>
 let v_i:=m6
 some (-1)
def lG (v_l:(List Int)) (st:aa×Int) : Option ((aa×Int)⊕((aa×Int))) :=
 let v_s:=st.1
 let v_i:=st.2
 if (decide (v_i < (v_l.length:Int)))=true then
 (au v_l v_i).bind fun b5=>(zc v_s b5).bind fun c6=>(au v_l v_i).bind fun b7=>(fv c6 b7).bind fun c8=>let v_s:aa:=c8
 (au v_l v_i).bind fun b9=>(xL v_s b9).bind fun c10=>(je v_s c10).bind fun c11=>let v_s:aa:=c11
 let v_i:Int:=(i64.wrap (v_i + 1))
 some (.inl (v_s,v_i))
 else
 some (.inr (v_s,v_i))
def lD (v_l:(List Int)) (st:aa×Int) : Option ((aa×Int)⊕((aa×Int))) :=
 let v_s:=st.1
 let aK:=st.2
 if (decide (aK < (v_l.length:Int)))=true then
 (au v_l aK).bind fun b14=>(uT v_s b14).bind fun c15=>(je v_s ([c15] : (List Int))).bind fun c16=>let v_s:aa:=c16
 let aK:Int:=(i64.wrap (aK + 1))
 some (.inl (v_s,aK))
 else
 some (.inr (v_s,aK))
def lC (v_s:aa) (st:(List a8)×Int) : Option (((List a8)×Int)⊕(((List a8)×Int))) :=
 let yi:=st.1
 let oK:=st.2
 if (decide (oK < (v_s.bh.length:Int)))=true then
 (au v_s.bh oK).bind fun b18=>if (decide (b18.jK > v_s.bQ))=true then
 (au v_s.bh oK).bind fun b19=>(aX yi [b19]).bind fun b20=>let yi:(List a8):=b20
 let oK:Int:=(i64.wrap (oK + 1))
 some (.inl (yi,oK))
 else
 let oK:Int:=(i64.wrap (oK + 1))
 some (.inl (yi,oK))
 else
 some (.inr (yi,oK))
def zB (v_s:aa) (v_n:Int) : Option (aa×bt) :=
 (if (decide (v_n < 1))=true then some true else some (decide (v_n > 100))).bind fun q1=>if q1=true then
 (dE v_s 1).bind fun c2=>some c2
 else
 if (decide ((i64.wrap (v_s.bQ + v_n)) > 1000000000))=true then
 (dE v_s 11).bind fun c3=>some c3
 else
 let kV:aa:=v_s
 let v_s:aa:={ v_s with bQ:=(i64.wrap (v_s.bQ + v_n)) }
 (sg v_s).bind fun c4=>let v_l:(List Int):=c4
 let v_i:Int:=0
 (ah (lG v_l) ab (v_s,v_i)).bind fun r12 =>
 let v_s:=r12.1
 let v_i:=r12.2
 (tA v_s).bind fun c13=>let v_l:(List Int):=c13
 let aK:Int:=0
 (ah (lD v_l) ab (v_s,aK)).bind fun r17 =>
 let v_s:=r17.1
 let aK:=r17.2
 let yi:(List a8):=[]
 let oK:Int:=0
 (ah (lC v_s) ab (yi,oK)).bind fun r21 =>
 let yi:=r21.1
 let oK:=r21.2
 let v_s:aa:={ v_s with bh:=yi }
 (vR v_s).bind fun c22=>let v_s:aa:=c22.1
 (uW kV v_s).bind fun c23=>some (v_s,(⟨0,[],[],c23,0⟩ : bt))
def so (v_s:aa) (v_x:aL) : Option (aa×bt) :=
 if (v_x.gX==1)=true then
 (tr v_s v_x.My).bind fun c1=>some c1
 else
 if (v_x.gX==2)=true then
 (nN v_s v_x.bH).bind fun c2=>let v_t:aa:=c2.1
 let v_e:Int:=c2.2
 some (v_t,(⟨v_e,[],[],[],0⟩ : bt))
 else
 if (v_x.gX==3)=true then
 (zF v_s v_x).bind fun c3=>some c3
 else
 if (v_x.gX==4)=true then
 (tz v_s v_x.bF).bind fun c4=>let aaw:aa:=c4.1
 let aaz:Int:=c4.2
 some (aaw,(⟨aaz,[],[],[],0⟩ : bt))
 else
 if (v_x.gX==5)=true then
 (tq v_s v_x).bind fun c5=>some c5
 else
 if (v_x.gX==6)=true then
 (zC v_s v_x.fId 3).bind fun c6=>some c6
 else
 if (v_x.gX==7)=true then
 (zC v_s v_x.fId 4).bind fun c7=>some c7
 else
 if (v_x.gX==8)=true then
 (zB v_s v_x.fN).bind fun c8=>some c8
 else
 if (v_x.gX==9)=true then
 (zQ v_s v_x.pD v_x.fN).bind fun c9=>let aav:aa:=c9.1
 let v_n:Int:=c9.2.1
 let aay:Int:=c9.2.2
 some (aav,(⟨aay,[],[],[],v_n⟩ : bt))
 else
 if (v_x.gX==10)=true then
 (uZ v_s v_x.fId).bind fun c10=>let aau:aa:=c10.1
 let aax:Int:=c10.2
 some (aau,(⟨aax,[],[],[],0⟩ : bt))
 else
 if (v_x.gX==11)=true then
 if (decide (v_s.pF≥1048576))=true then
 (dE v_s 11).bind fun c11=>some c11
 else
 let t12:Int:=(i64.wrap (v_s.pF + 1))
 let t13:Int:=0
 let v_s:aa:={ v_s with pF:=t12 }
 let v_s:aa:={ v_s with rT:=t13 }
 some (v_s,(⟨0,[],[],[],0⟩ : bt))
 else
 (dE v_s 3).bind fun c14=>some c14
def pX (v_a:(List Int)) (v_b:(List Int)) (st:Int) : Option ((Int)⊕((Int)⊕(Bool))) :=
 let v_i:=st
 if (decide (v_i < (v_a.length:Int)))=true then
 (au v_a v_i).bind fun b1=>(au v_b v_i).bind fun b2=>if (b1 != b2)=true then
 some (.inr (.inr false))
 else
 let v_i:Int:=(i64.wrap (v_i + 1))
 some (.inl v_i)
 else
 some (.inr (.inl v_i))
def pY (v_a:(List Int)) (v_b:(List Int)) : Option (Bool) :=
 if ((v_a.length:Int) != (v_b.length:Int))=true then
 some false
 else
 let v_i:Int:=0
 (ah (pX v_a v_b) ab v_i).bind fun r3=>match r3 with
 | .inr m4=>some m4
 | .inl m4 =>
 let v_i:=m4
 some true
def rp (v_a:aC) (v_b:aC) (st:Int) : Option ((Int)⊕((Int)⊕(Bool))) :=
 let v_i:=st
 if (decide (v_i < (v_a.bL.length:Int)))=true then
 (au v_a.bL v_i).bind fun b9=>(au v_b.bL v_i).bind fun b10=>if (!((b9.bw==b10.bw)&&((b9.aP==b10.aP)&&((b9.cp.br==b10.cp.br)&&((b9.cp.aV==b10.cp.aV)&&((b9.gG==b10.gG)&&((b9.bH==b10.bH)&&((b9.da==b10.da)&&(b9.iE==b10.iE)))))))))=true then
 some (.inr (.inr false))
 else
 let v_i:Int:=(i64.wrap (v_i + 1))
 some (.inl v_i)
 else
 some (.inr (.inl v_i))
def DF (v_a:aC) (v_b:aC) : Option (Bool) :=
 (if (v_a.fId != v_b.fId)=true then some true else some (v_a.dr != v_b.dr)).bind fun q1=>(if q1=true then some true else some (!(v_a.bP.toList==v_b.bP.toList))).bind fun q2=>(if q2=true then some true else some (v_a.cZ != v_b.cZ)).bind fun q3=>(if q3=true then some true else some (v_a.bw != v_b.bw)).bind fun q4=>(if q4=true then some true else some (!((v_a.bG.br==v_b.bG.br)&&(v_a.bG.aV==v_b.bG.aV)))).bind fun q5=>(if q5=true then some true else some (v_a.bB != v_b.bB)).bind fun q6=>(if q6=true then some true else some (v_a.bD != v_b.bD)).bind fun q7=>(if q7=true then some true else some ((v_a.bL.length:Int) != (v_b.bL.length:Int))).bind fun q8=>if q8=true then
 some false
 else
 let v_i:Int:=0
 (ah (rp v_a v_b) ab v_i).bind fun r11=>match r11 with
 | .inr m12=>some m12
 | .inl m12 =>
 let v_i:=m12
 (pY v_a.ca v_b.ca).bind fun c13=>(if c13=true then (pY v_a.fp v_b.fp).bind fun c14=>some c14 else some false).bind fun q15=>(if q15=true then (pY v_a.oE v_b.oE).bind fun c16=>some c16 else some false).bind fun q17=>(if q17=true then (pY v_a.pE v_b.pE).bind fun c18=>some c18 else some false).bind fun q19=>some q19
def p8 (v_a:aa) (v_b:aa) (st:Bool×Int) : Option ((Bool×Int)⊕((Bool×Int))) :=
 let ef:=st.1
 let v_i:=st.2
 if (decide (v_i < (v_a.aj.length:Int)))=true then
 (if ef=true then (au v_a.aj v_i).bind fun b10=>(au v_b.aj v_i).bind fun b11=>some ((b10.fId==b11.fId)&&((b10.aP==b11.aP)&&((b10.da==b11.da)&&((b10.dL.br==b11.dL.br)&&((b10.dL.aV==b11.dL.aV)&&((b10.bB==b11.bB)&&((b10.bD==b11.bD)&&(b10.fUp==b11.fUp)))))))) else some false).bind fun q12=>let ef:Bool:=q12
 let v_i:Int:=(i64.wrap (v_i + 1))
 some (.inl (ef,v_i))
 else
 some (.inr (ef,v_i))
def p7 (v_a:aa) (v_b:aa) (st:Bool×Int) : Option ((Bool×Int)⊕((Bool×Int))) :=
 let ef:=st.1
 let aK:=st.2
 if (decide (aK < (v_a.aq.length:Int)))=true then
 (if ef=true then (au v_a.aq aK).bind fun b14=>(au v_b.aq aK).bind fun b15=>(DF b14 b15).bind fun c16=>some c16 else some false).bind fun q17=>let ef:Bool:=q17
 let aK:Int:=(i64.wrap (aK + 1))
 some (.inl (ef,aK))
 else
 some (.inr (ef,aK))
def p6 (v_a:aa) (v_b:aa) (st:Bool×Int) : Option ((Bool×Int)⊕((Bool×Int))) :=
 let ef:=st.1
 let oK:=st.2
 if (decide (oK < (v_a.ac.length:Int)))=true then
 (if ef=true then (au v_a.ac oK).bind fun b19=>(au v_b.ac oK).bind fun b20=>some ((b19.fId==b20.fId)&&((b19.bF==b20.bF)&&((b19.bH==b20.bH)&&((b19.cp.br==b20.cp.br)&&((b19.cp.aV==b20.cp.aV)&&((b19.bw==b20.bw)&&((b19.aP==b20.aP)&&((b19.bG==b20.bG)&&(b19.jn==b20.jn))))))))) else some false).bind fun q21=>let ef:Bool:=q21
 let oK:Int:=(i64.wrap (oK + 1))
 some (.inl (ef,oK))
 else
 some (.inr (ef,oK))
def p5 (v_a:aa) (v_b:aa) (st:Bool×Int) : Option ((Bool×Int)⊕((Bool×Int))) :=
 let ef:=st.1
 let GW:=st.2
 if (decide (GW < (v_a.aU.length:Int)))=true then
 (if ef=true then (au v_a.aU GW).bind fun b23=>(au v_b.aU GW).bind fun b24=>some ((b23.bH==b24.bH)&&((b23.bF==b24.bF)&&(b23.bw==b24.bw))) else some false).bind fun q25=>let ef:Bool:=q25
 let GW:Int:=(i64.wrap (GW + 1))
 some (.inl (ef,GW))
 else
 some (.inr (ef,GW))
def pZ (v_a:aa) (v_b:aa) (st:Bool×Int) : Option ((Bool×Int)⊕((Bool×Int))) :=
 let ef:=st.1
 let GV:=st.2
 if (decide (GV < (v_a.bh.length:Int)))=true then
 (if ef=true then (au v_a.bh GV).bind fun b27=>(au v_b.bh GV).bind fun b28=>some ((b27.fId==b28.fId)&&((b27.aP==b28.aP)&&((b27.nL==b28.nL)&&((b27.jK==b28.jK)&&((b27.iC.br==b28.iC.br)&&(b27.iC.aV==b28.iC.aV)))))) else some false).bind fun q29=>let ef:Bool:=q29
 let GV:Int:=(i64.wrap (GV + 1))
 some (.inl (ef,GV))
 else
 some (.inr (ef,GV))
def uU (v_a:aa) (v_b:aa) : Option (Bool) :=
 (DE v_a.bC v_b.bC).bind fun c1=>(if (!c1)=true then some true else some (v_a.bQ != v_b.bQ)).bind fun q2=>(if q2=true then some true else some (v_a.pF != v_b.pF)).bind fun q3=>(if q3=true then some true else some (v_a.rT != v_b.rT)).bind fun q4=>(if q4=true then some true else some ((v_a.aj.length:Int) != (v_b.aj.length:Int))).bind fun q5=>(if q5=true then some true else some ((v_a.aq.length:Int) != (v_b.aq.length:Int))).bind fun q6=>(if q6=true then some true else some ((v_a.ac.length:Int) != (v_b.ac.length:Int))).bind fun q7=>(if q7=true then some true else some ((v_a.aU.length:Int) != (v_b.aU.length:Int))).bind fun q8=>(if q8=true then some true else some ((v_a.bh.length:Int) != (v_b.bh.length:Int))).bind fun q9=>if q9=true then
 some false
 else
 let ef:Bool:=true
 let v_i:Int:=0
 (ah (p8 v_a v_b) ab (ef,v_i)).bind fun r13 =>
 let ef:=r13.1
 let v_i:=r13.2
 let aK:Int:=0
 (ah (p7 v_a v_b) ab (ef,aK)).bind fun r18 =>
 let ef:=r18.1
 let aK:=r18.2
 let oK:Int:=0
 (ah (p6 v_a v_b) ab (ef,oK)).bind fun r22 =>
 let ef:=r22.1
 let oK:=r22.2
 let GW:Int:=0
 (ah (p5 v_a v_b) ab (ef,GW)).bind fun r26 =>
 let ef:=r26.1
 let GW:=r26.2
 let GV:Int:=0
 (ah (pZ v_a v_b) ab (ef,GV)).bind fun r30 =>
 let ef:=r30.1
 let GV:=r30.2
 some ef
def Un:Ent:=⟨[.lf (.int .i64)],[.lf (.bool)],fun x=>zu x.1⟩
theorem Um:EOk prog 182 Un:=aH .n [] [] [] .nil Tryz.mixed Tryz.func182
def Xa:Ent:=⟨[.ag 0],[.lf (.bool)],fun x=>tp x.1⟩
theorem Nq:EOk prog 179 Xa:=aH .n [] [] [] (.cons Um .nil) Tryz.mixed Tryz.func179
def Us:Ent:=⟨[.ag 0,.ag 0],[.lf (.bool)],fun x=>fF x.1 x.2.1⟩
theorem pg:EOk prog 145 Us:=aH .n [] [] [] .nil Tryz.mixed Tryz.func145
def Ur:Ent:=⟨[.ag 0,.ag 0],[.ag 0],fun x=>vP x.1 x.2.1⟩
theorem Jf:EOk prog 41 Ur:=aH .n [] [4] [] .nil Tryz.mixed Tryz.func41
def Ul:Ent:=⟨[.lf (.int .i64),.lf (.int .i64)],[.lf (.int .i64),.lf (.int .i64)],fun x=>zr x.1 x.2.1⟩
theorem Uk:EOk prog 186 Ul:=aH .n [] [] [] .nil Tryz.mixed Tryz.func186
def P6:Ent:=⟨[.ag 17,.ag 17],[.lf (.int .i64)],fun x=>pW x.1 x.2.1⟩
theorem F4:EOk prog 184 P6:=aH (.s .n (.s (.s .n (.j [.box 2 238 17 []] .n)) (.s (.s .n (.j [.box 3 238 17 []] .n)) .n))) [] [] [] (.cons Uk .nil) Tryz.mixed Tryz.func184
def Up:Ent:=⟨[.ag 0,.ag 0],[.ag 17],fun x=>zv x.1 x.2.1⟩
theorem Uo:EOk prog 185 Up:=aH .n [] [4] [] (.cons F4 .nil) Tryz.mixed Tryz.func185
def Qa:Ent:=⟨[.ag 0,.ag 0,.ag 0,.ag 0],[.lf (.int .i64)],fun x=>zw x.1 x.2.1 x.2.2.1 x.2.2.2.1⟩
theorem P9:EOk prog 183 Qa:=aH .n [] [] [] (.cons Nq (.cons Uo (.cons F4 .nil))) Tryz.mixed Tryz.func183
def Uq:Ent:=⟨[.ag 0,.ag 0],[.ag 0],fun x=>db x.1 x.2.1⟩
theorem it:EOk prog 25 Uq:=aH .n [] [4] [] .nil Tryz.mixed Tryz.func25
def P4:Ent:=⟨[.lf (.int .i64),.lf (.int .i64)],[.lf (.int .i64)],fun x=>uQ x.1 x.2.1⟩
theorem P3:EOk prog 180 P4:=aH .n [] [] [] .nil Tryz.mixed Tryz.func180
def P8:Ent:=⟨[.ag 0,.lf (.int .i64)],[.ag 0,.lf (.int .i64)],fun x=>uR x.1 x.2.1⟩
theorem F5:EOk prog 176 P8:=aH .n [] [4] [] (.cons Nq (.cons P3 .nil)) Tryz.mixed Tryz.func176
def Ue:Ent:=⟨[.lf (.str)],[.lf (.bool)],fun x=>vN x.1⟩
theorem Ja:EOk prog 131 Ue:=aH (.s .n (.s .n (.s (.s .n (.s (.lp [.leaf 3 (.int .i64)] 0 true .n) .n)) .n))) [] [] [] .nil Tryz.mixed Tryz.func131
def Nd:Ent:=⟨[.ag 5],[.lf (.int .i64)],fun x=>si x.1⟩
theorem Nc:EOk prog 112 Nd:=aH (.s .n (.s .n (.s .n (.s (.s .n (.s (.lp [.leaf 3 (.int .i64)] 0 true .n) .n)) (.s (.s .n (.s (.lp [.leaf 4 (.int .i64)] 2 true (.s .n (.s (.s (.s .n (.s (.lp [.leaf 5 (.int .i64)] 4 true .n) .n)) .n) .n))) .n)) .n))))) [] [] [] (.cons Ja .nil) Tryz.mixed Tryz.func112
def Ng:Ent:=⟨[.lf (.str)],[.lf (.bool)],fun x=>vM x.1⟩
theorem Nf:EOk prog 132 Ng:=aH (.s .n (.s .n (.s (.s .n (.s (.lp [.leaf 3 (.int .i64),.leaf 4 (.int .i64),.leaf 5 (.int .i64)] 0 true .n) .n)) .n))) [] [] [] (.cons Ja .nil) Tryz.mixed Tryz.func132
def PO:Ent:=⟨[.lf (.str)],[.lf (.str)],fun x=>dP x.1⟩
theorem xI:EOk prog 100 PO:=aH (.s .n (.s .n (.s (.s (.lp [.leaf 3 (.int .i64)] 0 false .n) .n) .n))) [] [] [] .nil Tryz.mixed Tryz.func100
def Uh:Ent:=⟨[.ag 5,.lf (.str)],[.ag 4,.lf (.bool)],fun x=>jr x.1 x.2.1⟩
theorem sk:EOk prog 115 Uh:=aH (.s .n (.s (.s .n (.s (.lp [.leaf 6 (.int .i64)] 0 true .n) .n)) .n)) [] [4] [] .nil Tryz.mixed Tryz.func115
def PN:Ent:=⟨[.ag 5,.lf (.int .i64)],[.lf (.int .i64)],fun x=>uN x.1 x.2.1⟩
theorem PM:EOk prog 113 PN:=aH (.s .n (.s .n (.s .n (.s .n (.s .n (.s .n (.s .n (.s (.s .n (.s (.lp [.leaf 8 (.int .i64)] 0 true .n) .n)) .n)))))))) [] [] [] (.cons Nf (.cons xI (.cons sk .nil))) Tryz.mixed Tryz.func113
def Jb:Ent:=⟨[.ag 5,.lf (.str)],[.lf (.sl (.str))],fun x=>eX x.1 x.2.1⟩
theorem vO:EOk prog 54 Jb:=aH (.s .n (.s .n (.s (.s .n (.s (.lp [.row 5 5 9 1 (.str),.leaf 6 (.int .i64)] 0 false .n) .n)) .n))) [] [] [] (.cons xI .nil) Tryz.mixed Tryz.func54
def Ud:Ent:=⟨[.ag 5],[.lf (.bool)],fun x=>DD x.1⟩
theorem Uc:EOk prog 114 Ud:=aH (.s .n (.s (.s .n (.s (.lp [.leaf 3 (.int .i64)] 0 true (.s .n (.s (.s (.s .n (.s .n (.s (.lp [.leaf 5 (.int .i64)] 2 true (.s .n (.s (.s (.s .n (.s (.s .n (.s (.lp [.leaf 6 (.int .i64),.leaf 7 (.int .i64)] 4 false .n) .n)) .n)) .n) .n))) .n))) .n) .n))) .n)) .n)) [] [] [] (.cons vO (.cons sk .nil)) Tryz.mixed Tryz.func114
def PQ:Ent:=⟨[.ag 5],[.lf (.int .i64)],fun x=>uP x.1⟩
theorem PP:EOk prog 74 PQ:=aH (.s .n (.s .n (.s .n (.s (.s .n (.s (.lp [.leaf 3 (.int .i64)] 0 true .n) .n)) (.s (.s .n (.s (.lp [.leaf 4 (.int .i64)] 2 true .n) .n)) .n))))) [] [] [] (.cons Nc (.cons PM (.cons Uc .nil))) Tryz.mixed Tryz.func74
def Uf:Ent:=⟨[.ag 5,.lf (.str)],[.lf (.bool)],fun x=>jV x.1 x.2.1⟩
theorem BH:EOk prog 76 Uf:=aH .n [] [] [] (.cons sk (.cons vO .nil)) Tryz.mixed Tryz.func76
def YM:Ent:=⟨[.lf (.str)],[.lf (.sl (.str))],fun x=>zi x.1⟩
theorem KJ:EOk prog 164 YM:=aH (.s .n (.s .n (.s (.s (.lp [.row 3 3 9 1 (.str),.leaf 0 (.str)] 0 false .n) .n) .n))) [] [] [] (.cons xI .nil) Tryz.mixed Tryz.func164
def Ub:Ent:=⟨[.ag 12,.lf (.int .i64)],[.ag 0],fun x=>th x.1 x.2.1⟩
theorem Ua:EOk prog 166 Ub:=aH (.s .n (.s .n (.s (.s .n (.s (.lp [.box 5 27 0 [],.leaf 6 (.int .i64)] 0 false .n) .n)) .n))) [] [4] [] (.cons it .nil) Tryz.mixed Tryz.func166
def PI:Ent:=⟨[.ag 12,.lf (.int .i64)],[.ag 0],fun x=>iX x.1 x.2.1⟩
theorem pM:EOk prog 99 PI:=aH (.s .n (.s .n (.s (.s .n (.s (.lp [.box 5 27 0 [],.leaf 6 (.int .i64)] 0 false .n) .n)) .n))) [] [4] [] (.cons it .nil) Tryz.mixed Tryz.func99
def T7:Ent:=⟨[.ag 12,.lf (.str),.lf (.int .i64),.lf (.bool)],[.ag 0],fun x=>tg x.1 x.2.1 x.2.2.1 x.2.2.2.1⟩
theorem I7:EOk prog 174 T7:=aH (.s .n (.s .n (.s .n (.s .n (.s .n (.s (.s .n (.s (.lp [.box 11 27 0 [],.leaf 13 (.int .i64)] 0 false (.s .n (.s (.s (.s .n (.s .n (.s (.s .n (.j [.leaf 16 (.int .i64)] .n)) .n))) .n) .n))) .n)) .n)))))) [] [8] [] (.cons sk (.cons pM (.cons KJ (.cons F5 .nil)))) Tryz.mixed Tryz.func174
def FV:Ent:=⟨[.ag 12,.lf (.str),.lf (.int .i64)],[.ag 0],fun x=>lA x.1 x.2.1 x.2.2.1⟩
theorem pN:EOk prog 158 FV:=aH .n [] [6] [] (.cons I7 .nil) Tryz.mixed Tryz.func158
def I9:Ent:=⟨[.ag 12,.lf (.str),.lf (.int .i64)],[.ag 0],fun x=>vL x.1 x.2.1 x.2.2.1⟩
theorem I8:EOk prog 165 I9:=aH .n [] [6] [] (.cons I7 .nil) Tryz.mixed Tryz.func165
def T9:Ent:=⟨[.ag 12,.lf (.str),.lf (.int .i64)],[.ag 0],fun x=>DC x.1 x.2.1 x.2.2.1⟩
theorem T8:EOk prog 163 T9:=aH .n [] [6] [] (.cons sk (.cons pN (.cons F5 .nil))) Tryz.mixed Tryz.func163
def Q4:Ent:=⟨[.ag 12,.lf (.int .i64)],[.ag 12],fun x=>ql x.1 x.2.1⟩
theorem Gv:EOk prog 89 Q4:=aH (.s .n (.s .n (.s (.s .n (.s (.lp [.row 5 5 86 9 (.st 6),.leaf 6 (.int .i64)] 0 false .n) .n)) .n))) [] [4] [] .nil Tryz.mixed Tryz.func89
def Q3:Ent:=⟨[.ag 12,.lf (.int .i64)],[.ag 6,.lf (.bool)],fun x=>eH x.1 x.2.1⟩
theorem mZ:EOk prog 78 Q3:=aH (.s .n (.s (.s .n (.s (.lp [.leaf 6 (.int .i64)] 0 true .n) .n)) .n)) [] [4] [] .nil Tryz.mixed Tryz.func78
def Q2:Ent:=⟨[.ag 12,.lf (.int .i64)],[.ag 2,.lf (.bool)],fun x=>eG x.1 x.2.1⟩
theorem gL:EOk prog 82 Q2:=aH (.s .n (.s (.s .n (.s (.lp [.leaf 6 (.int .i64)] 0 true .n) .n)) .n)) [] [4] [] .nil Tryz.mixed Tryz.func82
def Q1:Ent:=⟨[.ag 2],[.lf (.bool)],fun x=>dx x.1⟩
theorem gK:EOk prog 75 Q1:=aH .n [] [] [] .nil Tryz.mixed Tryz.func75
def UJ:Ent:=⟨[.ag 12,.ag 2],[.ag 12],fun x=>eI x.1 x.2.1⟩
theorem pk:EOk prog 84 UJ:=aH (.s .n (.s .n (.s (.s (.lp [.leaf 5 (.int .i64)] 0 false .n) .n) (.s .n (.s .n (.s (.s .n (.j [.leaf 5 (.int .i64)] .n)) .n)))))) [] [4] [] .nil Tryz.mixed Tryz.func84
def QX:Ent:=⟨[.ag 12,.lf (.int .i64)],[.ag 12,.lf (.sl (.int .i64))],fun x=>sw x.1 x.2.1⟩
theorem Gs:EOk prog 116 QX:=aH (.s .n (.s .n (.s .n (.s .n (.s (.s .n (.s (.lp [.row 8 8 3 1 (.int .i64),.row 6 6 86 9 (.st 6),.leaf 9 (.int .i64)] 0 false .n) .n)) (.s (.s .n (.s (.lp [.row 7 7 88 3 (.st 11),.leaf 10 (.int .i64)] 2 false .n) .n)) .n)))))) [] [4] [] .nil Tryz.mixed Tryz.func116
def UL:Ent:=⟨[.ag 12,.lf (.int .i64),.lf (.int .i64)],[.ag 12,.lf (.sl (.int .i64))],fun x=>Ld x.1 x.2.1 x.2.2.1⟩
theorem UK:EOk prog 91 UL:=aH .n [] [6] [] (.cons gL (.cons gK (.cons pk (.cons Gs .nil)))) Tryz.mixed Tryz.func91
def N4:Ent:=⟨[.ag 2],[.lf (.sl (.st 1))],fun x=>pj x.1⟩
theorem CM:EOk prog 85 N4:=aH .n [] [] [] .nil Tryz.mixed Tryz.func85
def Hk:Ent:=⟨[.lf (.sl (.int .i64)),.lf (.int .i64)],[.lf (.sl (.int .i64)),.lf (.bool)],fun x=>jd x.1 x.2.1⟩
theorem wU:EOk prog 90 Hk:=aH (.s .n (.s .n (.s (.s .n (.s (.lp [.row 6 6 3 1 (.int .i64),.leaf 7 (.int .i64)] 0 false .n) .n)) .n))) [] [] [] .nil Tryz.mixed Tryz.func90
def Q0:Ent:=⟨[.ag 12,.lf (.sl (.int .i64))],[.ag 12],fun x=>je x.1 x.2.1⟩
theorem xU:EOk prog 79 Q0:=aH (.s .n (.s (.s .n (.s (.lp [.box 2 41 12 [],.leaf 5 (.int .i64)] 0 false (.s .n (.s (.s (.s .n (.s .n (.s .n (.s .n (.s .n (.s .n (.s .n (.s (.s .n (.j [.box 8 70 2 []] .n)) .n)))))))) .n) .n))) .n)) .n)) [(4,[73,76,79,80]),(6,[73,76,79,80]),(8,[73,76,79,80]),(11,[73,76,79,80]),(12,[73,76,79,80]),(14,[73,76,79,80]),(17,[73,76,79,80])] [4] [] (.cons mZ (.cons gL (.cons CM (.cons pk (.cons Gs (.cons Gv (.cons wU .nil))))))) Tryz.mixed Tryz.func79
def Lc:Ent:=⟨[.ag 12],[.lf (.sl (.int .i64))],fun x=>tA x.1⟩
theorem Lb:EOk prog 94 Lc:=aH (.s .n (.s .n (.s (.s .n (.s (.lp [.row 3 3 3 1 (.int .i64),.leaf 4 (.int .i64)] 0 false .n) .n)) .n))) [] [] [] .nil Tryz.mixed Tryz.func94
def QZ:Ent:=⟨[.lf (.int .i64)],[.lf (.bool)],fun x=>vb x.1⟩
theorem QY:EOk prog 81 QZ:=aH .n [] [] [] .nil Tryz.mixed Tryz.func81
def K8:Ent:=⟨[.ag 12],[.ag 12],fun x=>tv x.1⟩
theorem K7:EOk prog 83 K8:=aH (.s .n (.s .n (.s .n (.s (.s .n (.s (.lp [.leaf 4 (.bool),.row 3 3 70 14 (.st 2),.leaf 5 (.int .i64)] 0 false .n) .n)) .n)))) [(6,[30,31])] [2] [] (.cons gK .nil) Tryz.mixed Tryz.func83
def La:Ent:=⟨[.ag 12,.ag 2],[.ag 12,.lf (.int .i64)],fun x=>tz x.1 x.2.1⟩
theorem K9:EOk prog 45 La:=aH (.s .n (.s .n (.s .n (.s .n (.s .n (.s (.s .n (.s (.lp [.leaf 8 (.int .i64),.leaf 9 (.int .i64)] 0 false .n) .n)) (.s .n (.s .n (.s (.s .n (.j [.box 2 41 12 []] .n)) .n))))))))) [] [4] [] (.cons QY (.cons gL (.cons gK (.cons BH (.cons K7 (.cons CM (.cons pk .nil))))))) Tryz.mixed Tryz.func45
def TW:Ent:=⟨[.lf (.int .i64)],[.lf (.bool)],fun x=>y7 x.1⟩
theorem TV:EOk prog 136 TW:=aH .n [] [] [] .nil Tryz.mixed Tryz.func136
def PD:Ent:=⟨[.ag 1,.lf (.int .i64)],[.lf (.int .i64)],fun x=>pK x.1 x.2.1⟩
theorem PB:EOk prog 118 PD:=aH .n [] [] [] (.cons TV .nil) Tryz.mixed Tryz.func118
def W7:Ent:=⟨[.lf (.sl (.st 1)),.lf (.int .i64)],[.ag 1,.lf (.bool)],fun x=>KG x.1 x.2.1⟩
theorem W6:EOk prog 147 W7:=aH (.s .n (.s (.s .n (.s (.lp [.leaf 6 (.int .i64)] 0 true .n) .n)) .n)) [] [4] [] .nil Tryz.mixed Tryz.func147
def T1:Ent:=⟨[.lf (.sl (.st 1)),.lf (.int .i64)],[.lf (.sl (.st 1))],fun x=>DB x.1 x.2.1⟩
theorem T0:EOk prog 169 T1:=aH (.s .n (.s .n (.s (.s .n (.s (.lp [.row 5 7 122 8 (.st 1),.leaf 6 (.int .i64)] 0 false .n) .n)) .n))) [] [] [] .nil Tryz.mixed Tryz.func169
def KF:Ent:=⟨[.lf (.sl (.st 1)),.lf (.int .i64)],[.ag 0],fun x=>kz x.1 x.2.1⟩
theorem KE:EOk prog 175 KF:=aH (.s .n (.s .n (.s (.s .n (.s (.lp [.box 5 27 0 [],.leaf 6 (.int .i64)] 0 false .n) .n)) .n))) [] [4] [] (.cons it .nil) Tryz.mixed Tryz.func175
def W5:Ent:=⟨[.lf (.sl (.st 1)),.ag 1],[.lf (.sl (.st 1)),.lf (.int .i64)],fun x=>FO x.1 x.2.1⟩
theorem W4:EOk prog 119 W5:=aH (.s .n (.s .n (.s .n (.s .n (.s (.s .n (.s (.lp [.row 6 6 122 8 (.st 1),.leaf 7 (.bool),.leaf 8 (.int .i64)] 0 false (.s .n (.s (.s (.s (.s .n (.j [.row 6 6 122 8 (.st 1),.leaf 7 (.bool)] .n)) .n) .n) .n))) .n)) (.s (.s .n (.j [.row 6 6 122 8 (.st 1)] .n)) .n)))))) [] [] [] .nil Tryz.mixed Tryz.func119
def TY:Ent:=⟨[.lf (.sl (.st 1)),.lf (.int .i64)],[.lf (.sl (.st 1)),.lf (.bool)],fun x=>DA x.1 x.2.1⟩
theorem TX:EOk prog 167 TY:=aH (.s .n (.s .n (.s .n (.s (.s .n (.s (.lp [.leaf 7 (.bool),.row 6 6 122 8 (.st 1),.leaf 8 (.int .i64)] 0 false .n) .n)) .n)))) [] [] [] .nil Tryz.mixed Tryz.func167
def N2:Ent:=⟨[.lf (.str),.lf (.str)],[.lf (.bool)],fun x=>mY x.1 x.2.1⟩
theorem CJ:EOk prog 172 N2:=aH (.s .n (.s .n (.s (.s .n (.s (.lp [.leaf 6 (.int .i64)] 0 true .n) .n)) .n))) [] [] [] (.cons KJ .nil) Tryz.mixed Tryz.func172
def wT:Ent:=⟨[.ag 12,.lf (.str),.lf (.int .i64)],[.ag 0],fun x=>nW x.1 x.2.1 x.2.2.1⟩
theorem wS:EOk prog 159 wT:=aH (.s .n (.s .n (.s (.s .n (.s (.lp [.box 7 27 0 [],.leaf 8 (.int .i64)] 0 false .n) .n)) .n))) [] [6] [] (.cons gK (.cons CJ (.cons KE (.cons it .nil)))) Tryz.mixed Tryz.func159
def QV:Ent:=⟨[.ag 12,.lf (.str),.lf (.int .i64),.lf (.bool),.lf (.int .i64)],[.ag 0],fun x=>u6 x.1 x.2.1 x.2.2.1 x.2.2.2.1 x.2.2.2.2.1⟩
theorem Gl:EOk prog 156 QV:=aH (.s .n (.s .n (.s (.s .n (.s (.lp [.box 11 27 0 [],.leaf 12 (.int .i64)] 0 false .n) .n)) .n))) [] [10] [] (.cons gL (.cons CJ (.cons it .nil))) Tryz.mixed Tryz.func156
def Gp:Ent:=⟨[.ag 12,.lf (.str),.lf (.int .i64)],[.ag 0],fun x=>eB x.1 x.2.1 x.2.2.1⟩
theorem kE:EOk prog 137 Gp:=aH .n [] [6] [] (.cons Gl .nil) Tryz.mixed Tryz.func137
def QW:Ent:=⟨[.ag 12,.lf (.str),.lf (.int .i64),.ag 0],[.lf (.bool)],fun x=>u7 x.1 x.2.1 x.2.2.1 x.2.2.2.1⟩
theorem Gq:EOk prog 151 QW:=aH (.s .n (.s .n (.s (.s .n (.s (.lp [.leaf 10 (.int .i64)] 0 true .n) .n)) .n))) [] [] [] (.cons KJ (.cons kE (.cons it (.cons I8 (.cons pg (.cons pM (.cons Ua (.cons Jf .nil)))))))) Tryz.mixed Tryz.func151
def Gn:Ent:=⟨[.ag 12,.lf (.str),.lf (.int .i64),.lf (.int .i64)],[.ag 0],fun x=>o6 x.1 x.2.1 x.2.2.1 x.2.2.2.1⟩
theorem Gm:EOk prog 162 Gn:=aH .n [] [8] [] (.cons Gl .nil) Tryz.mixed Tryz.func162
def QU:Ent:=⟨[.ag 12,.lf (.str)],[.lf (.sl (.int .i64))],fun x=>Ad x.1 x.2.1⟩
theorem QT:EOk prog 154 QU:=aH (.s .n (.s .n (.s (.s .n (.s (.lp [.leaf 5 (.sl (.st 2)),.leaf 6 (.int .i64)] 0 false (.s .n (.s (.s (.s .n (.s .n (.s .n (.s (.s (.lp [.leaf 8 (.int .i64)] 2 false .n) .n) .n)))) .n) .n))) .n)) (.s .n (.s (.s .n (.s (.lp [.row 10 10 3 1 (.int .i64),.leaf 11 (.int .i64)] 4 false .n) .n)) .n))))) [(6,[5,53,56,57,62,75,76])] [] [] (.cons gK .nil) Tryz.mixed Tryz.func154
def NZ:Ent:=⟨[.ag 12,.lf (.str),.lf (.str),.lf (.int .i64)],[.lf (.bool)],fun x=>vY x.1 x.2.1 x.2.2.1 x.2.2.2.1⟩
theorem NY:EOk prog 181 NZ:=aH .n [] [] [] (.cons kE (.cons pN (.cons P9 .nil))) Tryz.mixed Tryz.func181
def Gk:Ent:=⟨[.ag 12,.lf (.str),.lf (.int .i64)],[.lf (.sl (.str))],fun x=>z8 x.1 x.2.1 x.2.2.1⟩
theorem QS:EOk prog 177 Gk:=aH (.s .n (.s .n (.s .n (.s (.s .n (.s (.lp [.leaf 8 (.sl (.str)),.leaf 9 (.int .i64)] 0 false (.s .n (.s (.s (.s .n (.s (.s (.lp [.leaf 10 (.int .i64)] 2 false .n) .n) .n)) .n) .n))) .n)) .n)))) [(1,[8,46,52,53,58]),(7,[8,46,52,53,58])] [] [] (.cons vO (.cons NY .nil)) Tryz.mixed Tryz.func177
theorem K3 (k:Nat) (x:ct [.ag 12,.lf (.str),.lf (.int .i64)]) : gz ⟨prog,[(168,⟨[.ag 12,.lf (.str),.lf (.int .i64)],[.lf (.sl (.str))],fun x=>ja k x.1 x.2.1 x.2.2.1⟩),(177,Gk)],35,[.lf (.sl (.str))],[.tmp 6],[(1,[18,33]),(8,[18])],[],[]⟩ ((Tryz.f168).body.getD .skip) (.s (.n) (.s (.n) (.s (.n) (.s (.n) (.s (.s (.n) (.s (.lp [.row 8 8 9 1 (.str),.leaf 9 (.int .i64)] 0 false (.n)) .n)) (.n)))))) [.ag 12,.lf (.str),.lf (.int .i64)] x=ja (k + 1) x.1 x.2.1 x.2.2.1:=by kernel_rfl
theorem zY:∀ k:Nat,bN prog 168 [.ag 12,.lf (.str),.lf (.int .i64)] [.lf (.sl (.str))] (fun x=>ja k x.1 x.2.1 x.2.2.1)
 | 0=>fun x r h=>by cases h
 | k + 1=>cj (n:=35) (.cons (zY k) (.cons (QS) (.nil))) Tryz.mixed Tryz.func168 rfl (by kernel_rfl) rfl rfl rfl (K3 k)
def K6:Ent:=⟨[.ag 12,.lf (.int .i64)],[.lf (.sl (.str))],fun x=>tu x.1 x.2.1⟩
theorem K5:EOk prog 153 K6:=aH .n [] [] [] (.cons (zY ab) .nil) Tryz.mixed Tryz.func153
def NX:Ent:=⟨[.ag 1,.ag 7],[.lf (.int .i64)],fun x=>mX x.1 x.2.1⟩
theorem CH:EOk prog 161 NX:=aH .n [] [] [] .nil Tryz.mixed Tryz.func161
def UI:Ent:=⟨[.ag 1,.ag 7],[.lf (.bool)],fun x=>tt x.1 x.2.1⟩
theorem Jk:EOk prog 148 UI:=aH .n [] [] [] (.cons CH .nil) Tryz.mixed Tryz.func148
def I4:Ent:=⟨[.ag 12,.lf (.int .i64)],[.ag 7,.lf (.bool)],fun x=>ly x.1 x.2.1⟩
theorem mQ:EOk prog 17 I4:=aH (.s .n (.s (.s .n (.s (.lp [.leaf 6 (.int .i64)] 0 true .n) .n)) .n)) [] [4] [] .nil Tryz.mixed Tryz.func17
def W8:Ent:=⟨[.ag 12,.ag 7],[.ag 12],fun x=>BB x.1 x.2.1⟩
theorem FP:EOk prog 35 W8:=aH (.s .n (.s .n (.s (.s (.lp [.leaf 5 (.int .i64)] 0 false .n) .n) (.s .n (.s .n (.s (.s .n (.j [.leaf 5 (.int .i64)] .n)) .n)))))) [] [4] [] .nil Tryz.mixed Tryz.func35
def I6:Ent:=⟨[.ag 12,.lf (.int .i64),.lf (.int .i64)],[.ag 12,.lf (.int .i64)],fun x=>ze x.1 x.2.1 x.2.2.1⟩
theorem I5:EOk prog 15 I6:=aH .n [] [6] [] (.cons mQ (.cons FP .nil)) Tryz.mixed Tryz.func15
def T6:Ent:=⟨[.ag 12,.lf (.int .i64)],[.ag 12],fun x=>zc x.1 x.2.1⟩
theorem T5:EOk prog 93 T6:=aH .n [] [4] [] (.cons mQ (.cons FP .nil)) Tryz.mixed Tryz.func93
def I2:Ent:=⟨[.ag 12,.lf (.int .i64)],[.ag 0],fun x=>y9 x.1 x.2.1⟩
theorem I1:EOk prog 19 I2:=aH (.s .n (.s .n (.s (.s .n (.s (.lp [.box 5 27 0 [],.leaf 6 (.int .i64)] 0 false .n) .n)) .n))) [] [4] [] (.cons it .nil) Tryz.mixed Tryz.func19
def I3:Ent:=⟨[.ag 12,.lf (.int .i64)],[.ag 0],fun x=>vK x.1 x.2.1⟩
theorem BD:EOk prog 21 I3:=aH .n [] [4] [] (.cons mQ (.cons I1 (.cons Jf .nil))) Tryz.mixed Tryz.func21
def T4:Ent:=⟨[.lf (.int .i64)],[.lf (.bool)],fun x=>y8 x.1⟩
theorem T3:EOk prog 34 T4:=aH .n [] [] [] .nil Tryz.mixed Tryz.func34
def wN:Ent:=⟨[.ag 12,.ag 7],[.ag 12,.lf (.int .i64)],fun x=>nN x.1 x.2.1⟩
theorem wM:EOk prog 12 wN:=aH .n [] [4] [] (.cons T3 (.cons mQ (.cons FP .nil))) Tryz.mixed Tryz.func12
def Cv:Ent:=⟨[.ag 12],[.lf (.sl (.int .i64))],fun x=>sg x.1⟩
theorem Cu:EOk prog 24 Cv:=aH (.s .n (.s .n (.s (.s .n (.s (.lp [.row 3 3 3 1 (.int .i64),.leaf 4 (.int .i64)] 0 false .n) .n)) .n))) [] [] [] .nil Tryz.mixed Tryz.func24
def QI:Ent:=⟨[.ag 12,.lf (.int .i64)],[.ag 11,.lf (.bool)],fun x=>zS x.1 x.2.1⟩
theorem QH:EOk prog 133 QI:=aH (.s .n (.s (.s .n (.s (.lp [.leaf 6 (.int .i64)] 0 true .n) .n)) .n)) [] [4] [] .nil Tryz.mixed Tryz.func133
def UD:Ent:=⟨[.ag 12,.lf (.str),.ag 1],[.lf (.bool)],fun x=>zV x.1 x.2.1 x.2.2.1⟩
theorem Jj:EOk prog 149 UD:=aH .n [] [] [] (.cons kE (.cons it (.cons pN (.cons pg .nil)))) Tryz.mixed Tryz.func149
def QJ:Ent:=⟨[.ag 12,.lf (.str),.lf (.int .i64),.lf (.int .i64)],[.lf (.bool)],fun x=>u5 x.1 x.2.1 x.2.2.1 x.2.2.2.1⟩
theorem Gc:EOk prog 150 QJ:=aH .n [] [] [] (.cons Gm (.cons T8 (.cons pg .nil))) Tryz.mixed Tryz.func150
def K2:Ent:=⟨[.ag 12,.lf (.int .i64)],[.ag 12],fun x=>fv x.1 x.2.1⟩
theorem zW:EOk prog 92 K2:=aH (.s .n (.s .n (.s (.s .n (.s (.lp [.row 5 5 88 3 (.st 11),.leaf 6 (.int .i64)] 0 false .n) .n)) .n))) [] [4] [] .nil Tryz.mixed Tryz.func92
def NV:Ent:=⟨[.ag 12,.ag 7,.ag 2,.ag 1],[.ag 12,.ag 6],fun x=>mW x.1 x.2.1 x.2.2.1 x.2.2.2.1⟩
theorem CF:EOk prog 152 NV:=aH (.s .n (.s .n (.s .n (.s .n (.s (.s .n (.j [.box 6 70 2 []] .n)) (.s .n (.s (.s (.lp [.leaf 11 (.int .i64)] 0 false .n) .n) .n))))))) [(3,[54,57,60,61,86,89,90,96]),(13,[54,57,60,61,81,86,89,90,96])] [8,9] [] (.cons TX (.cons pk .nil)) Tryz.mixed Tryz.func152
def QL:Ent:=⟨[.ag 12,.ag 7,.ag 11],[.ag 12,.lf (.int .i64),.ag 6,.lf (.bool)],fun x=>sr x.1 x.2.1 x.2.2.1⟩
theorem QK:EOk prog 134 QL:=aH .n [] [6,8] [] (.cons gL (.cons W6 (.cons gK (.cons Jk (.cons pg (.cons Jj (.cons Gc (.cons zW (.cons BD (.cons Gq (.cons CF .nil))))))))))) Tryz.mixed Tryz.func134
def NT:Ent:=⟨[.ag 12,.lf (.int .i64),.lf (.int .i64)],[.lf (.bool)],fun x=>vU x.1 x.2.1 x.2.2.1⟩
theorem NS:EOk prog 170 NT:=aH (.s .n (.s (.s .n (.s (.lp [.leaf 7 (.int .i64)] 0 true .n) .n)) .n)) [] [] [] .nil Tryz.mixed Tryz.func170
def QN:Ent:=⟨[.ag 12,.ag 11],[.ag 12],fun x=>ss x.1 x.2.1⟩
theorem QM:EOk prog 171 QN:=aH (.s .n (.s .n (.s (.s (.lp [.leaf 5 (.int .i64)] 0 false .n) .n) .n))) [] [4] [] .nil Tryz.mixed Tryz.func171
def UF:Ent:=⟨[.ag 12,.ag 7,.ag 2,.ag 1,.lf (.bool)],[.ag 12,.lf (.int .i64),.ag 6],fun x=>vV x.1 x.2.1 x.2.2.1 x.2.2.2.1 x.2.2.2.2.1⟩
theorem UE:EOk prog 155 UF:=aH (.s .n (.s .n (.s .n (.s (.s .n (.s (.s (.s .n (.j [.box 7 70 2 [],.box 5 41 12 []] .n)) .n) .n)) .n)))) [] [10,12] [] (.cons Jj (.cons CH (.cons pg (.cons Jk (.cons T0 (.cons pk (.cons Gq (.cons BD (.cons CF (.cons NS (.cons QM .nil))))))))))) Tryz.mixed Tryz.func155
def NQ:Ent:=⟨[.ag 12,.ag 7,.lf (.bool)],[.ag 12,.lf (.int .i64),.ag 6],fun x=>eb x.1 x.2.1 x.2.2.1⟩
theorem NN:EOk prog 135 NQ:=aH (.s .n (.s .n (.s (.s .n (.s (.lp [.box 3 41 12 [],.leaf 10 (.int .i64)] 0 true (.s .n (.s (.s (.s .n (.s .n (.s (.lp [.box 3 41 12 [],.leaf 12 (.int .i64)] 2 true (.s .n (.s (.s (.s .n (.s .n (.s .n (.s (.lp [.box 3 41 12 [],.leaf 15 (.int .i64)] 4 true .n) .n)))) .n) .n))) .n))) .n) .n))) .n)) .n))) [] [6,8] [] (.cons K5 (.cons QT (.cons gL (.cons Gc (.cons UE .nil))))) Tryz.mixed Tryz.func135
def UH:Ent:=⟨[.ag 12,.lf (.int .i64)],[.ag 12,.lf (.int .i64),.ag 6],fun x=>vX x.1 x.2.1⟩
theorem UG:EOk prog 117 UH:=aH .n [] [4,6] [] (.cons mQ (.cons QH (.cons QK (.cons NN .nil)))) Tryz.mixed Tryz.func117
def QR:Ent:=⟨[.ag 12,.lf (.int .i64)],[.ag 12,.lf (.sl (.st 6))],fun x=>qk x.1 x.2.1⟩
theorem QQ:EOk prog 80 QR:=aH (.s .n (.s .n (.s (.s .n (.s (.lp [.box 2 41 12 [],.row 6 6 86 9 (.st 6),.leaf 7 (.int .i64)] 0 false .n) .n)) .n))) [(5,[27,28])] [4] [] (.cons UG .nil) Tryz.mixed Tryz.func80
def Qu:Ent:=⟨[.lf (.int .i64)],[.lf (.int .i64)],fun x=>lO x.1⟩
theorem Qt:EOk prog 178 Qu:=aH .n [] [] [] .nil Tryz.mixed Tryz.func178
def CD:Ent:=⟨[.lf (.int .i64),.lf (.sl (.int .i64)),.lf (.sl (.int .i64)),.lf (.sl (.int .i64))],[.lf (.sl (.int .i64))],fun x=>vS x.1 x.2.1 x.2.2.1 x.2.2.2.1⟩
theorem NG:EOk prog 173 CD:=aH (.s .n (.s .n (.s .n (.s .n (.s (.s .n (.s (.lp [.row 11 11 3 1 (.int .i64),.leaf 10 (.int .i64),.leaf 12 (.int .i64)] 0 false .n) .n)) (.s (.s .n (.s (.lp [.row 11 11 3 1 (.int .i64),.leaf 10 (.int .i64),.leaf 14 (.int .i64)] 2 false .n) .n)) .n)))))) [(2,[49,50]),(7,[49,50]),(13,[49,50])] [] [] (.cons Qt .nil) Tryz.mixed Tryz.func173
theorem Qv (k:Nat) (x:ct [.ag 12,.lf (.str),.lf (.int .i64),.lf (.int .i64)]) : gz ⟨prog,[(157,⟨[.ag 12,.lf (.str),.lf (.int .i64),.lf (.int .i64)],[.lf (.sl (.st 18))],fun x=>lQ k x.1 x.2.1 x.2.2.1 x.2.2.2.1⟩),(54,Jb),(158,FV),(165,I9),(137,Gp),(159,wT),(173,CD)],101,[.lf (.sl (.st 18))],[.tmp 8],[(1,[27,43,44,54,55,74,75,99]),(8,[27,54,55,74,75,99]),(9,[27,43,44,74,75,99]),(10,[27,43,44,54,55,99]),(11,[10,11,12,27,43,44,54,55,74,75,99]),(16,[10,11,12,27,43,44,54,55,74,75])],[],[]⟩ ((Tryz.f157).body.getD .skip) (.s (.n) (.s (.n) (.s (.n) (.s (.n) (.s (.s (.n) (.s (.lp [.row 10 10 3 1 (.int .i64),.row 12 12 3 1 (.int .i64),.row 11 11 3 1 (.int .i64),.leaf 13 (.int .i64)] 0 false (.n)) .n)) (.s (.n) (.s (.n) (.s (.s (.n) (.s (.lp [.row 15 15 198 2 (.st 18),.leaf 16 (.int .i64)] 2 false (.n)) .n)) (.n))))))))) [.ag 12,.lf (.str),.lf (.int .i64),.lf (.int .i64)] x=lQ (k + 1) x.1 x.2.1 x.2.2.1 x.2.2.2.1:=by kernel_rfl
theorem Gb:∀ k:Nat,bN prog 157 [.ag 12,.lf (.str),.lf (.int .i64),.lf (.int .i64)] [.lf (.sl (.st 18))] (fun x=>lQ k x.1 x.2.1 x.2.2.1 x.2.2.2.1)
 | 0=>fun x r h=>by cases h
 | k + 1=>cj (n:=101) (.cons (Gb k) (.cons (vO) (.cons (pN) (.cons (I8) (.cons (kE) (.cons (wS) (.cons (NG) (.nil)))))))) Tryz.mixed Tryz.func157 rfl (by kernel_rfl) rfl rfl rfl (Qv k)
def KZ:Ent:=⟨[.ag 12,.lf (.int .i64)],[.lf (.sl (.st 18))],fun x=>qh x.1 x.2.1⟩
theorem zN:EOk prog 141 KZ:=aH (.s .n (.s .n (.s .n (.s (.s .n (.s (.lp [.leaf 5 (.sl (.st 18)),.leaf 7 (.int .i64)] 0 false (.s .n (.s (.s (.s .n (.s (.s (.lp [.leaf 8 (.int .i64)] 2 false .n) .n) .n)) .n) .n))) .n)) .n)))) [(2,[5,46,52,53,58])] [] [] (.cons pM (.cons (Gb ab) .nil)) Tryz.mixed Tryz.func141
def Uz:Ent:=⟨[.ag 12,.lf (.int .i64),.lf (.str)],[.lf (.int .i64)],fun x=>zM x.1 x.2.1 x.2.2.1⟩
theorem Uy:EOk prog 140 Uz:=aH (.s .n (.s .n (.s (.s .n (.s (.lp [.leaf 8 (.int .i64)] 0 true .n) .n)) .n))) [] [] [] (.cons zN .nil) Tryz.mixed Tryz.func140
def Qr:Ent:=⟨[.ag 12,.ag 12],[.lf (.sl (.int .i64))],fun x=>uW x.1 x.2.1⟩
theorem Ga:EOk prog 97 Qr:=aH (.s .n (.s .n (.s (.s .n (.s (.lp [.row 5 5 3 1 (.int .i64),.leaf 6 (.int .i64)] 0 false .n) .n)) .n))) [(5,[36,37])] [] [] (.cons mZ .nil) Tryz.mixed Tryz.func97
def Nz:Ent:=⟨[.ag 12,.lf (.str),.lf (.int .i64)],[.lf (.int .i64)],fun x=>sp x.1 x.2.1 x.2.2.1⟩
theorem Ny:EOk prog 142 Nz:=aH (.s .n (.s .n (.s (.s .n (.s (.lp [.leaf 9 (.int .i64)] 0 true (.s .n (.s (.s (.s .n (.s .n (.s (.lp [.leaf 11 (.int .i64)] 2 true .n) .n))) .n) .n))) .n)) .n))) [] [] [] (.cons kE (.cons pN (.cons gK (.cons wS .nil)))) Tryz.mixed Tryz.func142
def Qm:Ent:=⟨[.ag 12,.ag 6],[.lf (.str)],fun x=>i6 x.1 x.2.1⟩
theorem xP:EOk prog 138 Qm:=aH .n [] [] [] (.cons gL .nil) Tryz.mixed Tryz.func138
def Xc:Ent:=⟨[.lf (.sl (.int .i64)),.lf (.int .i64)],[.lf (.bool)],fun x=>xQ x.1 x.2.1⟩
theorem NB:EOk prog 160 Xc:=aH (.s .n (.s (.s .n (.s (.lp [.leaf 5 (.int .i64)] 0 true .n) .n)) .n)) [] [] [] .nil Tryz.mixed Tryz.func160
def KW:Ent:=⟨[.ag 12,.lf (.str),.lf (.int .i64),.lf (.sl (.int .i64))],[.lf (.int .i64)],fun x=>mU x.1 x.2.1 x.2.2.1 x.2.2.2.1⟩
theorem KV:EOk prog 143 KW:=aH (.s .n (.s .n (.s (.s .n (.s (.lp [.leaf 9 (.int .i64),.leaf 10 (.int .i64)] 0 false .n) .n)) .n))) [] [] [] (.cons xP (.cons NB .nil)) Tryz.mixed Tryz.func143
def KT:Ent:=⟨[.ag 12,.lf (.str),.lf (.int .i64),.lf (.sl (.int .i64))],[.ag 6,.lf (.bool)],fun x=>qc x.1 x.2.1 x.2.2.1 x.2.2.2.1⟩
theorem KS:EOk prog 144 KT:=aH (.s .n (.s .n (.s (.s .n (.s (.lp [.box 10 86 6 [],.leaf 11 (.bool),.leaf 12 (.int .i64)] 0 false .n) .n)) .n))) [] [8] [] (.cons xP (.cons NB .nil)) Tryz.mixed Tryz.func144
def Qq:Ent:=⟨[.ag 12,.lf (.int .i64)],[.lf (.sl (.int .i64))],fun x=>zK x.1 x.2.1⟩
theorem Qp:EOk prog 121 Qq:=aH (.s .n (.s .n (.s .n (.s (.s .n (.s (.lp [.leaf 6 (.int .i64),.leaf 7 (.int .i64)] 0 false .n) .n)) (.s .n (.s (.s (.lp [.row 8 8 3 1 (.int .i64)] 2 true (.s .n (.s (.s .n (.s (.s .n (.s (.lp [.leaf 9 (.int .i64),.box 10 86 6 [],.leaf 11 (.int .i64)] 4 false .n) .n)) .n)) .n))) .n) .n)))))) [(1,[103,104]),(2,[103,104]),(6,[103,104]),(8,[103,104]),(14,[103,104]),(15,[103,104])] [] [] (.cons zN (.cons pM (.cons kE (.cons Ny (.cons KV (.cons KS .nil)))))) Tryz.mixed Tryz.func121
def KR:Ent:=⟨[.ag 12,.ag 6],[.lf (.int .i64)],fun x=>p9 x.1 x.2.1⟩
theorem KQ:EOk prog 139 KR:=aH (.s .n (.s .n (.s (.s .n (.s (.lp [.leaf 5 (.int .i64),.leaf 6 (.int .i64)] 0 false .n) .n)) .n))) [] [] [] .nil Tryz.mixed Tryz.func139
def Ql:Ent:=⟨[.ag 12,.lf (.int .i64),.lf (.int .i64)],[.ag 12],fun x=>nU x.1 x.2.1 x.2.2.1⟩
theorem F9:EOk prog 122 Ql:=aH (.s .n (.s .n (.s (.s .n (.s (.lp [.row 7 9 86 9 (.st 6),.leaf 8 (.int .i64)] 0 false .n) .n)) .n))) [] [6] [] .nil Tryz.mixed Tryz.func122
def Qo:Ent:=⟨[.ag 12,.lf (.int .i64)],[.ag 12],fun x=>zH x.1 x.2.1⟩
theorem Qn:EOk prog 120 Qo:=aH (.s .n (.s .n (.s (.s .n (.s (.lp [.row 5 5 86 9 (.st 6),.leaf 6 (.int .i64)] 0 false .n) .n)) (.s (.s .n (.s (.lp [.box 2 41 12 [],.leaf 8 (.int .i64)] 2 false .n) .n)) .n)))) [(11,[5,43,44,84]),(13,[5,43,44,84]),(14,[5,43,44]),(15,[5,43,44,84])] [4] [] (.cons mZ (.cons xP (.cons kE (.cons KQ (.cons Uy (.cons xU (.cons F9 .nil))))))) Tryz.mixed Tryz.func120
def ND:Ent:=⟨[.ag 12],[.ag 12,.lf (.sl (.int .i64))],fun x=>vR x.1⟩
theorem NC:EOk prog 96 ND:=aH (.s .n (.s .n (.s (.s .n (.s (.lp [.box 1 41 12 [],.leaf 5 (.int .i64)] 0 false (.s .n (.s (.s (.s .n (.s .n (.s .n (.s (.lp [.box 1 41 12 [],.leaf 7 (.int .i64)] 2 false .n) .n)))) .n) .n))) .n)) .n))) [] [2] [] (.cons Qn (.cons Qp (.cons F9 (.cons Ga .nil)))) Tryz.mixed Tryz.func96
def Qy:Ent:=⟨[.lf (.int .i64)],[.lf (.bool)],fun x=>uY x.1⟩
theorem Qx:EOk prog 123 Qy:=aH .n [] [] [] .nil Tryz.mixed Tryz.func123
def Xe:Ent:=⟨[.lf (.sl (.st 8)),.lf (.int .i64),.lf (.int .i64)],[.ag 0],fun x=>u4 x.1 x.2.1 x.2.2.1⟩
theorem Xd:EOk prog 146 Xe:=aH (.s .n (.s .n (.s (.s .n (.s (.lp [.box 7 27 0 [],.leaf 8 (.int .i64)] 0 false .n) .n)) .n))) [] [6] [] (.cons it .nil) Tryz.mixed Tryz.func146
def QA:Ent:=⟨[.lf (.sl (.st 8)),.ag 0,.ag 8,.lf (.int .i64),.lf (.int .i64)],[.lf (.bool)],fun x=>sq x.1 x.2.1 x.2.2.1 x.2.2.2.1 x.2.2.2.2.1⟩
theorem Qz:EOk prog 124 QA:=aH (.s .n (.s .n (.s (.s .n (.s (.lp [.leaf 11 (.int .i64)] 0 true .n) .n)) .n))) [] [] [] (.cons Xd (.cons it (.cons pg .nil))) Tryz.mixed Tryz.func124
def NK:Ent:=⟨[.lf (.sl (.st 8)),.ag 0,.ag 8,.lf (.int .i64)],[.lf (.int .i64),.lf (.int .i64)],fun x=>vT x.1 x.2.1 x.2.2.1 x.2.2.2.1⟩
theorem NJ:EOk prog 98 NK:=aH (.s .n (.s .n (.s .n (.s (.s .n (.s (.lp [.leaf 10 (.int .i64),.leaf 11 (.int .i64)] 0 false (.s .n (.s (.s (.s .n (.s (.s .n (.j [.leaf 12 (.int .i64)] .n)) .n)) .n) .n))) .n)) .n)))) [] [] [] (.cons Qx (.cons Qz .nil)) Tryz.mixed Tryz.func98
def UC:Ent:=⟨[.ag 12,.ag 8,.lf (.int .i64)],[.ag 12,.lf (.int .i64),.lf (.int .i64)],fun x=>zQ x.1 x.2.1 x.2.2.1⟩
theorem UB:EOk prog 49 UC:=aH (.s .n (.s .n (.s .n (.s (.s .n (.s (.lp [.leaf 9 (.int .i64),.leaf 10 (.int .i64)] 0 true .n) .n)) .n)))) [] [6] [] (.cons pM (.cons NJ .nil)) Tryz.mixed Tryz.func49
def QE:Ent:=⟨[.ag 12,.lf (.int .i64)],[.ag 12,.lf (.int .i64)],fun x=>uZ x.1 x.2.1⟩
theorem QB:EOk prog 50 QE:=aH (.s .n (.s .n (.s (.s .n (.s (.lp [.row 6 6 72 6 (.st 8),.leaf 7 (.int .i64)] 0 false .n) .n)) .n))) [] [4] [] .nil Tryz.mixed Tryz.func50
theorem KK (k:Nat) (x:ct [.lf (.int .i64)]) : gz ⟨prog,[(52,⟨[.lf (.int .i64)],[.lf (.str)],fun x=>dk k x.1⟩)],25,[.lf (.str)],[.tmp 2],[],[],[]⟩ ((Tryz.f52).body.getD .skip) (.n) [.lf (.int .i64)] x=dk (k + 1) x.1:=by kernel_rfl
theorem zp:∀ k:Nat,bN prog 52 [.lf (.int .i64)] [.lf (.str)] (fun x=>dk k x.1)
 | 0=>fun x r h=>by cases h
 | k + 1=>cj (n:=25) (.cons (zp k) (.nil)) Tryz.mixed Tryz.func52 rfl (by kernel_rfl) rfl rfl rfl (KK k)
def W9:Ent:=⟨[.lf (.str),.lf (.int .u8)],[.lf (.sl (.str))],fun x=>FY x.1 x.2.1⟩
theorem Nm:EOk prog 109 W9:=aH (.s .n (.s .n (.s .n (.s (.s .n (.s (.lp [.row 5 5 9 1 (.str),.leaf 6 (.int .i64),.leaf 7 (.int .i64)] 0 false .n) .n)) (.s (.s .n (.j [.row 5 5 9 1 (.str)] .n)) .n))))) [] [] [] .nil Tryz.mixed Tryz.func109
def PU:Ent:=⟨[.lf (.str)],[.lf (.sl (.str))],fun x=>zj x.1⟩
theorem PR:EOk prog 110 PU:=aH (.s .n (.s .n (.s .n (.s (.s .n (.s (.lp [.row 3 3 9 1 (.str),.leaf 5 (.int .i64)] 0 false .n) .n)) .n)))) [] [] [] (.cons Nm .nil) Tryz.mixed Tryz.func110
def Nl:Ent:=⟨[.lf (.str)],[.lf (.int .i64),.lf (.bool)],fun x=>pf x.1⟩
theorem Cy:EOk prog 129 Nl:=aH (.s .n (.s .n (.s .n (.s (.s .n (.s (.lp [.leaf 4 (.int .i64),.leaf 5 (.int .i64)] 0 true .n) .n)) .n)))) [] [] [] .nil Tryz.mixed Tryz.func129
def PX:Ent:=⟨[.lf (.str)],[.ag 3,.lf (.bool)],fun x=>zk x.1⟩
theorem PW:EOk prog 130 PX:=aH (.s .n (.s .n (.s (.s (.lp [.leaf 4 (.int .i64)] 0 false .n) .n) .n))) [] [2] [] (.cons Cy .nil) Tryz.mixed Tryz.func130
def PZ:Ent:=⟨[.lf (.sl (.str)),.lf (.int .i64)],[.ag 4,.lf (.bool)],fun x=>zl x.1 x.2.1⟩
theorem PY:EOk prog 111 PZ:=aH (.s .n (.s .n (.s .n (.s .n (.s (.s .n (.s (.lp [.leaf 7 (.bool),.box 8 99 4 [(1,1161,96,2,.st 3)],.leaf 9 (.int .i64)] 0 false .n) .n)) .n))))) [] [4] [] (.cons Cy (.cons PW .nil)) Tryz.mixed Tryz.func111
def P1:Ent:=⟨[.lf (.str)],[.ag 5,.lf (.int .i64)],fun x=>zo x.1⟩
theorem P0:EOk prog 73 P1:=aH (.s .n (.s .n (.s .n (.s .n (.s .n (.s (.s .n (.s (.lp [.box 4 34 5 [],.leaf 5 (.bool),.leaf 7 (.int .i64)] 0 true (.s .n (.s (.s (.s .n (.s .n (.s .n (.s .n (.s .n (.s .n (.s .n (.s (.s (.lp [.leaf 11 (.int .i64)] 2 false .n) .n) .n)))))))) .n) .n))) .n)) .n)))))) [] [2] [] (.cons Nm (.cons PR (.cons PY .nil))) Tryz.mixed Tryz.func73
def Uj:Ent:=⟨[.ag 5,.ag 5],[.lf (.bool)],fun x=>DE x.1 x.2.1⟩
theorem Ui:EOk prog 36 Uj:=aH (.s .n (.s .n (.s (.s .n (.s (.lp [.leaf 5 (.int .i64)] 0 true .n) .n)) (.s (.s .n (.s (.lp [.leaf 6 (.int .i64)] 2 true (.s .n (.s (.s (.s .n (.s .n (.s .n (.s (.lp [.leaf 9 (.int .i64)] 4 true .n) .n)))) .n) .n))) .n)) .n)))) [] [] [] .nil Tryz.mixed Tryz.func36
def BI:Ent:=⟨[.ag 5],[.lf (.str)],fun x=>zn x.1⟩
theorem Jd:EOk prog 28 BI:=aH (.s .n (.s .n (.s (.s .n (.s (.lp [.leaf 3 (.str),.leaf 4 (.int .i64)] 0 false .n) .n)) (.s .n (.s (.s .n (.s (.lp [.leaf 3 (.str),.leaf 5 (.int .i64)] 2 false (.s .n (.s (.s (.s .n (.s .n (.s (.s .n (.s (.lp [.leaf 3 (.str),.leaf 7 (.int .i64)] 4 false .n) .n)) .n))) .n) .n))) .n)) .n))))) [] [] [] (.cons (zp ab) .nil) Tryz.mixed Tryz.func28
def BJ:Ent:=⟨[],[.ag 12],fun x=>KP ⟩
theorem Jg:EOk prog 26 BJ:=aH .n [] [0] [] .nil Tryz.mixed Tryz.func26
def Qe:Ent:=⟨[.lf (.sl (.int .i64)),.lf (.sl (.int .i64))],[.lf (.bool)],fun x=>pY x.1 x.2.1⟩
theorem Qd:EOk prog 70 Qe:=aH (.s .n (.s .n (.s (.s .n (.s (.lp [.leaf 5 (.int .i64)] 0 true .n) .n)) .n))) [] [] [] .nil Tryz.mixed Tryz.func70
def Ux:Ent:=⟨[.ag 2,.ag 2],[.lf (.bool)],fun x=>DF x.1 x.2.1⟩
theorem Uw:EOk prog 37 Ux:=aH (.s .n (.s .n (.s (.s .n (.s (.lp [.leaf 5 (.int .i64)] 0 true .n) .n)) .n))) [] [] [] (.cons Qd .nil) Tryz.mixed Tryz.func37
def xN:Ent:=⟨[.ag 12,.ag 12],[.lf (.bool)],fun x=>uU x.1 x.2.1⟩
theorem F8:EOk prog 13 xN:=aH (.s .n (.s .n (.s .n (.s (.s .n (.s (.lp [.leaf 5 (.bool),.leaf 6 (.int .i64)] 0 false .n) .n)) (.s (.s .n (.s (.lp [.leaf 5 (.bool),.leaf 7 (.int .i64)] 2 false .n) .n)) (.s (.s .n (.s (.lp [.leaf 5 (.bool),.leaf 8 (.int .i64)] 4 false .n) .n)) (.s (.s .n (.s (.lp [.leaf 5 (.bool),.leaf 9 (.int .i64)] 6 false .n) .n)) (.s (.s .n (.s (.lp [.leaf 5 (.bool),.leaf 10 (.int .i64)] 8 false .n) .n)) .n)))))))) [] [] [] (.cons Ui (.cons Uw .nil)) Tryz.mixed Tryz.func13
def Uv:Ent:=⟨[.ag 12,.lf (.int .i64)],[.ag 12,.ag 10],fun x=>dE x.1 x.2.1⟩
theorem ph:EOk prog 51 Uv:=aH .n [] [4,5] [] .nil Tryz.mixed Tryz.func51
def KO:Ent:=⟨[.ag 12,.lf (.str)],[.ag 12,.ag 10],fun x=>tr x.1 x.2.1⟩
theorem KN:EOk prog 43 KO:=aH (.s .n (.s .n (.s (.s .n (.j [.leaf 7 (.int .i64)] .n)) (.s .n (.s .n (.s (.s .n (.s (.lp [.leaf 8 (.int .i64)] 0 true .n) .n)) (.s (.s .n (.s (.lp [.leaf 9 (.int .i64)] 2 true .n) .n)) .n))))))) [] [4,5] [] (.cons P0 (.cons PP (.cons ph (.cons gK (.cons BH .nil))))) Tryz.mixed Tryz.func43
def Xb:Ent:=⟨[.ag 12,.lf (.int .i64)],[.lf (.sl (.int .i64))],fun x=>xL x.1 x.2.1⟩
theorem Nu:EOk prog 77 Xb:=aH (.s .n (.s .n (.s (.s .n (.s (.lp [.row 5 5 3 1 (.int .i64),.leaf 6 (.int .i64)] 0 false .n) .n)) .n))) [] [] [] .nil Tryz.mixed Tryz.func77
def Qi:Ent:=⟨[.ag 12,.ag 9],[.ag 12,.ag 10],fun x=>zF x.1 x.2.1⟩
theorem Qh:EOk prog 44 Qi:=aH (.s .n (.s .n (.s .n (.s .n (.s .n (.s .n (.s (.s .n (.s (.lp [.row 10 10 3 1 (.int .i64),.leaf 11 (.int .i64)] 0 false .n) .n)) .n))))))) [(1,[83,84]),(3,[83,84]),(4,[83,84]),(6,[83,84]),(11,[83,84]),(14,[10,83,84]),(15,[10,83,84]),(16,[10,83,84])] [4,5] [] (.cons mQ (.cons Nu (.cons I5 (.cons ph (.cons mZ (.cons xU (.cons QQ .nil))))))) Tryz.mixed Tryz.func44
def Nw:Ent:=⟨[.ag 12,.lf (.sl (.int .i64))],[.lf (.sl (.st 6))],fun x=>sn x.1 x.2.1⟩
theorem Nv:EOk prog 86 Nw:=aH (.s .n (.s .n (.s (.s .n (.s (.lp [.row 5 5 86 9 (.st 6),.leaf 6 (.int .i64)] 0 false .n) .n)) .n))) [(5,[27,28])] [] [] (.cons mZ .nil) Tryz.mixed Tryz.func86
def He:Ent:=⟨[.ag 12,.lf (.int .i64)],[.lf (.sl (.int .i64))],fun x=>nT x.1 x.2.1⟩
theorem Hc:EOk prog 87 He:=aH (.s .n (.s .n (.s (.s .n (.s (.lp [.row 5 5 3 1 (.int .i64),.leaf 6 (.int .i64)] 0 false .n) .n)) .n))) [] [] [] .nil Tryz.mixed Tryz.func87
def Nt:Ent:=⟨[.ag 12,.lf (.sl (.st 1)),.lf (.sl (.st 1))],[.lf (.sl (.st 1)),.lf (.int .i64)],fun x=>vQ x.1 x.2.1 x.2.2.1⟩
theorem Ns:EOk prog 88 Nt:=aH (.s .n (.s (.s .n (.s (.lp [.leaf 1 (.sl (.st 1)),.leaf 8 (.int .i64)] 0 true .n) .n)) .n)) [] [] [] (.cons PB (.cons W4 .nil)) Tryz.mixed Tryz.func88
def KM:Ent:=⟨[.ag 12,.ag 9],[.ag 12,.ag 10],fun x=>tq x.1 x.2.1⟩
theorem KL:EOk prog 46 KM:=aH (.s .n (.s .n (.s .n (.s .n (.s .n (.s (.s .n (.s (.lp [.box 2 41 12 [],.box 6 70 2 [],.leaf 10 (.int .i64)] 1 false .n) .n)) .n)))))) [(1,[61,64,144,147]),(3,[61,64,144,147]),(5,[61,64,144,147]),(7,[61,64,144,147]),(9,[144,147]),(11,[61,64,144,147]),(12,[61,64,144,147]),(14,[61,64,144,147]),(18,[61,64,144,147]),(20,[61,64,144,147]),(21,[61,64,144,147]),(22,[61,64]),(25,[61,64,144,147])] [4,5] [] (.cons gL (.cons ph (.cons Nv (.cons Hc (.cons Ns (.cons mZ (.cons Gv (.cons wU (.cons pk .nil))))))))) Tryz.mixed Tryz.func46
def Uu:Ent:=⟨[.ag 12,.lf (.int .i64),.lf (.int .i64)],[.ag 12,.ag 10],fun x=>zC x.1 x.2.1 x.2.2.1⟩
theorem Ut:EOk prog 47 Uu:=aH .n [] [6,7] [] (.cons gL (.cons ph (.cons gK (.cons UK .nil)))) Tryz.mixed Tryz.func47
def Qg:Ent:=⟨[.ag 12,.lf (.int .i64)],[.lf (.int .i64)],fun x=>uT x.1 x.2.1⟩
theorem Qf:EOk prog 95 Qg:=aH (.s .n (.s (.s .n (.s (.lp [.leaf 5 (.int .i64)] 0 true .n) .n)) .n)) [] [] [] .nil Tryz.mixed Tryz.func95
def Qc:Ent:=⟨[.ag 12,.lf (.int .i64)],[.ag 12,.ag 10],fun x=>zB x.1 x.2.1⟩
theorem Qb:EOk prog 48 Qc:=aH (.s .n (.s .n (.s .n (.s .n (.s .n (.s .n (.s (.s .n (.s (.lp [.box 2 41 12 [],.leaf 8 (.int .i64)] 0 false .n) .n)) (.s .n (.s (.s .n (.s (.lp [.box 2 41 12 [],.leaf 9 (.int .i64)] 2 false .n) .n)) (.s .n (.s (.s .n (.s (.lp [.row 10 10 72 6 (.st 8),.leaf 11 (.int .i64)] 4 false .n) .n)) .n))))))))))) [(2,[79,103,104]),(4,[79,103,104]),(7,[79,103,104]),(11,[79,103,104]),(12,[79,103,104]),(13,[79,103,104]),(17,[103,104]),(25,[10,79,103,104]),(26,[10,79,103,104])] [4,5] [] (.cons ph (.cons Cu (.cons T5 (.cons zW (.cons Nu (.cons xU (.cons Lb (.cons Qf (.cons NC (.cons Ga .nil)))))))))) Tryz.mixed Tryz.func48
def F7:Ent:=⟨[.ag 12,.ag 9],[.ag 12,.ag 10],fun x=>so x.1 x.2.1⟩
theorem Qj:EOk prog 27 F7:=aH .n [] [4,5] [] (.cons KN (.cons wM (.cons Qh (.cons K9 (.cons KL (.cons Ut (.cons Qb (.cons UB (.cons QB (.cons ph .nil)))))))))) Tryz.mixed Tryz.func27
noncomputable def vp (x:ct [.lf (.int .i64),.lf (.int .i64)]) : Option (bc [.lf (.int .i64)]):=gz ⟨prog,[],15,[.lf (.int .i64)],[.tmp 4],[],[],[]⟩ ((Tryz.f10).body.getD .skip) (.n) [.lf (.int .i64),.lf (.int .i64)] x
noncomputable def vr:Ent:=⟨[.lf (.int .i64),.lf (.int .i64)],[.lf (.int .i64)],vp⟩
theorem vo:bN prog 10 [.lf (.int .i64),.lf (.int .i64)] [.lf (.int .i64)] vp:=cj (n:=15) (.nil) Tryz.mixed Tryz.func10 rfl (by kernel_rfl) rfl rfl rfl (fun _=>rfl)
noncomputable def BW (x:ct [.lf (.sl (.int .i64)),.lf (.sl (.int .i64))]) : Option (bc [.lf (.bool)]):=gz ⟨prog,[],26,[.lf (.bool)],[.tmp 4],[],[],[]⟩ ((Tryz.f22).body.getD .skip) (.s (.n) (.s (.n) (.s (.s (.n) (.s (.lp [.leaf 4 (.bool),.leaf 5 (.int .i64)] 0 true (.n)) .n)) (.n)))) [.lf (.sl (.int .i64)),.lf (.sl (.int .i64))] x
noncomputable def UN:Ent:=⟨[.lf (.sl (.int .i64)),.lf (.sl (.int .i64))],[.lf (.bool)],BW⟩
theorem UM:bN prog 22 [.lf (.sl (.int .i64)),.lf (.sl (.int .i64))] [.lf (.bool)] BW:=cj (n:=26) (.nil) Tryz.mixed Tryz.func22 rfl (by kernel_rfl) rfl rfl rfl (fun _=>rfl)
noncomputable def xY (x:ct []) : Option (bc [.lf (.bool)]):=gz ⟨prog,[(26,BJ),(11,qo),(16,jg),(20,vk)],37,[.lf (.bool)],[.tmp 0],[],[],[]⟩ ((Tryz.f7).body.getD .skip) (.n) [] x
noncomputable def xZ:Ent:=⟨[],[.lf (.bool)],xY⟩
theorem xX:bN prog 7 [] [.lf (.bool)] xY:=cj (n:=37) (.cons (Jg) (.cons (qn) (.cons (jf) (.cons (vj) (.nil))))) Tryz.mixed Tryz.func7 rfl (by kernel_rfl) rfl rfl rfl (fun _=>rfl)
abbrev Tx:=List UInt8
def sv (l:Tx) : Value:=.string ⟨l.toArray⟩
theorem ZU (S:ByteArray) : sv S.data.toList = .string S:=by cases S; rfl
structure QD where
 path:Tx
 caps:List (Int×Int)
 user:Int
def above (l:Tx) : Tx:=((l.reverse.dropWhile (fun b=>b != 46)).drop 1).reverse
theorem WY {l:Tx} (h:(46:UInt8) ∉ l) : above l = []:=by
 unfold above
 have hp:∀ x∈l.reverse,(x != 46)=true:=fun x hx=>by
  simp
  intro e
  subst e
  exact h (List.mem_reverse.1 hx)
 have:=List.dropWhile_append_of_pos (l₂:=[]) hp
 rw [List.append_nil] at this
 rw [this]
 rfl
theorem WZ {a t:Tx} (h:(46:UInt8) ∉ t) : above (a++46::t)=a:=by
 unfold above
 have hp:∀ x∈t.reverse,(x != 46)=true:=fun x hx=>by simp; intro e; subst e; exact h (List.mem_reverse.1 hx)
 rw [List.reverse_append,List.reverse_cons,List.append_assoc,List.dropWhile_append_of_pos hp]
 simp
def lq (p:Tx) (q:QD) : Bool:=decide (p≠[])&&decide (above q.path=p)
def cz (p:Tx) (l:List QD) : List Tx:=(l.filter (lq p)).map (·.path)
theorem ED (l:List QD) : cz [] l = []:=by
 unfold cz
 have:l.filter (lq []) = []:=by
  rw [List.filter_eq_nil_iff]
  intro q _
  simp [lq]
 rw [this]; rfl
theorem Th {p:Tx} {l:List QD} {k:Nat} (h:k < l.length) : cz p (l.take (k + 1))=cz p (l.take k)++if lq p l[k] then [l[k].path] else []:=by
 unfold cz
 rw [List.take_succ_eq_append_getElem h,List.filter_append,List.map_append]
 congr 1
 by_cases hk:lq p l[k] = true
 ·simp [hk]
 ·simp [hk]
theorem V0 (p:Tx) (l:List QD) : (cz p l).length≤l.length:=by
 unfold cz
 rw [List.length_map]
 exact List.length_filter_le _ _
theorem X9 {p:Tx} {q:QD} (h0:p≠[]) (h:above q.path=p) : lq p q=true:=by simp [lq,h0,h]
theorem ZA {p:Tx} {q:QD} (h : ¬ above q.path=p) : lq p q=false:=by simp [lq,h]
theorem Y4 {z x:ByteArray} (h : ¬ z=x) : (z.toList==x.toList)=false:=by
 rw [beq_eq_false_iff_ne]
 intro e
 rw [ByteArray.toList_eq,ByteArray.toList_eq] at e
 apply h
 cases z; cases x
 simp only at e
 rw [Array.toList_inj] at e
 rw [e]
theorem vJ (S:ByteArray) : S.size=S.data.toList.length:=by cases S; rfl
theorem WP (S:ByteArray) (k:Nat) (h:k < S.size) : S[k] = S.data.toList[k]'(by rw [← vJ]; exact h):=by cases S; rfl
theorem ZM {S:ByteArray} : S=⟨#[]⟩↔S.data.toList = []:=by
 cases S with
 | mk d => constructor
           ·intro h; injection h with h; rw [h]
           ·intro h; simp at h; rw [h]
theorem R7 (S:ByteArray) (i j:Nat) : (S.extract i j).data.toList=(S.data.toList.drop i).take (j - i):=by
 cases S with
 | mk d=>simp [ByteArray.extract,ByteArray.copySlice,Array.toList_extract,List.extract_eq_take_drop]
theorem Y5 {T S:ByteArray} (e:T.data.toList=S.data.toList) : T=S:=by
 cases T; cases S; simp only at e; rw [Array.toList_inj] at e; rw [e]
def ce (cs:List (Int×Int)) : List Value:=cs.flatMap fun p=>[.int .i64 p.1,.int .i64 p.2]
theorem Ha (cs:List (Int×Int)) (a b:Int) : ce (cs ++ [(a,b)])=ce cs ++ [.int .i64 a,.int .i64 b]:=by simp [ce]
structure QC where
 p:ByteArray
 A:Option Addr
 n:Nat
 c:Nat
 u:Int
def LQ (q:QC) : List Value:=[.string q.p,.slice q.A q.n q.c,.int .i64 q.u]
def fK (qs:List QC) : List Value:=qs.flatMap LQ
theorem LR (qs:List QC) (q:QC) : fK (qs ++ [q])=fK qs++LQ q:=by simp [fK]
theorem Tryz.infoStr:(prog.info? 9).map (fun i=>(i.zero,i.size,i.bytes))=some (some (.string ⟨#[]⟩),1,16):=by kernel_rfl
theorem Tryz.infoQ:(prog.info? 99).map (fun i=>(i.zero,i.size,i.bytes))=some (some (.agg #[.string ⟨#[]⟩,.slice none 0 0,.int .i64 0]),3,48):=by kernel_rfl
theorem aaB {s:ByteArray} {A:Option Addr} {n c:Nat} {i:Int} : ∀ u∈[Value.string s,Value.slice A n c,Value.int .i64 i],u.oneCell' = true:=by
 intro u hu
 simp only [List.mem_cons,List.mem_nil_iff,or_false] at hu
 rcases hu with rfl | rfl | rfl <;> rfl
structure Y8 (w:World) (g k:Nat) (q:QD) : Prop where
 ex:∃ (P:ByteArray) (A:Option Addr) (c:Nat),w.cell? ⟨g,k * 3,none⟩=some (.string P)∧w.cell? ⟨g,k * 3 + 1,none⟩=some (.slice A q.caps.length c)∧w.cell? ⟨g,k * 3 + 2,none⟩=some (.int .i64 q.user)∧P.data.toList=q.path∧RdK 2 w (.slice A q.caps.length c) q.caps.length (ce q.caps)
def QAt (w:World) (v:Value) (ds:List QD) : Prop:=∃ A c,v = .slice A ds.length c∧ds.length≤c∧c≤maxLen∧(0 < ds.length→∃ g,A=some ⟨g,0,none⟩∧g < w.heap.size∧∀ k (h:k < ds.length),Y8 w g k ds[k])
theorem QAt.open {w:World} {v:Value} {ds:List QD} (h:QAt w v ds) : ∃ A N c,v = .slice A N c∧N=ds.length∧N≤c∧c≤9223372036854775807∧(0 < N→∃ g,A=some ⟨g,0,none⟩∧g < w.heap.size∧∀ k (h:k < ds.length),Y8 w g k ds[k]):=by
 obtain ⟨A,c,rfl,h1,h2,h3⟩:=h
 unfold maxLen at h2
 exact ⟨A,_,c,rfl,rfl,h1,by omega,h3⟩
theorem Ln (a n:Int) (w:World) (hn : 0 < n∧n≤1125899906842625) :
  Calls prog 53 #[.int .i64 a,.int .i64 n] w fun e w'=>e = .returned (.int .i64 (a % n))∧w=w':=by
 obtain ⟨n0,n1⟩:=hn
 have hz:(n==0)=false:=by simp; omega
 have l1:a.tmod n < n:=Int.tmod_lt_of_pos a n0
 have l2 : -n < a.tmod n:=by have:=Int.lt_tmod_of_pos a n0; omega
 by_cases hneg:a.tmod n < 0
 ·rw [MF n0 hneg]
  go_enter Tryz.func53,Tryz.ntmps53
  go_wp2
  go_ret
  exact ⟨rfl,rfl⟩
 ·rw [ME n0 hneg]
  go_enter Tryz.func53,Tryz.ntmps53
  go_wp2
  go_ret
  exact ⟨rfl,rfl⟩
theorem gA (a:Int) (n:Nat) (m:Int) (w:World) (hm:m=(n:Int)) (hn : 0 < n∧n≤1125899906842625) :
  Calls prog 53 #[.int .i64 a,.int .i64 m] w fun e w'=>∃ y:Nat,e = .returned (.int .i64 (y:Int))∧(y:Int)=a % (n:Int)∧y < n∧w=w':=by
 subst hm
 refine (Ln a n w ⟨by omega,by omega⟩).mono ?_
 rintro e w' ⟨rfl,rfl⟩
 have h0:=Int.emod_nonneg a (show (n:Int)≠0 by omega)
 have h1:=Int.emod_lt_of_pos a (show (0:Int) < n by omega)
 refine ⟨(a % (n:Int)).toNat,?_,by omega,by omega,rfl⟩
 rw [show (((a % (n:Int)).toNat:Nat) : Int)=a % (n:Int) from by omega]
theorem OJ {w:World} {base:Nat} {e:TypeId} {k:Nat} {v:Value} {n:Nat} {xs:List Value} (h:w.ownsRow base e k v n xs) {B:Nat} (hB:B≤base) : ∀ k,v.ownBlock=some k→B≤k :=
 fun k hk=>Nat.le_trans hB (h.lt k hk).1
theorem OC (S:ByteArray) (w:World) (hs:S.size≤1000000000) : Calls prog 100 #[.string S] w fun e w'=>∃ T:ByteArray,e = .returned (.string T)∧T.data.toList=above S.data.toList∧T.size≤S.size∧w=w':=by
 go_enter Tryz.func100,Tryz.ntmps100
 go_wp2
 go_loop [3] (fun i=>∃ k:Nat,k≤S.size∧i = .int .i64 ((k:Int) - 1)∧(46:UInt8) ∉ S.data.toList.drop k) (fun i=>(intOf i + 1).toNat)
 case atStart=>exact ⟨S.size,Nat.le_refl _,rfl,by rw [List.drop_of_length_le (by rw [vJ]; omega)]; simp⟩
 case round =>
  obtain ⟨k,hk,rfl,hno⟩:=hrel
  have HNO:=Lib.hid hno
  clear hno
  cases k with
  | zero =>
   have H2:=Lib.hid (WY (l:=S.data.toList) (by have:=HNO.out; simpa using this))
   go_wp2
   go_ret
   exact ⟨⟨#[]⟩,rfl,H2.out.symm,Nat.zero_le _,rfl⟩
  | succ k =>
   have hkl:k < S.data.toList.length:=by rw [← vJ]; omega
   have e1:((k + 1:Nat) : Int) - 1=(k:Int):=by omega
   rw [e1]
   have i0:(0:Int)≤(k:Int):=by omega
   have i1:(k:Int) < (S.size:Int):=by omega
   have i2:(k:Int)≤1000000000:=by omega
   clear e1
   by_cases hd:S[k]'(by omega)=46
   ·have H2:=Lib.hid (show above S.data.toList=S.data.toList.take k by
     have e:S.data.toList=S.data.toList.take k++46::S.data.toList.drop (k + 1):=by
      have h4:S.data.toList[k] = 46:=by rw [← WP S k (by omega)]; exact hd
      have:=List.take_append_drop k S.data.toList
      rw [List.drop_eq_getElem_cons hkl,h4] at this
      exact this.symm
     have:=WZ (a:=S.data.toList.take k) HNO.out
     rw [← e] at this
     exact this)
    have hq:(((S[k]'(by omega)).toNat:Int) != 46)=false:=by rw [hd]; rfl
    have hq2:((S[k]'(by omega)).toNat:Int)=46:=by rw [hd]; rfl
    clear hd
    go_wp2
    go_ret
    refine ⟨_,rfl,?_,?_,rfl⟩
    ·rw [R7,H2.out]; simp
    ·rw [vJ,R7,vJ]; simp; omega
   ·have hq : ¬ ((S[k]'(by omega)).toNat:Int)=46:=fun h=>hd (UInt8.toNat.inj (by have:(46:UInt8).toNat=46:=rfl; omega))
    have hq2:(((S[k]'(by omega)).toNat:Int) != 46)=true:=by simpa using hq
    have HN2:=Lib.hid (show (46:UInt8) ∉ S.data.toList.drop k by
     rw [List.drop_eq_getElem_cons hkl,List.mem_cons,not_or]
     exact ⟨fun e=>hd (by rw [WP S k (by omega)]; exact e.symm),HNO.out⟩)
    clear hd
    go_wp2
    go_round
    case rel=>exact ⟨k,by omega,by simp,HN2.out⟩
    case measure=>simp [intOf]
def Xh (p:Tx) (ds:List QD) (w:World) (e:Ending) (w':World) : Prop:=∃ A n c,e = .returned (.slice A n c)∧n=(cz p ds).length∧w'.ownsRow w.heap.size 9 1 (.slice A n c) n ((cz p ds).map sv)∧Ext w w'
theorem Ef {w:World} {B B':Nat} {e:TypeId} {k:Nat} {v:Value} {n:Nat} {xs:List Value} (h:w.ownsRow B e k v n xs) (hB:B'≤B) : w.ownsRow B' e k v n xs:=by
 refine ⟨h.1,?_⟩
 rcases h.2 with hn | ⟨g,cap,cur,rfl,hb,hr⟩
 ·exact .inl hn
 ·exact .inr ⟨g,cap,cur,rfl,Nat.le_trans hB hb,hr⟩
theorem KD {w wr V w3:World} {B n:Nat} {v v':Value} {l:List Tx} {T:ByteArray} (HX:Ext w wr) (hV:Ext wr V) (hn:n=l.length) (HO:wr.ownsRow B 9 1 v n (l.map sv)) (hB:w.heap.size≤B)
  (ho3:w3.ownsRow B 9 1 v' (n + 1) (l.map sv ++ [.string T])) (hg3:V.grownBy w3 v.ownBlock) : w3.ownsRow B 9 1 v' (l ++ [T.data.toList]).length ((l ++ [T.data.toList]).map sv)∧Ext w w3:=by
 refine ⟨?_,(HX.trans hV).trans' (cI hg3 ?_ (OJ HO hB))⟩
 ·rw [List.length_append,List.length_singleton,← hn,List.map_append,List.map_singleton,ZU]
  exact ho3
 ·exact Nat.le_trans HX.size hV.size
theorem SY (ds:List QD) (vl vq:Value) (S:ByteArray) (w:World) (hq:QAt w vq ds) (hlen:ds.length≤1000) (hp:∀ q∈ds,q.path.length≤1000000000) :
  Calls prog 54 #[.agg #[vl,vq],.string S] w (Xh S.data.toList ds w):=by
 obtain ⟨j0,hj,hy0,hy1,hy2⟩:=info_parts Tryz.infoStr
 obtain ⟨A,N,c,rfl,hN,hc1,hc2,hcell⟩:=hq.open
 have HC:=Lib.hid hcell
 have HN:=Lib.hid hN
 have HP:=Lib.hid hp
 have hN1:N≤1000:=by omega
 clear hcell hN hq hp
 go_enter Tryz.func54,Tryz.ntmps54
 go_wp2
 refine WS (fun W0 hW0=>?_)
 have X0:=Lib.hid (show Ext w W0 by rw [hW0]; exact aO _ _)
 have b1:W0.cell? ⟨w.heap.size,1,none⟩=some (.slice A N c):=by rw [hW0]; simp [go_sem]
 clear hW0
 go_loopw [5,6] (fun v i wr=>∃ (k:Nat),k≤N∧i = .int .i64 k∧wr.ownsRow W0.heap.size 9 1 v (cz S.data.toList (ds.take k)).length ((cz S.data.toList (ds.take k)).map sv)∧Ext W0 wr) (fun _ i _=>N - (intOf i).toNat)
 case atStart=>exact ⟨0,by omega,rfl,World.ownsRow_nil W0 _ _ 1,Ext.refl _⟩
 case round =>
  obtain ⟨k,hkN,rfl,ho,hx⟩:=hrel
  have HX:=Lib.hid hx
  have b1r:=hx.cell' b1
  have hkd:=V0 S.data.toList (ds.take k)
  rw [List.length_take] at hkd
  obtain ⟨n,hn⟩ : ∃ n,n=(cz S.data.toList (ds.take k)).length:=⟨_,rfl⟩
  rw [← hn] at ho hkd
  obtain ⟨Av,cv,rfl,hv1,hv2⟩:=cC ho
  have HNN:=Lib.hid hn
  have HO:=Lib.hid ho
  have hn1:n≤1000:=by omega
  clear hx ho hn hkd
  have i0:(0:Int)≤(k:Int):=by omega
  by_cases hlt:k < N
  ·have i1:(k:Int) < (N:Int):=by omega
   have hkl:k < ds.length:=by have:=HN.out; omega
   have HS:=Lib.hid (Th (p:=S.data.toList) hkl)
   by_cases hS:S=⟨#[]⟩
   ·have hE:S.toList = []:=by rw [hS,ByteArray.toList_eq]
    have HK:=Lib.hid (show cz S.data.toList (ds.take (k + 1))=cz S.data.toList (ds.take k) by rw [hS]; show cz [] _ = cz [] _; rw [ED,ED])
    clear hS
    go_wp2
    go_roundw
    case rel=>exact ⟨k + 1,by omega,by simp,by rw [HK.out,← HNN.out]; exact HO.out,HX.out⟩
    case measure=>simp [intOf]; omega
   ·have hne:S.data.toList≠[]:=fun h=>hS (ZM.2 h)
    have hE : ¬ S.toList = []:=by rw [ByteArray.toList_eq]; exact hne
    have hE2:S.toList.isEmpty=false:=by simp [hE]
    have hE3:(!S.toList.isEmpty)=true:=by simp [hE]
    obtain ⟨g,rfl,hg,hqc⟩:=HC.out (by omega)
    obtain ⟨P,Ac,cc,h1,h2,h3,h4,h5⟩:=(hqc k hkl).ex
    have c0:=(X0.out.trans HX.out).cell h1
    have HPP:=Lib.hid h4
    have hPs:P.size≤1000000000:=by rw [vJ,h4]; exact HP.out _ (List.getElem_mem hkl)
    clear hqc h1 h2 h3 h4 h5 hS
    go_wp2_with fail
    (with_reducible refine (OC P _ hPs).mono ?_)
    rintro e w2 ⟨T,rfl,hT,hTs,rfl⟩
    have HT:=Lib.hid hT
    clear hT
    by_cases hTS:T=S
    ·have HK:=Lib.hid (show cz S.data.toList (ds.take (k + 1))=cz S.data.toList (ds.take k) ++ [P.data.toList] by
      rw [HS.out,X9 hne (by rw [← HPP.out,← HT.out,hTS]),HPP.out]; rfl)
     have q1:(T.toList==S.toList)=true:=by rw [hTS]; simp
     clear hTS hne
     go_wp2_with (at_builtin; refine DJ _ rfl (.tmp 27) (.tmp 34) 31 31 rfl W0.heap.size 9 j0 (.string ⟨#[]⟩) 16 Tryz.underlying31 hj hy0 hy1 hy2 rfl _ n ((cz S.data.toList (ds.take k)).map sv) rfl (HO.out.alloc _) _ 1 _ rfl ((Rd.one _ _ _ _ _ rfl rfl).src ?c1 Tryz.underlying31) ?c3 ?c4 ?c5 ?_)
     case c1=>first | rfl | (intro u hu; simp at hu; subst hu; rfl)
     case c3=>simp [maxLen]; omega
     case c4=>omega
     case c5=>have h2:=HX.out.size; simp; omega
     intro v' w3 ho3 hg3 _ _
     obtain ⟨y1,y2⟩:=KD HX.out (aO wr _) HNN.out HO.out (Nat.le_refl _) ho3 hg3
     have Y1:=Lib.hid y1
     have Y2:=Lib.hid y2
     obtain ⟨A3,c3,rfl,_,_⟩:=cC ho3
     clear y1 y2 ho3 hg3
     go_wp2
     go_roundw
     case rel=>exact ⟨k + 1,by omega,by simp,by rw [HK.out]; exact Y1.out,Y2.out⟩
     case measure=>simp [intOf]; omega
    ·have HK:=Lib.hid (show cz S.data.toList (ds.take (k + 1))=cz S.data.toList (ds.take k) by
      rw [HS.out,ZA (by intro e; apply hTS; rw [← HPP.out,← HT.out] at e; cases T; cases S; simp only at e; rw [Array.toList_inj] at e; rw [e])]; simp)
     have q1:(T.toList==S.toList)=false:=Y4 hTS
     clear hTS hne
     go_wp2
     go_roundw
     case rel=>exact ⟨k + 1,by omega,by simp,by rw [HK.out,← HNN.out]; exact HO.out,HX.out⟩
     case measure=>simp [intOf]; omega
  ·have i1 : ¬ (k:Int) < (N:Int):=by omega
   have HK:=Lib.hid (show cz S.data.toList (ds.take k)=cz S.data.toList ds by rw [List.take_of_length_le (by have:=HN.out; omega)])
   go_wp2
   go_ret
   exact ⟨Av,n,cv,rfl,by rw [← HK.out]; exact HNN.out,by rw [← HK.out]; exact Ef HO.out X0.out.size,X0.out.trans HX.out⟩
theorem yW:∀ (cs:List (Int×Int)) (k:Nat) (a b:Int),k < cs.length→ce (cs.set k (a,b))=((ce cs).set (k * 2) (.int .i64 a)).set (k * 2 + 1) (.int .i64 b)
 | [],k,_,_,h=>by simp at h
 | p::cs,0,a,b,_=>rfl
 | p::cs,k + 1,a,b,h=>by
  have ih:=yW cs k a b (by simpa using h)
  rw [List.set_cons_succ]
  show [Value.int .i64 p.1,.int .i64 p.2] ++ ce (cs.set k (a,b))=((([Value.int .i64 p.1,.int .i64 p.2] ++ ce cs).set ((k + 1) * 2) (.int .i64 a)).set ((k + 1) * 2 + 1) (.int .i64 b))
  rw [ih,show (k + 1) * 2=k * 2 + 1 + 1 by omega]
  rfl
theorem Kx (cs:List (Int×Int)) (k:Nat) (h:k < cs.length) : (ce cs)[k * 2]? = some (.int .i64 cs[k].1)∧(ce cs)[k * 2 + 1]? = some (.int .i64 cs[k].2):=by
 induction cs generalizing k with
 | nil=>simp at h
 | cons p cs ih =>
  cases k with
  | zero=>exact ⟨rfl,rfl⟩
  | succ k =>
   obtain ⟨h1,h2⟩:=ih k (by simpa using h)
   have e:ce (p::cs) = .int .i64 p.1 :: .int .i64 p.2::ce cs:=rfl
   rw [e,show (k + 1) * 2=k * 2 + 1 + 1 by omega]
   exact ⟨h1,h2⟩
theorem uf (qs:List QC) (k:Nat) (q:QC) (h:qs[k]? = some q) : (fK qs)[k * 3]? = some (.string q.p)∧(fK qs)[k * 3 + 1]? = some (.slice q.A q.n q.c)∧(fK qs)[k * 3 + 2]? = some (.int .i64 q.u):=by
 induction qs generalizing k with
 | nil=>simp at h
 | cons p qs ih =>
  have e:fK (p::qs) = .string p.p :: .slice p.A p.n p.c :: .int .i64 p.u::fK qs:=rfl
  cases k with
  | zero =>
   simp at h
   subst h
   exact ⟨rfl,rfl,rfl⟩
  | succ k =>
   obtain ⟨h1,h2,h3⟩:=ih k (by simpa using h)
   rw [e,show (k + 1) * 3=k * 3 + 1 + 1 + 1 by omega]
   exact ⟨h1,h2,h3⟩
def cb (q:QC) : Option Nat:=(Value.slice q.A q.n q.c).ownBlock
def wY (w:World) (B:Nat) (q:QC) (d:QD) : Prop:=q.p.data.toList=d.path∧q.u=d.user∧q.n=d.caps.length∧w.ownsRow B 96 2 (.slice q.A q.n q.c) q.n (ce d.caps)
theorem wY.ext {w w':World} {B:Nat} {q:QC} {d:QD} (h:wY w B q d) (x:Ext w w') : wY w' B q d:=⟨h.1,h.2.1,h.2.2.1,lh h.2.2.2 x⟩
theorem wY.kept {w w':World} {B:Nat} {row:Option Nat} {q:QC} {d:QD} (h:wY w B q d) (x:w.grownBy w' row) (hr:cb q=none∨cb q≠row) : wY w' B q d:=⟨h.1,h.2.1,h.2.2.1,h.2.2.2.kept x hr⟩
structure iK (w:World) (B:Nat) (v:Value) (ds:List QD) (qs:List QC) : Prop where
 row:w.ownsRow B 99 3 v ds.length (fK qs)
 len:qs.length=ds.length
 each:∀ (k:Nat) (q:QC) (h:k < ds.length),qs[k]? = some q→wY w B q ds[k]
 apart:∀ (i j:Nat) (qi qj:QC),i≠j→qs[i]? = some qi→qs[j]? = some qj→∀ g,cb qi=some g→cb qj≠some g
theorem iK.nil (w:World) (B:Nat) : iK w B (.slice none 0 0) [] []:=⟨World.ownsRow_nil w _ _ 3,rfl,fun k _ h=>absurd h (by simp),fun i j qi qj _ h=>by simp at h⟩
theorem iK.ext {w w':World} {B:Nat} {v:Value} {ds:List QD} {qs:List QC} (h:iK w B v ds qs) (x:Ext w w') : iK w' B v ds qs :=
 ⟨lh h.row x,h.len,fun k q hk hq=>(h.each k q hk hq).ext x,h.apart⟩
theorem pb {w:World} {B e e' k n R:Nat} {v:Value} {xs:List Value} {cur:Array Value} {f:Nat×Nat} (h:w.ownsRow B e k v n xs) (hR:w.heap[R]? = some (.cells cur e' f)) (he:e≠e') : v.ownBlock≠some R:=by
 rcases h.2 with ⟨rfl,_⟩ | ⟨g,cap,cur',rfl,_,hg,_⟩
 ·intro e1; cases e1
 ·intro e1
  simp [Value.ownBlock] at e1
  subst e1
  rw [hg] at hR
  injection hR with hR
  injection hR with _ h2
  exact he h2
theorem iK.kept {w w':World} {B R:Nat} {v:Value} {ds:List QD} {qs:List QC} {cur:Array Value} {e':TypeId} {f:Nat×Nat} (h:iK w B v ds qs) (x:w.grownBy w' (some R)) (hR:w.heap[R]? = some (.cells cur e' f)) (h1 : 99≠e') (h2 : 96≠e') : iK w' B v ds qs :=
 ⟨h.row.kept x (.inr (pb h.row hR h1)),h.len,fun k q hk hq=>(h.each k q hk hq).kept x (.inr (pb (h.each k q hk hq).2.2.2 hR h2)),h.apart⟩
theorem iK.rd {w:World} {B:Nat} {v:Value} {ds:List QD} {qs:List QC} (h:iK w B v ds qs) : QAt w v ds:=by
 have hl:=h.len
 rcases h.row.2 with ⟨rfl,h0⟩ | ⟨g,cap,cur,rfl,hb,hg,hc,hm,_⟩
 ·exact ⟨none,0,by rw [h0],by omega,by simp [maxLen],fun hn=>by omega⟩
 ·refine ⟨_,cap,rfl,hc,hm,fun hn=>⟨g,rfl,(Array.getElem?_eq_some_iff.1 hg).1,fun k hk=>?_⟩⟩
  obtain ⟨q,hq⟩ : ∃ q,qs[k]? = some q:=⟨qs[k]'(by omega),by rw [zq]⟩
  obtain ⟨h1,h2,h3,h4⟩:=h.each k q hk hq
  obtain ⟨c1,c2,c3⟩:=uf qs k q hq
  have hat:=fun j (hj:j < ds.length * 3)=>h.row.cellAt j hj
  refine ⟨q.p,q.A,q.c,?_,?_,?_,h1,?_⟩
  ·rw [hat _ (by omega)]; exact c1
  ·rw [hat _ (by omega),← h3]; exact c2
  ·rw [hat _ (by omega),← h2]; exact c3
  ·rw [← h3]; exact RdK.of_own h4
theorem iK.snoc {w V w4:World} {B:Nat} {v v':Value} {ds:List QD} {qs:List QC} {q:QC} {d:QD} (h:iK w B v ds qs) (x:Ext w V) (hq:wY V B q d) (hnew:∀ g,cb q=some g→∀ (i:Nat) (qi:QC),qs[i]? = some qi→cb qi≠some g)
  (hown:w4.ownsRow B 99 3 v' (ds.length + 1) (fK qs++LQ q)) (hg:V.grownBy w4 v.ownBlock) : iK w4 B v' (ds ++ [d]) (qs ++ [q]):=by
 have hx:=h.ext x
 have hne:∀ q' d',wY V B q' d'→cb q' = none∨cb q'≠v.ownBlock:=fun q' d' h'=>Zr h'.2.2.2 hx.row (by decide)
 refine ⟨by rw [List.length_append,List.length_singleton,LR]; exact hown,by simp [h.len],fun k q' hk hq'=>?_,fun i j qi qj hij hi hj g hgi=>?_⟩
 ·rw [List.length_append,List.length_singleton] at hk
  by_cases hlt:k < ds.length
  ·rw [List.getElem?_append_left (by rw [h.len]; exact hlt)] at hq'
   rw [List.getElem_append_left hlt]
   exact (hx.each k q' hlt hq').kept hg (hne _ _ (hx.each k q' hlt hq'))
  ·obtain rfl:k=ds.length:=by omega
   rw [List.getElem?_append_right (by rw [h.len]; exact Nat.le_refl _),h.len] at hq'
   simp at hq'
   subst hq'
   rw [List.getElem_append_right (Nat.le_refl _)]
   simp only [Nat.sub_self,List.getElem_cons_zero]
   exact hq.kept hg (hne _ _ hq)
 ·by_cases h1:i < qs.length
  ·rw [List.getElem?_append_left h1] at hi
   by_cases h2:j < qs.length
   ·rw [List.getElem?_append_left h2] at hj
    exact h.apart i j qi qj hij hi hj g hgi
   ·rw [List.getElem?_append_right (by omega)] at hj
    have h3:j - qs.length=0:=by
     have:=(zg.1 hj).1
     simp at this; omega
    rw [h3] at hj
    simp at hj
    subst hj
    intro e
    exact hnew g e i qi hi hgi
  ·rw [List.getElem?_append_right (by omega)] at hi
   have h3:i - qs.length=0:=by
    have:=(zg.1 hi).1
    simp at this; omega
   rw [h3] at hi
   simp at hi
   subst hi
   by_cases h2:j < qs.length
   ·rw [List.getElem?_append_left h2] at hj
    exact hnew g hgi j qj hj
   ·exfalso
    have:=(zg.1 hj).1
    simp at this
    omega
def JM (ds:List QD) (m k:Nat) (a b:Int) : List QD:=ds.modify m fun q=>⟨q.path,q.caps.set k (a,b),q.user⟩
theorem qX (ds:List QD) (m k:Nat) (a b:Int) : (JM ds m k a b).length=ds.length:=by simp [JM]
theorem iK.put {w:World} {B:Nat} {v:Value} {ds:List QD} {qs:List QC} (h:iK w B v ds qs) {m k:Nat} (hm:m < ds.length) (hk:k < (ds[m]).caps.length) :
  ∃ gq cq g c,v = .slice (some ⟨gq,0,none⟩) ds.length cq∧w.cell? ⟨gq,m * 3 + 1,none⟩=some (.slice (some ⟨g,0,none⟩) (ds[m]).caps.length c)∧B≤g∧g < w.heap.size∧(∃ cur,w.heap[g]? = some (.cells cur 96 (0,0))) ∧
   (∀ j,w.frozen? ⟨g,j,none⟩=false)∧w.cell? ⟨g,k * 2,none⟩=some (.int .i64 ((ds[m]).caps[k]).1)∧w.cell? ⟨g,k * 2 + 1,none⟩=some (.int .i64 ((ds[m]).caps[k]).2) ∧
   ∀ a b,iK ((w.setCell ⟨g,k * 2,none⟩ (.int .i64 a)).setCell ⟨g,k * 2 + 1,none⟩ (.int .i64 b)) B v (JM ds m k a b) qs∧w.grownBy ((w.setCell ⟨g,k * 2,none⟩ (.int .i64 a)).setCell ⟨g,k * 2 + 1,none⟩ (.int .i64 b)) (some g):=by
 have hl:=h.len
 obtain ⟨q,hq⟩ : ∃ q,qs[m]? = some q:=⟨qs[m]'(by omega),by rw [zq]⟩
 obtain ⟨h1,h2,h3,h4⟩:=h.each m q hm hq
 rcases h.row.2 with ⟨_,h0⟩ | ⟨gq,cq,cur,rfl,hb,hg,hc,hmx,_⟩
 ·omega
 rcases h4.2 with ⟨_,h0⟩ | ⟨g,c,cur',ev,hb',hg',hc',hm',_⟩
 ·omega
 injection ev with eA eN eC
 have h4':w.ownsRow B 96 2 (.slice (some ⟨g,0,none⟩) q.n q.c) q.n (ce ds[m].caps):=by rw [← eA]; exact h4
 have hcq:cb q=some g:=by unfold cb; rw [eA]; rfl
 have hcell:=h.row.cellAt (m * 3 + 1) (by omega)
 rw [(uf qs m q hq).2.1,h3,eA] at hcell
 obtain ⟨k1,k2⟩:=Kx ds[m].caps k hk
 have c1:=h4'.cellAt (k * 2) (by omega)
 have c2:=h4'.cellAt (k * 2 + 1) (by omega)
 rw [k1] at c1
 rw [k2] at c2
 refine ⟨gq,cq,g,q.c,rfl,hcell,hb',(Array.getElem?_eq_some_iff.1 hg').1,⟨cur',hg'⟩,h4'.frozenAt,c1,c2,fun a b=>?_⟩
 have hgr:w.grownBy ((w.setCell ⟨g,k * 2,none⟩ (.int .i64 a)).setCell ⟨g,k * 2 + 1,none⟩ (.int .i64 b)) (some g) :=
  ⟨rfl,rfl,rfl,by simp [World.setCell],fun i _ hi=>(Below.heap_setCell _ _ _ _ (fun e=>hi (by rw [e]))).trans (Below.heap_setCell _ _ _ _ (fun e=>hi (by rw [e])))⟩
 have st:=(h4'.stored (k * 2) (.int .i64 a)).1.stored (k * 2 + 1) (.int .i64 b)
 rw [← yW _ _ _ _ hk] at st
 refine ⟨⟨?_,by rw [qX]; exact hl,fun i q' hi hq'=>?_,h.apart⟩,hgr⟩
 ·rw [qX]
  exact h.row.kept hgr (.inr (pb h.row hg' (by decide)))
 ·rw [qX] at hi
  simp only [JM,List.getElem_modify]
  by_cases him:m=i
  ·subst him
   rw [hq] at hq'
   injection hq' with hq'
   subst hq'
   rw [if_pos rfl]
   refine ⟨h1,h2,by simpa using h3,?_⟩
   rw [eA]
   exact st.1
  ·rw [if_neg him]
   exact (h.each i q' hi hq').kept hgr (.inr fun e=>h.apart m i q q' him hq hq' g hcq e)
def Vl:Tx:=[114,111,111,116]
def my:Nat→List Tx
 | 0=>[[114,111,111,116]]
 | 1=>[[114,111,111,116],[114,111,111,116,46,97],[114,111,111,116,46,98]]
 | 2=>[[114,111,111,116],[114,111,111,116,46,97],[114,111,111,116,46,97,46,120],[114,111,111,116,46,97,46,121],[114,111,111,116,46,98]]
 | 3=>[[114,111,111,116],[114,111,111,116,46,97],[114,111,111,116,46,98],[114,111,111,116,46,98,46,120],[114,111,111,116,46,98,46,120,46,112],[114,111,111,116,46,98,46,120,46,113],[114,111,111,116,46,99]]
 | _=>[[114,111,111,116],[114,111,111,116,46,97]]
def gpu:Tx:=[103,112,117]
def CV (nl:Nat) : List Tx:=([[],gpu] : List Tx).take nl
theorem qJ {nl:Nat} (h:nl≤2) : (CV nl).length=nl:=by simp [CV]; omega
theorem Lu (y:Nat) : (my y).length≤7:=by
 unfold my
 split <;> decide
theorem Ls (y:Nat) : ∀ p∈my y,p.length≤11:=by
 unfold my
 split <;> decide
theorem Og (y:Nat) : (my y).Nodup:=by
 unfold my
 split <;> decide
def Ch (p:Tx) (ps:List Tx) : List Tx:=ps.filter fun x=>decide (p≠[])&&decide (above x=p)
theorem EE (p:Tx) (ds:List QD) : cz p ds=Ch p (ds.map (·.path)):=by
 unfold cz Ch
 rw [List.filter_map]
 rfl
def ru:Int×Int:=(10000,10000)
structure G1 (nl:Nat) (ps:List Tx) (k:Nat) (ds:List QD) : Prop where
 paths:ds.map (·.path)=ps.take k
 each:∀ q∈ds,q.caps=List.replicate nl ru∧1≤q.user∧q.user≤1000000
theorem G1.nil (nl:Nat) (ps:List Tx) : G1 nl ps 0 []:=⟨rfl,by simp⟩
theorem G1.snoc {nl k:Nat} {ps:List Tx} {ds:List QD} (h:G1 nl ps k ds) (hk:k < ps.length) {u:Int} (h1 : 1≤u) (h2:u≤1000000) : G1 nl ps (k + 1) (ds ++ [⟨ps[k],List.replicate nl ru,u⟩]):=by
 refine ⟨?_,fun q hq=>?_⟩
 ·rw [List.map_append,h.paths,List.take_succ_eq_append_getElem hk]; rfl
 ·rcases List.mem_append.1 hq with hq | hq
  ·exact h.each q hq
  ·simp at hq; subst hq; exact ⟨rfl,h1,h2⟩
def aar (c:Int×Int) : Prop:=0≤c.1∧c.1≤c.2∧c.2≤10000
structure Gd (nl:Nat) (ps:List Tx) (ds:List QD) : Prop where
 paths:ds.map (·.path)=ps
 each:∀ q∈ds,q.caps.length=nl∧1≤q.user∧q.user≤1000000∧∀ c∈q.caps,aar c
 root:∀ q∈ds,q.path=Vl→q.caps=List.replicate nl ru
theorem Gd.len {nl:Nat} {ps:List Tx} {ds:List QD} (h:Gd nl ps ds) : ds.length=ps.length:=by
 have:=congrArg List.length h.paths
 simpa using this
def H4 (k:Nat) (q:QD) : Int:=(q.caps.getD k (0,0)).1
def OP (k:Nat) (l:List QD) : Int:=(l.map (H4 k)).sum
def mL (p:Tx) (ds:List QD) : List QD:=ds.filter (lq p)
theorem ux (p:Tx) (ds:List QD) : (mL p ds).length=(cz p ds).length:=by simp [mL,cz]
def YO (k:Nat) (p:Tx) (ds:List QD) : Prop:=mL p ds≠[]→OP k (mL p ds)=10000
structure GI (nl:Nat) (ps:List Tx) (i:Nat) (ds:List QD) : Prop where
 gd:Gd nl ps ds
 done:∀ i' (h:i' < ps.length),i' < i→∀ k,k < nl→YO k ps[i'] ds
structure GK (nl:Nat) (ps:List Tx) (i k:Nat) (ds:List QD) : Prop where
 gi:GI nl ps i ds
 part:∀ h:i < ps.length,∀ k',k' < k→YO k' ps[i] ds
structure GJ (nl:Nat) (ps:List Tx) (i k j:Nat) (left:Int) (ds:List QD) : Prop where
 gk:GK nl ps i k ds
 lo : 0≤left
 hi:left≤10000
 sum:∀ h:i < ps.length,OP k ((mL ps[i] ds).take j)=10000 - left
 last:∀ h:i < ps.length,0 < j→j=(mL ps[i] ds).length→left=0
def qA (p:Tx) (k:Nat) (a b:Int) (q:QD) : QD:=if q.path=p then ⟨q.path,q.caps.set k (a,b),q.user⟩ else q
def iy (p:Tx) (k:Nat) (a b:Int) (ds:List QD) : List QD:=ds.map (qA p k a b)
def eL (p:Tx) (k:Nat) (a b:Int) (ds:List QD) (m:Nat) : List QD:=(ds.take m).map (qA p k a b)++ds.drop m
theorem D0 (p:Tx) (k:Nat) (a b:Int) (ds:List QD) : eL p k a b ds 0=ds:=by simp [eL]
theorem HF (p:Tx) (k:Nat) (a b:Int) (ds:List QD) : eL p k a b ds ds.length=iy p k a b ds:=by simp [eL,iy]
theorem gF (p:Tx) (k:Nat) (a b:Int) (ds:List QD) (m:Nat) : (eL p k a b ds m).length=ds.length:=by simp [eL]; omega
theorem AM (p:Tx) (k:Nat) (a b:Int) (ds:List QD) (m:Nat) (hm:m < ds.length) (h:m < (eL p k a b ds m).length) : (eL p k a b ds m)[m] = ds[m]:=by
 have h2:(eL p k a b ds m)[m]? = ds[m]? := by
  unfold eL
  rw [List.getElem?_append_right (by simp; omega),List.getElem?_drop]
  congr 1
  simp
  omega
 rw [zq h,zq hm] at h2
 injection h2
theorem AR (p:Tx) (k:Nat) (a b:Int) (q:QD) : (qA p k a b q).path=q.path:=by unfold qA; split <;> rfl
theorem S4 (p:Tx) (k:Nat) (a b:Int) (q:QD) : (qA p k a b q).caps.length=q.caps.length:=by unfold qA; split <;> simp
theorem HJ (p:Tx) (k:Nat) (a b:Int) (q:QD) : (qA p k a b q).user=q.user:=by unfold qA; split <;> rfl
theorem JL {p:Tx} {k:Nat} {a b:Int} {q:QD} (h:q.path≠p) : qA p k a b q=q:=by unfold qA; rw [if_neg h]
theorem LC {p:Tx} {k:Nat} {a b:Int} {ds:List QD} {m:Nat} (hm:m < ds.length) (h:ds[m].path≠p) : eL p k a b ds (m + 1)=eL p k a b ds m:=by
 unfold eL
 rw [List.take_succ_eq_append_getElem hm,List.map_append,List.drop_eq_getElem_cons hm]
 simp [JL h]
theorem Er {α : Type} : ∀ (l:List α) (x : α) (r:List α) (f : α→α) (n:Nat),l.length=n→(l++x::r).modify n f=l++f x::r
 | [],x,r,f,_,h=>by subst h; rfl
 | y::l,x,r,f,n,h=>by
  subst h
  simp only [List.cons_append,List.length_cons,List.modify_succ_cons]
  rw [Er l x r f _ rfl]
theorem HB {p:Tx} {k:Nat} {a b:Int} {ds:List QD} {m:Nat} (hm:m < ds.length) (h:ds[m].path=p) : eL p k a b ds (m + 1)=(eL p k a b ds m).modify m (fun q=>⟨q.path,q.caps.set k (a,b),q.user⟩):=by
 have hl:((ds.take m).map (qA p k a b)).length=m:=by simp; omega
 unfold eL
 rw [List.take_succ_eq_append_getElem hm,List.map_append,List.append_assoc]
 conv=>rhs; rw [List.drop_eq_getElem_cons hm]
 rw [Er _ _ _ _ _ hl]
 simp [qA,h]
theorem G1.start {nl:Nat} {ps:List Tx} {ds:List QD} (h:G1 nl ps ps.length ds) : GI nl ps 0 ds:=by
 refine ⟨⟨by rw [h.paths,List.take_length],fun q hq=>?_,fun q hq _=>(h.each q hq).1⟩,fun _ _ h=>by omega⟩
 obtain ⟨h1,h2,h3⟩:=h.each q hq
 refine ⟨by rw [h1]; simp,h2,h3,fun c hc=>?_⟩
 rw [h1] at hc
 have:=List.eq_of_mem_replicate hc
 subst this
 exact ⟨by decide,by decide,by decide⟩
theorem GI.toK {nl i:Nat} {ps:List Tx} {ds:List QD} (h:GI nl ps i ds) : GK nl ps i 0 ds:=⟨h,fun _ _ h=>by omega⟩
theorem GK.toJ {nl i k:Nat} {ps:List Tx} {ds:List QD} (h:GK nl ps i k ds) : GJ nl ps i k 0 10000 ds:=⟨h,by omega,by omega,fun _=>by simp [OP],fun _ h=>by omega⟩
theorem GJ.end {nl i k j:Nat} {left:Int} {ps:List Tx} {ds:List QD} (h:GJ nl ps i k j left ds) (hj:∀ h:i < ps.length,j=(cz ps[i] ds).length) : GK nl ps i (k + 1) ds:=by
 refine ⟨h.gk.gi,fun hi k' hk' hne=>?_⟩
 rcases Nat.lt_or_ge k' k with h1 | h1
 ·exact h.gk.part hi k' h1 hne
 ·obtain rfl:k' = k:=by omega
  have h2:=hj hi
  rw [← ux] at h2
  have h3:=h.sum hi
  have h4:=h.last hi (by
   have:(mL ps[i] ds).length≠0:=fun e=>hne (List.eq_nil_of_length_eq_zero e)
   omega) h2
  rw [h2,List.take_length] at h3
  omega
theorem GK.end {nl i:Nat} {ps:List Tx} {ds:List QD} (h:GK nl ps i nl ds) : GI nl ps (i + 1) ds:=by
 refine ⟨h.gi.gd,fun i' hi' hlt k hk=>?_⟩
 rcases Nat.lt_or_ge i' i with h1 | h1
 ·exact h.gi.done i' hi' h1 k hk
 ·obtain rfl:i' = i:=by omega
  exact h.part hi' k hk
theorem L4 {α : Type} {l:List α} (h:l.Nodup) {i j:Nat} (hi:i < l.length) (hj:j < l.length) (e:l[i] = l[j]) : i=j:=by
 rcases Nat.lt_trichotomy i j with h1 | h1 | h1
 ·exact absurd e (List.pairwise_iff_getElem.1 h i j hi hj h1)
 ·exact h1
 ·exact absurd e.symm (List.pairwise_iff_getElem.1 h j i hj hi h1)
theorem GY {p:Tx} {k k':Nat} {a b:Int} {q:QD} (h:k'≠k) : H4 k' (qA p k a b q)=H4 k' q:=by
 unfold qA H4
 split
 ·simp only [List.getD_eq_getElem?_getD]
  rw [List.getElem?_set_ne (by omega)]
 ·rfl
theorem D9 {p:Tx} {k:Nat} {a b:Int} {q:QD} (h:q.path=p) (hk:k < q.caps.length) : H4 k (qA p k a b q)=a:=by
 unfold qA H4
 rw [if_pos h]
 simp only [List.getD_eq_getElem?_getD]
 rw [List.getElem?_set_self (by simpa using hk)]
 rfl
theorem OV (pp p:Tx) (k:Nat) (a b:Int) (q:QD) : lq pp (qA p k a b q)=lq pp q:=by unfold lq; rw [AR]
theorem yJ (pp p:Tx) (k:Nat) (a b:Int) (ds:List QD) : mL pp (iy p k a b ds)=(mL pp ds).map (qA p k a b):=by
 unfold mL iy
 rw [List.filter_map]
 congr 1
 apply List.filter_congr
 intro q _
 exact OV pp p k a b q
theorem X4 {p:Tx} {k k':Nat} {a b:Int} (l:List QD) (h:k'≠k) : OP k' (l.map (qA p k a b))=OP k' l:=by
 unfold OP
 rw [List.map_map]
 congr 1
 apply List.map_congr_left
 intro q _
 exact GY h
theorem Ce {p:Tx} {k:Nat} {a b:Int} (l:List QD) (h:∀ q∈l,q.path≠p) : l.map (qA p k a b)=l:=by
 conv=>rhs; rw [← List.map_id l]
 apply List.map_congr_left
 intro q hq
 exact JL (h q hq)
theorem xq {pp:Tx} {ds:List QD} {q:QD} (h:q∈mL pp ds) : above q.path=pp∧pp≠[]:=by
 unfold mL at h
 have:=(List.mem_filter.1 h).2
 simp [lq] at this
 exact ⟨this.2,this.1⟩
theorem Gd.set {nl k:Nat} {p:Tx} {n mo:Int} {ps:List Tx} {ds:List QD} (h:Gd nl ps ds) (hp:p≠Vl) (h0 : 0≤n) (h2:n≤mo) (h3:mo≤10000) : Gd nl ps (iy p k n mo ds):=by
 refine ⟨?_,fun q hq=>?_,fun q hq hr=>?_⟩
 ·unfold iy
  rw [List.map_map,← h.paths]
  apply List.map_congr_left
  intro q _
  exact AR _ _ _ _ _
 ·unfold iy at hq
  obtain ⟨q',hq',rfl⟩:=List.mem_map.1 hq
  obtain ⟨h4,h5,h6,h7⟩:=h.each q' hq'
  refine ⟨by rw [S4]; exact h4,by rw [HJ]; exact h5,by rw [HJ]; exact h6,fun c hc=>?_⟩
  unfold qA at hc
  split at hc
  ·rcases List.mem_or_eq_of_mem_set hc with hc | hc
   ·exact h7 c hc
   ·subst hc; exact ⟨h0,h2,h3⟩
  ·exact h7 c hc
 ·unfold iy at hq
  obtain ⟨q',hq',rfl⟩:=List.mem_map.1 hq
  rw [AR] at hr
  rw [JL (by rw [hr]; exact fun e=>hp e.symm)]
  exact h.root q' hq' hr
theorem GJ.step {nl i k j:Nat} {left n mo:Int} {ps:List Tx} {ds:List QD} (h:GJ nl ps i k j left ds) (hps:ps.Nodup) (hi:i < ps.length) (hj:j < (cz ps[i] ds).length) (hk:k < nl) (h0 : 0≤n) (h1:n≤left) (hlast:j + 1=(cz ps[i] ds).length→n=left) (h2:n≤mo) (h3:mo≤10000) :
  GJ nl ps i k (j + 1) (left - n) (iy ((cz ps[i] ds)[j]) k n mo ds):=by
 have hgd:=h.gk.gi.gd
 have hjl:j < (mL ps[i] ds).length:=by rw [ux]; exact hj
 obtain ⟨p,hp⟩ : ∃ p,p=(cz ps[i] ds)[j]:=⟨_,rfl⟩
 have hpp:(mL ps[i] ds)[j].path=p:=by rw [hp]; simp [cz,mL]
 have hmem:(mL ps[i] ds)[j]∈mL ps[i] ds:=List.getElem_mem hjl
 have hab:above p=ps[i]:=by rw [← hpp]; exact (xq hmem).1
 have hne0:ps[i]≠[]:=(xq hmem).2
 have hroot:p≠Vl:=by
  intro e
  rw [e] at hab
  exact hne0 (hab.symm.trans (by decide))
 rw [← hp]
 have hnd:((mL ps[i] ds).map (·.path)).Nodup:=by
  unfold mL
  have h5:(ds.map (·.path)).Nodup:=by rw [hgd.paths]; exact hps
  exact List.Nodup.sublist (List.Sublist.map _ List.filter_sublist) h5
 have other:∀ i' (hi':i' < ps.length),i'≠i→mL ps[i'] (iy p k n mo ds)=mL ps[i'] ds:=by
  intro i' hi' hne
  rw [yJ,Ce]
  intro q hq e
  have:=(xq hq).1
  rw [e,hab] at this
  exact hne (L4 hps hi' hi this.symm)
 have hcap:k < ((mL ps[i] ds)[j]).caps.length:=by
  have:(mL ps[i] ds)[j]∈ds:=(List.mem_filter.1 hmem).1
  rw [(hgd.each _ this).1]; exact hk
 have before:((mL ps[i] ds).take j).map (qA p k n mo)=(mL ps[i] ds).take j:=by
  apply Ce
  intro q hq e
  obtain ⟨j',hj',e2⟩:=List.mem_iff_getElem.1 hq
  rw [List.length_take] at hj'
  rw [List.getElem_take] at e2
  have e3:((mL ps[i] ds).map (·.path))[j']'(by simp; omega)=((mL ps[i] ds).map (·.path))[j]'(by simpa using hjl):=by
   simp only [List.getElem_map]
   rw [e2,e,hpp]
  have:=L4 hnd _ _ e3
  omega
 refine ⟨⟨⟨hgd.set hroot h0 h2 h3,fun i' hi' hlt k' hk'=>?_⟩,fun _ k' hk'=>?_⟩,by omega,by have:=h.hi; omega,fun _=>?_,fun _ _ hjj=>?_⟩
 ·unfold YO
  rw [other i' hi' (by omega)]
  exact h.gk.gi.done i' hi' hlt k' hk'
 ·unfold YO
  rw [yJ,X4 _ (by omega)]
  intro hne
  exact h.gk.part hi k' hk' (fun e=>hne (by rw [e]; rfl))
 ·rw [yJ,← List.map_take,List.take_succ_eq_append_getElem hjl,List.map_append,before]
  have hs:=h.sum hi
  unfold OP at hs ⊢
  rw [List.map_append,List.sum_append,hs]
  simp only [List.map_cons,List.map_nil,List.sum_cons,List.sum_nil]
  rw [D9 hpp hcap]
  omega
 ·rw [yJ,List.length_map,ux] at hjj
  rw [hlast hjj]
  omega
def gh (v_l:(List ByteArray)) (v_s:aa) (af:Int) (st:(List ByteArray)) (v_i:Int) (x_:ByteArray) : Option (((List ByteArray))⊕(((List ByteArray)×Int))) :=
 let al:=st
 let v_k:Int:=0
 (ah (jb al v_s v_i v_l af) ab v_k).bind fun r13 =>
 let v_k:=r13
 (hiO al v_k).bind fun b14=>(aX ([] : (List ByteArray)) b14).bind fun b15=>let v_x:(List ByteArray):=b15
 (aX v_x [x_]).bind fun b16=>let v_x:(List ByteArray):=b16
 (loO al v_k).bind fun b17=>(aX v_x b17).bind fun b18=>let al:(List ByteArray):=b18
 some (.inl al)
theorem zZ (v_l:(List ByteArray)) (v_s:aa) (af:Int) (a_:(List ByteArray)) (hl:v_l.length≤1000000) : ah (lW v_l v_s af) ab (a_,(0))=nB (gh v_l v_s af) (fun a_=>(a_,((v_l.length:Int)))) a_ 0 v_l :=
 eV v_l (S:=(List ByteArray)×Int) (fun a_ k_=>(a_,(k_))) (gh v_l v_s af) (fun a_=>(a_,((v_l.length:Int)))) (an hl) (fun k a x hx=>by
  unfold lW gh; exact bI)
  (fun a=>by unfold lW; exact cE) a_
def gm (v_s:aa) (oJ:ByteArray) (st:(List aC)) (x_:aC) : Option (((List aC))⊕(((List aC)×Int))) :=
 let al:=st
 let v_a:aC:=x_
 (dx v_a).bind fun c12=>(if (!c12)=true then some true else some (!(v_a.bP.toList==oJ.toList))).bind fun q13=>if q13=true then
 some (.inl al)
 else
 let v_k:Int:=0
 (ah (jc al v_a) ab v_k).bind fun r14 =>
 let v_k:=r14
 (hiO al v_k).bind fun b15=>(aX ([] : (List aC)) b15).bind fun b16=>let v_x:(List aC):=b16
 (aX v_x [v_a]).bind fun b17=>let v_x:(List aC):=b17
 (loO al v_k).bind fun b18=>(aX v_x b18).bind fun b19=>let al:(List aC):=b19
 some (.inl al)
theorem Ab (v_s:aa) (oJ:ByteArray) (a_:(List aC)) (hl:v_s.aq.length≤1000000) : ah (lY v_s oJ) ab (a_,(0))=bk (gm v_s oJ) (fun a_=>(a_,((v_s.aq.length:Int)))) a_ v_s.aq :=
 ay v_s.aq (S:=(List aC)×Int) (fun a_ k_=>(a_,(k_))) (gm v_s oJ) (fun a_=>(a_,((v_s.aq.length:Int)))) (an hl) (fun k a x hx=>by
  unfold lY gm; exact bI)
  (fun a=>by unfold lY; exact cE) a_
def gj (al:(List aC)) (st:(List Int)) (x_:aC) : Option (((List Int))⊕(((List Int)×Int))) :=
 let v_l:=st
 (aX v_l [x_.fId]).bind fun b15=>let v_l:(List Int):=b15
 some (.inl v_l)
theorem Aa (al:(List aC)) (a_:(List Int)) (hl:al.length≤1000000) : ah (lX al) ab (a_,(0))=bk (gj al) (fun a_=>(a_,((al.length:Int)))) a_ al :=
 ay al (S:=(List Int)×Int) (fun a_ k_=>(a_,(k_))) (gj al) (fun a_=>(a_,((al.length:Int)))) (an hl) (fun k a x hx=>by
  unfold lX gj; exact bI)
  (fun a=>by unfold lX; exact cE) a_
end Go.Proofs.YtchddofjajgopaaGreat
