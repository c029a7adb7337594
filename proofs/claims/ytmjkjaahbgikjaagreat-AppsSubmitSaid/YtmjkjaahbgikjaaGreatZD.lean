/- My texts, in one. -/
import Derived.Test.YtmjkjaahbgikjaaGreatZC
set_option linter.all false
set_option maxRecDepth 100000
set_option maxHeartbeats 4000000
namespace Go.Proofs.YtmjkjaahbgikjaaGreat
open Go.RowKit
open IntKind (i64)
open Go.Proofs.Tryz (prog)
theorem lq {w w':World} {base:Nat} {e:TypeId} {k:Nat} {v:Value} {n:Nat} {xs:List Value} (h:w.ownsRow base e k v n xs) (x:Ext w w') : w'.ownsRow base e k v n xs:=by
 refine ⟨h.1,?_⟩
 rcases h.2 with hn | ⟨g,cap,cur,rfl,hb,hg,hr⟩
 ·exact .inl hn
 ·exact .inr ⟨g,cap,cur,rfl,hb,(x.block g (Array.getElem?_eq_some_iff.1 hg).1).trans hg,hr⟩
def RdK (k:Nat) (w:World) (v:Value) (n:Nat) (xs:List Value) : Prop :=
 ∃ A c,v = .slice A n c∧n≤c∧c≤maxLen∧xs.length=n * k∧(0 < xs.length→∃ a,A=some a∧a.block < w.heap.size∧∀ j u,xs[j]? = some u→w.cell? (a.add j)=some u)
theorem RdK.of_own {k:Nat} {w:World} {base:Nat} {e:TypeId} {v:Value} {n:Nat} {xs:List Value} (h:w.ownsRow base e k v n xs) : RdK k w v n xs:=by
 have hl:=h.1
 rcases h.2 with ⟨rfl,h0⟩ | ⟨g,cap,cur,rfl,_,hg,hc,hm,_⟩
 ·subst h0; exact ⟨none,0,rfl,Nat.le_refl _,by simp [maxLen],hl,fun hn=>by omega⟩
 ·exact ⟨_,cap,rfl,hc,hm,hl,fun hn=>⟨⟨g,0,none⟩,rfl,(Array.getElem?_eq_some_iff.1 hg).1,h.cells (g:=g) rfl⟩⟩
theorem cG {w:World} {B e k n:Nat} {v:Value} {xs:List Value} (h:w.ownsRow B e k v n xs) : ∃ A c,v = .slice A n c∧n≤c∧c≤9223372036854775807:=by
 rcases h.2 with ⟨rfl,h0⟩ | ⟨g,cap,cur,rfl,_,_,hc,hm,_⟩
 ·subst h0; exact ⟨none,0,rfl,Nat.le_refl _,by omega⟩
 ·unfold maxLen at hm; exact ⟨_,cap,rfl,hc,by omega⟩
theorem FK (w:World) (x y z:Value) (t:TypeId) : ∀ j u,[x,y,z][j]? = some u→(w.alloc (.cells #[x,y,z] t)).cell? ((⟨w.heap.size,0,none⟩ : Addr).add j)=some u:=by
 intro j u hu
 have hadd:(⟨w.heap.size,0,none⟩ : Addr).add j=⟨w.heap.size,j,none⟩:=by unfold Addr.add; split <;> simp_all
 rw [hadd,cell_of_row _ w.heap.size j _ t (0,0) (heap_alloc_new w _),← Array.getElem?_toList]
 exact hu
theorem Z2 {w:World} {B B' e e' k k' n n':Nat} {v v':Value} {xs xs':List Value} (h:w.ownsRow B e k v n xs) (h':w.ownsRow B' e' k' v' n' xs') (he:e≠e') : v.ownBlock=none∨v.ownBlock≠v'.ownBlock:=by
 rcases h.2 with ⟨rfl,_⟩ | ⟨g,cap,cur,rfl,_,hg,_⟩
 ·exact .inl rfl
 ·refine .inr fun e1=>?_
  rcases h'.2 with ⟨rfl,_⟩ | ⟨g',cap',cur',rfl,_,hg',_⟩
  ·cases e1
  ·simp [Value.ownBlock] at e1
   subst e1
   rw [hg] at hg'
   injection hg' with hg'
   injection hg' with _ h2
   exact he h2
theorem fy (W:World) (B:Nat) (e:TypeId) (k:Nat) (h:B≤W.heap.size) : (W.alloc (.cells #[] e)).ownsRow B e k (.slice (some ⟨W.heap.size,0,none⟩) 0 0) 0 [] :=
 ⟨by simp,.inr ⟨W.heap.size,0,#[],rfl,h,heap_alloc_new W _,Nat.le_refl _,by simp [maxLen],by simp,by simp⟩⟩
section
section
variable {P:Program} (w:World)
end
end
def gM (k:Nat) (t:TypeId) (n:Nat) (xs:List Value) (w:World) (e:Ending) (w':World) : Prop:=∃ A' c',e = .returned (.slice A' n c')∧w'.ownsRow w.heap.size t k (.slice A' n c') n xs∧Ext w w'
theorem Tryz.infoClNode:(prog.info? 72).map (fun i=>(i.zero,i.size,i.bytes))=some (some (.agg #[.int .i64 0,.int .i64 0,.int .i64 0,.int .i64 0,.int .i64 0,.int .i64 0,.int .i64 0,.bool false]),8,64):=by kernel_rfl
theorem Hb (v:Value) (n:Nat) (xs:List Value) (w:World) (h:RdK 8 w v n xs) (h1:∀ u∈xs,u.oneCell' = true) (h2:n≤1000000) :
  Calls prog 62 #[v] w (gM 8 72 n xs w):=by
 obtain ⟨c0,hc,hcz0,hcz1,hcz2⟩:=info_parts Tryz.infoClNode
 obtain ⟨A,c,rfl,hc1,hc2,hl,hcell⟩:=h
 have hn:=fun (W:World) (A:Option Addr) (n c n' c':Nat)=>Lib.run_eql_slice_nil (P:=prog) W 37 72 A n c n' c' Tryz.underlying37
 have HL:=Lib.hid hl
 have H1:=Lib.hid h1
 cases A with
 | none =>
  have hx:xs = []:=by
   rcases xs with _ | ⟨x,xs⟩
   ·rfl
   ·obtain ⟨a,e,_⟩:=hcell (by simp)
    cases e
  subst hx
  have hn0:n=0:=by simp at hl; omega
  subst hn0
  clear hcell hl
  go_enter Tryz.func62,Tryz.ntmps62
  go_wp2
  go_ret
  exact ⟨none,0,rfl,World.ownsRow_nil _ _ _ 8,Ext.refl _⟩
 | some a =>
  have HO:=Lib.hid (fy w w.heap.size 72 8 (Nat.le_refl _))
  have HCS:=Lib.hid (show ∀ (j:Nat) (u:Value),xs[j]? = some u→(w.alloc (.cells #[] 72)).cell? (a.add j)=some u from fun j u hu=>by
   obtain ⟨a',e,hb,hcs⟩:=hcell (by have:=(zg.1 hu).1; omega)
   obtain rfl:a=a':=Option.some.inj e
   exact (Below.cell (aO w _) (p:=a.add j) (by rw [df]; exact hb)).trans (hcs j u hu))
  clear hcell hl h1
  go_enter Tryz.func62,Tryz.ntmps62
  go_wp2_with (at_builtin; go_loud (refine wpList_append_own_at _ rfl (.tmp 5) (.tmp 6) 37 rfl w.heap.size 72 c0 _ 8 64 Tryz.underlying37 hc hcz0 hcz1 hcz2 rfl (by decide) _ 0 [] rfl HO.out a n c xs rfl HL.out HCS.out H1.out ?c3 ?c4 ?c5 ?_))
  case c3=>simp [maxLen]; omega
  case c4=>omega
  case c5=>simp
  intro v' w3 ho3 hg3 _ hat3
  have HE:=Lib.hid ((aO w (.cells #[] 72)).trans' (cM hg3 (by simp) (fun k hk=>by simp [Value.ownBlock] at hk; omega)))
  have HO3:=Lib.hid ho3
  obtain ⟨A3,c3,rfl,_,_⟩:=cG ho3
  clear ho3 hg3 hat3
  go_wp2
  go_ret
  exact ⟨_,_,rfl,HO3.out,HE.out⟩
theorem Tryz.infoClCont:(prog.info? 91).map (fun i=>(i.zero,i.size,i.bytes))=some (some (.agg #[.int .i64 0,.int .i64 0,.int .i64 0,.int .i64 0,.int .i64 0,.int .i64 0,.int .i64 0,.bool false,.int .i64 0]),9,72):=by kernel_rfl
theorem Hc (v:Value) (n:Nat) (xs:List Value) (w:World) (h:RdK 9 w v n xs) (h1:∀ u∈xs,u.oneCell' = true) (h2:n≤1000000) :
  Calls prog 64 #[v] w (gM 9 91 n xs w):=by
 obtain ⟨c0,hc,hcz0,hcz1,hcz2⟩:=info_parts Tryz.infoClCont
 obtain ⟨A,c,rfl,hc1,hc2,hl,hcell⟩:=h
 have hn:=fun (W:World) (A:Option Addr) (n c n' c':Nat)=>Lib.run_eql_slice_nil (P:=prog) W 39 91 A n c n' c' Tryz.underlying39
 have HL:=Lib.hid hl
 have H1:=Lib.hid h1
 cases A with
 | none =>
  have hx:xs = []:=by
   rcases xs with _ | ⟨x,xs⟩
   ·rfl
   ·obtain ⟨a,e,_⟩:=hcell (by simp)
    cases e
  subst hx
  have hn0:n=0:=by simp at hl; omega
  subst hn0
  clear hcell hl
  go_enter Tryz.func64,Tryz.ntmps64
  go_wp2
  go_ret
  exact ⟨none,0,rfl,World.ownsRow_nil _ _ _ 9,Ext.refl _⟩
 | some a =>
  have HO:=Lib.hid (fy w w.heap.size 91 9 (Nat.le_refl _))
  have HCS:=Lib.hid (show ∀ (j:Nat) (u:Value),xs[j]? = some u→(w.alloc (.cells #[] 91)).cell? (a.add j)=some u from fun j u hu=>by
   obtain ⟨a',e,hb,hcs⟩:=hcell (by have:=(zg.1 hu).1; omega)
   obtain rfl:a=a':=Option.some.inj e
   exact (Below.cell (aO w _) (p:=a.add j) (by rw [df]; exact hb)).trans (hcs j u hu))
  clear hcell hl h1
  go_enter Tryz.func64,Tryz.ntmps64
  go_wp2_with (at_builtin; go_loud (refine wpList_append_own_at _ rfl (.tmp 5) (.tmp 6) 39 rfl w.heap.size 91 c0 _ 9 72 Tryz.underlying39 hc hcz0 hcz1 hcz2 rfl (by decide) _ 0 [] rfl HO.out a n c xs rfl HL.out HCS.out H1.out ?c3 ?c4 ?c5 ?_))
  case c3=>simp [maxLen]; omega
  case c4=>omega
  case c5=>simp
  intro v' w3 ho3 hg3 _ hat3
  have HE:=Lib.hid ((aO w (.cells #[] 91)).trans' (cM hg3 (by simp) (fun k hk=>by simp [Value.ownBlock] at hk; omega)))
  have HO3:=Lib.hid ho3
  obtain ⟨A3,c3,rfl,_,_⟩:=cG ho3
  clear ho3 hg3 hat3
  go_wp2
  go_ret
  exact ⟨_,_,rfl,HO3.out,HE.out⟩
theorem Tryz.infoClSlot:(prog.info? 93).map (fun i=>(i.zero,i.size,i.bytes))=some (some (.agg #[.int .i64 0,.int .i64 0,.int .i64 0]),3,24):=by kernel_rfl
theorem G9 (v:Value) (n:Nat) (xs:List Value) (w:World) (h:RdK 3 w v n xs) (h1:∀ u∈xs,u.oneCell' = true) (h2:n≤1000000) :
  Calls prog 65 #[v] w (gM 3 93 n xs w):=by
 obtain ⟨c0,hc,hcz0,hcz1,hcz2⟩:=info_parts Tryz.infoClSlot
 obtain ⟨A,c,rfl,hc1,hc2,hl,hcell⟩:=h
 have hn:=fun (W:World) (A:Option Addr) (n c n' c':Nat)=>Lib.run_eql_slice_nil (P:=prog) W 40 93 A n c n' c' Tryz.underlying40
 have HL:=Lib.hid hl
 have H1:=Lib.hid h1
 cases A with
 | none =>
  have hx:xs = []:=by
   rcases xs with _ | ⟨x,xs⟩
   ·rfl
   ·obtain ⟨a,e,_⟩:=hcell (by simp)
    cases e
  subst hx
  have hn0:n=0:=by simp at hl; omega
  subst hn0
  clear hcell hl
  go_enter Tryz.func65,Tryz.ntmps65
  go_wp2
  go_ret
  exact ⟨none,0,rfl,World.ownsRow_nil _ _ _ 3,Ext.refl _⟩
 | some a =>
  have HO:=Lib.hid (fy w w.heap.size 93 3 (Nat.le_refl _))
  have HCS:=Lib.hid (show ∀ (j:Nat) (u:Value),xs[j]? = some u→(w.alloc (.cells #[] 93)).cell? (a.add j)=some u from fun j u hu=>by
   obtain ⟨a',e,hb,hcs⟩:=hcell (by have:=(zg.1 hu).1; omega)
   obtain rfl:a=a':=Option.some.inj e
   exact (Below.cell (aO w _) (p:=a.add j) (by rw [df]; exact hb)).trans (hcs j u hu))
  clear hcell hl h1
  go_enter Tryz.func65,Tryz.ntmps65
  go_wp2_with (at_builtin; go_loud (refine wpList_append_own_at _ rfl (.tmp 5) (.tmp 6) 40 rfl w.heap.size 93 c0 _ 3 24 Tryz.underlying40 hc hcz0 hcz1 hcz2 rfl (by decide) _ 0 [] rfl HO.out a n c xs rfl HL.out HCS.out H1.out ?c3 ?c4 ?c5 ?_))
  case c3=>simp [maxLen]; omega
  case c4=>omega
  case c5=>simp
  intro v' w3 ho3 hg3 _ hat3
  have HE:=Lib.hid ((aO w (.cells #[] 93)).trans' (cM hg3 (by simp) (fun k hk=>by simp [Value.ownBlock] at hk; omega)))
  have HO3:=Lib.hid ho3
  obtain ⟨A3,c3,rfl,_,_⟩:=cG ho3
  clear ho3 hg3 hat3
  go_wp2
  go_ret
  exact ⟨_,_,rfl,HO3.out,HE.out⟩
theorem Tryz.infoClPlan:(prog.info? 74).map (fun i=>(i.zero,i.size,i.bytes))=some (some (.agg #[.int .i64 0,.int .i64 0,.int .i64 0,.int .i64 0,.int .i64 0,.int .i64 0]),6,48):=by kernel_rfl
theorem Ha (v:Value) (n:Nat) (xs:List Value) (w:World) (h:RdK 6 w v n xs) (h1:∀ u∈xs,u.oneCell' = true) (h2:n≤1000000) :
  Calls prog 66 #[v] w (gM 6 74 n xs w):=by
 obtain ⟨c0,hc,hcz0,hcz1,hcz2⟩:=info_parts Tryz.infoClPlan
 obtain ⟨A,c,rfl,hc1,hc2,hl,hcell⟩:=h
 have hn:=fun (W:World) (A:Option Addr) (n c n' c':Nat)=>Lib.run_eql_slice_nil (P:=prog) W 41 74 A n c n' c' Tryz.underlying41
 have HL:=Lib.hid hl
 have H1:=Lib.hid h1
 cases A with
 | none =>
  have hx:xs = []:=by
   rcases xs with _ | ⟨x,xs⟩
   ·rfl
   ·obtain ⟨a,e,_⟩:=hcell (by simp)
    cases e
  subst hx
  have hn0:n=0:=by simp at hl; omega
  subst hn0
  clear hcell hl
  go_enter Tryz.func66,Tryz.ntmps66
  go_wp2
  go_ret
  exact ⟨none,0,rfl,World.ownsRow_nil _ _ _ 6,Ext.refl _⟩
 | some a =>
  have HO:=Lib.hid (fy w w.heap.size 74 6 (Nat.le_refl _))
  have HCS:=Lib.hid (show ∀ (j:Nat) (u:Value),xs[j]? = some u→(w.alloc (.cells #[] 74)).cell? (a.add j)=some u from fun j u hu=>by
   obtain ⟨a',e,hb,hcs⟩:=hcell (by have:=(zg.1 hu).1; omega)
   obtain rfl:a=a':=Option.some.inj e
   exact (Below.cell (aO w _) (p:=a.add j) (by rw [df]; exact hb)).trans (hcs j u hu))
  clear hcell hl h1
  go_enter Tryz.func66,Tryz.ntmps66
  go_wp2_with (at_builtin; go_loud (refine wpList_append_own_at _ rfl (.tmp 5) (.tmp 6) 41 rfl w.heap.size 74 c0 _ 6 48 Tryz.underlying41 hc hcz0 hcz1 hcz2 rfl (by decide) _ 0 [] rfl HO.out a n c xs rfl HL.out HCS.out H1.out ?c3 ?c4 ?c5 ?_))
  case c3=>simp [maxLen]; omega
  case c4=>omega
  case c5=>simp
  intro v' w3 ho3 hg3 _ hat3
  have HE:=Lib.hid ((aO w (.cells #[] 74)).trans' (cM hg3 (by simp) (fun k hk=>by simp [Value.ownBlock] at hk; omega)))
  have HO3:=Lib.hid ho3
  obtain ⟨A3,c3,rfl,_,_⟩:=cG ho3
  clear ho3 hg3 hat3
  go_wp2
  go_ret
  exact ⟨_,_,rfl,HO3.out,HE.out⟩
theorem Tryz.infoClStr:(prog.info? 9).map (fun i=>(i.zero,i.size,i.bytes))=some (some (.string ⟨#[]⟩),1,16):=by kernel_rfl
theorem Kq (v:Value) (n:Nat) (xs:List Value) (w:World) (h:RdK 1 w v n xs) (h1:∀ u∈xs,u.oneCell' = true) (h2:n≤1000000) :
  Calls prog 127 #[v] w (gM 1 9 n xs w):=by
 obtain ⟨c0,hc,hcz0,hcz1,hcz2⟩:=info_parts Tryz.infoClStr
 obtain ⟨A,c,rfl,hc1,hc2,hl,hcell⟩:=h
 have hn:=fun (W:World) (A:Option Addr) (n c n' c':Nat)=>Lib.run_eql_slice_nil (P:=prog) W 33 9 A n c n' c' Tryz.underlying33
 have HL:=Lib.hid hl
 have H1:=Lib.hid h1
 cases A with
 | none =>
  have hx:xs = []:=by
   rcases xs with _ | ⟨x,xs⟩
   ·rfl
   ·obtain ⟨a,e,_⟩:=hcell (by simp)
    cases e
  subst hx
  have hn0:n=0:=by simp at hl; omega
  subst hn0
  clear hcell hl
  go_enter Tryz.func127,Tryz.ntmps127
  go_wp2
  go_ret
  exact ⟨none,0,rfl,World.ownsRow_nil _ _ _ 1,Ext.refl _⟩
 | some a =>
  have HO:=Lib.hid (fy w w.heap.size 9 1 (Nat.le_refl _))
  have HCS:=Lib.hid (show ∀ (j:Nat) (u:Value),xs[j]? = some u→(w.alloc (.cells #[] 9)).cell? (a.add j)=some u from fun j u hu=>by
   obtain ⟨a',e,hb,hcs⟩:=hcell (by have:=(zg.1 hu).1; omega)
   obtain rfl:a=a':=Option.some.inj e
   exact (Below.cell (aO w _) (p:=a.add j) (by rw [df]; exact hb)).trans (hcs j u hu))
  clear hcell hl h1
  go_enter Tryz.func127,Tryz.ntmps127
  go_wp2_with (at_builtin; go_loud (refine wpList_append_own_at _ rfl (.tmp 5) (.tmp 6) 33 rfl w.heap.size 9 c0 _ 1 16 Tryz.underlying33 hc hcz0 hcz1 hcz2 rfl (by decide) _ 0 [] rfl HO.out a n c xs rfl HL.out HCS.out H1.out ?c3 ?c4 ?c5 ?_))
  case c3=>simp [maxLen]; omega
  case c4=>omega
  case c5=>simp
  intro v' w3 ho3 hg3 _ hat3
  have HE:=Lib.hid ((aO w (.cells #[] 9)).trans' (cM hg3 (by simp) (fun k hk=>by simp [Value.ownBlock] at hk; omega)))
  have HO3:=Lib.hid ho3
  obtain ⟨A3,c3,rfl,_,_⟩:=cG ho3
  clear ho3 hg3 hat3
  go_wp2
  go_ret
  exact ⟨_,_,rfl,HO3.out,HE.out⟩
theorem Tryz.infoClQueue:(prog.info? 63).map (fun i=>(i.zero,i.size,i.bytes))=some (some (.agg #[.string ⟨#[]⟩,.slice none 0 0,.int .i64 0]),3,48):=by kernel_rfl
theorem FD (v:Value) (n:Nat) (xs:List Value) (w:World) (h:RdK 3 w v n xs) (h1:∀ u∈xs,u.oneCell' = true) (h2:n≤1000000) :
  Calls prog 128 #[v] w (gM 3 63 n xs w):=by
 obtain ⟨c0,hc,hcz0,hcz1,hcz2⟩:=info_parts Tryz.infoClQueue
 obtain ⟨A,c,rfl,hc1,hc2,hl,hcell⟩:=h
 have hn:=fun (W:World) (A:Option Addr) (n c n' c':Nat)=>Lib.run_eql_slice_nil (P:=prog) W 34 63 A n c n' c' Tryz.underlying34
 have HL:=Lib.hid hl
 have H1:=Lib.hid h1
 cases A with
 | none =>
  have hx:xs = []:=by
   rcases xs with _ | ⟨x,xs⟩
   ·rfl
   ·obtain ⟨a,e,_⟩:=hcell (by simp)
    cases e
  subst hx
  have hn0:n=0:=by simp at hl; omega
  subst hn0
  clear hcell hl
  go_enter Tryz.func128,Tryz.ntmps128
  go_wp2
  go_ret
  exact ⟨none,0,rfl,World.ownsRow_nil _ _ _ 3,Ext.refl _⟩
 | some a =>
  have HO:=Lib.hid (fy w w.heap.size 63 3 (Nat.le_refl _))
  have HCS:=Lib.hid (show ∀ (j:Nat) (u:Value),xs[j]? = some u→(w.alloc (.cells #[] 63)).cell? (a.add j)=some u from fun j u hu=>by
   obtain ⟨a',e,hb,hcs⟩:=hcell (by have:=(zg.1 hu).1; omega)
   obtain rfl:a=a':=Option.some.inj e
   exact (Below.cell (aO w _) (p:=a.add j) (by rw [df]; exact hb)).trans (hcs j u hu))
  clear hcell hl h1
  go_enter Tryz.func128,Tryz.ntmps128
  go_wp2_with (at_builtin; go_loud (refine wpList_append_own_at _ rfl (.tmp 5) (.tmp 6) 34 rfl w.heap.size 63 c0 _ 3 48 Tryz.underlying34 hc hcz0 hcz1 hcz2 rfl (by decide) _ 0 [] rfl HO.out a n c xs rfl HL.out HCS.out H1.out ?c3 ?c4 ?c5 ?_))
  case c3=>simp [maxLen]; omega
  case c4=>omega
  case c5=>simp
  intro v' w3 ho3 hg3 _ hat3
  have HE:=Lib.hid ((aO w (.cells #[] 63)).trans' (cM hg3 (by simp) (fun k hk=>by simp [Value.ownBlock] at hk; omega)))
  have HO3:=Lib.hid ho3
  obtain ⟨A3,c3,rfl,_,_⟩:=cG ho3
  clear ho3 hg3 hat3
  go_wp2
  go_ret
  exact ⟨_,_,rfl,HO3.out,HE.out⟩
theorem Tryz.infoClCap:(prog.info? 98).map (fun i=>(i.zero,i.size,i.bytes))=some (some (.agg #[.int .i64 0,.int .i64 0]),2,16):=by kernel_rfl
theorem Ks (v:Value) (n:Nat) (xs:List Value) (w:World) (h:RdK 2 w v n xs) (h1:∀ u∈xs,u.oneCell' = true) (h2:n≤1000000) :
  Calls prog 129 #[v] w (gM 2 98 n xs w):=by
 obtain ⟨c0,hc,hcz0,hcz1,hcz2⟩:=info_parts Tryz.infoClCap
 obtain ⟨A,c,rfl,hc1,hc2,hl,hcell⟩:=h
 have hn:=fun (W:World) (A:Option Addr) (n c n' c':Nat)=>Lib.run_eql_slice_nil (P:=prog) W 61 98 A n c n' c' Tryz.underlying61
 have HL:=Lib.hid hl
 have H1:=Lib.hid h1
 cases A with
 | none =>
  have hx:xs = []:=by
   rcases xs with _ | ⟨x,xs⟩
   ·rfl
   ·obtain ⟨a,e,_⟩:=hcell (by simp)
    cases e
  subst hx
  have hn0:n=0:=by simp at hl; omega
  subst hn0
  clear hcell hl
  go_enter Tryz.func129,Tryz.ntmps129
  go_wp2
  go_ret
  exact ⟨none,0,rfl,World.ownsRow_nil _ _ _ 2,Ext.refl _⟩
 | some a =>
  have HO:=Lib.hid (fy w w.heap.size 98 2 (Nat.le_refl _))
  have HCS:=Lib.hid (show ∀ (j:Nat) (u:Value),xs[j]? = some u→(w.alloc (.cells #[] 98)).cell? (a.add j)=some u from fun j u hu=>by
   obtain ⟨a',e,hb,hcs⟩:=hcell (by have:=(zg.1 hu).1; omega)
   obtain rfl:a=a':=Option.some.inj e
   exact (Below.cell (aO w _) (p:=a.add j) (by rw [df]; exact hb)).trans (hcs j u hu))
  clear hcell hl h1
  go_enter Tryz.func129,Tryz.ntmps129
  go_wp2_with (at_builtin; go_loud (refine wpList_append_own_at _ rfl (.tmp 5) (.tmp 6) 61 rfl w.heap.size 98 c0 _ 2 16 Tryz.underlying61 hc hcz0 hcz1 hcz2 rfl (by decide) _ 0 [] rfl HO.out a n c xs rfl HL.out HCS.out H1.out ?c3 ?c4 ?c5 ?_))
  case c3=>simp [maxLen]; omega
  case c4=>omega
  case c5=>simp
  intro v' w3 ho3 hg3 _ hat3
  have HE:=Lib.hid ((aO w (.cells #[] 98)).trans' (cM hg3 (by simp) (fun k hk=>by simp [Value.ownBlock] at hk; omega)))
  have HO3:=Lib.hid ho3
  obtain ⟨A3,c3,rfl,_,_⟩:=cG ho3
  clear ho3 hg3 hat3
  go_wp2
  go_ret
  exact ⟨_,_,rfl,HO3.out,HE.out⟩
theorem Tryz.infoClAsk:(prog.info? 123).map (fun i=>(i.zero,i.size,i.bytes))=some (some (.agg #[.int .i64 0,.int .i64 0,.int .i64 0,.int .i64 0,.int .i64 0,.int .i64 0,.int .i64 0,.int .i64 0]),8,64):=by kernel_rfl
theorem Kt (v:Value) (n:Nat) (xs:List Value) (w:World) (h:RdK 8 w v n xs) (h1:∀ u∈xs,u.oneCell' = true) (h2:n≤1000000) :
  Calls prog 74 #[v] w (gM 8 123 n xs w):=by
 obtain ⟨c0,hc,hcz0,hcz1,hcz2⟩:=info_parts Tryz.infoClAsk
 obtain ⟨A,c,rfl,hc1,hc2,hl,hcell⟩:=h
 have hn:=fun (W:World) (A:Option Addr) (n c n' c':Nat)=>Lib.run_eql_slice_nil (P:=prog) W 28 123 A n c n' c' Tryz.underlying28
 have HL:=Lib.hid hl
 have H1:=Lib.hid h1
 cases A with
 | none =>
  have hx:xs = []:=by
   rcases xs with _ | ⟨x,xs⟩
   ·rfl
   ·obtain ⟨a,e,_⟩:=hcell (by simp)
    cases e
  subst hx
  have hn0:n=0:=by simp at hl; omega
  subst hn0
  clear hcell hl
  go_enter Tryz.func74,Tryz.ntmps74
  go_wp2
  go_ret
  exact ⟨none,0,rfl,World.ownsRow_nil _ _ _ 8,Ext.refl _⟩
 | some a =>
  have HO:=Lib.hid (fy w w.heap.size 123 8 (Nat.le_refl _))
  have HCS:=Lib.hid (show ∀ (j:Nat) (u:Value),xs[j]? = some u→(w.alloc (.cells #[] 123)).cell? (a.add j)=some u from fun j u hu=>by
   obtain ⟨a',e,hb,hcs⟩:=hcell (by have:=(zg.1 hu).1; omega)
   obtain rfl:a=a':=Option.some.inj e
   exact (Below.cell (aO w _) (p:=a.add j) (by rw [df]; exact hb)).trans (hcs j u hu))
  clear hcell hl h1
  go_enter Tryz.func74,Tryz.ntmps74
  go_wp2_with (at_builtin; go_loud (refine wpList_append_own_at _ rfl (.tmp 5) (.tmp 6) 28 rfl w.heap.size 123 c0 _ 8 64 Tryz.underlying28 hc hcz0 hcz1 hcz2 rfl (by decide) _ 0 [] rfl HO.out a n c xs rfl HL.out HCS.out H1.out ?c3 ?c4 ?c5 ?_))
  case c3=>simp [maxLen]; omega
  case c4=>omega
  case c5=>simp
  intro v' w3 ho3 hg3 _ hat3
  have HE:=Lib.hid ((aO w (.cells #[] 123)).trans' (cM hg3 (by simp) (fun k hk=>by simp [Value.ownBlock] at hk; omega)))
  have HO3:=Lib.hid ho3
  obtain ⟨A3,c3,rfl,_,_⟩:=cG ho3
  clear ho3 hg3 hat3
  go_wp2
  go_ret
  exact ⟨_,_,rfl,HO3.out,HE.out⟩
theorem Tryz.infoClInt:(prog.info? 3).map (fun i=>(i.zero,i.size,i.bytes))=some (some (.int .i64 0),1,8):=by kernel_rfl
theorem Kr (v:Value) (n:Nat) (xs:List Value) (w:World) (h:RdK 1 w v n xs) (h1:∀ u∈xs,u.oneCell' = true) (h2:n≤1000000) :
  Calls prog 75 #[v] w (gM 1 3 n xs w):=by
 obtain ⟨c0,hc,hcz0,hcz1,hcz2⟩:=info_parts Tryz.infoClInt
 obtain ⟨A,c,rfl,hc1,hc2,hl,hcell⟩:=h
 have hn:=fun (W:World) (A:Option Addr) (n c n' c':Nat)=>Lib.run_eql_slice_nil (P:=prog) W 22 3 A n c n' c' Tryz.underlying22
 have HL:=Lib.hid hl
 have H1:=Lib.hid h1
 cases A with
 | none =>
  have hx:xs = []:=by
   rcases xs with _ | ⟨x,xs⟩
   ·rfl
   ·obtain ⟨a,e,_⟩:=hcell (by simp)
    cases e
  subst hx
  have hn0:n=0:=by simp at hl; omega
  subst hn0
  clear hcell hl
  go_enter Tryz.func75,Tryz.ntmps75
  go_wp2
  go_ret
  exact ⟨none,0,rfl,World.ownsRow_nil _ _ _ 1,Ext.refl _⟩
 | some a =>
  have HO:=Lib.hid (fy w w.heap.size 3 1 (Nat.le_refl _))
  have HCS:=Lib.hid (show ∀ (j:Nat) (u:Value),xs[j]? = some u→(w.alloc (.cells #[] 3)).cell? (a.add j)=some u from fun j u hu=>by
   obtain ⟨a',e,hb,hcs⟩:=hcell (by have:=(zg.1 hu).1; omega)
   obtain rfl:a=a':=Option.some.inj e
   exact (Below.cell (aO w _) (p:=a.add j) (by rw [df]; exact hb)).trans (hcs j u hu))
  clear hcell hl h1
  go_enter Tryz.func75,Tryz.ntmps75
  go_wp2_with (at_builtin; go_loud (refine wpList_append_own_at _ rfl (.tmp 5) (.tmp 6) 22 rfl w.heap.size 3 c0 _ 1 8 Tryz.underlying22 hc hcz0 hcz1 hcz2 rfl (by decide) _ 0 [] rfl HO.out a n c xs rfl HL.out HCS.out H1.out ?c3 ?c4 ?c5 ?_))
  case c3=>simp [maxLen]; omega
  case c4=>omega
  case c5=>simp
  intro v' w3 ho3 hg3 _ hat3
  have HE:=Lib.hid ((aO w (.cells #[] 3)).trans' (cM hg3 (by simp) (fun k hk=>by simp [Value.ownBlock] at hk; omega)))
  have HO3:=Lib.hid ho3
  obtain ⟨A3,c3,rfl,_,_⟩:=cG ho3
  clear ho3 hg3 hat3
  go_wp2
  go_ret
  exact ⟨_,_,rfl,HO3.out,HE.out⟩
theorem Tryz.infoClApp:(prog.info? 30).map (fun i=>(i.zero,i.size,i.bytes))=some (some (.agg #[.int .i64 0,.int .i64 0,.string ⟨#[]⟩,.int .i64 0,.int .i64 0,.int .i64 0,.int .i64 0,.slice none 0 0,.int .i64 0,.int .i64 0,.slice none 0 0,.slice none 0 0,.slice none 0 0,.slice none 0 0]),14,200):=by kernel_rfl
theorem Ku (v:Value) (n:Nat) (xs:List Value) (w:World) (h:RdK 14 w v n xs) (h1:∀ u∈xs,u.oneCell' = true) (h2:n≤1000000) :
  Calls prog 106 #[v] w (gM 14 30 n xs w):=by
 obtain ⟨c0,hc,hcz0,hcz1,hcz2⟩:=info_parts Tryz.infoClApp
 obtain ⟨A,c,rfl,hc1,hc2,hl,hcell⟩:=h
 have hn:=fun (W:World) (A:Option Addr) (n c n' c':Nat)=>Lib.run_eql_slice_nil (P:=prog) W 38 30 A n c n' c' Tryz.underlying38
 have HL:=Lib.hid hl
 have H1:=Lib.hid h1
 cases A with
 | none =>
  have hx:xs = []:=by
   rcases xs with _ | ⟨x,xs⟩
   ·rfl
   ·obtain ⟨a,e,_⟩:=hcell (by simp)
    cases e
  subst hx
  have hn0:n=0:=by simp at hl; omega
  subst hn0
  clear hcell hl
  go_enter Tryz.func106,Tryz.ntmps106
  go_wp2
  go_ret
  exact ⟨none,0,rfl,World.ownsRow_nil _ _ _ 14,Ext.refl _⟩
 | some a =>
  have HO:=Lib.hid (fy w w.heap.size 30 14 (Nat.le_refl _))
  have HCS:=Lib.hid (show ∀ (j:Nat) (u:Value),xs[j]? = some u→(w.alloc (.cells #[] 30)).cell? (a.add j)=some u from fun j u hu=>by
   obtain ⟨a',e,hb,hcs⟩:=hcell (by have:=(zg.1 hu).1; omega)
   obtain rfl:a=a':=Option.some.inj e
   exact (Below.cell (aO w _) (p:=a.add j) (by rw [df]; exact hb)).trans (hcs j u hu))
  clear hcell hl h1
  go_enter Tryz.func106,Tryz.ntmps106
  go_wp2_with (at_builtin; go_loud (refine wpList_append_own_at _ rfl (.tmp 5) (.tmp 6) 38 rfl w.heap.size 30 c0 _ 14 200 Tryz.underlying38 hc hcz0 hcz1 hcz2 rfl (by decide) _ 0 [] rfl HO.out a n c xs rfl HL.out HCS.out H1.out ?c3 ?c4 ?c5 ?_))
  case c3=>simp [maxLen]; omega
  case c4=>omega
  case c5=>simp
  intro v' w3 ho3 hg3 _ hat3
  have HE:=Lib.hid ((aO w (.cells #[] 30)).trans' (cM hg3 (by simp) (fun k hk=>by simp [Value.ownBlock] at hk; omega)))
  have HO3:=Lib.hid ho3
  obtain ⟨A3,c3,rfl,_,_⟩:=cG ho3
  clear ho3 hg3 hat3
  go_wp2
  go_ret
  exact ⟨_,_,rfl,HO3.out,HE.out⟩
end Go.Proofs.YtmjkjaahbgikjaaGreat
section
namespace Go.Proofs
open Go.Shelf
def Tryz.laysM316_ren:Go.Shelf.Ren:=⟨fun | 316=>110 | n=>n,fun | 9=>9 | 3=>3 | 4=>4 | 37=>154 | 0=>0 | 127=>180 | 5=>5 | n=>n,fun | n=>n⟩
theorem Tryz.laysM316:Go.Proofs.LaysM.n316 prog Tryz.laysM316_ren:={
 mixed:=by kernel_rfl
 f316:=Tryz.func110.trans (congrArg some (by kernel_rfl))
 t0:=Tryz.underlying0
 a0:=Tryz.isAgg0
 z0:=Tryz.sizeOf0
 v0:=Tryz.zeroValue0
 t3:=Tryz.underlying3
 a3:=Tryz.isAgg3
 z3:=Tryz.sizeOf3
 v3:=Tryz.zeroValue3
 t4:=Tryz.underlying4
 a4:=Tryz.isAgg4
 z4:=Tryz.sizeOf4
 v4:=Tryz.zeroValue4
 t9:=Tryz.underlying9
 a9:=Tryz.isAgg9
 z9:=Tryz.sizeOf9
 v9:=Tryz.zeroValue9
 t37:=Tryz.underlying154
 a37:=Tryz.isAgg154
 z37:=Tryz.sizeOf154
 v37:=Tryz.zeroValue154
 t127:=Tryz.underlying180
 a127:=Tryz.isAgg180
 z127:=Tryz.sizeOf180
 v127:=Tryz.zeroValue180
 t5:=Tryz.underlying5
 a5:=Tryz.isAgg5
 z5:=Tryz.sizeOf5
 v5:=Tryz.zeroValue5
 i0:=by kernel_rfl
 i3:=by kernel_rfl
 i4:=by kernel_rfl
 i5:=by kernel_rfl
 i9:=by kernel_rfl
 i37:=by kernel_rfl
 i127:=by kernel_rfl }
open Go.RowKit in
theorem Tryz.stringslite_Clone (s:ByteArray) (w:World) (hlim:s.size≤281474976710656) :
  Calls prog 110 #[.string s] w fun e w'=>e = .returned (.string s)∧Below w.heap.size w w':=Any.stringslite_Clone Tryz.laysM316 s w hlim
def Tryz.lays148_ren:Go.Shelf.Ren:=⟨fun | 148=>167 | 222=>185 | 223=>186 | 269=>190 | n=>n,fun | 9=>9 | 3=>3 | 4=>4 | 5=>5 | 146=>236 | 51=>235 | 46=>95 | n=>n,fun | n=>n⟩
theorem Tryz.lays148:Go.Proofs.Lays.n148 prog Tryz.lays148_ren:={
 mixed:=by kernel_rfl
 f148:=Tryz.func167.trans (congrArg some (by kernel_rfl))
 f222:=Tryz.func185.trans (congrArg some (by kernel_rfl))
 f223:=Tryz.func186.trans (congrArg some (by kernel_rfl))
 f269:=Tryz.func190.trans (congrArg some (by kernel_rfl))
 t3:=Tryz.underlying3
 a3:=Tryz.isAgg3
 z3:=Tryz.sizeOf3
 v3:=Tryz.zeroValue3
 t4:=Tryz.underlying4
 a4:=Tryz.isAgg4
 z4:=Tryz.sizeOf4
 v4:=Tryz.zeroValue4
 t5:=Tryz.underlying5
 a5:=Tryz.isAgg5
 z5:=Tryz.sizeOf5
 v5:=Tryz.zeroValue5
 t9:=Tryz.underlying9
 a9:=Tryz.isAgg9
 z9:=Tryz.sizeOf9
 v9:=Tryz.zeroValue9
 t46:=Tryz.underlying95
 a46:=Tryz.isAgg95
 z46:=Tryz.sizeOf95
 v46:=Tryz.zeroValue95
 t51:=Tryz.underlying235
 a51:=Tryz.isAgg235
 z51:=Tryz.sizeOf235
 v51:=Tryz.zeroValue235
 t146:=Tryz.underlying236
 a146:=Tryz.isAgg236
 z146:=Tryz.sizeOf236
 v146:=Tryz.zeroValue236 }
open Go.RowKit Go.Lib in
theorem Tryz.strings_LastIndex_one (s sub:ByteArray) (h1:sub.size=1) (hs:s.size < 4611686018427387904) (w:World) :
  Calls prog 167 #[.string s,.string sub] w fun e w'=>e = .returned (.int .i64 (Lib.lastIndexByte s ((sub[0]'(by omega)).toNat:Int)))∧w' = w:=Any.strings_LastIndex_one Tryz.lays148 s sub h1 hs w
end Go.Proofs
end
namespace Go.Proofs.YtmjkjaahbgikjaaGreat
open Go.RowKit
open IntKind (i64)
open Go.Proofs.Tryz (prog)
theorem JA (S:ByteArray) (w:World) (hs:S.size≤1000000000000) : Calls prog 73 #[.string S] w fun e w'=>e = .returned (.string S)∧Ext w w':=by
 have hcon:=fun W=>Tryz.stringslite_Clone S W (by omega)
 go_enter Tryz.func73,Tryz.ntmps73
 go_wp2_with (go_at_call 110; refine (hcon _).mono ?_; rintro e w' ⟨rfl,hx⟩)
 go_ret
 exact ⟨rfl,hx⟩
def FF {α : Type} (xs:List α) : Option (List α):=if xs.length≤1000000 then some xs else none
def fF (ty:Ty) (e k:Nat) (x:ct [.lf (.sl ty)]) : Option (bc [.io [.no],.own e k ty]):=(FF (show List ty.den from x.1)).bind fun z=>some (((),()),z)
theorem iI {P:Program} {f:FuncId} (ty:Ty) {e k:Nat} (hk:tyN ty=k) (hk0 : 0 < k) (hcall:dB P f=true)
  (hC:∀ (v:Value) (n:Nat) (us:List Value) (w:World),RdK k w v n us→(∀ u∈us,u.oneCell' = true)→n≤1000000→Calls P f #[v] w (gM k e n us w)) :
  bO P f [.lf (.sl ty)] [.io [.no],.own e k ty] (fF ty e k):=by
 refine Zi (F:=FF) hk hk0 hcall fun xs zs w G v hF hG hd=>?_
 unfold FF at hF
 split at hF
 ·rename_i hle
  injection hF with hF
  subst hF
  cases hd with
  | sl A n c k0 _ us hn hc hm hkk hA hA0 hcell hrep =>
   have hlen:∀ y∈xs.map (bH ty),y.length=k:=fun y hy=>by
    obtain ⟨z,_,rfl⟩:=List.mem_map.1 hy
    rw [lA,hk]
   have hfl:=cC k (xs.map (bH ty)) hlen
   rw [List.length_map] at hn hfl
   have hul:((List.range (xs.map (bH ty)).flatten.length).map us).length=xs.length * k:=by rw [List.length_map,List.length_range,hfl]
   have hget:∀ (j:Nat) u,((List.range (xs.map (bH ty)).flatten.length).map us)[j]? = some u→j < (xs.map (bH ty)).flatten.length∧u=us j:=fun j u hu=>by
    rw [List.getElem?_map,zm] at hu
    obtain ⟨i,hi,rfl⟩:=hu
    obtain ⟨rfl,hlt⟩:=nW hi
    exact ⟨hlt,rfl⟩
   refine (hC _ n ((List.range (xs.map (bH ty)).flatten.length).map us) w ⟨A,c,rfl,hc,hm,by rw [hul,hn],fun h0=>?_⟩ (fun u hu=>?_) (by omega)).mono ?_
   ·obtain ⟨a, ha, hFa⟩ := hA (by rw [hn]; rcases Nat.eq_zero_or_pos xs.length with e | e
                                  ·rw [hul,e,Nat.zero_mul] at h0; omega
                                  ·exact e)
    refine ⟨a,ha,hG _ hFa,fun j u hu=>?_⟩
    obtain ⟨hlt,rfl⟩:=hget j u hu
    exact hcell a j _ ha (zq hlt)
   ·obtain ⟨j,hj⟩:=List.getElem?_of_mem hu
    obtain ⟨hlt,rfl⟩:=hget j u hj
    exact (hrep j _ (zq hlt)).one
   ·rintro en w' ⟨A',c',rfl,ho,hx⟩
    refine ⟨_,_,rfl,by rw [← hn]; exact ho,hx,hul,fun j u d hu hd=>?_⟩
    obtain ⟨hlt,rfl⟩:=hget j u hu
    exact hrep j d hd
 ·cases hF
noncomputable def Vx:Ent:=⟨[.lf (.sl (.st 7))],[.io [.no],.own 72 8 (.st 7)],fF (.st 7) 72 8⟩
theorem Vv:bO prog 62 [.lf (.sl (.st 7))] [.io [.no],.own 72 8 (.st 7)] (fF (.st 7) 72 8):=iI (.st 7) (by kernel_rfl) (by decide) (by kernel_rfl) (fun v n us w h1 h2 h3=>Hb v n us w h1 h2 h3)
noncomputable def VB:Ent:=⟨[.lf (.sl (.st 6))],[.io [.no],.own 91 9 (.st 6)],fF (.st 6) 91 9⟩
theorem VA:bO prog 64 [.lf (.sl (.st 6))] [.io [.no],.own 91 9 (.st 6)] (fF (.st 6) 91 9):=iI (.st 6) (by kernel_rfl) (by decide) (by kernel_rfl) (fun v n us w h1 h2 h3=>Hc v n us w h1 h2 h3)
noncomputable def Vs:Ent:=⟨[.lf (.sl (.st 11))],[.io [.no],.own 93 3 (.st 11)],fF (.st 11) 93 3⟩
theorem Vr:bO prog 65 [.lf (.sl (.st 11))] [.io [.no],.own 93 3 (.st 11)] (fF (.st 11) 93 3):=iI (.st 11) (by kernel_rfl) (by decide) (by kernel_rfl) (fun v n us w h1 h2 h3=>G9 v n us w h1 h2 h3)
noncomputable def Vu:Ent:=⟨[.lf (.sl (.st 8))],[.io [.no],.own 74 6 (.st 8)],fF (.st 8) 74 6⟩
theorem Vt:bO prog 66 [.lf (.sl (.st 8))] [.io [.no],.own 74 6 (.st 8)] (fF (.st 8) 74 6):=iI (.st 8) (by kernel_rfl) (by decide) (by kernel_rfl) (fun v n us w h1 h2 h3=>Ha v n us w h1 h2 h3)
noncomputable def X9:Ent:=⟨[.lf (.sl (.str))],[.io [.no],.own 9 1 (.str)],fF (.str) 9 1⟩
theorem X8:bO prog 127 [.lf (.sl (.str))] [.io [.no],.own 9 1 (.str)] (fF (.str) 9 1):=iI (.str) (by kernel_rfl) (by decide) (by kernel_rfl) (fun v n us w h1 h2 h3=>Kq v n us w h1 h2 h3)
noncomputable def Rv:Ent:=⟨[.lf (.sl (.st 4))],[.io [.no],.own 63 3 (.st 4)],fF (.st 4) 63 3⟩
theorem Ru:bO prog 128 [.lf (.sl (.st 4))] [.io [.no],.own 63 3 (.st 4)] (fF (.st 4) 63 3):=iI (.st 4) (by kernel_rfl) (by decide) (by kernel_rfl) (fun v n us w h1 h2 h3=>FD v n us w h1 h2 h3)
noncomputable def Yd:Ent:=⟨[.lf (.sl (.st 3))],[.io [.no],.own 98 2 (.st 3)],fF (.st 3) 98 2⟩
theorem Yc:bO prog 129 [.lf (.sl (.st 3))] [.io [.no],.own 98 2 (.st 3)] (fF (.st 3) 98 2):=iI (.st 3) (by kernel_rfl) (by decide) (by kernel_rfl) (fun v n us w h1 h2 h3=>Ks v n us w h1 h2 h3)
noncomputable def Yf:Ent:=⟨[.lf (.sl (.st 1))],[.io [.no],.own 123 8 (.st 1)],fF (.st 1) 123 8⟩
theorem Ye:bO prog 74 [.lf (.sl (.st 1))] [.io [.no],.own 123 8 (.st 1)] (fF (.st 1) 123 8):=iI (.st 1) (by kernel_rfl) (by decide) (by kernel_rfl) (fun v n us w h1 h2 h3=>Kt v n us w h1 h2 h3)
noncomputable def Yb:Ent:=⟨[.lf (.sl (.int .i64))],[.io [.no],.own 3 1 (.int .i64)],fF (.int .i64) 3 1⟩
theorem Ya:bO prog 75 [.lf (.sl (.int .i64))] [.io [.no],.own 3 1 (.int .i64)] (fF (.int .i64) 3 1):=iI (.int .i64) (by kernel_rfl) (by decide) (by kernel_rfl) (fun v n us w h1 h2 h3=>Kr v n us w h1 h2 h3)
noncomputable def Yh:Ent:=⟨[.lf (.sl (.st 2))],[.io [.no],.own 30 14 (.st 2)],fF (.st 2) 30 14⟩
theorem Yg:bO prog 106 [.lf (.sl (.st 2))] [.io [.no],.own 30 14 (.st 2)] (fF (.st 2) 30 14):=iI (.st 2) (by kernel_rfl) (by decide) (by kernel_rfl) (fun v n us w h1 h2 h3=>Ku v n us w h1 h2 h3)
noncomputable def sV:Ent:=⟨[.lf .str],[.lf .str],fun x=>if (show ByteArray from x.1).size≤1000000000 then some x.1 else none⟩
theorem sU:bO prog 73 [.lf .str] [.lf .str] (fun x=>if (show ByteArray from x.1).size≤1000000000 then some x.1 else none):=Zh (by kernel_rfl) fun x z w hF=>by
 dsimp only at hF
 split at hF
 ·rename_i hle
  injection hF with hF
  subst hF
  exact JA x w (Nat.le_trans hle (by decide))
 ·cases hF
noncomputable def rH (x:ct [.ag 2]) : Option (bc [.ag 2]):=iZ ⟨prog,[(73,sV),(74,Yf),(75,Yb)],28,[.ag 2],[.cell 2 30],[],[2],[]⟩ ((Tryz.f36).body.getD .skip) (.n) [.ag 2] x
noncomputable def rI:Ent:=⟨[.ag 2],[.ag 2],rH⟩
theorem rG:bO prog 36 [.ag 2] [.ag 2] rH:=cD (n:=28) (.cons (sU) (.cons (Ye) (.cons (Ya) (.nil)))) Tryz.mixed Tryz.func36 rfl (by kernel_rfl) rfl rfl rfl (fun _=>rfl)
noncomputable def oH (x:ct [.ag 4]) : Option (bc [.ag 4]):=iZ ⟨prog,[(73,sV),(129,Yd)],12,[.ag 4],[.cell 2 63],[],[2],[]⟩ ((Tryz.f105).body.getD .skip) (.n) [.ag 4] x
noncomputable def C3:Ent:=⟨[.ag 4],[.ag 4],oH⟩
theorem C2:bO prog 105 [.ag 4] [.ag 4] oH:=cD (n:=12) (.cons (sU) (.cons (Yc) (.nil))) Tryz.mixed Tryz.func105 rfl (by kernel_rfl) rfl rfl rfl (fun _=>rfl)
noncomputable def oI (x:ct [.lf (.sl .str),.fn 73 [] []]) : Option (bc [.lf (.sl .str)]):=iZ ⟨prog,[(127,X9),(73,sV)],24,[.lf (.sl .str)],[.tmp 4],[],[],[]⟩ ((Tryz.f103).body.getD .skip) (.s (.n) (.s (.n) (.s (.s (.n) (.s (.lp [.row 0 500512 9 1 (.str),.row 9 500512 9 1 (.str),.leaf 11 (.int .i64)] 0 false (.n)) .n)) (.n)))) [.lf (.sl .str),.fn 73 [] []] x
noncomputable def C5:Ent:=⟨[.lf (.sl .str),.fn 73 [] []],[.lf (.sl .str)],oI⟩
theorem C4:bO prog 103 [.lf (.sl .str),.fn 73 [] []] [.lf (.sl .str)] oI:=cD (n:=24) (.cons (X8) (.cons (sU) (.nil))) Tryz.mixed Tryz.func103 rfl (by kernel_rfl) rfl rfl rfl (fun _=>rfl)
noncomputable def oJ (x:ct [.lf (.sl (.st 4)),.fn 105 [] []]) : Option (bc [.lf (.sl (.st 4))]):=iZ ⟨prog,[(128,Rv),(105,C3)],24,[.lf (.sl (.st 4))],[.tmp 4],[],[],[]⟩ ((Tryz.f104).body.getD .skip) (.s (.n) (.s (.n) (.s (.s (.n) (.s (.lp [.row 0 500512 63 3 (.st 4),.row 9 500512 63 3 (.st 4),.leaf 11 (.int .i64)] 0 false (.n)) .n)) (.n)))) [.lf (.sl (.st 4)),.fn 105 [] []] x
noncomputable def C7:Ent:=⟨[.lf (.sl (.st 4)),.fn 105 [] []],[.lf (.sl (.st 4))],oJ⟩
theorem C6:bO prog 104 [.lf (.sl (.st 4)),.fn 105 [] []] [.lf (.sl (.st 4))] oJ:=cD (n:=24) (.cons (Ru) (.cons (C2) (.nil))) Tryz.mixed Tryz.func104 rfl (by kernel_rfl) rfl rfl rfl (fun _=>rfl)
noncomputable def oK (x:ct [.lf (.sl (.st 2)),.fn 36 [] []]) : Option (bc [.io [.no,.no],.own 30 14 (.st 2)]):=H0 ⟨prog,[(106,Yh),(36,rI)],24,[.io [.no,.no],.own 30 14 (.st 2)],[.tmp 4],[],[],[]⟩ ((Tryz.f63).body.getD .skip) (.s (.n) (.s (.n) (.s (.s (.n) (.s (.lp [.row 0 500512 30 14 (.st 2),.row 9 500512 30 14 (.st 2),.leaf 11 (.int .i64)] 0 false (.n)) .n)) (.n)))) [.lf (.sl (.st 2)),.fn 36 [] []] x
noncomputable def C9:Ent:=⟨[.lf (.sl (.st 2)),.fn 36 [] []],[.io [.no,.no],.own 30 14 (.st 2)],oK⟩
theorem C8:bO prog 63 [.lf (.sl (.st 2)),.fn 36 [] []] [.io [.no,.no],.own 30 14 (.st 2)] oK:=DA (n:=24) (.cons (Yg) (.cons (rG) (.nil))) Tryz.mixed Tryz.func63 rfl (by kernel_rfl) rfl rfl (by kernel_rfl) (fun _ _ _=>(by first | trivial | exact ⟨trivial,trivial⟩)) (fun _=>rfl)
noncomputable def qD (x:ct [.ag 5]) : Option (bc [.ag 5]):=iZ ⟨prog,[(103,C5),(104,C7),(73,sV)],10,[.ag 5],[.cell 2 36],[],[2],[]⟩ ((Tryz.f61).body.getD .skip) (.n) [.ag 5] x
noncomputable def GL:Ent:=⟨[.ag 5],[.ag 5],qD⟩
theorem GH:bO prog 61 [.ag 5] [.ag 5] qD:=cD (n:=10) (.cons (C4) (.cons (C6) (.cons (sU) (.nil)))) Tryz.mixed Tryz.func61 rfl (by kernel_rfl) rfl rfl rfl (fun _=>rfl)
noncomputable def oL (x:ct [.ag 12]) : Option (bc [.io [.no],.agr 12 [(2,72,8,.st 7),(3,30,14,.st 2),(4,91,9,.st 6),(5,93,3,.st 11),(6,74,6,.st 8)]]):=H0 ⟨prog,[(61,GL),(62,Vx),(63,C9),(64,VB),(65,Vs),(66,Vu)],28,[.io [.no],.agr 12 [(2,72,8,.st 7),(3,30,14,.st 2),(4,91,9,.st 6),(5,93,3,.st 11),(6,74,6,.st 8)]],[.cell 2 43],[],[2],[]⟩ ((Tryz.f31).body.getD .skip) (.n) [.ag 12] x
noncomputable def Db:Ent:=⟨[.ag 12],[.io [.no],.agr 12 [(2,72,8,.st 7),(3,30,14,.st 2),(4,91,9,.st 6),(5,93,3,.st 11),(6,74,6,.st 8)]],oL⟩
theorem Da:bO prog 31 [.ag 12] [.io [.no],.agr 12 [(2,72,8,.st 7),(3,30,14,.st 2),(4,91,9,.st 6),(5,93,3,.st 11),(6,74,6,.st 8)]] oL:=DA (n:=28) (.cons (GH) (.cons (Vv) (.cons (C8) (.cons (VA) (.cons (Vr) (.cons (Vt) (.nil))))))) Tryz.mixed Tryz.func31 rfl (by kernel_rfl) rfl rfl (by kernel_rfl) (fun _ _ _=>(by first | trivial | exact ⟨trivial,trivial⟩)) (fun _=>rfl)
theorem Xd {P:Program} {f:FuncId} {F:ct [.lf .str,.lf .str]→Option (bc [.lf (.int .i64)])} (hcall:dB P f=true)
  (H:∀ (x y:ByteArray) (z:Int) (w:World),F (x,(y,()))=some z→Calls P f #[.string x,.string y] w fun en w'=>en = .returned (.int .i64 z)∧w' = w) : bO P f [.lf .str,.lf .str] [.lf (.int .i64)] F:=by
 rintro ⟨x,y,⟨⟩⟩ z hF
 refine ⟨fun _=>⟨hcall,fun w G vs hG hr=>?_⟩,fun h=>(by cases h)⟩
 have hvl:vs.toList.length=2:=hr.len
 obtain ⟨v,u,hv⟩ : ∃ v u,vs = #[v,u]:=by
  match hv:vs.toList,hvl with
  | [v,u],_=>exact ⟨v,u,by apply Array.ext'; simpa using hv⟩
 subst hv
 obtain ⟨rfl,_⟩:=aJ.vv (hr.rep 0 v _ rfl rfl)
 obtain ⟨rfl,_⟩:=aJ.vv (hr.rep 1 u _ rfl rfl)
 refine (H x y z w hF).mono ?_
 rintro en w' ⟨rfl,rfl⟩
 exact ⟨_,G,rfl,Ext.refl _,fun _ h=>h,hG,fun _ h=>.inl h,.d _ _ (.v _ rfl)⟩
def Ie (s sub:ByteArray) : Option Int:=if h:sub.size=1∧s.size≤1000000000 then some (Lib.lastIndexByte s (((sub[0]'(by omega)).toNat:Nat) : Int)) else none
noncomputable def Rt:Ent:=⟨[.lf .str,.lf .str],[.lf (.int .i64)],fun x=>Ie x.1 x.2.1⟩
theorem Rs:bO prog 167 [.lf .str,.lf .str] [.lf (.int .i64)] (fun x=>Ie x.1 x.2.1):=Xd (by kernel_rfl) fun x y z w hF=>by
 dsimp only at hF
 unfold Ie at hF
 split at hF
 ·rename_i h
  injection hF with hF
  subst hF
  exact Tryz.strings_LastIndex_one x y h.1 (Nat.lt_of_le_of_lt h.2 (by decide)) w
 ·cases hF
section
section
variable {P:Program}
def LJ (K:Nat) (A:Option Addr) (l c:Nat) : Option Addr:=if c=l then A else A.map (·.add (l * K))
theorem ta {T e:TypeId} {i:TypeInfo} {K:Nat} (hT:P.underlying T=some (.slice e)) (hi:P.info? e=some i) (h1:i.size=K) (w:World) : P.elem T=e∧(sizeOf (P.elem T)).run P w = .ok K w:=by
 have he:P.elem T=e:=by unfold Program.elem; simp [hT]
 refine ⟨he,?_⟩
 rw [he]
 simp [sizeOf,typeInfo,hi,h1]
theorem aaD {T e:TypeId} {A:Option Addr} {n c K:Nat} {i:TypeInfo} (hT:P.underlying T=some (.slice e)) (hi:P.info? e=some i) (h1:i.size=K) {h:Nat} (hh:h≤c) (w:World) (kh:IntKind) :
  (Instr.slice T (.slice A n c) none (some (.int kh (h:Int))) none).run P w = .ok (.slice (LJ K A 0 c) h c) w:=by
 obtain ⟨he,hs⟩:=ta hT hi h1 w
 rw [run_slice_h w T A n c (by rw [he]; exact hT) kh h (by omega) (by omega),hs]
 simp [Result.andThen,sliced,LJ]
theorem aaC {T e:TypeId} {A:Option Addr} {n c K:Nat} {i:TypeInfo} (hT:P.underlying T=some (.slice e)) (hi:P.info? e=some i) (h1:i.size=K) {l:Nat} (hl:l≤n) (w:World) (kl:IntKind) :
  (Instr.slice T (.slice A n c) (some (.int kl (l:Int))) none none).run P w = .ok (.slice (LJ K A l c) (n - l) (c - l)) w:=by
 obtain ⟨he,hs⟩:=ta hT hi h1 w
 rw [run_slice_l w T A n c (by rw [he]; exact hT) kl l (by omega) (by omega),hs]
 simp [Result.andThen,sliced,LJ]
theorem AF (K g l c:Nat) (h:l < c∨l=0) : LJ K (some ⟨g,0,none⟩) l c=some ⟨g,l * K,none⟩:=by
 unfold LJ
 by_cases e:c=l
 ·rw [if_pos e]
  rcases h with h | h
  ·omega
  ·subst h; simp
 ·rw [if_neg e]
  simp only [Option.map_some,Addr.add]
  split
  ·rename_i h0; rw [h0]
  ·simp
theorem Mw (g j:Nat) (s:Nat) : (⟨g,s,none⟩ : Addr).add j=⟨g,s + j,none⟩:=by unfold Addr.add; split <;> simp_all
end
end
structure wJ (g:Nat) (w w':World) : Prop where
 os:w'.os=w.os
 tape:w'.tape=w.tape
 output:w'.output=w.output
 size:w'.heap.size=w.heap.size
 block:∀ h,h≠g→w'.heap[h]? = w.heap[h]?
theorem wJ.refl (g:Nat) (w:World) : wJ g w w:=⟨rfl,rfl,rfl,rfl,fun _ _=>rfl⟩
theorem wJ.trans {g:Nat} {a b c:World} (h:wJ g a b) (k:wJ g b c) : wJ g a c:=⟨k.os.trans h.os,k.tape.trans h.tape,k.output.trans h.output,k.size.trans h.size,fun x hx=>(k.block x hx).trans (h.block x hx)⟩
theorem TK {w0:WM} {F0 F:Nat→Prop} {ρ : Nat→Value} {b:Nat→Option Box} {w w':World} {t j e k g n c:Nat} {es zs:List (List D)} {us:List Value} (hi:Inv w0 F0 ρ b w F) (hb:b t=some (.rw e k es)) (hρ : ρ t = .slice (some ⟨g,0,none⟩) n c) (hjn:b j=none) (hj:j < 1000000) (hk0 : 0 < k)
  (hT:wJ g w w') (ho:w'.ownsRow 0 e k (.slice (some ⟨g,0,none⟩) zs.length c) zs.length us) (hz:∀ x∈zs,x.length=k) (hl:us.length=zs.flatten.length) (hr:∀ (p:Nat) u d,us[p]? = some u→zs.flatten[p]? = some d→ej w F u d) :
  Inv w0 F0 (oZ (oZ ρ t (.tuple #[])) j (.slice (some ⟨g,0,none⟩) zs.length c)) (cP (cP b (some (t,.rw e k (es ++ [[]])))) (some (j,.rw e k zs))) w' F ∧
  Stp ρ b w F (oZ (oZ ρ t (.tuple #[])) j (.slice (some ⟨g,0,none⟩) zs.length c)) (cP (cP b (some (t,.rw e k (es ++ [[]])))) (some (j,.rw e k zs))) w' F ∧
  aJ (oZ (oZ ρ t (.tuple #[])) j (.slice (some ⟨g,0,none⟩) zs.length c)) (cP (cP b (some (t,.rw e k (es ++ [[]])))) (some (j,.rw e k zs))) w' F (.slice (some ⟨g,0,none⟩) zs.length c) (.row j zs.length):=by
 have htj:t≠j:=fun h=>by rw [h,hjn] at hb; cases hb
 have hbt:=hi.box t _ hb
 obtain ⟨hg1,hg2,hg3⟩:=hbt.lt (show blk (ρ t)=some g by rw [hρ]; rfl)
 obtain ⟨ρ2,hρ2⟩ : ∃ ρ2,ρ2=oZ (oZ ρ t (.tuple #[])) j (.slice (some ⟨g,0,none⟩) zs.length c):=⟨_,rfl⟩
 obtain ⟨b2,hb2⟩ : ∃ b2,b2=cP (cP b (some (t,.rw e k (es ++ [[]])))) (some (j,.rw e k zs)):=⟨_,rfl⟩
 rw [← hρ2,← hb2]
 have rj : ρ2 j = .slice (some ⟨g,0,none⟩) zs.length c:=by rw [hρ2,cV]
 have rt : ρ2 t = .tuple #[]:=by rw [hρ2,gU _ _ htj,cV]
 have ro:∀ x,x≠j→x≠t→ρ2 x = ρ x:=fun x h1 h2=>by rw [hρ2,gU _ _ h1,gU _ _ h2]
 have bj:b2 j=some (.rw e k zs):=by rw [hb2,cX]
 have bt:b2 t=some (.rw e k (es ++ [[]])):=by rw [hb2,cp _ _ htj,cX]
 have bo:∀ x,x≠j→x≠t→b2 x=b x:=fun x h1 h2=>by rw [hb2,cp _ _ h1,cp _ _ h2]
 have hs:Stp ρ b w F ρ2 b2 w' F:=by
  refine ⟨fun _ h=>h,fun g' hg'=>hT.block g' (fun h=>hg3 (h ▸ hg')),fun x ty cs hx=>?_,fun x e' k' es' hx=>?_⟩
  ·have h1:x≠j:=fun h=>by rw [h,hjn] at hx; cases hx
   have h2:x≠t:=fun h=>by rw [h,hb] at hx; cases hx
   rw [bo x h1 h2,ro x h1 h2]
   exact ⟨⟨ty,cs,hx⟩,rfl⟩
  ·have h1:x≠j:=fun h=>by rw [h,hjn] at hx; cases hx
   by_cases h2:x=t
   ·subst h2
    rw [hb] at hx
    injection hx with hx
    injection hx with q1 q2 q3
    subst q1 q2 q3
    rw [bt]
    exact ⟨e,es ++ [[]],rfl,by simp,fun h=>by simp at h⟩
   ·rw [bo x h1 h2,ro x h1 h2]
    exact ⟨e',es',hx,Nat.le_refl _,fun _=>rfl⟩
 have hbl:∀ x g',blk (ρ2 x)=some g'→(x=j∧g' = g)∨(x≠j∧x≠t∧blk (ρ x)=some g'):=fun x g' hx=>by
  by_cases h1:x=j
  ·subst h1
   rw [rj] at hx
   injection hx with hx
   exact .inl ⟨rfl,hx.symm⟩
  ·by_cases h2:x=t
   ·subst h2
    rw [rt] at hx
    cases hx
   ·rw [ro x h1 h2] at hx
    exact .inr ⟨h1,h2,hx⟩
 refine ⟨⟨hi.ext.step hT.os hT.tape hT.output (by rw [hT.size]; exact Nat.le_refl _) (fun p hp hM=>hT.block p (fun h=>vP hp hM (h ▸ hg2))),hi.f0,fun p hp=>by rw [hT.size]; exact hi.flt p hp,hi.fnew,fun x B hx=>?_,fun x y B1 B2 p hx hy hn hp=>?_,hi.reg_stp hs fun x hx hn=>?_⟩,hs,?_⟩
 ·by_cases h1:x=j
  ·subst h1
   rw [bj] at hx
   injection hx with hx
   subst hx
   refine .rw e k zs us hk0 (by rw [rj]; exact ho) (fun p hp=>?_) hz hl (fun p u d h3 h4=>(hr p u d h3 h4).mono hs.hF hs.hw) (fun p hp=>?_)
   ·rw [rj] at hp
    injection hp with hp
    rw [← hp]; exact hg3
   ·rw [rj] at hp
    injection hp with hp
    rw [← hp]; exact hg2
  ·by_cases h2:x=t
   ·subst h2
    rw [bt] at hx
    injection hx with hx
    subst hx
    exact .gn _ _ _ rt
   ·rw [bo x h1 h2] at hx
    have hbx:=hi.box x B hx
    exact hbx.mono hs (ro x h1 h2) (fun p hp=>hT.block p (fun h=>hi.dist x t B _ p hx hb h2 hp (by rw [hρ,h]; rfl))) (fun p hp=>(hbx.lt hp).2.2)
 ·intro hq
  rcases hbl x p hp with ⟨rfl,rfl⟩ | ⟨h1,h2,h3⟩
  ·rcases hbl y p hq with ⟨rfl,_⟩ | ⟨h4,h5,h6⟩
   ·exact hn rfl
   ·rw [bo y h4 h5] at hy
    exact hi.dist t y _ B2 p hb hy (Ne.symm h5) (by rw [hρ]; rfl) h6
  ·rw [bo x h1 h2] at hx
   rcases hbl y p hq with ⟨rfl,rfl⟩ | ⟨h4,h5,h6⟩
   ·exact hi.dist t x _ B1 p hb hx (Ne.symm h2) (by rw [hρ]; rfl) h3
   ·rw [bo y h4 h5] at hy
    exact hi.dist x y B1 B2 p hx hy hn h3 h6
 ·have h1:x≠j:=by omega
  have h2:x≠t:=fun h=>by rw [h,hb] at hn; cases hn
  rw [bo x h1 h2]; exact hn
 ·rcases ho.2 with ⟨h,_⟩ | ⟨g',cap,cur,h,_,_,hc,_⟩
  ·cases h
  ·injection h with q1 q2 q3
   subst q3
   exact .row j zs.length _ c e k zs bj (Nat.le_refl _) hc (fun _=>⟨_,rfl⟩) (fun _=>rj)
theorem DY {α : Type} (k:Nat) : ∀ (l:Nat) (es:List (List α)) (_:∀ e∈es,e.length=k),l≤es.length→(es.take l).flatten=es.flatten.take (l * k)
 | 0,es,_,_=>by simp
 | l + 1,[],_,h=>by simp at h
 | l + 1,e::es,hk,h=>by
  rw [List.take_succ_cons,List.flatten_cons,List.flatten_cons,DY k l es (fun x hx=>hk x (List.mem_cons_of_mem _ hx)) (by simpa using h),List.take_append,hk e List.mem_cons_self,show (l + 1) * k - k=l * k by rw [Nat.add_mul]; omega,List.take_of_length_le (l:=e) (by rw [hk e List.mem_cons_self,Nat.add_mul]; omega)]
def Xc {α : Type} (xs:List α) (i j:Int) : Option (List α):=if 0≤i∧i < j∧j.toNat≤xs.length then some (xs.take i.toNat++xs.drop j.toNat) else none
def aan (ty:Ty) (e k:Nat) (x:ct [.mv e k ty,.lf (.int .i64),.lf (.int .i64)]) : Option (bc [.io [.no,.no,.no],.own e k ty]):=(Xc (show List ty.den from x.1) x.2.1 x.2.2.1).bind fun z=>some (((),(),(),()),z)
theorem Zj {P:Program} {f:FuncId} (ty:Ty) {e k:Nat} (hk:tyN ty=k) (hk0 : 0 < k) (hcall:dB P f=true)
  (H:∀ (g n c i j:Nat) (us:List Value) (w:World),w.ownsRow 0 e k (.slice (some ⟨g,0,none⟩) n c) n us→(∀ u∈us,u.oneCell' = true)→i < j→j≤n→Calls P f #[.slice (some ⟨g,0,none⟩) n c,.int .i64 (i:Int),.int .i64 (j:Int)] w fun en w'=>en = .returned (.slice (some ⟨g,0,none⟩) (i + (n - j)) c)∧wJ g w w'∧w'.ownsRow 0 e k (.slice (some ⟨g,0,none⟩) (i + (n - j)) c) (i + (n - j)) (us.take (i * k)++us.drop (j * k))) :
  bO P f [.mv e k ty,.lf (.int .i64),.lf (.int .i64)] [.io [.no,.no,.no],.own e k ty] (aan ty e k):=by
 rintro ⟨xs,i,j,⟨⟩⟩ zz hF
 change List ty.den at xs
 change Int at i
 change Int at j
 obtain ⟨zs,hz,hF⟩:=cN hF
 injection hF with hF
 subst hF
 replace hz:Xc xs i j=some zs:=hz
 unfold Xc at hz
 split at hz
 ·rename_i hc
  obtain ⟨h0,hij,hjn⟩:=hc
  injection hz with hz
  obtain ⟨i,rfl⟩:=Int.eq_ofNat_of_zero_le h0
  obtain ⟨j,rfl⟩:=Int.eq_ofNat_of_zero_le (show 0≤j by omega)
  have hij:i < j:=by omega
  simp only [zt] at hz hjn
  refine ⟨fun h=>(by cases h),fun _=>⟨⟨trivial,trivial,trivial,trivial⟩,fun iss kss jss h1 h2 h3 h4 h5 h6=>⟨hcall,?_⟩⟩⟩
  match iss,h1 with
  | [is0,is1,is2],h1 =>
  match is0,h1.1 with
  | [t],_ =>
  match is1,h1.2.1 with
  | [],_ =>
  match is2,h1.2.2.1 with
  | [],_ =>
  match kss,h2 with
  | [k0,k1,k2],h2 =>
  match k0,h2.1 with
  | [],_ =>
  match k1,h2.2.1 with
  | [],_ =>
  match k2,h2.2.2.1 with
  | [],_ =>
  match jss,h3 with
  | [js],h3 =>
  match js,h3.1 with
  | [j0],_ =>
  intro w0 F0 ρ b w G vs args ha hb0 hbn hi hr
  have hj0:j0 < 1000000:=h5 j0 (by simp [br])
  have hbj:b j0=none:=hbn j0 (by simp [br])
  have hal:args.length=3:=by rw [← fV args,ha]; rfl
  match args,hal with
  | [a0,a1,a2],_ =>
  simp only [dM,dL,toI,List.cons.injEq] at ha
  obtain ⟨ha0,ha1,ha2,_⟩:=ha
  have hvl:vs.toList.length=3:=hr.len
  obtain ⟨v0,v1,v2,hv⟩ : ∃ v0 v1 v2,vs = #[v0,v1,v2]:=by
   match hv:vs.toList,hvl with
   | [v0,v1,v2],_=>exact ⟨v0,v1,v2,by apply Array.ext'; simpa using hv⟩
  subst hv
  have r0:=(hr.rep 0 v0 a0 rfl rfl).nrmd
  have r1:=(hr.rep 1 v1 a1 rfl rfl).nrmd
  have r2:=(hr.rep 2 v2 a2 rfl rfl).nrmd
  rw [ha0] at r0
  rw [ha1] at r1
  rw [ha2] at r2
  obtain ⟨rfl,_⟩:=aJ.vv r1
  obtain ⟨rfl,_⟩:=aJ.vv r2
  obtain ⟨B',hB,hnB⟩:=hb0 t (rwU e k ty xs) (by simp [dL,toI,lkU])
  have hBe:B' = .rw e k (xs.map (bH ty)):=by
   cases B' with
   | st ty' cs=>cases hnB
   | rw e' k' es'=>exact hnB
  subst hBe
  have hel:(xs.map (bH ty)).length=xs.length:=List.length_map ..
  have hek:∀ y∈xs.map (bH ty),y.length=k:=fun y hy=>by
   obtain ⟨z,_,rfl⟩:=List.mem_map.1 hy
   rw [lA,hk]
  cases r0 with
  | row _ _ A c e2 k2 es2 hb2 hn2 hc2 hA2 hρ2 =>
  rw [hB] at hb2
  injection hb2 with hb2
  injection hb2 with q1 q2 q3
  subst q1 q2 q3
  have hρt:=hρ2 hel
  have hbx:=hi.box t _ hB
  cases hbx with
  | gn _ _ _ hg=>rw [hρt] at hg; cases hg
  | rw _ _ _ us hk1 ho hFt hkt hlt hrt hown =>
  rw [hρt,hel] at ho
  have ho':=ho
  rcases ho'.2 with ⟨h',hn0⟩ | ⟨g,cap,cur,h',_,_,_,_⟩
  ·omega
  injection h' with m1 m2 m3
  subst m1 m3
  have hfl:=cC k _ hek
  rw [hel] at hfl
  have hul:us.length=xs.length * k:=by rw [hlt,hfl]
  have h1c:∀ u∈us,u.oneCell' = true:=fun u hu=>by
   obtain ⟨p,hp⟩:=List.getElem?_of_mem hu
   have hpl:=(zg.1 hp).1
   exact (hrt p u _ hp (zq (by omega))).one
  refine (H g xs.length c i j us w ho h1c hij hjn).mono ?_
  rintro en w' ⟨rfl,hT,ho2⟩
  have hzl:zs.length=i + (xs.length - j):=by rw [← hz]; simp; omega
  have hzm:(zs.map (bH ty)).length=i + (xs.length - j):=by rw [List.length_map,hzl]
  have hzk:∀ y∈zs.map (bH ty),y.length=k:=fun y hy=>by
   obtain ⟨z,_,rfl⟩:=List.mem_map.1 hy
   rw [lA,hk]
  have hzf:(zs.map (bH ty)).flatten=(xs.map (bH ty)).flatten.take (i * k)++(xs.map (bH ty)).flatten.drop (j * k):=by
   rw [← hz,List.map_append,List.flatten_append,List.map_take,List.map_drop,DY k i _ hek (by rw [hel]; omega),ss k j _ hek (by rw [hel]; omega)]
  have:=TK (zs:=zs.map (bH ty)) (us:=us.take (i * k)++us.drop (j * k)) hi hB hρt hbj hj0 hk0 hT (by rw [hzm]; exact ho2) hzk (by rw [hzf]; simp only [List.length_append,List.length_take,List.length_drop,hul,hfl]) (fun p u d hu hd=>by
   rw [hzf] at hd
   rw [List.getElem?_append] at hu hd
   simp only [List.length_take,hul,hfl] at hu hd
   split at hu
   ·rename_i hc
    rw [if_pos hc] at hd
    rw [List.getElem?_take] at hu hd
    split at hu
    ·rename_i hc2
     rw [if_pos hc2] at hd
     exact hrt p u d hu hd
    ·cases hu
   ·rename_i hc
    rw [if_neg hc] at hd
    rw [List.getElem?_drop] at hu hd
    exact hrt _ u d hu hd)
  obtain ⟨k1,k2,k3⟩:=this
  have hU:dx b (pN [.mv e k ty,.lf (.int .i64),.lf (.int .i64)] [.io [.no,.no,.no],.own e k ty] [[t],[],[]] [[],[],[]] [[j0]] (xs,((i:Int),((j:Int),()))) (((),(),(),()),zs))=cP (cP b (some (t,.rw e k (xs.map (bH ty) ++ [[]])))) (some (j0,.rw e k (zs.map (bH ty)))):=by
   have hU2:pN [.mv e k ty,.lf (.int .i64),.lf (.int .i64)] [.io [.no,.no,.no],.own e k ty] [[t],[],[]] [[],[],[]] [[j0]] (xs,((i:Int),((j:Int),()))) (((),(),(),()),zs) = [(j0,.rw e k (zs.map (bH ty))),(t,.rw e k (xs.map (bH ty) ++ [[]]))]:=by
    simp [pN,Ow,toO,cT,toI,eZ,hZ,cx,jN,Cd,oO,ES,dL,lkU,rwU,WF]
   rw [hU2]
   funext x
   simp only [dx,lkU,cP]
   by_cases e1:x=j0
   ·subst e1; simp
   ·by_cases e2:x=t
    ·subst e2; simp [e1,Ne.symm e1]
    ·simp [e1,e2,Ne.symm e1,Ne.symm e2]
  rw [hU]
  refine ⟨_,_,G,rfl,k1,k2,?_⟩
  rw [← hzm]
  show aJ _ _ _ _ _ (.row j0 zs.length)
  rw [show zs.length=(zs.map (bH ty)).length from (List.length_map ..).symm]
  exact k3
 ·cases hz
theorem GY {P:Program} (w:World) (t e ty:TypeId) (z:Value) (ht:P.underlying t=some (.slice e)) (hv:∀ w,(zeroValue e).run P w = .ok z w) (h1:∀ u∈z.cells.toList,u.oneCell' = true) (b o n c:Nat) (hn : 0 < n)
  (hc:∀ j,j < n * z.cells.size→(w.cell? ⟨b,o + j,none⟩).isSome=true) (hf:∀ j,j < n * z.cells.size→w.frozen? ⟨b,o + j,none⟩=false) :
  (Builtin.clear_ #[t] ty #[.slice (some ⟨b,o,none⟩) n c]).run P w = .ok (.tuple #[]) (w.setCells b o (Builtin.zeroCells z.cells n).toList)∧(Builtin.zeroCells z.cells n).toList.length=n * z.cells.size∧∀ u∈(Builtin.zeroCells z.cells n).toList,u.oneCell' = true:=by
 have hl:(Builtin.zeroCells z.cells n).toList.length=n * z.cells.size:=by simp [Builtin.zeroCells]
 have ho:∀ u∈(Builtin.zeroCells z.cells n).toList,u.oneCell' = true:=by
  intro u hu
  simp [Builtin.zeroCells] at hu
  obtain ⟨a,ha,rfl⟩:=hu
  have h0 : 0 < z.cells.size:=by
   rcases Nat.eq_zero_or_pos z.cells.size with e | e
   ·rw [e,Nat.mul_zero] at ha; omega
   ·exact e
  have hm:=Nat.mod_lt a h0
  rw [getElem!_pos z.cells _ hm]
  exact h1 _ (by simp)
 refine ⟨?_,hl,ho⟩
 have hst:=run_storeCells_cells (P:=P) b o (Builtin.zeroCells z.cells n).toList 0 w (by rw [hl]; simpa using hc) (by rw [hl]; simpa using hf) ho
 simp only [Nat.add_zero] at hst
 obtain ⟨m,rfl⟩ : ∃ m,n=m + 1:=⟨n - 1,by omega⟩
 simp [Builtin.clear_,run_underlying ht,hv,hst]
theorem SF {w:World} {g:Nat} {cur:Array Value} {e:TypeId} (h:w.heap[g]? = some (.cells cur e (0,0))) (q:Nat) : w.cell? ⟨g,q,none⟩=cur[q]? := by simp [World.cell?,h]
theorem TR {w:World} {g:Nat} {cur:Array Value} {e:TypeId} (h:w.heap[g]? = some (.cells cur e (0,0))) (q:Nat) : w.frozen? ⟨g,q,none⟩=false:=by simp [World.frozen?,h]
theorem G8 (g n c i j:Nat) (us:List Value) (w:World) (ho:w.ownsRow 0 30 14 (.slice (some ⟨g,0,none⟩) n c) n us) (h1c:∀ u∈us,u.oneCell' = true) (hij:i < j) (hj:j≤n) :
  Calls prog 72 #[.slice (some ⟨g,0,none⟩) n c,.int .i64 (i:Int),.int .i64 (j:Int)] w fun en w'=>en = .returned (.slice (some ⟨g,0,none⟩) (i + (n - j)) c)∧∃ L:List Value,L.length=(j - i) * 14∧(∀ u∈L,u.oneCell' = true)∧w' = (w.drew.setCells g (i * 14) (us.drop (j * 14))).setCells g ((i + (n - j)) * 14) L:=by
 obtain ⟨c0,hc,hcz0,hcz1,hcz2⟩:=info_parts Tryz.infoClApp
 obtain ⟨hul,ho2⟩:=ho
 rcases ho2 with ⟨h0,_⟩ | ⟨g',cap,cur,h0,_,hh,hnc,hmax,hcs,hct⟩
 ·cases h0
 injection h0 with e1 e2 e3
 injection e1 with e1
 injection e1 with e1
 subst e1 e3
 have hT:=Tryz.underlying38
 obtain ⟨news,hnews⟩ : ∃ news,news=us.drop (j * 14):=⟨_,rfl⟩
 have hnl:news.length=(n - j) * 14:=by rw [hnews,List.length_drop,hul]; omega
 have hn1:∀ u∈news,u.oneCell' = true:=fun u hu=>h1c u (by rw [hnews] at hu; exact List.mem_of_mem_drop hu)
 have hnget:∀ q u,news[q]? = some u→cur[j * 14 + q]? = some u:=fun q u hq=>by
  rw [hnews,List.getElem?_drop,← hct,List.getElem?_take] at hq
  split at hq
  ·rw [← Array.getElem?_toList]; exact hq
  ·cases hq
 have hall:∀ q,q < c * 14→(w.drew.cell? ⟨g,q,none⟩).isSome=true∧w.drew.frozen? ⟨g,q,none⟩=false:=fun q hq=>by
  refine ⟨?_,TR hh q⟩
  show (w.cell? _).isSome=true
  rw [SF hh,Array.getElem?_eq_getElem (by omega)]
  rfl
 have S1:∀ W:World,(Instr.slice 38 (.slice (some ⟨g,0,none⟩) n c) (some (.int .i64 (i:Int))) (some (.int .i64 (j:Int))) (some (.int .i64 (n:Int)))).run prog W = .ok (sliced (some ⟨g,0,none⟩) i j n 14) W:=fun W=>by
  obtain ⟨he,hs⟩:=ta hT hc hcz1 W
  rw [run_slice_lhm W _ _ _ _ (by rw [he]; exact hT) .i64 .i64 .i64 (i:Int) (j:Int) (n:Int) (by omega) (by omega) (by omega) (by omega),hs]
  simp [Result.andThen]
 have S2:∀ W:World,(Instr.slice 38 (.slice (some ⟨g,0,none⟩) n c) none (some (.int .i64 (i:Int))) none).run prog W = .ok (.slice (some ⟨g,0,none⟩) i c) W:=fun W=>by
  rw [aaD hT hc hcz1 (by omega) W .i64,AF 14 g 0 c (.inr rfl)]
 obtain ⟨A2,hA2⟩ : ∃ A2,LJ 14 (some ⟨g,0,none⟩) j c=some A2:=by
  by_cases e:j < c
  ·exact ⟨_,AF 14 g j c (.inl e)⟩
  ·refine ⟨⟨g,0,none⟩,?_⟩
   have:c=j:=by omega
   unfold LJ
   rw [if_pos this]
 have S3:∀ W:World,(Instr.slice 38 (.slice (some ⟨g,0,none⟩) n c) (some (.int .i64 (j:Int))) none none).run prog W = .ok (.slice (some A2) (n - j) (c - j)) W:=fun W=>by
  rw [aaC hT hc hcz1 hj W .i64,hA2]
 have hsrc:∀ q u,news[q]? = some u→w.drew.cell? (A2.add q)=some u:=fun q u hq=>by
  have hq2:=(zg.1 hq).1
  have e:A2=⟨g,j * 14,none⟩:=by
   rw [AF 14 g j c (.inl (by omega))] at hA2
   injection hA2 with hA2
   exact hA2.symm
  show w.cell? _ = _
  rw [e,Mw,SF hh]
  exact hnget q u hq
 obtain ⟨d,hd⟩ : ∃ d,d=n - j:=⟨_,rfl⟩
 rw [← hd] at S3 hnl ⊢
 obtain ⟨W1,hW1⟩ : ∃ W1,W1=w.drew.setCells g (0 + i * 14) news:=⟨_,rfl⟩
 have hcl1:∀ q,q < c * 14→(W1.cell? ⟨g,q,none⟩).isSome=true∧W1.frozen? ⟨g,q,none⟩=false:=fun q hq=>by
  rw [hW1]
  exact ⟨World.isSome_setCells g _ _ _ _ (hall q hq).1,by rw [World.frozen?_setCells]; exact (hall q hq).2⟩
 have hzv:∀ W:World,(zeroValue 30).run prog W = .ok (.agg #[.int .i64 0,.int .i64 0,.string ⟨#[]⟩,.int .i64 0,.int .i64 0,.int .i64 0,.int .i64 0,.slice none 0 0,.int .i64 0,.int .i64 0,.slice none 0 0,.slice none 0 0,.slice none 0 0,.slice none 0 0]) W:=fun W=>by
  simp [zeroValue,typeInfo,hc,hcz0]
 have S4:∀ W:World,(Instr.slice 38 (.slice (some ⟨g,0,none⟩) (i + d) c) (some (.int .i64 ((i + d:Nat) : Int))) (some (.int .i64 (n:Int))) none).run prog W = .ok (.slice (some ⟨g,(i + d) * 14,none⟩) (n - (i + d)) (c - (i + d))) W:=fun W=>by
  obtain ⟨he,hs⟩:=ta hT hc hcz1 W
  rw [run_slice_lh W _ _ _ _ (by rw [he]; exact hT) .i64 .i64 ((i + d:Nat) : Int) (n:Int) (by omega) (by omega) (by omega),hs]
  simp only [Result.andThen,sliced,zt]
  rw [if_neg (by omega)]
  simp [Mw]
 obtain ⟨z,hz⟩ : ∃ z:Value,z = .agg #[.int .i64 0,.int .i64 0,.string ⟨#[]⟩,.int .i64 0,.int .i64 0,.int .i64 0,.int .i64 0,.slice none 0 0,.int .i64 0,.int .i64 0,.slice none 0 0,.slice none 0 0,.slice none 0 0,.slice none 0 0]:=⟨_,rfl⟩
 rw [← hz] at hzv
 have hzs:z.cells.size=14:=by rw [hz]; rfl
 have hz1:∀ u∈z.cells.toList,u.oneCell' = true:=by
  rw [hz]
  simp only [Value.cells,List.mem_cons,List.not_mem_nil,or_false]
  rintro u (rfl | rfl | rfl | rfl | rfl | rfl | rfl | rfl | rfl | rfl | rfl | rfl | rfl | rfl) <;> rfl
 have hclr:=fun ty=>GY W1 38 30 ty z hT hzv hz1 g ((i + d) * 14) (n - (i + d)) (c - (i + d)) (by omega)
  (fun q hq=>by rw [hzs] at hq; exact (hcl1 ((i + d) * 14 + q) (by omega)).1) (fun q hq=>by rw [hzs] at hq; exact (hcl1 ((i + d) * 14 + q) (by omega)).2)
 obtain ⟨Lz,hLz⟩ : ∃ Lz,Lz=(Builtin.zeroCells z.cells (n - (i + d))).toList:=⟨_,rfl⟩
 rw [← hLz,hzs] at hclr
 have hLl:=(hclr 0).2.1
 have hL1:=(hclr 0).2.2
 have hcle:=fun ty=>(hclr ty).1
 have HL:=Lib.hid (show Lz.length=(j - i) * 14 by rw [hLl]; congr 1; omega)
 have HL1:=Lib.hid hL1
 have s1:=Lib.hid hnl
 have s2:=Lib.hid hn1
 have s3:=Lib.hid hsrc
 have s4:=Lib.hid (show ∀ q,q < news.length→(w.drew.cell? ⟨g,0 + i * 14 + q,none⟩).isSome=true∧w.drew.frozen? ⟨g,0 + i * 14 + q,none⟩=false from fun q hq=>by rw [hnl] at hq; exact hall (0 + i * 14 + q) (by omega))
 have hW:=Lib.hid hW1
 have hr:i + d≤c:=by omega
 have hne : ¬ (i:Int)=(j:Int):=by omega
 clear hclr hLz hLl hL1 hW1 hcl1 hall hsrc hn1 hnl hnget hct hul hcs hz hzs hz1 hzv
 have hb1:(i:Int) + (d:Int)≤(n:Int):=by omega
 have hb2:(n:Int)≤(c:Int):=by omega
 have hb3 : ¬ c=i + d:=by omega
 have HD:=Lib.hid hd
 clear hd
 have mixed:=Tryz.mixed
 go_enter Tryz.func72,Tryz.ntmps72
 go_wp2_with fail
 go_region_law_o (refine step_append_room rfl (.tmp 22) (.tmp 25) 38 rfl 30 c0 14 hT hc hcz1 g 0 i c (by simp [Act.eval,Act.put]) A2 d (c - j) news (by simp [Act.eval,Act.put]) s1.out s3.out s2.out (by omega) s4.out ?_; rw [← hW.out])
 go_wp2
 go_ret
 exact ⟨rfl,Lz,HL.out,HL1.out,by rw [hW.out,Nat.zero_add,hnews]⟩
theorem xD {g:Nat} {e:TypeId} : ∀ (vs:List Value) (o:Nat) (w:World) (cur:Array Value),w.heap[g]? = some (.cells cur e (0,0))→o + vs.length≤cur.size→(w.setCells g o vs).heap[g]? = some (.cells (cur.toList.take o++vs++cur.toList.drop (o + vs.length)).toArray e (0,0))
 | [],o,w,cur,h,_=>by
  show w.heap[g]? = _
  rw [h]
  simp
 | v::r,o,w,cur,h,hl=>by
  simp only [List.length_cons] at hl
  have h1:(w.setCell ⟨g,o,none⟩ v).heap[g]? = some (.cells (cur.setIfInBounds o v) e (0,0)):=by rw [heap_setCell_same w g o _ _ _ h]
  have h2:=xD r (o + 1) _ _ h1 (by simp; omega)
  rw [World.setCells,h2]
  have e1:(cur.setIfInBounds o v).toList=cur.toList.take o++v::cur.toList.drop (o + 1):=by
   rw [Array.toList_setIfInBounds,List.set_eq_take_append_cons_drop,if_pos (by simp; omega)]
  have e2:(cur.toList.take o).length=o:=by simp; omega
  have e5:cur.toList.drop (o + (r.length + 1))=(cur.toList.drop (o + 1)).drop r.length:=by rw [List.drop_drop]; congr 1; omega
  rw [e1]
  simp only [List.length_cons]
  rw [e5]
  generalize cur.toList.take o=X at e2
  generalize cur.toList.drop (o + 1)=Y
  have t1:(X++v::Y).take (o + 1)=X ++ [v]:=by
   rw [List.take_append,e2,show o + 1 - o=1 by omega,List.take_of_length_le (l:=X) (by omega)]
   rfl
  have t2:(X++v::Y).drop (o + 1 + r.length)=Y.drop r.length:=by
   rw [List.drop_append,e2,show o + 1 + r.length - o=r.length + 1 by omega,List.drop_of_length_le (l:=X) (by omega)]
   rfl
  rw [t1,t2]
  simp
theorem wJ.cells (g:Nat) : ∀ (vs:List Value) (o:Nat) (w:World),wJ g w (w.setCells g o vs)
 | [],_,w=>.refl g w
 | v::r,o,w=>by
  refine wJ.trans ?_ (wJ.cells g r (o + 1) (w.setCell ⟨g,o,none⟩ v))
  exact ⟨rfl,rfl,rfl,by simp [World.setCell],fun h hh=>Below.heap_setCell _ _ _ _ (fun e=>hh e)⟩
theorem G7 (g n c i j:Nat) (us:List Value) (w:World) (ho:w.ownsRow 0 30 14 (.slice (some ⟨g,0,none⟩) n c) n us) (h1c:∀ u∈us,u.oneCell' = true) (hij:i < j) (hj:j≤n) :
  Calls prog 72 #[.slice (some ⟨g,0,none⟩) n c,.int .i64 (i:Int),.int .i64 (j:Int)] w fun en w'=>en = .returned (.slice (some ⟨g,0,none⟩) (i + (n - j)) c)∧wJ g w w'∧w'.ownsRow 0 30 14 (.slice (some ⟨g,0,none⟩) (i + (n - j)) c) (i + (n - j)) (us.take (i * 14)++us.drop (j * 14)):=by
 refine (G8 g n c i j us w ho h1c hij hj).mono ?_
 rintro en w' ⟨rfl,L,hL,_,rfl⟩
 refine ⟨rfl,((⟨rfl,rfl,rfl,rfl,fun _ _=>rfl⟩ : wJ g w w.drew).trans (wJ.cells g _ _ _)).trans (wJ.cells g _ _ _),?_⟩
 obtain ⟨hul,ho2⟩:=ho
 rcases ho2 with ⟨h0,_⟩ | ⟨g',cap,cur,h0,_,hh,hnc,hmax,hcs,hct⟩
 ·cases h0
 injection h0 with e1 e2 e3
 injection e1 with e1
 injection e1 with e1
 subst e1 e3
 have hnl:(us.drop (j * 14)).length=(n - j) * 14:=by rw [List.length_drop,hul]; omega
 have h1:=xD (us.drop (j * 14)) (i * 14) w.drew cur hh (by rw [hnl]; omega)
 have hcl:cur.toList.length=c * 14:=by simpa using hcs
 obtain ⟨R,hR⟩ : ∃ R,R=cur.toList.drop (i * 14 + (us.drop (j * 14)).length):=⟨_,rfl⟩
 rw [← hR] at h1
 have hRl:R.length=c * 14 - (i * 14 + (n - j) * 14):=by rw [hR,List.length_drop,hcl,hnl]
 have hA:(cur.toList.take (i * 14)++us.drop (j * 14)).length=(i + (n - j)) * 14:=by rw [List.length_append,List.length_take,hcl,hnl]; omega
 have h2:=xD L ((i + (n - j)) * 14) _ _ h1 (by simp only [List.size_toArray,List.length_append,List.length_take,hcl,hnl,hRl,hL]; omega)
 have ht:cur.toList.take (i * 14)=us.take (i * 14):=by rw [← hct,List.take_take,Nat.min_eq_left (by omega)]
 have hf:((cur.toList.take (i * 14)++us.drop (j * 14)++R).take ((i + (n - j)) * 14))=us.take (i * 14)++us.drop (j * 14):=by
  rw [List.take_append,hA,Nat.sub_self,List.take_zero,List.append_nil,List.take_of_length_le (by omega),ht]
 refine ⟨by rw [List.length_append,List.length_take,hul,hnl]; omega,.inr ⟨g,c,_,rfl,Nat.zero_le _,h2,by omega,hmax,?_,?_⟩⟩
 ·simp only [List.size_toArray,List.length_append,List.length_take,List.length_drop,hcl,hnl,hRl,hL,hul]
  omega
 ·simp only [List.toList_toArray]
  rw [hf,List.append_assoc,List.take_append,List.take_of_length_le (by rw [List.length_append,List.length_take,hul,hnl]; omega)]
  have:(us.take (i * 14)++us.drop (j * 14)).length=(i + (n - j)) * 14:=by rw [List.length_append,List.length_take,hul,hnl]; omega
  rw [this,Nat.sub_self,List.take_zero,List.append_nil]
noncomputable def Vz:Ent:=⟨[.mv 30 14 (.st 2),.lf (.int .i64),.lf (.int .i64)],[.io [.no,.no,.no],.own 30 14 (.st 2)],aan (.st 2) 30 14⟩
theorem Vy:bO prog 72 [.mv 30 14 (.st 2),.lf (.int .i64),.lf (.int .i64)] [.io [.no,.no,.no],.own 30 14 (.st 2)] (aan (.st 2) 30 14):=Zj (.st 2) (by kernel_rfl) (by decide) (by kernel_rfl) (fun g n c i j us w h1 h2 h3 h4=>G7 g n c i j us w h1 h2 h3 h4)
noncomputable def qC (x:ct [.lf (.str)]) : Option (bc [.lf (.str)]):=iZ ⟨prog,[(167,Rt)],8,[.lf (.str)],[.tmp 2],[],[],[]⟩ ((Tryz.f151).body.getD .skip) (.n) [.lf (.str)] x
noncomputable def GG:Ent:=⟨[.lf (.str)],[.lf (.str)],qC⟩
theorem GF:bO prog 151 [.lf (.str)] [.lf (.str)] qC:=cD (n:=8) (.cons (Rs) (.nil)) Tryz.mixed Tryz.func151 rfl (by kernel_rfl) rfl rfl rfl (fun _=>rfl)
noncomputable def qA (x:ct [.ag 4,.lf (.str)]) : Option (bc [.lf (.bool)]):=iZ ⟨prog,[(151,GG)],14,[.lf (.bool)],[.tmp 4],[],[],[]⟩ ((Tryz.f132).body.getD .skip) (.n) [.ag 4,.lf (.str)] x
noncomputable def GB:Ent:=⟨[.ag 4,.lf (.str)],[.lf (.bool)],qA⟩
theorem GA:bO prog 132 [.ag 4,.lf (.str)] [.lf (.bool)] qA:=cD (n:=14) (.cons (GF) (.nil)) Tryz.mixed Tryz.func132 rfl (by kernel_rfl) rfl rfl rfl (fun _=>rfl)
noncomputable def rF (x:ct [.ag 5,.lf (.str)]) : Option (bc [.lf (.sl (.str))]):=iZ ⟨prog,[(132,GB),(73,sV)],25,[.lf (.sl (.str))],[.tmp 4],[],[],[]⟩ ((Tryz.f109).body.getD .skip) (.s (.n) (.s (.s (.n) (.s (.lp [.row 4 4 9 1 (.str),.leaf 10 (.int .i64)] 0 false (.n)) .n)) (.n))) [.ag 5,.lf (.str)] x
noncomputable def Hu:Ent:=⟨[.ag 5,.lf (.str)],[.lf (.sl (.str))],rF⟩
theorem Ht:bO prog 109 [.ag 5,.lf (.str)] [.lf (.sl (.str))] rF:=cD (n:=25) (.cons (GA) (.cons (sU) (.nil))) Tryz.mixed Tryz.func109 rfl (by kernel_rfl) rfl rfl rfl (fun _=>rfl)
noncomputable def ue (x:ct [.ag 4,.pl .str]) : Option (bc [.lf (.bool)]):=iZ ⟨prog,[],8,[.lf (.bool)],[.tmp 3],[],[],[]⟩ ((Tryz.f131).body.getD .skip) (.n) [.ag 4,.pl .str] x
noncomputable def C1:Ent:=⟨[.ag 4,.pl .str],[.lf (.bool)],ue⟩
theorem C0:bO prog 131 [.ag 4,.pl .str] [.lf (.bool)] ue:=cD (n:=8) (.nil) Tryz.mixed Tryz.func131 rfl (by kernel_rfl) rfl rfl rfl (fun _=>rfl)
noncomputable def Od (x:ct [.lf (.sl (.st 4)),.fn 131 [] [.pl .str]]) : Option (bc [.lf (.int .i64)]):=iZ ⟨prog,[(131,C1)],19,[.lf (.int .i64)],[.tmp 4],[],[],[]⟩ ((Tryz.f130).body.getD .skip) (.s (.n) (.s (.s (.n) (.s (.lp [.leaf 4 (.int .i64),.leaf 8 (.int .i64)] 0 true (.n)) .n)) (.n))) [.lf (.sl (.st 4)),.fn 131 [] [.pl .str]] x
noncomputable def XP:Ent:=⟨[.lf (.sl (.st 4)),.fn 131 [] [.pl .str]],[.lf (.int .i64)],Od⟩
theorem XO:bO prog 130 [.lf (.sl (.st 4)),.fn 131 [] [.pl .str]] [.lf (.int .i64)] Od:=cD (n:=19) (.cons (C0) (.nil)) Tryz.mixed Tryz.func130 rfl (by kernel_rfl) rfl rfl rfl (fun _=>rfl)
noncomputable def qB (x:ct [.ag 5,.lf (.str)]) : Option (bc [.lf (.int .i64)]):=iZ ⟨prog,[(130,XP)],9,[.lf (.int .i64)],[.tmp 4],[],[],[(0,[3])]⟩ ((Tryz.f108).body.getD .skip) (.n) [.ag 5,.lf (.str)] x
noncomputable def GD:Ent:=⟨[.ag 5,.lf (.str)],[.lf (.int .i64)],qB⟩
theorem GC:bO prog 108 [.ag 5,.lf (.str)] [.lf (.int .i64)] qB:=cD (n:=9) (.cons (XO) (.nil)) Tryz.mixed Tryz.func108 rfl (by kernel_rfl) rfl rfl rfl (fun _=>rfl)
noncomputable def rD (x:ct [.ag 5,.lf (.str)]) : Option (bc [.lf (.bool)]):=iZ ⟨prog,[(108,GD),(109,Hu)],16,[.lf (.bool)],[.tmp 4],[],[],[]⟩ ((Tryz.f69).body.getD .skip) (.n) [.ag 5,.lf (.str)] x
noncomputable def Hs:Ent:=⟨[.ag 5,.lf (.str)],[.lf (.bool)],rD⟩
theorem Hr:bO prog 69 [.ag 5,.lf (.str)] [.lf (.bool)] rD:=cD (n:=16) (.cons (GC) (.cons (Ht) (.nil))) Tryz.mixed Tryz.func69 rfl (by kernel_rfl) rfl rfl rfl (fun _=>rfl)
noncomputable def rK (x:ct [.ag 2]) : Option (bc [.lf (.bool)]):=iZ ⟨prog,[],11,[.lf (.bool)],[.tmp 2],[],[],[]⟩ ((Tryz.f18).body.getD .skip) (.n) [.ag 2] x
noncomputable def rL:Ent:=⟨[.ag 2],[.lf (.bool)],rK⟩
theorem rJ:bO prog 18 [.ag 2] [.lf (.bool)] rK:=cD (n:=11) (.nil) Tryz.mixed Tryz.func18 rfl (by kernel_rfl) rfl rfl rfl (fun _=>rfl)
noncomputable def oM (x:ct [.lf (.int .i64),.lf (.int .i64),.lf (.int .i64)]) : Option (bc [.lf (.bool)]):=iZ ⟨prog,[],15,[.lf (.bool)],[.tmp 6],[],[],[]⟩ ((Tryz.f107).body.getD .skip) (.n) [.lf (.int .i64),.lf (.int .i64),.lf (.int .i64)] x
noncomputable def Dd:Ent:=⟨[.lf (.int .i64),.lf (.int .i64),.lf (.int .i64)],[.lf (.bool)],oM⟩
theorem Dc:bO prog 107 [.lf (.int .i64),.lf (.int .i64),.lf (.int .i64)] [.lf (.bool)] oM:=cD (n:=15) (.nil) Tryz.mixed Tryz.func107 rfl (by kernel_rfl) rfl rfl rfl (fun _=>rfl)
noncomputable def nv (x:ct [.ag 2]) : Option (bc [.lf (.bool)]):=iZ ⟨prog,[(107,Dd)],28,[.lf (.bool)],[.tmp 2],[],[],[]⟩ ((Tryz.f67).body.getD .skip) (.n) [.ag 2] x
noncomputable def BM:Ent:=⟨[.ag 2],[.lf (.bool)],nv⟩
theorem BL:bO prog 67 [.ag 2] [.lf (.bool)] nv:=cD (n:=28) (.cons (Dc) (.nil)) Tryz.mixed Tryz.func67 rfl (by kernel_rfl) rfl rfl rfl (fun _=>rfl)
noncomputable def kJ (x:ct [.lf (.sl (.st 2))]) : Option (bc [.lf (.int .i64)]):=iZ ⟨prog,[(18,rL)],17,[.lf (.int .i64)],[.tmp 2],[],[],[]⟩ ((Tryz.f68).body.getD .skip) (.s (.n) (.s (.s (.n) (.s (.lp [.leaf 2 (.int .i64),.leaf 7 (.int .i64)] 0 false (.n)) .n)) (.n))) [.lf (.sl (.st 2))] x
noncomputable def yd:Ent:=⟨[.lf (.sl (.st 2))],[.lf (.int .i64)],kJ⟩
theorem yc:bO prog 68 [.lf (.sl (.st 2))] [.lf (.int .i64)] kJ:=cD (n:=17) (.cons (rJ) (.nil)) Tryz.mixed Tryz.func68 rfl (by kernel_rfl) rfl rfl rfl (fun _=>rfl)
noncomputable def uf (x:ct [.ag 2,.pl (.int .i64)]) : Option (bc [.lf (.bool)]):=iZ ⟨prog,[],8,[.lf (.bool)],[.tmp 3],[],[],[]⟩ ((Tryz.f77).body.getD .skip) (.n) [.ag 2,.pl (.int .i64)] x
noncomputable def Df:Ent:=⟨[.ag 2,.pl (.int .i64)],[.lf (.bool)],uf⟩
theorem De:bO prog 77 [.ag 2,.pl (.int .i64)] [.lf (.bool)] uf:=cD (n:=8) (.nil) Tryz.mixed Tryz.func77 rfl (by kernel_rfl) rfl rfl rfl (fun _=>rfl)
noncomputable def Oh (x:ct [.lf (.sl (.st 2)),.fn 77 [] [.pl (.int .i64)]]) : Option (bc [.lf (.int .i64)]):=iZ ⟨prog,[(77,Df)],19,[.lf (.int .i64)],[.tmp 4],[],[],[]⟩ ((Tryz.f70).body.getD .skip) (.s (.n) (.s (.s (.n) (.s (.lp [.leaf 4 (.int .i64),.leaf 8 (.int .i64)] 0 true (.n)) .n)) (.n))) [.lf (.sl (.st 2)),.fn 77 [] [.pl (.int .i64)]] x
noncomputable def XR:Ent:=⟨[.lf (.sl (.st 2)),.fn 77 [] [.pl (.int .i64)]],[.lf (.int .i64)],Oh⟩
theorem XQ:bO prog 70 [.lf (.sl (.st 2)),.fn 77 [] [.pl (.int .i64)]] [.lf (.int .i64)] Oh:=cD (n:=19) (.cons (De) (.nil)) Tryz.mixed Tryz.func70 rfl (by kernel_rfl) rfl rfl rfl (fun _=>rfl)
noncomputable def qE (x:ct [.lf (.sl (.st 2)),.lf (.int .i64)]) : Option (bc [.lf (.int .i64)]):=iZ ⟨prog,[(70,XR)],8,[.lf (.int .i64)],[.tmp 4],[],[],[(0,[3])]⟩ ((Tryz.f42).body.getD .skip) (.n) [.lf (.sl (.st 2)),.lf (.int .i64)] x
noncomputable def vH:Ent:=⟨[.lf (.sl (.st 2)),.lf (.int .i64)],[.lf (.int .i64)],qE⟩
theorem vG:bO prog 42 [.lf (.sl (.st 2)),.lf (.int .i64)] [.lf (.int .i64)] qE:=cD (n:=8) (.cons (XQ) (.nil)) Tryz.mixed Tryz.func42 rfl (by kernel_rfl) rfl rfl rfl (fun _=>rfl)
noncomputable def qF (x:ct [.ag 12,.ag 2]) : Option (bc [.lf (.int .i64)]):=iZ ⟨prog,[(67,BM),(42,vH),(68,yd),(69,Hs)],28,[.lf (.int .i64)],[.tmp 4],[],[],[]⟩ ((Tryz.f32).body.getD .skip) (.n) [.ag 12,.ag 2] x
noncomputable def GN:Ent:=⟨[.ag 12,.ag 2],[.lf (.int .i64)],qF⟩
theorem GM:bO prog 32 [.ag 12,.ag 2] [.lf (.int .i64)] qF:=cD (n:=28) (.cons (BL) (.cons (vG) (.cons (yc) (.cons (Hr) (.nil))))) Tryz.mixed Tryz.func32 rfl (by kernel_rfl) rfl rfl rfl (fun _=>rfl)
noncomputable def nr (x:ct [.ag 2]) : Option (bc [.lf (.bool)]):=iZ ⟨prog,[(18,rL)],6,[.lf (.bool)],[.tmp 2],[],[],[]⟩ ((Tryz.f71).body.getD .skip) (.n) [.ag 2] x
noncomputable def BI:Ent:=⟨[.ag 2],[.lf (.bool)],nr⟩
theorem BH:bO prog 71 [.ag 2] [.lf (.bool)] nr:=cD (n:=6) (.cons (rJ) (.nil)) Tryz.mixed Tryz.func71 rfl (by kernel_rfl) rfl rfl rfl (fun _=>rfl)
noncomputable def vF (x:ct [.lf (.sl (.st 2)),.fn 71 [] []]) : Option (bc [.lf (.int .i64)]):=iZ ⟨prog,[(71,BI)],19,[.lf (.int .i64)],[.tmp 4],[],[],[]⟩ ((Tryz.f70).body.getD .skip) (.s (.n) (.s (.s (.n) (.s (.lp [.leaf 4 (.int .i64),.leaf 8 (.int .i64)] 0 true (.n)) .n)) (.n))) [.lf (.sl (.st 2)),.fn 71 [] []] x
noncomputable def Og:Ent:=⟨[.lf (.sl (.st 2)),.fn 71 [] []],[.lf (.int .i64)],vF⟩
theorem Oe:bO prog 70 [.lf (.sl (.st 2)),.fn 71 [] []] [.lf (.int .i64)] vF:=cD (n:=19) (.cons (BH) (.nil)) Tryz.mixed Tryz.func70 rfl (by kernel_rfl) rfl rfl rfl (fun _=>rfl)
noncomputable def mn (x:ct [.mv 30 14 (.st 2)]) : Option (bc [.io [.no],.own 30 14 (.st 2)]):=H0 ⟨prog,[(70,Og),(72,Vz)],15,[.io [.no],.own 30 14 (.st 2)],[.tmp 2],[],[],[]⟩ ((Tryz.f34).body.getD .skip) (.n) [.mv 30 14 (.st 2)] x
noncomputable def Ar:Ent:=⟨[.mv 30 14 (.st 2)],[.io [.no],.own 30 14 (.st 2)],mn⟩
theorem Ap:bO prog 34 [.mv 30 14 (.st 2)] [.io [.no],.own 30 14 (.st 2)] mn:=DA (n:=15) (.cons (Oe) (.cons (Vy) (.nil))) Tryz.mixed Tryz.func34 rfl (by kernel_rfl) rfl rfl (by kernel_rfl) (fun _ _ _=>(by first | trivial | exact ⟨trivial,trivial⟩)) (fun _=>rfl)
noncomputable def nq (x:ct [.ag 2,.lf (.int .i64)]) : Option (bc [.ag 2]):=iZ ⟨prog,[],23,[.ag 2],[.cell 4 30],[],[4],[]⟩ ((Tryz.f35).body.getD .skip) (.n) [.ag 2,.lf (.int .i64)] x
noncomputable def BG:Ent:=⟨[.ag 2,.lf (.int .i64)],[.ag 2],nq⟩
theorem BF:bO prog 35 [.ag 2,.lf (.int .i64)] [.ag 2] nq:=cD (n:=23) (.nil) Tryz.mixed Tryz.func35 rfl (by kernel_rfl) rfl rfl rfl (fun _=>rfl)
noncomputable def nu (x:ct [.mv 30 14 (.st 2),.ag 2]) : Option (bc [.io [.no,.no],.own 30 14 (.st 2)]):=H0 ⟨prog,[],45,[.io [.no,.no],.own 30 14 (.st 2)],[.tmp 4],[],[],[]⟩ ((Tryz.f33).body.getD .skip) (.s (.n) (.s (.n) (.s (.s (.lp [.leaf 5 (.int .i64)] 0 false (.n)) .n) (.n)))) [.mv 30 14 (.st 2),.ag 2] x
noncomputable def BK:Ent:=⟨[.mv 30 14 (.st 2),.ag 2],[.io [.no,.no],.own 30 14 (.st 2)],nu⟩
theorem BJ:bO prog 33 [.mv 30 14 (.st 2),.ag 2] [.io [.no,.no],.own 30 14 (.st 2)] nu:=DA (n:=45) (.nil) Tryz.mixed Tryz.func33 rfl (by kernel_rfl) rfl rfl (by kernel_rfl) (fun _ _ _=>(by first | trivial | exact ⟨trivial,trivial⟩)) (fun _=>rfl)
noncomputable def oN (x:ct [.ag 12,.ag 2]) : Option (bc [.ag 12,.lf (.int .i64)]):=iZ ⟨prog,[(31,Db),(32,GN),(34,Ar),(36,rI),(35,BG),(33,BK)],27,[.ag 12,.lf (.int .i64)],[.cell 4 43,.tmp 5],[],[4],[]⟩ ((Tryz.f12).body.getD .skip) (.n) [.ag 12,.ag 2] x
noncomputable def uh:Ent:=⟨[.ag 12,.ag 2],[.ag 12,.lf (.int .i64)],oN⟩
theorem ug:bO prog 12 [.ag 12,.ag 2] [.ag 12,.lf (.int .i64)] oN:=cD (n:=27) (.cons (Da) (.cons (GM) (.cons (Ap) (.cons (rG) (.cons (BF) (.cons (BJ) (.nil))))))) Tryz.mixed Tryz.func12 rfl (by kernel_rfl) rfl rfl rfl (fun _=>rfl)
noncomputable def w9 (x:ct [.ag 12,.lf (.int .i64)]) : Option (bc [.ag 2,.lf (.bool)]):=iZ ⟨prog,[(42,vH),(36,rI)],20,[.ag 2,.lf (.bool)],[.cell 4 30,.tmp 5],[],[4],[]⟩ ((Tryz.f15).body.getD .skip) (.n) [.ag 12,.lf (.int .i64)] x
noncomputable def Hw:Ent:=⟨[.ag 12,.lf (.int .i64)],[.ag 2,.lf (.bool)],w9⟩
theorem Hv:bO prog 15 [.ag 12,.lf (.int .i64)] [.ag 2,.lf (.bool)] w9:=cD (n:=20) (.cons (vG) (.cons (rG) (.nil))) Tryz.mixed Tryz.func15 rfl (by kernel_rfl) rfl rfl rfl (fun _=>rfl)
abbrev EOk (P:Program) (f:FuncId) (e:Ent) : Prop:=bO P f e.ps e.rs e.f
theorem aF {P:Program} {T:List (Nat×Ent)} {e:Ent} {f:FuncId} {fn:Func} (h:ur) (fz:List (Nat×List Nat)) (sc:List Nat) (fb:List (Nat×List Nat)) (hT:qZ P T) (hm:P.follows .mixedOrders=true) (hf:P.funcs[f]? = some fn) (hb:fn.body=some (fn.body.getD .skip):=by kernel_rfl) (hcb:dB P f=true:=by kernel_rfl) (hl:((decide (e.ps.length≤fn.ntmps)&&uI e.ps) && !(pa e.ps||pa e.rs))=true:=by kernel_rfl)
  (hF:∀ x,iZ ⟨P,T,fn.ntmps,e.rs,fn.results.toList,fz,sc,fb⟩ (fn.body.getD .skip) h e.ps x=e.f x:=by intro x; kernel_rfl) : bO P f e.ps e.rs e.f:=cD hT hm hf hb hcb rfl rfl hl hF
def zo (v_n:Int) : Option (Bool) :=
 (if (decide (v_n≥0))=true then some (decide (v_n≤1125899906842624)) else some false).bind fun q1=>some q1
def tO (v_a:az) : Option (Bool) :=
 (zo v_a.bD).bind fun c1=>(if c1=true then (zo v_a.be).bind fun c2=>some c2 else some false).bind fun q3=>some q3
def fM (v_a:az) (v_b:az) : Option (Bool) :=
 (if (decide (v_a.bD≤v_b.bD))=true then some (decide (v_a.be≤v_b.be)) else some false).bind fun q1=>some q1
def we (v_a:az) (v_b:az) : Option (az) :=
 some (⟨(if 0 > (i64.wrap (v_a.bD - v_b.bD)) then 0 else (i64.wrap (v_a.bD - v_b.bD))),(if 0 > (i64.wrap (v_a.be - v_b.be)) then 0 else (i64.wrap (v_a.be - v_b.be)))⟩ : az)
def di (v_a:az) (v_b:az) : Option (az) :=
 some (⟨(i64.wrap (v_a.bD + v_b.bD)),(i64.wrap (v_a.be + v_b.be))⟩ : az)
def vg (v_n:Int) (AC:Int) : Option (Int) :=
 some (i64.wrap ((i64.wrap ((i64.wrap (Int.tdiv v_n 10000)) * AC)) + (i64.wrap (Int.tdiv (i64.wrap ((Int.tmod v_n 10000) * AC)) 10000))))
def vh (v_a:az) (AC:Int) : Option (az×Int) :=
 (tO v_a).bind fun c1=>(if (!c1)=true then some true else some (decide (AC < 0))).bind fun q2=>(if q2=true then some true else some (decide (AC > 1000000))).bind fun q3=>if q3=true then
 some ((⟨0,0⟩ : az),1)
 else
 (vg v_a.bD AC).bind fun c4=>(vg v_a.be AC).bind fun c5=>let v_c:az:=(⟨c4,c5⟩ : az)
 (tO v_c).bind fun c6=>if (!c6)=true then
 some ((⟨0,0⟩ : az),11)
 else
 some (v_c,0)
def zn (v_a:Int) (v_b:Int) : Option (Int×Int) :=
 let t1:Int:=(Int.fdiv v_a (2 ^ (min (Int.toNat 25) (IntKind.i64.bits))))
 let t2:Int:=(bits .and .i64 v_a 33554431)
 let t3:Int:=(Int.fdiv v_b (2 ^ (min (Int.toNat 25) (IntKind.i64.bits))))
 let t4:Int:=(bits .and .i64 v_b 33554431)
 let SU:Int:=t1
 let VH:Int:=t2
 let SR:Int:=t3
 let VG:Int:=t4
 let Zu:Int:=(i64.wrap ((i64.wrap (SU * VG)) + (i64.wrap (VH * SR))))
 let Zw:Int:=(i64.wrap ((i64.wrap (VH * VG)) + (i64.wrap ((bits .and .i64 Zu 33554431) * 2 ^ (min (Int.toNat 25) (IntKind.i64.bits))))))
 let ZR:Int:=(i64.wrap ((i64.wrap ((i64.wrap (SU * SR)) + (Int.fdiv Zu (2 ^ (min (Int.toNat 25) (IntKind.i64.bits)))))) + (Int.fdiv Zw (2 ^ (min (Int.toNat 50) (IntKind.i64.bits))))))
 some (ZR,(bits .and .i64 Zw 1125899906842623))
def qe (v_x:bb) (v_y:bb) : Option (Int) :=
 (if (v_x.fA==0)=true then
 let v_x:bb:={ v_x with fP:=1 }
 some v_x
 else
 some v_x).bind fun j1=>let v_x:=j1
 (if (v_y.fA==0)=true then
 let v_y:bb:={ v_y with fP:=1 }
 some v_y
 else
 some v_y).bind fun j2=>let v_y:=j2
 (if (v_x.fP==0)=true then some true else some (v_y.fP==0)).bind fun q3=>if q3=true then
 (if (v_x.fP==0)=true then some (v_y.fP==0) else some false).bind fun q4=>if q4=true then
 some 0
 else
 if (v_x.fP==0)=true then
 some 1
 else
 some (-1)
 else
 (zn v_x.fA v_y.fP).bind fun c5=>let SU:Int:=c5.1
 let VH:Int:=c5.2
 (zn v_y.fA v_x.fP).bind fun c6=>let SR:Int:=c6.1
 let VG:Int:=c6.2
 (if (decide (SU < SR))=true then some true else (if (SU==SR)=true then some (decide (VH < VG)) else some false).bind fun q7=>some q7).bind fun q8=>if q8=true then
 some (-1)
 else
 (if (SU==SR)=true then some (VH==VG) else some false).bind fun q9=>if q9=true then
 some 0
 else
 some 1
def zp (v_a:az) (v_p:az) : Option (bb) :=
 let t1:bb:=(⟨v_a.bD,v_p.bD⟩ : bb)
 let t2:bb:=(⟨v_a.be,v_p.be⟩ : bb)
 let v_x:bb:=t1
 let v_y:bb:=t2
 (qe v_x v_y).bind fun c3=>if (decide (c3 < 0))=true then
 some v_y
 else
 some v_x
def zr (v_a:az) (v_p:az) (v_b:az) (v_q:az) : Option (Int) :=
 (tO v_a).bind fun c1=>(if (!c1)=true then some true else (tO v_p).bind fun c2=>some (!c2)).bind fun q3=>(if q3=true then some true else (tO v_b).bind fun c4=>some (!c4)).bind fun q5=>(if q5=true then some true else (tO v_q).bind fun c6=>some (!c6)).bind fun q7=>if q7=true then
 some 0
 else
 (zp v_a v_p).bind fun c8=>(zp v_b v_q).bind fun c9=>(qe c8 c9).bind fun c10=>some c10
def rr (v_s:ByteArray) (st:Int) : Option ((Int)⊕((Int)⊕(Bool))) :=
 let v_i:=st
 if (decide (v_i < (v_s.size:Int)))=true then
 (jT v_s v_i).bind fun b2=>let v_c:Int:=b2
 (if (decide (v_c < 97))=true then some true else some (decide (v_c > 122))).bind fun q3=>(if q3=true then (if (decide (v_c < 48))=true then some true else some (decide (v_c > 57))).bind fun q4=>some q4 else some false).bind fun q5=>(if q5=true then some (v_c != 45) else some false).bind fun q6=>if q6=true then
 some (.inr (.inr false))
 else
 let v_i:Int:=(i64.wrap (v_i + 1))
 some (.inl v_i)
 else
 some (.inr (.inl v_i))
def wb (v_s:ByteArray) : Option (Bool) :=
 (if (decide ((v_s.size:Int) < 1))=true then some true else some (decide ((v_s.size:Int) > 12))).bind fun q1=>if q1=true then
 some false
 else
 let v_i:Int:=0
 (ah (rr v_s) ab v_i).bind fun r7=>match r7 with
 | .inr m8=>some m8
 | .inl m8 =>
 let v_i:=m8
 some true
def eD (au:ByteArray) (st:Int) : Option ((Int)⊕((Int))) :=
 let v_k:=st
 (if (decide (v_k≥0))=true then (jT au v_k).bind fun b1=>some (b1 != 46) else some false).bind fun q2=>if q2=true then
 let v_k:Int:=(i64.wrap (v_k - 1))
 some (.inl v_k)
 else
 some (.inr v_k)
def dE (au:ByteArray) : Option (ByteArray) :=
 let v_k:Int:=(i64.wrap ((au.size:Int) - 1))
 (ah (eD au) ab v_k).bind fun r3 =>
 let v_k:=r3
 if (decide (v_k < 0))=true then
 some (⟨#[]⟩ : ByteArray)
 else
 (GX au v_k).bind fun b4=>some b4
def ob (st:(List ByteArray)×ByteArray) : Option (((List ByteArray)×ByteArray)⊕(((List ByteArray)×ByteArray))) :=
 let v_l:=st.1
 let au:=st.2
 if (!(au.toList==(⟨#[]⟩ : ByteArray).toList))=true then
 (aU v_l [au]).bind fun b1=>let v_l:(List ByteArray):=b1
 (dE au).bind fun c2=>let au:ByteArray:=c2
 some (.inl (v_l,au))
 else
 some (.inr (v_l,au))
def zc (au:ByteArray) : Option ((List ByteArray)) :=
 let v_l:(List ByteArray):=[]
 (ah (ob) ab (v_l,au)).bind fun r3 =>
 let v_l:=r3.1
 let au:=r3.2
 some v_l
def oA (v_s:ByteArray) (st:Int×Int×Int) : Option ((Int×Int×Int)⊕((Int×Int×Int)⊕(Bool))) :=
 let oW:=st.1
 let v_n:=st.2.1
 let v_i:=st.2.2
 if (decide (v_i≤(v_s.size:Int)))=true then
 (if (decide (v_i < (v_s.size:Int)))=true then (jT v_s v_i).bind fun b3=>some (b3 != 46) else some false).bind fun q4=>if q4=true then
 let v_i:Int:=(i64.wrap (v_i + 1))
 some (.inl (oW,v_n,v_i))
 else
 (JF v_s oW v_i).bind fun b5=>(wb b5).bind fun c6=>(if (!c6)=true then some true else (if (v_n==0)=true then (JF v_s oW v_i).bind fun b7=>some (!(b7.toList==(⟨#[114,111,111,116]⟩ : ByteArray).toList)) else some false).bind fun q8=>some q8).bind fun q9=>if q9=true then
 some (.inr (.inr false))
 else
 let oW:Int:=(i64.wrap (v_i + 1))
 let v_n:Int:=(i64.wrap (v_n + 1))
 let v_i:Int:=(i64.wrap (v_i + 1))
 some (.inl (oW,v_n,v_i))
 else
 some (.inr (.inl (oW,v_n,v_i)))
def wa (v_s:ByteArray) : Option (Bool) :=
 let t1:Int:=0
 let t2:Int:=0
 let oW:Int:=t1
 let v_n:Int:=t2
 let v_i:Int:=0
 (ah (oA v_s) ab (oW,v_n,v_i)).bind fun r10=>match r10 with
 | .inr m11=>some m11
 | .inl m11 =>
 let oW:=m11.1
 let v_n:=m11.2.1
 let v_i:=m11.2.2
 some (decide (v_n≤4))
def nK (v_c:av) (au:ByteArray) (st:Int) : Option ((Int)⊕((Int)⊕(ax×Bool))) :=
 let v_i:=st
 if (decide (v_i < (v_c.ae.length:Int)))=true then
 (aw v_c.ae v_i).bind fun b1=>if (b1.aC.toList==au.toList)=true then
 (aw v_c.ae v_i).bind fun b2=>let v_q:ax:=b2
 (aU ([] : (List eu)) v_q.bu).bind fun b3=>let v_q:ax:={ v_q with bu:=b3 }
 some (.inr (.inr (v_q,true)))
 else
 let v_i:Int:=(i64.wrap (v_i + 1))
 some (.inl v_i)
 else
 some (.inr (.inl v_i))
def jy (v_c:av) (au:ByteArray) : Option (ax×Bool) :=
 let v_i:Int:=0
 (ah (nK v_c au) ab v_i).bind fun r4=>match r4 with
 | .inr m5=>some m5
 | .inl m5 =>
 let v_i:=m5
 some ((⟨⟨#[]⟩,[],0⟩ : ax),false)
def nH (v_c:av) (au:ByteArray) (st:(List ByteArray)×Int) : Option (((List ByteArray)×Int)⊕(((List ByteArray)×Int))) :=
 let v_l:=st.1
 let v_i:=st.2
 if (decide (v_i < (v_c.ae.length:Int)))=true then
 (if (!(au.toList==(⟨#[]⟩ : ByteArray).toList))=true then (aw v_c.ae v_i).bind fun b1=>(dE b1.aC).bind fun c2=>some (c2.toList==au.toList) else some false).bind fun q3=>if q3=true then
 (aw v_c.ae v_i).bind fun b4=>(aU v_l [b4.aC]).bind fun b5=>let v_l:(List ByteArray):=b5
 let v_i:Int:=(i64.wrap (v_i + 1))
 some (.inl (v_l,v_i))
 else
 let v_i:Int:=(i64.wrap (v_i + 1))
 some (.inl (v_l,v_i))
 else
 some (.inr (v_l,v_i))
def ei (v_c:av) (au:ByteArray) : Option ((List ByteArray)) :=
 let v_l:(List ByteArray):=[]
 let v_i:Int:=0
 (ah (nH v_c au) ab (v_l,v_i)).bind fun r6 =>
 let v_l:=r6.1
 let v_i:=r6.2
 some v_l
def jx (v_c:av) (au:ByteArray) : Option (Bool) :=
 (jy v_c au).bind fun c1=>let bS:Bool:=c1.2
 (if bS=true then (ei v_c au).bind fun c2=>some ((c2.length:Int)==0) else some false).bind fun q3=>some q3
def oz (v_c:av) (st:Int) : Option ((Int)⊕((Int)⊕(Int))) :=
 let v_i:=st
 if (decide (v_i < (v_c.ak.length:Int)))=true then
 (aw v_c.ak v_i).bind fun b4=>(wb b4).bind fun c5=>if (!c5)=true then
 some (.inr (.inr 12))
 else
 let v_i:Int:=(i64.wrap (v_i + 1))
 some (.inl v_i)
 else
 some (.inr (.inl v_i))
def ow (aI:Int) (v_c:av) (st:Int) : Option ((Int)⊕((Int)⊕(Int))) :=
 let v_k:=st
 if (decide (v_k < aI))=true then
 (aw v_c.ak aI).bind fun b8=>(aw v_c.ak v_k).bind fun b9=>if (b8.toList==b9.toList)=true then
 some (.inr (.inr 7))
 else
 let v_k:Int:=(i64.wrap (v_k + 1))
 some (.inl v_k)
 else
 some (.inr (.inl v_k))
def oy (v_c:av) (st:Int) : Option ((Int)⊕((Int)⊕(Int))) :=
 let aI:=st
 if (decide (aI < (v_c.ak.length:Int)))=true then
 let v_k:Int:=1
 (ah (ow aI v_c) ab v_k).bind fun r10=>match r10 with
 | .inr m11=>some (.inr (.inr m11))
 | .inl m11 =>
 let v_k:=m11
 let aI:Int:=(i64.wrap (aI + 1))
 some (.inl aI)
 else
 some (.inr (.inl aI))
def sF (v_c:av) : Option (Int) :=
 (if (decide ((v_c.ak.length:Int) < 1))=true then some true else some (decide ((v_c.ak.length:Int) > 3))).bind fun q1=>(if q1=true then some true else some (decide ((v_c.ae.length:Int) > 16))).bind fun q2=>if q2=true then
 some 4
 else
 (aw v_c.ak 0).bind fun b3=>if (!(b3.toList==(⟨#[]⟩ : ByteArray).toList))=true then
 some 12
 else
 let v_i:Int:=1
 (ah (oz v_c) ab v_i).bind fun r6=>match r6 with
 | .inr m7=>some m7
 | .inl m7 =>
 let v_i:=m7
 let aI:Int:=1
 (ah (oy v_c) ab aI).bind fun r12=>match r12 with
 | .inr m13=>some m13
 | .inl m13 =>
 let aI:=m13
 some 0
def lH (v_q:ax) (st:Int) : Option ((Int)⊕((Int)⊕(Int))) :=
 let v_k:=st
 if (decide (v_k < (v_q.bu.length:Int)))=true then
 (aw v_q.bu v_k).bind fun b10=>let v_x:eu:=b10
 (if (decide (v_x.kz < 0))=true then some true else some (decide (v_x.kz > 10000))).bind fun q11=>(if q11=true then some true else some (decide (v_x.sr < 0))).bind fun q12=>(if q12=true then some true else some (decide (v_x.sr > 10000))).bind fun q13=>(if q13=true then some true else some (decide (v_x.kz > v_x.sr))).bind fun q14=>if q14=true then
 some (.inr (.inr 1))
 else
 let v_k:Int:=(i64.wrap (v_k + 1))
 some (.inl v_k)
 else
 some (.inr (.inl v_k))
def vd (v_c:av) (v_i:Int) : Option (Int) :=
 (aw v_c.ae v_i).bind fun b1=>let v_q:ax:=b1
 (wa v_q.aC).bind fun c2=>if (!c2)=true then
 some 12
 else
 (if (decide (v_i > 0))=true then (aw v_c.ae (i64.wrap (v_i - 1))).bind fun b3=>some (Op.bytesLess v_q.aC.toList b3.aC.toList||(v_q.aC.toList==b3.aC.toList)) else some false).bind fun q4=>if q4=true then
 some 7
 else
 (dE v_q.aC).bind fun c5=>(jy v_c c5).bind fun c6=>let bS:Bool:=c6.2
 (if (decide (v_i > 0))=true then some (!bS) else some false).bind fun q7=>if q7=true then
 some 12
 else
 (if (decide (v_q.cy < 1))=true then some true else some (decide (v_q.cy > 1000000))).bind fun q8=>(if q8=true then some true else some ((v_q.bu.length:Int) != (v_c.ak.length:Int))).bind fun q9=>if q9=true then
 some 1
 else
 let v_k:Int:=0
 (ah (lH v_q) ab v_k).bind fun r15=>match r15 with
 | .inr m16=>some m16
 | .inl m16 =>
 let v_k:=m16
 some 0
def jY (bB:(List ByteArray)) (v_c:av) (v_k:Int) (st:Int×Int) : Option ((Int×Int)⊕((Int×Int))) :=
 let v_n:=st.1
 let v_j:=st.2
 if (decide (v_j < (bB.length:Int)))=true then
 (aw bB v_j).bind fun b4=>(jy v_c b4).bind fun c5=>let v_q:ax:=c5.1
 (aw v_q.bu v_k).bind fun b6=>let v_n:Int:=(i64.wrap (v_n + b6.kz))
 let v_j:Int:=(i64.wrap (v_j + 1))
 some (.inl (v_n,v_j))
 else
 some (.inr (v_n,v_j))
def nF (v_c:av) (bB:(List ByteArray)) (st:Int) : Option ((Int)⊕((Int)⊕(Bool))) :=
 let v_k:=st
 (if (decide (v_k < (v_c.ak.length:Int)))=true then some (decide ((bB.length:Int) > 0)) else some false).bind fun q3=>if q3=true then
 let v_n:Int:=0
 let v_j:Int:=0
 (ah (jY bB v_c v_k) ab (v_n,v_j)).bind fun r7 =>
 let v_n:=r7.1
 let v_j:=r7.2
 if (v_n != 10000)=true then
 some (.inr (.inr false))
 else
 let v_k:Int:=(i64.wrap (v_k + 1))
 some (.inl v_k)
 else
 some (.inr (.inl v_k))
def nG (v_c:av) (st:Int) : Option ((Int)⊕((Int)⊕(Bool))) :=
 let v_i:=st
 if (decide (v_i < (v_c.ae.length:Int)))=true then
 (aw v_c.ae v_i).bind fun b1=>(ei v_c b1.aC).bind fun c2=>let bB:(List ByteArray):=c2
 let v_k:Int:=0
 (ah (nF v_c bB) ab v_k).bind fun r8=>match r8 with
 | .inr m9=>some (.inr (.inr m9))
 | .inl m9 =>
 let v_k:=m9
 let v_i:Int:=(i64.wrap (v_i + 1))
 some (.inl v_i)
 else
 some (.inr (.inl v_i))
def DH (v_c:av) : Option (Bool) :=
 let v_i:Int:=0
 (ah (nG v_c) ab v_i).bind fun r10=>match r10 with
 | .inr m11=>some m11
 | .inl m11 =>
 let v_i:=m11
 some true
def p7 (v_c:av) (st:Int) : Option ((Int)⊕((Int)⊕(Int))) :=
 let v_i:=st
 if (decide (v_i < (v_c.ae.length:Int)))=true then
 (vd v_c v_i).bind fun c5=>if (c5 != 0)=true then
 (vd v_c v_i).bind fun c6=>some (.inr (.inr c6))
 else
 let v_i:Int:=(i64.wrap (v_i + 1))
 some (.inl v_i)
 else
 some (.inr (.inl v_i))
def p6 (v_c:av) (st:Int) : Option ((Int)⊕((Int)⊕(Int))) :=
 let v_k:=st
 if (decide (v_k < (v_c.ak.length:Int)))=true then
 (aw v_c.ae 0).bind fun b9=>(aw b9.bu v_k).bind fun b10=>if (!((b10.kz==(⟨10000,10000⟩ : eu).kz)&&(b10.sr==(⟨10000,10000⟩ : eu).sr)))=true then
 some (.inr (.inr 13))
 else
 let v_k:Int:=(i64.wrap (v_k + 1))
 some (.inl v_k)
 else
 some (.inr (.inl v_k))
def vf (v_c:av) : Option (Int) :=
 (sF v_c).bind fun c1=>if (c1 != 0)=true then
 (sF v_c).bind fun c2=>some c2
 else
 (if ((v_c.ae.length:Int)==0)=true then some true else (aw v_c.ae 0).bind fun b3=>some (!(b3.aC.toList==(⟨#[114,111,111,116]⟩ : ByteArray).toList))).bind fun q4=>if q4=true then
 some 12
 else
 let v_i:Int:=0
 (ah (p7 v_c) ab v_i).bind fun r7=>match r7 with
 | .inr m8=>some m8
 | .inl m8 =>
 let v_i:=m8
 let v_k:Int:=0
 (ah (p6 v_c) ab v_k).bind fun r11=>match r11 with
 | .inr m12=>some m12
 | .inl m12 =>
 let v_k:=m12
 (DH v_c).bind fun c13=>if (!c13)=true then
 some 13
 else
 some 0
def lD (v_s:aa) (af:Int) (st:az×Int) : Option ((az×Int)⊕((az×Int))) :=
 let v_v:=st.1
 let v_i:=st.2
 if (decide (v_i < (v_s.aB.length:Int)))=true then
 (aw v_s.aB v_i).bind fun b1=>(if b1.fUp=true then (aw v_s.aB v_i).bind fun b2=>some (b2.aY==af) else some false).bind fun q3=>if q3=true then
 (aw v_s.aB v_i).bind fun b4=>(di v_v b4.kT).bind fun c5=>let v_v:az:=c5
 let v_i:Int:=(i64.wrap (v_i + 1))
 some (.inl (v_v,v_i))
 else
 let v_i:Int:=(i64.wrap (v_i + 1))
 some (.inl (v_v,v_i))
 else
 some (.inr (v_v,v_i))
def je (v_s:aa) (af:Int) : Option (az) :=
 let v_v:az:=(⟨0,0⟩ : az)
 let v_i:Int:=0
 (ah (lD v_s af) ab (v_v,v_i)).bind fun r6 =>
 let v_v:=r6.1
 let v_i:=r6.2
 some v_v
def nD (v_s:aa) (af:Int) (st:az×Int) : Option ((az×Int)⊕((az×Int))) :=
 let v_v:=st.1
 let v_i:=st.2
 if (decide (v_i < (v_s.bl.length:Int)))=true then
 (aw v_s.bl v_i).bind fun b1=>let v_p:a7:=b1
 (if (v_p.aY==af)=true then some (decide (v_p.n6≤v_s.cO)) else some false).bind fun q2=>(if q2=true then some (decide (v_s.cO < v_p.jR)) else some false).bind fun q3=>if q3=true then
 (di v_v v_p.iR).bind fun c4=>let v_v:az:=c4
 let v_i:Int:=(i64.wrap (v_i + 1))
 some (.inl (v_v,v_i))
 else
 let v_i:Int:=(i64.wrap (v_i + 1))
 some (.inl (v_v,v_i))
 else
 some (.inr (v_v,v_i))
def tJ (v_s:aa) (af:Int) : Option (az) :=
 let v_v:az:=(⟨0,0⟩ : az)
 let v_i:Int:=0
 (ah (nD v_s af) ab (v_v,v_i)).bind fun r5 =>
 let v_v:=r5.1
 let v_i:=r5.2
 some v_v
def rq (v_s:aa) (iY:(List ByteArray)) (af:Int) (bW:Bool) (st:az×Int) : Option ((az×Int)⊕((az×Int))) :=
 let v_v:=st.1
 let v_i:=st.2
 if (decide (v_i≥0))=true then
 (aw iY v_i).bind fun b6=>(jy v_s.bN b6).bind fun c7=>let v_q:ax:=c7.1
 (aw v_q.bu af).bind fun b8=>let AC:Int:=b8.sr
 (if bW=true then
 (aw v_q.bu af).bind fun b10=>let AC:Int:=b10.kz
 some AC
 else
 some AC).bind fun j9=>let AC:=j9
 (vh v_v AC).bind fun c11=>let v_v:az:=c11.1
 let v_i:Int:=(i64.wrap (v_i - 1))
 some (.inl (v_v,v_i))
 else
 some (.inr (v_v,v_i))
def tI (v_s:aa) (au:ByteArray) (af:Int) (bW:Bool) : Option (az) :=
 (jy v_s.bN au).bind fun c1=>let bS:Bool:=c1.2
 (if (!bS)=true then some true else some (decide (af < 0))).bind fun q2=>(if q2=true then some true else some (decide (af≥(v_s.bN.ak.length:Int)))).bind fun q3=>if q3=true then
 some (⟨0,0⟩ : az)
 else
 (je v_s af).bind fun c4=>let v_v:az:=c4
 (zc au).bind fun c5=>let iY:(List ByteArray):=c5
 let v_i:Int:=(i64.wrap ((iY.length:Int) - 2))
 (ah (rq v_s iY af bW) ab (v_v,v_i)).bind fun r12 =>
 let v_v:=r12.1
 let v_i:=r12.2
 some v_v
def lG (v_s:aa) (au:ByteArray) (af:Int) : Option (az) :=
 (tI v_s au af true).bind fun c1=>some c1
def v8 (v_s:aa) (au:ByteArray) (af:Int) : Option (az) :=
 (tI v_s au af false).bind fun c1=>some c1
def DG (v_s:aa) (au:ByteArray) (af:Int) : Option (az) :=
 (jy v_s.bN au).bind fun c1=>let v_q:ax:=c1.1
 let bS:Bool:=c1.2
 if (!bS)=true then
 some (⟨0,0⟩ : az)
 else
 (lG v_s au af).bind fun c2=>(vh c2 v_q.cy).bind fun c3=>let v_v:az:=c3.1
 some v_v
def mg (v_s:aa) (bF:Int) (st:Int) : Option ((Int)⊕((Int)⊕(aq×Bool))) :=
 let v_i:=st
 if (decide (v_i < (v_s.aj.length:Int)))=true then
 (aw v_s.aj v_i).bind fun b1=>if (b1.fId==bF)=true then
 (aw v_s.aj v_i).bind fun b2=>some (.inr (.inr (b2,true)))
 else
 let v_i:Int:=(i64.wrap (v_i + 1))
 some (.inl v_i)
 else
 some (.inr (.inl v_i))
def eR (v_s:aa) (bF:Int) : Option (aq×Bool) :=
 let v_i:Int:=0
 (ah (mg v_s bF) ab v_i).bind fun r3=>match r3 with
 | .inr m4=>some m4
 | .inl m4 =>
 let v_i:=m4
 some ((⟨0,0,⟨#[]⟩,0,0,az.zero,[],0,0,[],[],[],[]⟩ : aq),false)
def nN (v_s:aa) (v_a:aq) (st:Int) : Option ((Int)⊕((Int))) :=
 let v_k:=st
 (if (decide (v_k < (v_s.aj.length:Int)))=true then (aw v_s.aj v_k).bind fun b1=>some (decide (b1.fId < v_a.fId)) else some false).bind fun q2=>if q2=true then
 let v_k:Int:=(i64.wrap (v_k + 1))
 some (.inl v_k)
 else
 some (.inr v_k)
def eT (v_s:aa) (v_a:aq) : Option (aa) :=
 let v_k:Int:=0
 (ah (nN v_s v_a) ab v_k).bind fun r3 =>
 let v_k:=r3
 (hiO v_s.aj v_k).bind fun b4=>(aU ([] : (List aq)) b4).bind fun b5=>let v_l:(List aq):=b5
 (aU v_l [v_a]).bind fun b6=>let v_l:(List aq):=b6
 (if (decide (v_k < (v_s.aj.length:Int)))=true then (aw v_s.aj v_k).bind fun b7=>some (b7.fId==v_a.fId) else some false).bind fun q8=>(if q8=true then
 let v_k:Int:=(i64.wrap (v_k + 1))
 some v_k
 else
 some v_k).bind fun j9=>let v_k:=j9
 (loO v_s.aj v_k).bind fun b10=>(aU v_l b10).bind fun b11=>let v_s:aa:={ v_s with aj:=b11 }
 some v_s
def dG (v_a:aq) : Option (Bool) :=
 (if (v_a.da==1)=true then some true else some (v_a.da==2)).bind fun q1=>some q1
def vB (v_n:Int) : Option (Bool) :=
 (if (decide (v_n≥1))=true then some (decide (v_n≤1073741824)) else some false).bind fun q1=>some q1
def pA (v_a:aq) : Option ((List aM)) :=
 some ([(⟨0,0,v_a.a8,1,(-1),(-1),0⟩ : aM)] : (List aM))
def jI (v_s:aa) (st:Bool×(List aq)×Int) : Option ((Bool×(List aq)×Int)⊕((Bool×(List aq)×Int))) :=
 let cw:=st.1
 let v_l:=st.2.1
 let v_i:=st.2.2
 if (decide (v_i < (v_s.aj.length:Int)))=true then
 (if (!cw)=true then (aw v_s.aj v_i).bind fun b1=>(dG b1).bind fun c2=>some (!c2) else some false).bind fun q3=>if q3=true then
 let cw:Bool:=true
 let v_i:Int:=(i64.wrap (v_i + 1))
 some (.inl (cw,v_l,v_i))
 else
 (aw v_s.aj v_i).bind fun b4=>(aU v_l [b4]).bind fun b5=>let v_l:(List aq):=b5
 let v_i:Int:=(i64.wrap (v_i + 1))
 some (.inl (cw,v_l,v_i))
 else
 some (.inr (cw,v_l,v_i))
def nj (v_s:aa) : Option (aa) :=
 let v_l:(List aq):=[]
 let cw:Bool:=false
 let v_i:Int:=0
 (ah (jI v_s) ab (cw,v_l,v_i)).bind fun r6 =>
 let cw:=r6.1
 let v_l:=r6.2.1
 let v_i:=r6.2.2
 let v_s:aa:={ v_s with aj:=v_l }
 some v_s
def gJ (v_s:aa) (st:Int×Int) : Option ((Int×Int)⊕((Int×Int))) :=
 let lb:=st.1
 let v_i:=st.2
 if (decide (v_i < (v_s.aj.length:Int)))=true then
 (aw v_s.aj v_i).bind fun b11=>(dG b11).bind fun c12=>if c12=true then
 let lb:Int:=(i64.wrap (lb + 1))
 let v_i:Int:=(i64.wrap (v_i + 1))
 some (.inl (lb,v_i))
 else
 let v_i:Int:=(i64.wrap (v_i + 1))
 some (.inl (lb,v_i))
 else
 some (.inr (lb,v_i))
def kI (v_s:aa) (v_a:aq) : Option (aa×Int) :=
 (if (decide (v_a.fId < 0))=true then some true else some (decide (v_a.fId > 9999))).bind fun q1=>(if q1=true then some true else some (decide (v_a.cy < 0))).bind fun q2=>(if q2=true then some true else some (decide (v_a.cy > 99))).bind fun q3=>(if q3=true then some true else some (decide (v_a.bq < 0))).bind fun q4=>(if q4=true then some true else some (decide (v_a.bq > 9))).bind fun q5=>(if q5=true then some true else (vB v_a.a8.bD).bind fun c6=>some (!c6)).bind fun q7=>(if q7=true then some true else (vB v_a.a8.be).bind fun c8=>some (!c8)).bind fun q9=>if q9=true then
 some (v_s,1)
 else
 (eR v_s v_a.fId).bind fun c10=>let bS:Bool:=c10.2
 if bS=true then
 some (v_s,7)
 else
 let lb:Int:=0
 let v_i:Int:=0
 (ah (gJ v_s) ab (lb,v_i)).bind fun r13 =>
 let lb:=r13.1
 let v_i:=r13.2
 if (decide (lb≥16))=true then
 some (v_s,4)
 else
 (jx v_s.bN v_a.bC).bind fun c14=>if (!c14)=true then
 some (v_s,19)
 else
 (if (decide ((v_s.aj.length:Int)≥16))=true then
 (nj v_s).bind fun c16=>let v_s:aa:=c16
 some v_s
 else
 some v_s).bind fun j15=>let v_s:=j15
 (pA v_a).bind fun c17=>(eT v_s (⟨v_a.fId,1,v_a.bC,v_a.cy,v_a.bq,v_a.a8,c17,v_s.cO,0,[],[],[],[]⟩ : aq)).bind fun c18=>some (c18,0)
def me (v_s:aa) (bF:Int) (st:(List Int)×(List am)×Int) : Option (((List Int)×(List am)×Int)⊕(((List Int)×(List am)×Int))) :=
 let jP:=st.1
 let v_l:=st.2.1
 let v_i:=st.2.2
 if (decide (v_i < (v_s.ac.length:Int)))=true then
 (aw v_s.ac v_i).bind fun b1=>if (b1.bG==bF)=true then
 (aw v_s.ac v_i).bind fun b2=>(aU jP [b2.fId]).bind fun b3=>let jP:(List Int):=b3
 let v_i:Int:=(i64.wrap (v_i + 1))
 some (.inl (jP,v_l,v_i))
 else
 (aw v_s.ac v_i).bind fun b4=>(aU v_l [b4]).bind fun b5=>let v_l:(List am):=b5
 let v_i:Int:=(i64.wrap (v_i + 1))
 some (.inl (jP,v_l,v_i))
 else
 some (.inr (jP,v_l,v_i))
def mc (v_s:aa) (bF:Int) (st:(List bz)×Int) : Option (((List bz)×Int)⊕(((List bz)×Int))) :=
 let iP:=st.1
 let aI:=st.2
 if (decide (aI < (v_s.aQ.length:Int)))=true then
 (aw v_s.aQ aI).bind fun b7=>if (b7.bG != bF)=true then
 (aw v_s.aQ aI).bind fun b8=>(aU iP [b8]).bind fun b9=>let iP:(List bz):=b9
 let aI:Int:=(i64.wrap (aI + 1))
 some (.inl (iP,aI))
 else
 let aI:Int:=(i64.wrap (aI + 1))
 some (.inl (iP,aI))
 else
 some (.inr (iP,aI))
def sQ (v_s:aa) (bF:Int) : Option (aa×(List Int)) :=
 let v_l:(List am):=[]
 let iP:(List bz):=[]
 let jP:(List Int):=[]
 let v_i:Int:=0
 (ah (me v_s bF) ab (jP,v_l,v_i)).bind fun r6 =>
 let jP:=r6.1
 let v_l:=r6.2.1
 let v_i:=r6.2.2
 let aI:Int:=0
 (ah (mc v_s bF) ab (iP,aI)).bind fun r10 =>
 let iP:=r10.1
 let aI:=r10.2
 let t11:(List am):=v_l
 let t12:(List bz):=iP
 let v_s:aa:={ v_s with ac:=t11 }
 let v_s:aa:={ v_s with aQ:=t12 }
 some (v_s,jP)
def Li (v_s:aa) (bF:Int) (Ju:Int) : Option (aa×(List Int)) :=
 (eR v_s bF).bind fun c1=>let v_a:aq:=c1.1
 let bS:Bool:=c1.2
 (if (!bS)=true then some true else (dG v_a).bind fun c2=>some (!c2)).bind fun q3=>if q3=true then
 some (v_s,[])
 else
 let v_a:aq:={ v_a with da:=Ju }
 let t4:(List aM):=[]
 let t5:(List Int):=[]
 let t6:(List Int):=[]
 let t7:(List Int):=[]
 let t8:(List Int):=[]
 let v_a:aq:={ v_a with bI:=t4 }
 let v_a:aq:={ v_a with bP:=t5 }
 let v_a:aq:={ v_a with dr:=t6 }
 let v_a:aq:={ v_a with jO:=t7 }
 let v_a:aq:={ v_a with jW:=t8 }
 (eT v_s v_a).bind fun c9=>(sQ c9 bF).bind fun c10=>some c10
def mh (v_s:aa) (bF:Int) (st:Int) : Option ((Int)⊕((Int)⊕(am×Bool))) :=
 let v_i:=st
 if (decide (v_i < (v_s.ac.length:Int)))=true then
 (aw v_s.ac v_i).bind fun b1=>if (b1.fId==bF)=true then
 (aw v_s.ac v_i).bind fun b2=>some (.inr (.inr (b2,true)))
 else
 let v_i:Int:=(i64.wrap (v_i + 1))
 some (.inl v_i)
 else
 some (.inr (.inl v_i))
def eS (v_s:aa) (bF:Int) : Option (am×Bool) :=
 let v_i:Int:=0
 (ah (mh v_s bF) ab v_i).bind fun r3=>match r3 with
 | .inr m4=>some m4
 | .inl m4 =>
 let v_i:=m4
 some ((⟨0,0,0,az.zero,0,0,false,0⟩ : am),false)
def mj (v_s:aa) (bF:Int) (st:(List am)×Int) : Option (((List am)×Int)⊕(((List am)×Int))) :=
 let v_l:=st.1
 let v_i:=st.2
 if (decide (v_i < (v_s.ac.length:Int)))=true then
 (aw v_s.ac v_i).bind fun b1=>if (b1.fId != bF)=true then
 (aw v_s.ac v_i).bind fun b2=>(aU v_l [b2]).bind fun b3=>let v_l:(List am):=b3
 let v_i:Int:=(i64.wrap (v_i + 1))
 some (.inl (v_l,v_i))
 else
 let v_i:Int:=(i64.wrap (v_i + 1))
 some (.inl (v_l,v_i))
 else
 some (.inr (v_l,v_i))
def qz (v_s:aa) (bF:Int) : Option (aa) :=
 let v_l:(List am):=[]
 let v_i:Int:=0
 (ah (mj v_s bF) ab (v_l,v_i)).bind fun r4 =>
 let v_l:=r4.1
 let v_i:=r4.2
 let v_s:aa:={ v_s with ac:=v_l }
 some v_s
def iW (v_l:(List Int)) (v_n:Int) (st:(List Int)×Int) : Option (((List Int)×Int)⊕(((List Int)×Int))) :=
 let al:=st.1
 let v_i:=st.2
 if (decide (v_i < (v_l.length:Int)))=true then
 (aw v_l v_i).bind fun b1=>if (b1 != v_n)=true then
 (aw v_l v_i).bind fun b2=>(aU al [b2]).bind fun b3=>let al:(List Int):=b3
 let v_i:Int:=(i64.wrap (v_i + 1))
 some (.inl (al,v_i))
 else
 let v_i:Int:=(i64.wrap (v_i + 1))
 some (.inl (al,v_i))
 else
 some (.inr (al,v_i))
def jn (v_l:(List Int)) (v_n:Int) : Option ((List Int)×Bool) :=
 let al:(List Int):=[]
 let v_i:Int:=0
 (ah (iW v_l v_n) ab (al,v_i)).bind fun r4 =>
 let al:=r4.1
 let v_i:=r4.2
 some (al,(decide ((al.length:Int) < (v_l.length:Int))))
def mf (cj:(List Int)) (st:aa×Int) : Option ((aa×Int)⊕((aa×Int))) :=
 let v_s:=st.1
 let v_i:=st.2
 if (decide (v_i < (cj.length:Int)))=true then
 (aw cj v_i).bind fun b1=>(eS v_s b1).bind fun c2=>let v_c:am:=c2.1
 let bS:Bool:=c2.2
 if (!bS)=true then
 let v_i:Int:=(i64.wrap (v_i + 1))
 some (.inl (v_s,v_i))
 else
 (eR v_s v_c.bG).bind fun c3=>let v_a:aq:=c3.1
 if v_c.a8=true then
 (pA v_a).bind fun c4=>let t5:Int:=1
 let t6:(List aM):=c4
 let v_a:aq:={ v_a with da:=t5 }
 let v_a:aq:={ v_a with bI:=t6 }
 let t7:(List Int):=[]
 let t8:(List Int):=[]
 let t9:(List Int):=[]
 let t10:(List Int):=[]
 let v_a:aq:={ v_a with bP:=t7 }
 let v_a:aq:={ v_a with dr:=t8 }
 let v_a:aq:={ v_a with jO:=t9 }
 let v_a:aq:={ v_a with jW:=t10 }
 let t11:Int:=0
 let t12:Int:=v_s.cO
 let v_a:aq:={ v_a with cd:=t11 }
 let v_a:aq:={ v_a with cH:=t12 }
 (eT v_s v_a).bind fun c13=>(sQ c13 v_c.bG).bind fun c14=>let v_s:aa:=c14.1
 let v_i:Int:=(i64.wrap (v_i + 1))
 some (.inl (v_s,v_i))
 else
 (qz v_s v_c.fId).bind fun c15=>let v_s:aa:=c15
 let uw:Bool:=false
 (jn v_a.bP v_c.fId).bind fun c16=>let v_a:aq:={ v_a with bP:=c16.1 }
 let uw:Bool:=c16.2
 (if (!uw)=true then
 (aU ([] : (List Int)) v_a.dr).bind fun b18=>(aU b18 [v_c.fId]).bind fun b19=>let v_a:aq:={ v_a with dr:=b19 }
 some v_a
 else
 some v_a).bind fun j17=>let v_a:=j17
 (eT v_s v_a).bind fun c20=>let v_s:aa:=c20
 let v_i:Int:=(i64.wrap (v_i + 1))
 some (.inl (v_s,v_i))
 else
 some (.inr (v_s,v_i))
def jo (v_s:aa) (cj:(List Int)) : Option (aa) :=
 let v_i:Int:=0
 (ah (mf cj) ab (v_s,v_i)).bind fun r21 =>
 let v_s:=r21.1
 let v_i:=r21.2
 some v_s
def jJ (v_s:aa) (st:(List Int)×Int) : Option (((List Int)×Int)⊕(((List Int)×Int))) :=
 let v_l:=st.1
 let v_i:=st.2
 if (decide (v_i < (v_s.aj.length:Int)))=true then
 (aw v_s.aj v_i).bind fun b1=>(if (b1.da==2)=true then (aw v_s.aj v_i).bind fun b2=>some (decide ((i64.wrap (v_s.cO - b2.cH))≥15)) else some false).bind fun q3=>if q3=true then
 (aw v_s.aj v_i).bind fun b4=>(aU v_l [b4.fId]).bind fun b5=>let v_l:(List Int):=b5
 let v_i:Int:=(i64.wrap (v_i + 1))
 some (.inl (v_l,v_i))
 else
 let v_i:Int:=(i64.wrap (v_i + 1))
 some (.inl (v_l,v_i))
 else
 some (.inr (v_l,v_i))
def tU (v_s:aa) : Option ((List Int)) :=
 let v_l:(List Int):=[]
 let v_i:Int:=0
 (ah (jJ v_s) ab (v_l,v_i)).bind fun r6 =>
 let v_l:=r6.1
 let v_i:=r6.2
 some v_l
def y6 (v_n:Int) : Option (Bool) :=
 (if (decide (v_n≥1))=true then some (decide (v_n≤1073741824)) else some false).bind fun q1=>some q1
def pX (v_a:aM) (rP:Int) : Option (Int) :=
 (if (decide (v_a.bq < 0))=true then some true else some (decide (v_a.bq > 9))).bind fun q1=>(if q1=true then some true else some (decide (v_a.aY < 0))).bind fun q2=>(if q2=true then some true else some (decide (v_a.aY≥rP))).bind fun q3=>(if q3=true then some true else (y6 v_a.cF.bD).bind fun c4=>some (!c4)).bind fun q5=>(if q5=true then some true else (y6 v_a.cF.be).bind fun c6=>some (!c6)).bind fun q7=>(if q7=true then some true else some (decide (v_a.bJ < (-1)))).bind fun q8=>(if q8=true then some true else some (decide (v_a.bJ > 999))).bind fun q9=>(if q9=true then some true else some (decide (v_a.eX < (-1)))).bind fun q10=>(if q10=true then some true else some (decide (v_a.eX > 99))).bind fun q11=>(if q11=true then some true else (if (decide (v_a.bJ≥0))=true then some (decide (v_a.eX < 0)) else some false).bind fun q12=>some q12).bind fun q13=>if q13=true then
 some 1
 else
 (if (decide (v_a.fZ < 0))=true then some true else some (decide (v_a.fZ > 50))).bind fun q14=>if q14=true then
 some 4
 else
 some 0
def pb (v_l:(List aM)) (v_a:aM) (st:(List aM)×Bool×Int) : Option (((List aM)×Bool×Int)⊕(((List aM)×Bool×Int))) :=
 let al:=st.1
 let cw:=st.2.1
 let v_i:=st.2.2
 if (decide (v_i < (v_l.length:Int)))=true then
 (if (!cw)=true then (aw v_l v_i).bind fun b1=>some (decide (b1.bq > v_a.bq)) else some false).bind fun q2=>(if q2=true then
 (aU al [v_a]).bind fun b4=>let al:(List aM):=b4
 let cw:Bool:=true
 some (al,cw)
 else
 some (al,cw)).bind fun j3=>let al:=j3.1
 let cw:=j3.2
 (aw v_l v_i).bind fun b5=>if (b5.bq != v_a.bq)=true then
 (aw v_l v_i).bind fun b6=>(aU al [b6]).bind fun b7=>let al:(List aM):=b7
 let v_i:Int:=(i64.wrap (v_i + 1))
 some (.inl (al,cw,v_i))
 else
 let v_i:Int:=(i64.wrap (v_i + 1))
 some (.inl (al,cw,v_i))
 else
 some (.inr (al,cw,v_i))
def FS (v_l:(List aM)) (v_a:aM) : Option ((List aM)×Int) :=
 let al:(List aM):=[]
 let cw:Bool:=(v_a.fZ==0)
 let v_a:aM:={ v_a with gV:=0 }
 let v_i:Int:=0
 (ah (pb v_l v_a) ab (al,cw,v_i)).bind fun r8 =>
 let al:=r8.1
 let cw:=r8.2.1
 let v_i:=r8.2.2
 (if (!cw)=true then
 (aU al [v_a]).bind fun b10=>let al:(List aM):=b10
 some al
 else
 some al).bind fun j9=>let al:=j9
 if (decide ((al.length:Int) > 8))=true then
 some ([],4)
 else
 some (al,0)
def pd (v_l:(List aM)) (cK:Int) (st:Int) : Option ((Int)⊕((Int)⊕(aM×Bool))) :=
 let v_i:=st
 if (decide (v_i < (v_l.length:Int)))=true then
 (aw v_l v_i).bind fun b1=>if (b1.bq==cK)=true then
 (aw v_l v_i).bind fun b2=>some (.inr (.inr (b2,true)))
 else
 let v_i:Int:=(i64.wrap (v_i + 1))
 some (.inl v_i)
 else
 some (.inr (.inl v_i))
def KK (v_l:(List aM)) (cK:Int) : Option (aM×Bool) :=
 let v_i:Int:=0
 (ah (pd v_l cK) ab v_i).bind fun r3=>match r3 with
 | .inr m4=>some m4
 | .inl m4 =>
 let v_i:=m4
 some ((⟨0,0,az.zero,0,0,0,0⟩ : aM),false)
def nz (v_l:(List aM)) (cK:Int) (st:Bool×(List aM)×Int) : Option ((Bool×(List aM)×Int)⊕((Bool×(List aM)×Int))) :=
 let bS:=st.1
 let al:=st.2.1
 let v_i:=st.2.2
 if (decide (v_i < (v_l.length:Int)))=true then
 (aw v_l v_i).bind fun b1=>let v_a:aM:=b1
 if (v_a.bq==cK)=true then
 let bS:Bool:=true
 let t2:Int:=(i64.wrap (v_a.fZ - 1))
 let t3:Int:=0
 let v_a:aM:={ v_a with fZ:=t2 }
 let v_a:aM:={ v_a with gV:=t3 }
 if (decide (v_a.fZ≤0))=true then
 let v_i:Int:=(i64.wrap (v_i + 1))
 some (.inl (bS,al,v_i))
 else
 (aU al [v_a]).bind fun b4=>let al:(List aM):=b4
 let v_i:Int:=(i64.wrap (v_i + 1))
 some (.inl (bS,al,v_i))
 else
 (aU al [v_a]).bind fun b5=>let al:(List aM):=b5
 let v_i:Int:=(i64.wrap (v_i + 1))
 some (.inl (bS,al,v_i))
 else
 some (.inr (bS,al,v_i))
def DC (v_l:(List aM)) (cK:Int) : Option ((List aM)×Bool) :=
 let al:(List aM):=[]
 let bS:Bool:=false
 let v_i:Int:=0
 (ah (nz v_l cK) ab (bS,al,v_i)).bind fun r6 =>
 let bS:=r6.1
 let al:=r6.2.1
 let v_i:=r6.2.2
 some (al,bS)
def rp (cK:Int) (st:(List aM)×Int) : Option (((List aM)×Int)⊕(((List aM)×Int))) :=
 let al:=st.1
 let v_i:=st.2
 if (decide (v_i < (al.length:Int)))=true then
 (aw al v_i).bind fun b2=>if (b2.bq==cK)=true then
 (aw al v_i).bind fun b3=>(aw al v_i).bind fun b4=>let al:(List aM):=(List.set al (Int.toNat v_i) ({ b4 with gV:=(if 100 < (i64.wrap (b3.gV + 1)) then 100 else (i64.wrap (b3.gV + 1))) }))
 let v_i:Int:=(i64.wrap (v_i + 1))
 some (.inl (al,v_i))
 else
 let v_i:Int:=(i64.wrap (v_i + 1))
 some (.inl (al,v_i))
 else
 some (.inr (al,v_i))
def DD (v_l:(List aM)) (cK:Int) : Option ((List aM)) :=
 (aU ([] : (List aM)) v_l).bind fun b1=>let al:(List aM):=b1
 let v_i:Int:=0
 (ah (rp cK) ab (al,v_i)).bind fun r5 =>
 let al:=r5.1
 let v_i:=r5.2
 some al
def jw (v_l:(List aM)) (af:Int) (st:az×Int) : Option ((az×Int)⊕((az×Int))) :=
 let v_v:=st.1
 let v_i:=st.2
 if (decide (v_i < (v_l.length:Int)))=true then
 (aw v_l v_i).bind fun b1=>if (b1.aY==af)=true then
 (aw v_l v_i).bind fun b2=>(aw v_l v_i).bind fun b3=>(aw v_l v_i).bind fun b4=>(aw v_l v_i).bind fun b5=>(di v_v (⟨(i64.wrap (b2.cF.bD * b3.fZ)),(i64.wrap (b4.cF.be * b5.fZ))⟩ : az)).bind fun c6=>let v_v:az:=c6
 let v_i:Int:=(i64.wrap (v_i + 1))
 some (.inl (v_v,v_i))
 else
 let v_i:Int:=(i64.wrap (v_i + 1))
 some (.inl (v_v,v_i))
 else
 some (.inr (v_v,v_i))
def kD (v_l:(List aM)) (af:Int) : Option (az) :=
 let v_v:az:=(⟨0,0⟩ : az)
 let v_i:Int:=0
 (ah (jw v_l af) ab (v_v,v_i)).bind fun r7 =>
 let v_v:=r7.1
 let v_i:=r7.2
 some v_v
def kq (iY:(List ByteArray)) (au:ByteArray) (st:Int) : Option ((Int)⊕((Int)⊕(Bool))) :=
 let v_i:=st
 if (decide (v_i < (iY.length:Int)))=true then
 (aw iY v_i).bind fun b2=>if (b2.toList==au.toList)=true then
 some (.inr (.inr true))
 else
 let v_i:Int:=(i64.wrap (v_i + 1))
 some (.inl v_i)
 else
 some (.inr (.inl v_i))
def ni (xe:ByteArray) (au:ByteArray) : Option (Bool) :=
 (zc xe).bind fun c1=>let iY:(List ByteArray):=c1
 let v_i:Int:=0
 (ah (kq iY au) ab v_i).bind fun r3=>match r3 with
 | .inr m4=>some m4
 | .inl m4 =>
 let v_i:=m4
 some false
def l8 (v_s:aa) (af:Int) (au:ByteArray) (yp:Bool) (mC:Int) (st:az×Int) : Option ((az×Int)⊕((az×Int))) :=
 let v_v:=st.1
 let v_i:=st.2
 if (decide (v_i < (v_s.ac.length:Int)))=true then
 (aw v_s.ac v_i).bind fun b1=>(eR v_s b1.bG).bind fun c2=>let v_a:aq:=c2.1
 let bS:Bool:=c2.2
 (if bS=true then (aw v_s.ac v_i).bind fun b3=>some (b3.aY==af) else some false).bind fun q4=>(if q4=true then (ni v_a.bC au).bind fun c5=>some c5 else some false).bind fun q6=>(if q6=true then (if yp=true then some true else some (v_a.cy==mC)).bind fun q7=>some q7 else some false).bind fun q8=>if q8=true then
 (aw v_s.ac v_i).bind fun b9=>(di v_v b9.cF).bind fun c10=>let v_v:az:=c10
 let v_i:Int:=(i64.wrap (v_i + 1))
 some (.inl (v_v,v_i))
 else
 let v_i:Int:=(i64.wrap (v_i + 1))
 some (.inl (v_v,v_i))
 else
 some (.inr (v_v,v_i))
def vx (v_s:aa) (au:ByteArray) (af:Int) (yp:Bool) (mC:Int) : Option (az) :=
 let v_v:az:=(⟨0,0⟩ : az)
 let v_i:Int:=0
 (ah (l8 v_s af au yp mC) ab (v_v,v_i)).bind fun r11 =>
 let v_v:=r11.1
 let v_i:=r11.2
 some v_v
def eO (v_s:aa) (au:ByteArray) (af:Int) : Option (az) :=
 (vx v_s au af true 0).bind fun c1=>some c1
def pj (v_s:aa) (au:ByteArray) (af:Int) (mC:Int) : Option (az) :=
 (vx v_s au af false mC).bind fun c1=>some c1
def iV (v_s:aa) (af:Int) (au:ByteArray) (st:az×Int) : Option ((az×Int)⊕((az×Int))) :=
 let v_v:=st.1
 let v_i:=st.2
 if (decide (v_i < (v_s.aj.length:Int)))=true then
 (aw v_s.aj v_i).bind fun b1=>(dG b1).bind fun c2=>(if c2=true then (aw v_s.aj v_i).bind fun b3=>(ni b3.bC au).bind fun c4=>some c4 else some false).bind fun q5=>if q5=true then
 (aw v_s.aj v_i).bind fun b6=>(kD b6.bI af).bind fun c7=>(di v_v c7).bind fun c8=>let v_v:az:=c8
 let v_i:Int:=(i64.wrap (v_i + 1))
 some (.inl (v_v,v_i))
 else
 let v_i:Int:=(i64.wrap (v_i + 1))
 some (.inl (v_v,v_i))
 else
 some (.inr (v_v,v_i))
def og (v_s:aa) (au:ByteArray) (af:Int) : Option (az) :=
 let v_v:az:=(⟨0,0⟩ : az)
 let v_i:Int:=0
 (ah (iV v_s af au) ab (v_v,v_i)).bind fun r9 =>
 let v_v:=r9.1
 let v_i:=r9.2
 some v_v
def l9 (iY:(List ByteArray)) (v_s:aa) (af:Int) (sX:az) (st:Int) : Option ((Int)⊕((Int)⊕(Bool))) :=
 let v_i:=st
 if (decide (v_i < (iY.length:Int)))=true then
 (aw iY v_i).bind fun b2=>(eO v_s b2 af).bind fun c3=>(di c3 sX).bind fun c4=>let v_v:az:=c4
 (aw iY v_i).bind fun b5=>(v8 v_s b5 af).bind fun c6=>(fM v_v c6).bind fun c7=>if (!c7)=true then
 some (.inr (.inr false))
 else
 (aw iY v_i).bind fun b8=>(if (b8.toList==(⟨#[114,111,111,116]⟩ : ByteArray).toList)=true then (je v_s af).bind fun c9=>(tJ v_s af).bind fun c10=>(we c9 c10).bind fun c11=>(fM v_v c11).bind fun c12=>some (!c12) else some false).bind fun q13=>if q13=true then
 some (.inr (.inr false))
 else
 let v_i:Int:=(i64.wrap (v_i + 1))
 some (.inl v_i)
 else
 some (.inr (.inl v_i))
def vy (v_s:aa) (au:ByteArray) (af:Int) (sX:az) : Option (Bool) :=
 (zc au).bind fun c1=>let iY:(List ByteArray):=c1
 let v_i:Int:=0
 (ah (l9 iY v_s af sX) ab v_i).bind fun r14=>match r14 with
 | .inr m15=>some m15
 | .inl m15 =>
 let v_i:=m15
 some true
def wo (v_s:aa) (v_a:ByteArray) (v_b:ByteArray) (af:Int) : Option (Bool) :=
 (eO v_s v_a af).bind fun c1=>(lG v_s v_a af).bind fun c2=>(eO v_s v_b af).bind fun c3=>(lG v_s v_b af).bind fun c4=>(zr c1 c2 c3 c4).bind fun c5=>let v_o:Int:=c5
 (if (decide (v_o < 0))=true then some true else (if (v_o==0)=true then some (Op.bytesLess v_a.toList v_b.toList) else some false).bind fun q6=>some q6).bind fun q7=>some q7
def jl (al:(List ByteArray)) (v_s:aa) (v_i:Int) (v_l:(List ByteArray)) (af:Int) (st:Int) : Option ((Int)⊕((Int))) :=
 let v_k:=st
 (if (decide (v_k < (al.length:Int)))=true then (aw v_l v_i).bind fun b2=>(aw al v_k).bind fun b3=>(wo v_s b2 b3 af).bind fun c4=>some (!c4) else some false).bind fun q5=>if q5=true then
 let v_k:Int:=(i64.wrap (v_k + 1))
 some (.inl v_k)
 else
 some (.inr v_k)
def l5 (v_l:(List ByteArray)) (v_s:aa) (af:Int) (st:(List ByteArray)×Int) : Option (((List ByteArray)×Int)⊕(((List ByteArray)×Int))) :=
 let al:=st.1
 let v_i:=st.2
 if (decide (v_i < (v_l.length:Int)))=true then
 let v_k:Int:=0
 (ah (jl al v_s v_i v_l af) ab v_k).bind fun r6 =>
 let v_k:=r6
 (hiO al v_k).bind fun b7=>(aU ([] : (List ByteArray)) b7).bind fun b8=>let v_x:(List ByteArray):=b8
 (aw v_l v_i).bind fun b9=>(aU v_x [b9]).bind fun b10=>let v_x:(List ByteArray):=b10
 (loO al v_k).bind fun b11=>(aU v_x b11).bind fun b12=>let al:(List ByteArray):=b12
 let v_i:Int:=(i64.wrap (v_i + 1))
 some (.inl (al,v_i))
 else
 some (.inr (al,v_i))
def zX (v_s:aa) (au:ByteArray) (af:Int) : Option ((List ByteArray)) :=
 (ei v_s.bN au).bind fun c1=>let v_l:(List ByteArray):=c1
 let al:(List ByteArray):=[]
 let v_i:Int:=0
 (ah (l5 v_l v_s af) ab (al,v_i)).bind fun r13 =>
 let al:=r13.1
 let v_i:=r13.2
 some al
def jH (self:(aa→ByteArray→Int→Option ((List ByteArray)))) (v_l:(List ByteArray)) (v_s:aa) (af:Int) (st:(List ByteArray)×Int) : Option (((List ByteArray)×Int)⊕(((List ByteArray)×Int))) :=
 let al:=st.1
 let v_i:=st.2
 if (decide (v_i < (v_l.length:Int)))=true then
 (aw v_l v_i).bind fun b2=>(self v_s b2 af).bind fun c3=>(aU al c3).bind fun b4=>let al:(List ByteArray):=b4
 let v_i:Int:=(i64.wrap (v_i + 1))
 some (.inl (al,v_i))
 else
 some (.inr (al,v_i))
def jk:Nat→aa→ByteArray→Int→Option ((List ByteArray))
 | 0=>fun _ _ _=>none
 | fuel + 1=>fun v_s au af =>
 let self:=jk fuel
 (zX v_s au af).bind fun c1=>let v_l:(List ByteArray):=c1
 if ((v_l.length:Int)==0)=true then
 some ([au] : (List ByteArray))
 else
 let al:(List ByteArray):=[]
 let v_i:Int:=0
 (ah (jH self v_l v_s af) ab (al,v_i)).bind fun r5 =>
 let al:=r5.1
 let v_i:=r5.2
 some al
def tS (v_s:aa) (af:Int) : Option ((List ByteArray)) :=
 (jk ab v_s (⟨#[114,111,111,116]⟩ : ByteArray) af).bind fun c1=>some c1
def jm (al:(List aq)) (v_a:aq) (st:Int) : Option ((Int)⊕((Int))) :=
 let v_k:=st
 (if (decide (v_k < (al.length:Int)))=true then (aw al v_k).bind fun b4=>some (decide (b4.bq≥v_a.bq)) else some false).bind fun q5=>if q5=true then
 let v_k:Int:=(i64.wrap (v_k + 1))
 some (.inl v_k)
 else
 some (.inr v_k)
def l7 (v_s:aa) (oU:ByteArray) (st:(List aq)×Int) : Option (((List aq)×Int)⊕(((List aq)×Int))) :=
 let al:=st.1
 let v_i:=st.2
 if (decide (v_i < (v_s.aj.length:Int)))=true then
 (aw v_s.aj v_i).bind fun b1=>let v_a:aq:=b1
 (dG v_a).bind fun c2=>(if (!c2)=true then some true else some (!(v_a.bC.toList==oU.toList))).bind fun q3=>if q3=true then
 let v_i:Int:=(i64.wrap (v_i + 1))
 some (.inl (al,v_i))
 else
 let v_k:Int:=0
 (ah (jm al v_a) ab v_k).bind fun r6 =>
 let v_k:=r6
 (hiO al v_k).bind fun b7=>(aU ([] : (List aq)) b7).bind fun b8=>let v_x:(List aq):=b8
 (aU v_x [v_a]).bind fun b9=>let v_x:(List aq):=b9
 (loO al v_k).bind fun b10=>(aU v_x b10).bind fun b11=>let al:(List aq):=b11
 let v_i:Int:=(i64.wrap (v_i + 1))
 some (.inl (al,v_i))
 else
 some (.inr (al,v_i))
def l6 (al:(List aq)) (st:(List Int)×Int) : Option (((List Int)×Int)⊕(((List Int)×Int))) :=
 let v_l:=st.1
 let aI:=st.2
 if (decide (aI < (al.length:Int)))=true then
 (aw al aI).bind fun b13=>(aU v_l [b13.fId]).bind fun b14=>let v_l:(List Int):=b14
 let aI:Int:=(i64.wrap (aI + 1))
 some (.inl (v_l,aI))
 else
 some (.inr (v_l,aI))
def Aa (v_s:aa) (oU:ByteArray) : Option ((List Int)) :=
 let al:(List aq):=[]
 let v_i:Int:=0
 (ah (l7 v_s oU) ab (al,v_i)).bind fun r12 =>
 let al:=r12.1
 let v_i:=r12.2
 let v_l:(List Int):=[]
 let aI:Int:=0
 (ah (l6 al) ab (v_l,aI)).bind fun r15 =>
 let v_l:=r15.1
 let aI:=r15.2
 some v_l
def nh (v_a:aM) (v_n:aX) : Option (Int) :=
 (if (!v_n.fUp)=true then some true else some (v_n.aY != v_a.aY)).bind fun q1=>if q1=true then
 some 4
 else
 (if (v_a.eX==(-1))=true then some true else some (v_a.bJ==v_n.fId)).bind fun q2=>(if q2=true then some true else (if (v_a.bJ==(-1))=true then some (v_a.eX==v_n.eX) else some false).bind fun q3=>some q3).bind fun q4=>if q4=true then
 some 1
 else
 if (v_a.eX==v_n.eX)=true then
 some 2
 else
 some 3
def tR (v_a:aM) (v_n:aX) : Option (Bool) :=
 (nh v_a v_n).bind fun c1=>if (c1==1)=true then
 some true
 else
 if (c1==2)=true then
 some (decide (v_a.gV≥2))
 else
 if (c1==3)=true then
 some (decide (v_a.gV≥4))
 else
 some false
def nB (v_s:aa) (bF:Int) (st:Int) : Option ((Int)⊕((Int)⊕(aX×Bool))) :=
 let v_i:=st
 if (decide (v_i < (v_s.aB.length:Int)))=true then
 (aw v_s.aB v_i).bind fun b1=>if (b1.fId==bF)=true then
 (aw v_s.aB v_i).bind fun b2=>some (.inr (.inr (b2,true)))
 else
 let v_i:Int:=(i64.wrap (v_i + 1))
 some (.inl v_i)
 else
 some (.inr (.inl v_i))
def nC (v_s:aa) (bF:Int) : Option (aX×Bool) :=
 let v_i:Int:=0
 (ah (nB v_s bF) ab v_i).bind fun r3=>match r3 with
 | .inr m4=>some m4
 | .inl m4 =>
 let v_i:=m4
 some ((⟨0,0,0,az.zero,0,0,false⟩ : aX),false)
def y7 (v_n:Int) : Option (Bool) :=
 (if (decide (v_n≥0))=true then some (decide (v_n≤1073741824)) else some false).bind fun q1=>some q1
def pe (v_s:aa) (v_n:aX) (st:Int) : Option ((Int)⊕((Int))) :=
 let v_k:=st
 (if (decide (v_k < (v_s.aB.length:Int)))=true then (aw v_s.aB v_k).bind fun b1=>some (decide (b1.fId < v_n.fId)) else some false).bind fun q2=>if q2=true then
 let v_k:Int:=(i64.wrap (v_k + 1))
 some (.inl v_k)
 else
 some (.inr v_k)
def Bt (v_s:aa) (v_n:aX) : Option (aa) :=
 let v_k:Int:=0
 (ah (pe v_s v_n) ab v_k).bind fun r3 =>
 let v_k:=r3
 (hiO v_s.aB v_k).bind fun b4=>(aU ([] : (List aX)) b4).bind fun b5=>let v_l:(List aX):=b5
 (aU v_l [v_n]).bind fun b6=>let v_l:(List aX):=b6
 (if (decide (v_k < (v_s.aB.length:Int)))=true then (aw v_s.aB v_k).bind fun b7=>some (b7.fId==v_n.fId) else some false).bind fun q8=>(if q8=true then
 let v_k:Int:=(i64.wrap (v_k + 1))
 some v_k
 else
 some v_k).bind fun j9=>let v_k:=j9
 (loO v_s.aB v_k).bind fun b10=>(aU v_l b10).bind fun b11=>let v_s:aa:={ v_s with aB:=b11 }
 some v_s
def rb (v_s:aa) (v_n:aX) : Option (aa×Int) :=
 (if (decide (v_n.fId < 0))=true then some true else some (decide (v_n.fId > 999))).bind fun q1=>(if q1=true then some true else some (decide (v_n.aY < 0))).bind fun q2=>(if q2=true then some true else some (decide (v_n.aY≥(v_s.bN.ak.length:Int)))).bind fun q3=>(if q3=true then some true else some (decide (v_n.eX < 0))).bind fun q4=>(if q4=true then some true else some (decide (v_n.eX > 99))).bind fun q5=>(if q5=true then some true else (y7 v_n.kT.bD).bind fun c6=>some (!c6)).bind fun q7=>(if q7=true then some true else (y7 v_n.kT.be).bind fun c8=>some (!c8)).bind fun q9=>if q9=true then
 some (v_s,1)
 else
 (nC v_s v_n.fId).bind fun c10=>let v_x:aX:=c10.1
 let bS:Bool:=c10.2
 (if bS=true then some v_x.fUp else some false).bind fun q11=>if q11=true then
 some (v_s,7)
 else
 (if (!bS)=true then some (decide ((v_s.aB.length:Int)≥12)) else some false).bind fun q12=>if q12=true then
 some (v_s,4)
 else
 (Bt v_s (⟨v_n.fId,v_n.aY,v_n.eX,v_n.kT,v_s.cO,0,true⟩ : aX)).bind fun c13=>some (c13,0)
def DF (v_s:aa) (bF:Int) (Jv:Int) : Option (aa×Int) :=
 (nC v_s bF).bind fun c1=>let v_n:aX:=c1.1
 let bS:Bool:=c1.2
 if (!bS)=true then
 some (v_s,2)
 else
 if (!v_n.fUp)=true then
 some (v_s,18)
 else
 if (decide (Jv < 0))=true then
 some (v_s,15)
 else
 if (decide (Jv < v_n.cd))=true then
 some (v_s,15)
 else
 if (decide ((i64.wrap (Jv - v_n.cd)) > 1))=true then
 some (v_s,1)
 else
 let t2:Int:=v_s.cO
 let t3:Int:=Jv
 let v_n:aX:={ v_n with cH:=t2 }
 let v_n:aX:={ v_n with cd:=t3 }
 (Bt v_s v_n).bind fun c4=>some (c4,0)
def y9 (v_s:aa) (bF:Int) : Option (aa) :=
 (nC v_s bF).bind fun c1=>let v_n:aX:=c1.1
 let bS:Bool:=c1.2
 if (!bS)=true then
 some v_s
 else
 let v_n:aX:={ v_n with fUp:=false }
 (Bt v_s v_n).bind fun c2=>some c2
def nA (v_s:aa) (bF:Int) (st:az×Int) : Option ((az×Int)⊕((az×Int))) :=
 let v_v:=st.1
 let v_i:=st.2
 if (decide (v_i < (v_s.ac.length:Int)))=true then
 (aw v_s.ac v_i).bind fun b1=>if (b1.bJ==bF)=true then
 (aw v_s.ac v_i).bind fun b2=>(di v_v b2.cF).bind fun c3=>let v_v:az:=c3
 let v_i:Int:=(i64.wrap (v_i + 1))
 some (.inl (v_v,v_i))
 else
 let v_i:Int:=(i64.wrap (v_i + 1))
 some (.inl (v_v,v_i))
 else
 some (.inr (v_v,v_i))
def DE (v_s:aa) (bF:Int) : Option (az) :=
 let v_v:az:=(⟨0,0⟩ : az)
 let v_i:Int:=0
 (ah (nA v_s bF) ab (v_v,v_i)).bind fun r4 =>
 let v_v:=r4.1
 let v_i:=r4.2
 some v_v
def y8 (v_s:aa) (bF:Int) : Option (az) :=
 (nC v_s bF).bind fun c1=>let v_n:aX:=c1.1
 let bS:Bool:=c1.2
 (if (!bS)=true then some true else some (!v_n.fUp)).bind fun q2=>if q2=true then
 some (⟨0,0⟩ : az)
 else
 (DE v_s bF).bind fun c3=>(we v_n.kT c3).bind fun c4=>some c4
def j7 (v_s:aa) (st:(List Int)×Int) : Option (((List Int)×Int)⊕(((List Int)×Int))) :=
 let v_l:=st.1
 let v_i:=st.2
 if (decide (v_i < (v_s.aB.length:Int)))=true then
 (aw v_s.aB v_i).bind fun b1=>(if b1.fUp=true then (aw v_s.aB v_i).bind fun b2=>some (decide ((i64.wrap (v_s.cO - b2.cH))≥10)) else some false).bind fun q3=>if q3=true then
 (aw v_s.aB v_i).bind fun b4=>(aU v_l [b4.fId]).bind fun b5=>let v_l:(List Int):=b5
 let v_i:Int:=(i64.wrap (v_i + 1))
 some (.inl (v_l,v_i))
 else
 let v_i:Int:=(i64.wrap (v_i + 1))
 some (.inl (v_l,v_i))
 else
 some (.inr (v_l,v_i))
def v7 (v_s:aa) : Option ((List Int)) :=
 let v_l:(List Int):=[]
 let v_i:Int:=0
 (ah (j7 v_s) ab (v_l,v_i)).bind fun r6 =>
 let v_l:=r6.1
 let v_i:=r6.2
 some v_l
def zS (v_s:aa) (xe:ByteArray) (v_a:aM) : Option (Bool) :=
 (eO v_s xe v_a.aY).bind fun c1=>(di c1 v_a.cF).bind fun c2=>(lG v_s xe v_a.aY).bind fun c3=>(fM c2 c3).bind fun c4=>some c4
def vu (v_s:aa) (xe:ByteArray) (af:Int) (mC:Int) : Option (Bool) :=
 (pj v_s xe af mC).bind fun c1=>(DG v_s xe af).bind fun c2=>(fM c1 c2).bind fun c3=>some c3
def iz (v_s:aa) (v_c:am) (st:Int) : Option ((Int)⊕((Int))) :=
 let v_k:=st
 (if (decide (v_k < (v_s.ac.length:Int)))=true then (aw v_s.ac v_k).bind fun b9=>some (decide (b9.fId < v_c.fId)) else some false).bind fun q10=>if q10=true then
 let v_k:Int:=(i64.wrap (v_k + 1))
 some (.inl v_k)
 else
 some (.inr v_k)
def ng (v_s:aa) (v_n:aX) (v_a:aq) (v_x:aM) : Option (aa×am) :=
 let v_s:aa:={ v_s with sq:=(i64.wrap (v_s.sq + 1)) }
 let v_c:am:=(⟨(i64.wrap ((i64.wrap (v_s.pT * 2 ^ (min (Int.toNat 20) (IntKind.i64.bits)))) + v_s.sq)),v_a.fId,v_n.fId,v_x.cF,v_x.bq,v_n.aY,(v_a.da==1),0⟩ : am)
 (DC v_a.bI v_x.bq).bind fun c1=>let v_a:aq:={ v_a with bI:=c1.1 }
 (if v_c.a8=true then
 let t3:Int:=2
 let t4:(List aM):=[]
 let t5:Int:=v_s.cO
 let t6:Int:=0
 let v_a:aq:={ v_a with da:=t3 }
 let v_a:aq:={ v_a with bI:=t4 }
 let v_a:aq:={ v_a with cH:=t5 }
 let v_a:aq:={ v_a with cd:=t6 }
 some v_a
 else
 (aU ([] : (List Int)) v_a.bP).bind fun b7=>(aU b7 [v_c.fId]).bind fun b8=>let v_a:aq:={ v_a with bP:=b8 }
 some v_a).bind fun j2=>let v_a:=j2
 let v_k:Int:=0
 (ah (iz v_s v_c) ab v_k).bind fun r11 =>
 let v_k:=r11
 (hiO v_s.ac v_k).bind fun b12=>(aU ([] : (List am)) b12).bind fun b13=>let v_l:(List am):=b13
 (aU v_l [v_c]).bind fun b14=>let v_l:(List am):=b14
 (loO v_s.ac v_k).bind fun b15=>(aU v_l b15).bind fun b16=>let v_s:aa:={ v_s with ac:=b16 }
 (eT v_s v_a).bind fun c17=>some (c17,v_c)
def jG (v_s:aa) (cu:Int) (st:(List bz)×Int) : Option (((List bz)×Int)⊕(((List bz)×Int))) :=
 let v_l:=st.1
 let v_i:=st.2
 if (decide (v_i < (v_s.aQ.length:Int)))=true then
 (aw v_s.aQ v_i).bind fun b1=>if (b1.bJ != cu)=true then
 (aw v_s.aQ v_i).bind fun b2=>(aU v_l [b2]).bind fun b3=>let v_l:(List bz):=b3
 let v_i:Int:=(i64.wrap (v_i + 1))
 some (.inl (v_l,v_i))
 else
 let v_i:Int:=(i64.wrap (v_i + 1))
 some (.inl (v_l,v_i))
 else
 some (.inr (v_l,v_i))
def fI (v_s:aa) (cu:Int) : Option (aa) :=
 let v_l:(List bz):=[]
 let v_i:Int:=0
 (ah (jG v_s cu) ab (v_l,v_i)).bind fun r4 =>
 let v_l:=r4.1
 let v_i:=r4.2
 let v_s:aa:={ v_s with aQ:=v_l }
 some v_s
def lY (v_s:aa) (cu:Int) (st:Int) : Option ((Int)⊕((Int)⊕(bz×Bool))) :=
 let v_i:=st
 if (decide (v_i < (v_s.aQ.length:Int)))=true then
 (aw v_s.aQ v_i).bind fun b1=>if (b1.bJ==cu)=true then
 (aw v_s.aQ v_i).bind fun b2=>some (.inr (.inr (b2,true)))
 else
 let v_i:Int:=(i64.wrap (v_i + 1))
 some (.inl v_i)
 else
 some (.inr (.inl v_i))
def zP (v_s:aa) (cu:Int) : Option (bz×Bool) :=
 let v_i:Int:=0
 (ah (lY v_s cu) ab v_i).bind fun r3=>match r3 with
 | .inr m4=>some m4
 | .inl m4 =>
 let v_i:=m4
 some ((⟨0,0,0⟩ : bz),false)
def kp (v_s:aa) (fc:Int) (cK:Int) (st:Int) : Option ((Int)⊕((Int)⊕(Bool))) :=
 let v_i:=st
 if (decide (v_i < (v_s.aQ.length:Int)))=true then
 (aw v_s.aQ v_i).bind fun b1=>(if (b1.bG==fc)=true then (aw v_s.aQ v_i).bind fun b2=>some (b2.bq==cK) else some false).bind fun q3=>if q3=true then
 some (.inr (.inr true))
 else
 let v_i:Int:=(i64.wrap (v_i + 1))
 some (.inl v_i)
 else
 some (.inr (.inl v_i))
def wl (v_s:aa) (fc:Int) (cK:Int) : Option (Bool) :=
 let v_i:Int:=0
 (ah (kp v_s fc cK) ab v_i).bind fun r4=>match r4 with
 | .inr m5=>some m5
 | .inl m5 =>
 let v_i:=m5
 some false
def lZ (v_s:aa) (v_x:bz) (st:Int) : Option ((Int)⊕((Int))) :=
 let v_k:=st
 (if (decide (v_k < (v_s.aQ.length:Int)))=true then (aw v_s.aQ v_k).bind fun b1=>some (decide (b1.bJ < v_x.bJ)) else some false).bind fun q2=>if q2=true then
 let v_k:Int:=(i64.wrap (v_k + 1))
 some (.inl v_k)
 else
 some (.inr v_k)
def sO (v_s:aa) (v_x:bz) : Option (aa) :=
 let v_k:Int:=0
 (ah (lZ v_s v_x) ab v_k).bind fun r3 =>
 let v_k:=r3
 (hiO v_s.aQ v_k).bind fun b4=>(aU ([] : (List bz)) b4).bind fun b5=>let v_l:(List bz):=b5
 (aU v_l [v_x]).bind fun b6=>let v_l:(List bz):=b6
 (loO v_s.aQ v_k).bind fun b7=>(aU v_l b7).bind fun b8=>let v_s:aa:={ v_s with aQ:=b8 }
 some v_s
def sN (v_s:aa) (v_n:aX) (v_x:bz) : Option (aa×Int×am×Bool) :=
 (eR v_s v_x.bG).bind fun c1=>let v_a:aq:=c1.1
 let bS:Bool:=c1.2
 (KK v_a.bI v_x.bq).bind fun c2=>let v_k:aM:=c2.1
 let yo:Bool:=c2.2
 (if (!bS)=true then some true else (dG v_a).bind fun c3=>some (!c3)).bind fun q4=>(if q4=true then some true else some (!yo)).bind fun q5=>(if q5=true then some true else (tR v_k v_n).bind fun c6=>some (!c6)).bind fun q7=>(if q7=true then some true else (fM v_k.cF v_n.kT).bind fun c8=>some (!c8)).bind fun q9=>(if q9=true then some true else (zS v_s v_a.bC v_k).bind fun c10=>some (!c10)).bind fun q11=>(if q11=true then some true else (vu v_s v_a.bC v_n.aY v_a.cy).bind fun c12=>some (!c12)).bind fun q13=>if q13=true then
 (fI v_s v_n.fId).bind fun c14=>some (c14,0,(⟨0,0,0,az.zero,0,0,false,0⟩ : am),false)
 else
 (y8 v_s v_n.fId).bind fun c15=>(fM v_k.cF c15).bind fun c16=>(if (!c16)=true then some true else (vy v_s v_a.bC v_n.aY v_k.cF).bind fun c17=>some (!c17)).bind fun q18=>if q18=true then
 some (v_s,3,(⟨0,0,0,az.zero,0,0,false,0⟩ : am),true)
 else
 (fI v_s v_n.fId).bind fun c19=>(ng c19 v_n v_a v_k).bind fun c20=>let v_t:aa:=c20.1
 let v_c:am:=c20.2
 some (v_t,1,v_c,true)
def wm (v_s:aa) (v_n:aX) (v_a:aq) (v_x:aM) (ld:Bool) : Option (aa×Int×am) :=
 (zS v_s v_a.bC v_x).bind fun c1=>let bS:Bool:=c1
 (nh v_x v_n).bind fun c2=>(if (c2==4)=true then some true else (fM v_x.cF v_n.kT).bind fun c3=>some (!c3)).bind fun q4=>(if q4=true then some true else (if ld=true then some (!bS) else some false).bind fun q5=>some q5).bind fun q6=>if q6=true then
 some (v_s,0,(⟨0,0,0,az.zero,0,0,false,0⟩ : am))
 else
 (tR v_x v_n).bind fun c7=>if (!c7)=true then
 (if (ld==bS)=true then
 (DD v_a.bI v_x.bq).bind fun c9=>let v_a:aq:={ v_a with bI:=c9 }
 (eT v_s v_a).bind fun c10=>let v_s:aa:=c10
 some (v_a,v_s)
 else
 some (v_a,v_s)).bind fun j8=>let v_a:=j8.1
 let v_s:=j8.2
 some (v_s,0,(⟨0,0,0,az.zero,0,0,false,0⟩ : am))
 else
 (vy v_s v_a.bC v_n.aY v_x.cF).bind fun c11=>if (!c11)=true then
 some (v_s,0,(⟨0,0,0,az.zero,0,0,false,0⟩ : am))
 else
 (y8 v_s v_n.fId).bind fun c12=>(fM v_x.cF c12).bind fun c13=>if c13=true then
 (ng v_s v_n v_a v_x).bind fun c14=>let v_t:aa:=c14.1
 let v_c:am:=c14.2
 some (v_t,1,v_c)
 else
 (if ld=true then (wl v_s v_a.fId v_x.bq).bind fun c15=>some (!c15) else some false).bind fun q16=>if q16=true then
 (sO v_s (⟨v_n.fId,v_a.fId,v_x.bq⟩ : bz)).bind fun c17=>some (c17,2,(⟨0,0,0,az.zero,0,0,false,0⟩ : am))
 else
 some (v_s,0,(⟨0,0,0,az.zero,0,0,false,0⟩ : am))
def iu (v_a:aq) (v_j:Int) (cj:(List Int)) (v_n:aX) (ld:Bool) (st:aa×Int) : Option ((aa×Int)⊕((aa×Int)⊕(aa×Int×am))) :=
 let v_s:=st.1
 let v_k:=st.2
 if (decide (v_k < (v_a.bI.length:Int)))=true then
 (aw cj v_j).bind fun b8=>(eR v_s b8).bind fun c9=>let v_b:aq:=c9.1
 (aw v_a.bI v_k).bind fun b10=>(wm v_s v_n v_b b10 ld).bind fun c11=>let v_t:aa:=c11.1
 let AB:Int:=c11.2.1
 let v_c:am:=c11.2.2
 let v_s:aa:=v_t
 if (AB != 0)=true then
 some (.inr (.inr (v_s,AB,v_c)))
 else
 let v_k:Int:=(i64.wrap (v_k + 1))
 some (.inl (v_s,v_k))
 else
 some (.inr (.inl (v_s,v_k)))
def iw (cj:(List Int)) (v_i:Int) (jS:(List ByteArray)) (v_n:aX) (ld:Bool) (st:aa×Int) : Option ((aa×Int)⊕((aa×Int)⊕(aa×Int×am))) :=
 let v_s:=st.1
 let v_j:=st.2
 if (decide (v_j < (cj.length:Int)))=true then
 (aw cj v_j).bind fun b4=>(eR v_s b4).bind fun c5=>let v_a:aq:=c5.1
 (aw jS v_i).bind fun b6=>(vu v_s b6 v_n.aY v_a.cy).bind fun c7=>if (!c7)=true then
 let v_j:Int:=(i64.wrap (v_j + 1))
 some (.inl (v_s,v_j))
 else
 let v_k:Int:=0
 (ah (iu v_a v_j cj v_n ld) ab (v_s,v_k)).bind fun r12=>match r12 with
 | .inr m13=>some (.inr (.inr m13))
 | .inl m13 =>
 let v_s:=m13.1
 let v_k:=m13.2
 let v_j:Int:=(i64.wrap (v_j + 1))
 some (.inl (v_s,v_j))
 else
 some (.inr (.inl (v_s,v_j)))
def iy (jS:(List ByteArray)) (v_n:aX) (ld:Bool) (st:aa×Int) : Option ((aa×Int)⊕((aa×Int)⊕(aa×Int×am))) :=
 let v_s:=st.1
 let v_i:=st.2
 if (decide (v_i < (jS.length:Int)))=true then
 (aw jS v_i).bind fun b2=>(Aa v_s b2).bind fun c3=>let cj:(List Int):=c3
 let v_j:Int:=0
 (ah (iw cj v_i jS v_n ld) ab (v_s,v_j)).bind fun r14=>match r14 with
 | .inr m15=>some (.inr (.inr m15))
 | .inl m15 =>
 let v_s:=m15.1
 let v_j:=m15.2
 let v_i:Int:=(i64.wrap (v_i + 1))
 some (.inl (v_s,v_i))
 else
 some (.inr (.inl (v_s,v_i)))
def er (v_s:aa) (v_n:aX) (ld:Bool) : Option (aa×Int×am) :=
 (tS v_s v_n.aY).bind fun c1=>let jS:(List ByteArray):=c1
 let v_i:Int:=0
 (ah (iy jS v_n ld) ab (v_s,v_i)).bind fun r16=>match r16 with
 | .inr m17=>some m17
 | .inl m17 =>
 let v_s:=m17.1
 let v_i:=m17.2
 some (v_s,0,(⟨0,0,0,az.zero,0,0,false,0⟩ : am))
def wn (v_s:aa) (cu:Int) : Option (aa×Int×am) :=
 (nC v_s cu).bind fun c1=>let v_n:aX:=c1.1
 let bS:Bool:=c1.2
 (if (!bS)=true then some true else some (!v_n.fUp)).bind fun q2=>(if q2=true then some true else some (decide ((v_s.ac.length:Int)≥200))).bind fun q3=>(if q3=true then some true else some (decide (v_s.sq≥1048575))).bind fun q4=>if q4=true then
 some (v_s,0,(⟨0,0,0,az.zero,0,0,false,0⟩ : am))
 else
 (zP v_s cu).bind fun c5=>let v_x:bz:=c5.1
 let ZS:Bool:=c5.2
 if ZS=true then
 (sN v_s v_n v_x).bind fun c6=>let v_t:aa:=c6.1
 let AB:Int:=c6.2.1
 let v_c:am:=c6.2.2.1
 let cw:Bool:=c6.2.2.2
 let v_s:aa:=v_t
 if cw=true then
 some (v_s,AB,v_c)
 else
 (er v_s v_n true).bind fun c7=>let v_s:aa:=c7.1
 let yn:Int:=c7.2.1
 let xf:am:=c7.2.2
 if (yn != 0)=true then
 some (v_s,yn,xf)
 else
 (er v_s v_n false).bind fun c8=>some c8
 else
 (er v_s v_n true).bind fun c9=>let v_s:aa:=c9.1
 let yn:Int:=c9.2.1
 let xf:am:=c9.2.2
 if (yn != 0)=true then
 some (v_s,yn,xf)
 else
 (er v_s v_n false).bind fun c10=>some c10
def ji (cu:Int) (st:aa×(List am)×Int) : Option ((aa×(List am)×Int)⊕((aa×(List am)×Int))) :=
 let v_s:=st.1
 let v_l:=st.2.1
 let v_k:=st.2.2
 if (decide (v_k < 3))=true then
 (wn v_s cu).bind fun c1=>let v_t:aa:=c1.1
 let AB:Int:=c1.2.1
 let v_c:am:=c1.2.2
 let v_s:aa:=v_t
 if (AB != 1)=true then
 some (.inr (v_s,v_l,v_k))
 else
 (aU v_l [v_c]).bind fun b2=>let v_l:(List am):=b2
 let v_k:Int:=(i64.wrap (v_k + 1))
 some (.inl (v_s,v_l,v_k))
 else
 some (.inr (v_s,v_l,v_k))
def qy (v_s:aa) (cu:Int) : Option (aa×(List am)) :=
 let v_l:(List am):=[]
 let v_k:Int:=0
 (ah (ji cu) ab (v_s,v_l,v_k)).bind fun r3 =>
 let v_s:=r3.1
 let v_l:=r3.2.1
 let v_k:=r3.2.2
 some (v_s,v_l)
def lU (v_n:Int) : Option (Int) :=
 (if (decide (v_n < 0))=true then some true else some (decide (v_n > 1125899906842624))).bind fun q1=>if q1=true then
 some 0
 else
 some v_n
def oE (v_n:Int) (bW:(List Int)) (gO:(List Int)) (cm:(List Int)) (st:(List Int)×Int×Int) : Option (((List Int)×Int×Int)⊕(((List Int)×Int×Int))) :=
 let al:=st.1
 let cn:=st.2.1
 let v_i:=st.2.2
 if (decide (v_i < v_n))=true then
 (aw bW v_i).bind fun b2=>(lU b2).bind fun c3=>(aw gO v_i).bind fun b4=>(lU b4).bind fun c5=>(aw cm v_i).bind fun b6=>(lU b6).bind fun c7=>let v_x:Int:=(if cn < (if c7 < (if c5 < c3 then c5 else c3) then c7 else (if c5 < c3 then c5 else c3)) then cn else (if c7 < (if c5 < c3 then c5 else c3) then c7 else (if c5 < c3 then c5 else c3)))
 (aU al [v_x]).bind fun b8=>let al:(List Int):=b8
 let cn:Int:=(i64.wrap (cn - v_x))
 let v_i:Int:=(i64.wrap (v_i + 1))
 some (.inl (al,cn,v_i))
 else
 some (.inr (al,cn,v_i))
def oD (v_n:Int) (gO:(List Int)) (cm:(List Int)) (st:(List Int)×Int×Int) : Option (((List Int)×Int×Int)⊕(((List Int)×Int×Int))) :=
 let al:=st.1
 let cn:=st.2.1
 let aI:=st.2.2
 if (decide (aI < v_n))=true then
 (aw gO aI).bind fun b10=>(lU b10).bind fun c11=>(aw cm aI).bind fun b12=>(lU b12).bind fun c13=>(aw al aI).bind fun b14=>let aax:Int:=(if cn < (if 0 > (i64.wrap ((if c13 < c11 then c13 else c11) - b14)) then 0 else (i64.wrap ((if c13 < c11 then c13 else c11) - b14))) then cn else (if 0 > (i64.wrap ((if c13 < c11 then c13 else c11) - b14)) then 0 else (i64.wrap ((if c13 < c11 then c13 else c11) - b14))))
 (aw al aI).bind fun b15=>(aw al aI).bind fun b16=>let al:(List Int):=(List.set al (Int.toNat aI) (i64.wrap (b15 + aax)))
 let cn:Int:=(i64.wrap (cn - aax))
 let aI:Int:=(i64.wrap (aI + 1))
 some (.inl (al,cn,aI))
 else
 some (.inr (al,cn,aI))
def wi (fK:Int) (bW:(List Int)) (gO:(List Int)) (cm:(List Int)) : Option ((List Int)) :=
 let v_n:Int:=(if (cm.length:Int) < (if (gO.length:Int) < (bW.length:Int) then (gO.length:Int) else (bW.length:Int)) then (cm.length:Int) else (if (gO.length:Int) < (bW.length:Int) then (gO.length:Int) else (bW.length:Int)))
 (lU fK).bind fun c1=>let cn:Int:=c1
 let al:(List Int):=[]
 let v_i:Int:=0
 (ah (oE v_n bW gO cm) ab (al,cn,v_i)).bind fun r9 =>
 let al:=r9.1
 let cn:=r9.2.1
 let v_i:=r9.2.2
 let aI:Int:=0
 (ah (oD v_n gO cm) ab (al,cn,aI)).bind fun r17 =>
 let al:=r17.1
 let cn:=r17.2.1
 let aI:=r17.2.2
 some al
def qw (self:(aa→ByteArray→Int→Int→Option ((List ai)))) (bB:(List ByteArray)) (v_s:aa) (af:Int) (st:(List Int)×(List Int)×(List Int)×Int) : Option (((List Int)×(List Int)×(List Int)×Int)⊕(((List Int)×(List Int)×(List Int)×Int))) :=
 let bW:=st.1
 let cm:=st.2.1
 let gO:=st.2.2.1
 let v_i:=st.2.2.2
 if (decide (v_i < (bB.length:Int)))=true then
 (aw bB v_i).bind fun b2=>(lG v_s b2 af).bind fun c3=>(aU bW [c3.bD]).bind fun b4=>let bW:(List Int):=b4
 (aw bB v_i).bind fun b5=>(v8 v_s b5 af).bind fun c6=>(aU cm [c6.bD]).bind fun b7=>let cm:(List Int):=b7
 (aw bB v_i).bind fun b8=>(eO v_s b8 af).bind fun c9=>(aw bB v_i).bind fun b10=>(og v_s b10 af).bind fun c11=>(aU gO [(i64.wrap (c9.bD + c11.bD))]).bind fun b12=>let gO:(List Int):=b12
 let v_i:Int:=(i64.wrap (v_i + 1))
 some (.inl (bW,cm,gO,v_i))
 else
 some (.inr (bW,cm,gO,v_i))
def qu (self:(aa→ByteArray→Int→Int→Option ((List ai)))) (bB:(List ByteArray)) (v_s:aa) (af:Int) (v_x:(List Int)) (st:(List ai)×Int) : Option (((List ai)×Int)⊕(((List ai)×Int))) :=
 let al:=st.1
 let aI:=st.2
 if (decide (aI < (bB.length:Int)))=true then
 (aw bB aI).bind fun b15=>(aw v_x aI).bind fun b16=>(self v_s b15 af b16).bind fun c17=>(aU al c17).bind fun b18=>let al:(List ai):=b18
 let aI:Int:=(i64.wrap (aI + 1))
 some (.inl (al,aI))
 else
 some (.inr (al,aI))
def lV:Nat→aa→ByteArray→Int→Int→Option ((List ai))
 | 0=>fun _ _ _ _=>none
 | fuel + 1=>fun v_s au af Zv =>
 let self:=lV fuel
 (ei v_s.bN au).bind fun c1=>let bB:(List ByteArray):=c1
 if ((bB.length:Int)==0)=true then
 some ([(⟨au,Zv⟩ : ai)] : (List ai))
 else
 let bW:(List Int):=[]
 let gO:(List Int):=[]
 let cm:(List Int):=[]
 let v_i:Int:=0
 (ah (qw self bB v_s af) ab (bW,cm,gO,v_i)).bind fun r13 =>
 let bW:=r13.1
 let cm:=r13.2.1
 let gO:=r13.2.2.1
 let v_i:=r13.2.2.2
 (wi Zv bW gO cm).bind fun c14=>let v_x:(List Int):=c14
 let al:(List ai):=[]
 let aI:Int:=0
 (ah (qu self bB v_s af v_x) ab (al,aI)).bind fun r19 =>
 let al:=r19.1
 let aI:=r19.2
 some al
def gx (al:(List ai)) (v_i:Int) (v_l:(List ai)) (st:Int) : Option ((Int)⊕((Int))) :=
 let v_k:=st
 (if (decide (v_k < (al.length:Int)))=true then (aw al v_k).bind fun b3=>(aw v_l v_i).bind fun b4=>some (Op.bytesLess b3.aC.toList b4.aC.toList) else some false).bind fun q5=>if q5=true then
 let v_k:Int:=(i64.wrap (v_k + 1))
 some (.inl v_k)
 else
 some (.inr v_k)
def jE (v_l:(List ai)) (st:(List ai)×Int) : Option (((List ai)×Int)⊕(((List ai)×Int))) :=
 let al:=st.1
 let v_i:=st.2
 if (decide (v_i < (v_l.length:Int)))=true then
 let v_k:Int:=0
 (ah (gx al v_i v_l) ab v_k).bind fun r6 =>
 let v_k:=r6
 (hiO al v_k).bind fun b7=>(aU ([] : (List ai)) b7).bind fun b8=>let v_x:(List ai):=b8
 (aw v_l v_i).bind fun b9=>(aU v_x [b9]).bind fun b10=>let v_x:(List ai):=b10
 (loO al v_k).bind fun b11=>(aU v_x b11).bind fun b12=>let al:(List ai):=b12
 let v_i:Int:=(i64.wrap (v_i + 1))
 some (.inl (al,v_i))
 else
 some (.inr (al,v_i))
def qx (v_s:aa) (af:Int) : Option ((List ai)) :=
 let al:(List ai):=[]
 (je v_s af).bind fun c1=>(lV ab v_s (⟨#[114,111,111,116]⟩ : ByteArray) af c1.bD).bind fun c2=>let v_l:(List ai):=c2
 let v_i:Int:=0
 (ah (jE v_l) ab (al,v_i)).bind fun r13 =>
 let al:=r13.1
 let v_i:=r13.2
 some al
def nL (v_l:(List ai)) (au:ByteArray) (st:Int) : Option ((Int)⊕((Int)⊕(Int))) :=
 let v_i:=st
 if (decide (v_i < (v_l.length:Int)))=true then
 (aw v_l v_i).bind fun b2=>if (b2.aC.toList==au.toList)=true then
 (aw v_l v_i).bind fun b3=>some (.inr (.inr b3.bD))
 else
 let v_i:Int:=(i64.wrap (v_i + 1))
 some (.inl v_i)
 else
 some (.inr (.inl v_i))
def zJ (v_s:aa) (af:Int) (au:ByteArray) : Option (Int) :=
 (qx v_s af).bind fun c1=>let v_l:(List ai):=c1
 let v_i:Int:=0
 (ah (nL v_l au) ab v_i).bind fun r4=>match r4 with
 | .inr m5=>some m5
 | .inl m5 =>
 let v_i:=m5
 some 0
def jg (v_s:aa) (v_c:am) : Option (ByteArray) :=
 (eR v_s v_c.bG).bind fun c1=>let v_a:aq:=c1.1
 some v_a.bC
def kg (v_a:aq) (au:ByteArray) (v_s:aa) (af:Int) (bW:Int) (mD:Int) (st:Int) : Option ((Int)⊕((Int)⊕(Int))) :=
 let v_k:=st
 (if (decide (v_k < (v_a.bI.length:Int)))=true then (dG v_a).bind fun c6=>some c6 else some false).bind fun q7=>(if q7=true then some (v_a.bC.toList==au.toList) else some false).bind fun q8=>if q8=true then
 (aw v_a.bI v_k).bind fun b9=>(if (b9.aY==af)=true then (aw v_a.bI v_k).bind fun b10=>some (decide ((i64.wrap (b10.cF.bD + mD))≤bW)) else some false).bind fun q11=>if q11=true then
 (og v_s au af).bind fun c12=>some (.inr (.inr (if (i64.wrap (bW - mD)) < c12.bD then (i64.wrap (bW - mD)) else c12.bD)))
 else
 let v_k:Int:=(i64.wrap (v_k + 1))
 some (.inl v_k)
 else
 some (.inr (.inl v_k))
def ki (v_s:aa) (au:ByteArray) (af:Int) (bW:Int) (mD:Int) (st:Int) : Option ((Int)⊕((Int)⊕(Int))) :=
 let v_i:=st
 if (decide (v_i < (v_s.aj.length:Int)))=true then
 (aw v_s.aj v_i).bind fun b5=>let v_a:aq:=b5
 let v_k:Int:=0
 (ah (kg v_a au v_s af bW mD) ab v_k).bind fun r13=>match r13 with
 | .inr m14=>some (.inr (.inr m14))
 | .inl m14 =>
 let v_k:=m14
 let v_i:Int:=(i64.wrap (v_i + 1))
 some (.inl v_i)
 else
 some (.inr (.inl v_i))
def sK (v_s:aa) (au:ByteArray) (af:Int) : Option (Int) :=
 (eO v_s au af).bind fun c1=>(lG v_s au af).bind fun c2=>let t3:Int:=c1.bD
 let t4:Int:=c2.bD
 let mD:Int:=t3
 let bW:Int:=t4
 let v_i:Int:=0
 (ah (ki v_s au af bW mD) ab v_i).bind fun r15=>match r15 with
 | .inr m16=>some m16
 | .inl m16 =>
 let v_i:=m16
 some 0
def pg (v_l:(List Int)) (v_n:Int) (st:Int) : Option ((Int)⊕((Int)⊕(Bool))) :=
 let v_i:=st
 if (decide (v_i < (v_l.length:Int)))=true then
 (aw v_l v_i).bind fun b1=>if (b1==v_n)=true then
 some (.inr (.inr true))
 else
 let v_i:Int:=(i64.wrap (v_i + 1))
 some (.inl v_i)
 else
 some (.inr (.inl v_i))
def xX (v_l:(List Int)) (v_n:Int) : Option (Bool) :=
 let v_i:Int:=0
 (ah (pg v_l v_n) ab v_i).bind fun r2=>match r2 with
 | .inr m3=>some m3
 | .inl m3 =>
 let v_i:=m3
 some false
def jD (v_s:aa) (af:Int) (au:ByteArray) (v_l:(List Int)) (st:Int×Int) : Option ((Int×Int)⊕((Int×Int))) :=
 let v_n:=st.1
 let v_i:=st.2
 if (decide (v_i < (v_s.ac.length:Int)))=true then
 (aw v_s.ac v_i).bind fun b1=>let v_c:am:=b1
 (if (v_c.aY==af)=true then (if (au.toList==(⟨#[]⟩ : ByteArray).toList)=true then some true else (jg v_s v_c).bind fun c2=>some (c2.toList==au.toList)).bind fun q3=>some q3 else some false).bind fun q4=>(if q4=true then (if (v_c.ju != 0)=true then some true else (xX v_l v_c.fId).bind fun c5=>some c5).bind fun q6=>some q6 else some false).bind fun q7=>if q7=true then
 let v_n:Int:=(i64.wrap (v_n + v_c.cF.bD))
 let v_i:Int:=(i64.wrap (v_i + 1))
 some (.inl (v_n,v_i))
 else
 let v_i:Int:=(i64.wrap (v_i + 1))
 some (.inl (v_n,v_i))
 else
 some (.inr (v_n,v_i))
def nf (v_s:aa) (au:ByteArray) (af:Int) (v_l:(List Int)) : Option (Int) :=
 let v_n:Int:=0
 let v_i:Int:=0
 (ah (jD v_s af au v_l) ab (v_n,v_i)).bind fun r8 =>
 let v_n:=r8.1
 let v_i:=r8.2
 some v_n
def jC (v_s:aa) (af:Int) (au:ByteArray) (v_l:(List Int)) (st:am×Bool×Int) : Option ((am×Bool×Int)⊕((am×Bool×Int))) :=
 let cQ:=st.1
 let bS:=st.2.1
 let v_i:=st.2.2
 if (decide (v_i < (v_s.ac.length:Int)))=true then
 (aw v_s.ac v_i).bind fun b3=>let v_c:am:=b3
 (if (v_c.aY != af)=true then some true else (jg v_s v_c).bind fun c4=>some (!(c4.toList==au.toList))).bind fun q5=>(if q5=true then some true else some (v_c.ju != 0)).bind fun q6=>(if q6=true then some true else (xX v_l v_c.fId).bind fun c7=>some c7).bind fun q8=>if q8=true then
 let v_i:Int:=(i64.wrap (v_i + 1))
 some (.inl (cQ,bS,v_i))
 else
 (if (!bS)=true then some true else (if cQ.a8=true then some (!v_c.a8) else some false).bind fun q9=>some q9).bind fun q10=>(if q10=true then some true else (if (cQ.a8==v_c.a8)=true then some (decide (v_c.fId > cQ.fId)) else some false).bind fun q11=>some q11).bind fun q12=>if q12=true then
 let t13:am:=v_c
 let t14:Bool:=true
 let cQ:am:=t13
 let bS:Bool:=t14
 let v_i:Int:=(i64.wrap (v_i + 1))
 some (.inl (cQ,bS,v_i))
 else
 let v_i:Int:=(i64.wrap (v_i + 1))
 some (.inl (cQ,bS,v_i))
 else
 some (.inr (cQ,bS,v_i))
def qq (v_s:aa) (au:ByteArray) (af:Int) (v_l:(List Int)) : Option (am×Bool) :=
 let t1:am:=(⟨0,0,0,az.zero,0,0,false,0⟩ : am)
 let t2:Bool:=false
 let cQ:am:=t1
 let bS:Bool:=t2
 let v_i:Int:=0
 (ah (jC v_s af au v_l) ab (cQ,bS,v_i)).bind fun r15 =>
 let cQ:=r15.1
 let bS:=r15.2.1
 let v_i:=r15.2.2
 some (cQ,bS)
def lR (bR:(List ai)) (v_s:aa) (af:Int) (st:Int×Int) : Option ((Int×Int)⊕((Int×Int))) :=
 let la:=st.1
 let v_i:=st.2
 if (decide (v_i < (bR.length:Int)))=true then
 (aw bR v_i).bind fun b4=>(sK v_s b4.aC af).bind fun c5=>let la:Int:=(i64.wrap (la + c5))
 let v_i:Int:=(i64.wrap (v_i + 1))
 some (.inl (la,v_i))
 else
 some (.inr (la,v_i))
def lQ (bR:(List ai)) (v_s:aa) (af:Int) (v_l:(List Int)) (st:Int×am×Int) : Option ((Int×am×Int)⊕((Int×am×Int))) :=
 let cm:=st.1
 let v_x:=st.2.1
 let aI:=st.2.2
 if (decide (aI < (bR.length:Int)))=true then
 (aw bR aI).bind fun b10=>let v_p:ByteArray:=b10.aC
 (eO v_s v_p af).bind fun c11=>(aw bR aI).bind fun b12=>(nf v_s v_p af v_l).bind fun c13=>let DQ:Int:=(i64.wrap ((i64.wrap (c11.bD - b12.bD)) - c13))
 (qq v_s v_p af v_l).bind fun c14=>let v_c:am:=c14.1
 let bS:Bool:=c14.2
 (if bS=true then some (decide (DQ > cm)) else some false).bind fun q15=>if q15=true then
 let t16:Int:=DQ
 let t17:am:=v_c
 let cm:Int:=t16
 let v_x:am:=t17
 let aI:Int:=(i64.wrap (aI + 1))
 some (.inl (cm,v_x,aI))
 else
 let aI:Int:=(i64.wrap (aI + 1))
 some (.inl (cm,v_x,aI))
 else
 some (.inr (cm,v_x,aI))
def qt (v_s:aa) (af:Int) (la:Int) (bR:(List ai)) (st:(List Int)) : Option (((List Int))⊕(((List Int))⊕((List Int)))) :=
 let v_l:=st
 (nf v_s (⟨#[]⟩ : ByteArray) af v_l).bind fun c7=>if (decide (c7 < la))=true then
 let t8:Int:=0
 let t9:am:=(⟨0,0,0,az.zero,0,0,false,0⟩ : am)
 let cm:Int:=t8
 let v_x:am:=t9
 let aI:Int:=0
 (ah (lQ bR v_s af v_l) ab (cm,v_x,aI)).bind fun r18 =>
 let cm:=r18.1
 let v_x:=r18.2.1
 let aI:=r18.2.2
 if (cm==0)=true then
 some (.inr (.inr v_l))
 else
 (aU v_l [v_x.fId]).bind fun b19=>let v_l:(List Int):=b19
 some (.inl v_l)
 else
 some (.inr (.inl v_l))
def zH (v_s:aa) (af:Int) : Option ((List Int)) :=
 (qx v_s af).bind fun c1=>let bR:(List ai):=c1
 (je v_s af).bind fun c2=>(eO v_s (⟨#[114,111,111,116]⟩ : ByteArray) af).bind fun c3=>let la:Int:=(i64.wrap (0 - (if 0 > (i64.wrap (c2.bD - c3.bD)) then 0 else (i64.wrap (c2.bD - c3.bD)))))
 let v_i:Int:=0
 (ah (lR bR v_s af) ab (la,v_i)).bind fun r6 =>
 let la:=r6.1
 let v_i:=r6.2
 let v_l:(List Int):=[]
 (ah (qt v_s af la bR) ab v_l).bind fun r20=>match r20 with
 | .inr m21=>some m21
 | .inl m21 =>
 let v_l:=m21
 some v_l
def qp (v_t:Int) (bF:Int) (st:(List am)×Int) : Option (((List am)×Int)⊕(((List am)×Int))) :=
 let v_l:=st.1
 let v_i:=st.2
 if (decide (v_i < (v_l.length:Int)))=true then
 (aw v_l v_i).bind fun b2=>if (b2.fId==bF)=true then
 (aw v_l v_i).bind fun b3=>let v_l:(List am):=(List.set v_l (Int.toNat v_i) ({ b3 with ju:=v_t }))
 let v_i:Int:=(i64.wrap (v_i + 1))
 some (.inl (v_l,v_i))
 else
 let v_i:Int:=(i64.wrap (v_i + 1))
 some (.inl (v_l,v_i))
 else
 some (.inr (v_l,v_i))
def oe (v_s:aa) (bF:Int) (v_t:Int) : Option (aa) :=
 (aU ([] : (List am)) v_s.ac).bind fun b1=>let v_l:(List am):=b1
 let v_i:Int:=0
 (ah (qp v_t bF) ab (v_l,v_i)).bind fun r4 =>
 let v_l:=r4.1
 let v_i:=r4.2
 let v_s:aa:={ v_s with ac:=v_l }
 some v_s
def lS (kZ:aa) (ym:aa) (st:(List Int)×Int) : Option (((List Int)×Int)⊕(((List Int)×Int))) :=
 let v_l:=st.1
 let v_i:=st.2
 if (decide (v_i < (kZ.ac.length:Int)))=true then
 (aw kZ.ac v_i).bind fun b1=>(eS ym b1.fId).bind fun c2=>let bS:Bool:=c2.2
 if (!bS)=true then
 (aw kZ.ac v_i).bind fun b3=>(aU v_l [b3.fId]).bind fun b4=>let v_l:(List Int):=b4
 let v_i:Int:=(i64.wrap (v_i + 1))
 some (.inl (v_l,v_i))
 else
 let v_i:Int:=(i64.wrap (v_i + 1))
 some (.inl (v_l,v_i))
 else
 some (.inr (v_l,v_i))
def vn (kZ:aa) (ym:aa) : Option ((List Int)) :=
 let v_l:(List Int):=[]
 let v_i:Int:=0
 (ah (lS kZ ym) ab (v_l,v_i)).bind fun r5 =>
 let v_l:=r5.1
 let v_i:=r5.2
 some v_l
def nc (v_s:aa) (v_c:am) (st:Int×Int) : Option ((Int×Int)⊕((Int×Int))) :=
 let v_n:=st.1
 let v_i:=st.2
 (if (decide (v_i < (v_s.ac.length:Int)))=true then some v_c.a8 else some false).bind fun q1=>if q1=true then
 (aw v_s.ac v_i).bind fun b2=>(if (b2.bG==v_c.bG)=true then (aw v_s.ac v_i).bind fun b3=>some (b3.fId != v_c.fId) else some false).bind fun q4=>(if q4=true then (aw v_s.ac v_i).bind fun b5=>some (b5.aY==v_c.aY) else some false).bind fun q6=>if q6=true then
 (aw v_s.ac v_i).bind fun b7=>let v_n:Int:=(i64.wrap (v_n + b7.cF.bD))
 let v_i:Int:=(i64.wrap (v_i + 1))
 some (.inl (v_n,v_i))
 else
 let v_i:Int:=(i64.wrap (v_i + 1))
 some (.inl (v_n,v_i))
 else
 some (.inr (v_n,v_i))
def qo (v_s:aa) (v_c:am) : Option (Int) :=
 let v_n:Int:=0
 let v_i:Int:=0
 (ah (nc v_s v_c) ab (v_n,v_i)).bind fun r8 =>
 let v_n:=r8.1
 let v_i:=r8.2
 some v_n
def qr (v_s:aa) (af:Int) (st:(List am)×Int) : Option (((List am)×Int)⊕(((List am)×Int))) :=
 let v_l:=st.1
 let v_i:=st.2
 if (decide (v_i≥0))=true then
 (aw v_s.ac v_i).bind fun b1=>let v_c:am:=b1
 (if (v_c.aY==af)=true then some (v_c.ju != 0) else some false).bind fun q2=>(if q2=true then some (decide ((i64.wrap (v_c.ju + 3))≤v_s.cO)) else some false).bind fun q3=>if q3=true then
 (aU v_l [v_c]).bind fun b4=>let v_l:(List am):=b4
 let v_i:Int:=(i64.wrap (v_i - 1))
 some (.inl (v_l,v_i))
 else
 let v_i:Int:=(i64.wrap (v_i - 1))
 some (.inl (v_l,v_i))
 else
 some (.inr (v_l,v_i))
def lN (v_l:(List am)) (af:Int) (st:aa×Int) : Option ((aa×Int)⊕((aa×Int))) :=
 let v_s:=st.1
 let aI:=st.2
 if (decide (aI < (v_l.length:Int)))=true then
 (aw v_l aI).bind fun b6=>(eS v_s b6.fId).bind fun c7=>let xf:am:=c7.1
 let bS:Bool:=c7.2
 if (!bS)=true then
 let aI:Int:=(i64.wrap (aI + 1))
 some (.inl (v_s,aI))
 else
 (jg v_s xf).bind fun c8=>(eO v_s c8 af).bind fun c9=>(qo v_s xf).bind fun c10=>(jg v_s xf).bind fun c11=>(zJ v_s af c11).bind fun c12=>if (decide ((i64.wrap (c9.bD - c10)) > c12))=true then
 (jo v_s ([xf.fId] : (List Int))).bind fun c13=>let v_s:aa:=c13
 let aI:Int:=(i64.wrap (aI + 1))
 some (.inl (v_s,aI))
 else
 (oe v_s xf.fId 0).bind fun c14=>let v_s:aa:=c14
 let aI:Int:=(i64.wrap (aI + 1))
 some (.inl (v_s,aI))
 else
 some (.inr (v_s,aI))
def zE (v_s:aa) (af:Int) : Option (aa) :=
 let v_l:(List am):=[]
 let v_i:Int:=(i64.wrap ((v_s.ac.length:Int) - 1))
 (ah (qr v_s af) ab (v_l,v_i)).bind fun r5 =>
 let v_l:=r5.1
 let v_i:=r5.2
 let aI:Int:=0
 (ah (lN v_l af) ab (v_s,aI)).bind fun r15 =>
 let v_s:=r15.1
 let aI:=r15.2
 some v_s
def kj (v_l:(List Int)) (st:aa×Int) : Option ((aa×Int)⊕((aa×Int))) :=
 let v_s:=st.1
 let v_i:=st.2
 if (decide (v_i < (v_l.length:Int)))=true then
 (aw v_l v_i).bind fun b3=>(oe v_s b3 (if 1 > v_s.cO then 1 else v_s.cO)).bind fun c4=>let v_s:aa:=c4
 let v_i:Int:=(i64.wrap (v_i + 1))
 some (.inl (v_s,v_i))
 else
 some (.inr (v_s,v_i))
def oC (st:aa×Int) : Option ((aa×Int)⊕((aa×Int))) :=
 let v_s:=st.1
 let af:=st.2
 if (decide (af < (v_s.bN.ak.length:Int)))=true then
 (zE v_s af).bind fun c1=>let v_s:aa:=c1
 (zH v_s af).bind fun c2=>let v_l:(List Int):=c2
 let v_i:Int:=0
 (ah (kj v_l) ab (v_s,v_i)).bind fun r5 =>
 let v_s:=r5.1
 let v_i:=r5.2
 let af:Int:=(i64.wrap (af + 1))
 some (.inl (v_s,af))
 else
 some (.inr (v_s,af))
def wh (v_s:aa) : Option (aa×(List Int)) :=
 let kZ:aa:=v_s
 let af:Int:=0
 (ah (oC) ab (v_s,af)).bind fun r6 =>
 let v_s:=r6.1
 let af:=r6.2
 (vn kZ v_s).bind fun c7=>some (v_s,c7)
def ph (v_l:(List a7)) (af:Int) (v_t:Int) (st:az×Int) : Option ((az×Int)⊕((az×Int))) :=
 let v_v:=st.1
 let v_i:=st.2
 if (decide (v_i < (v_l.length:Int)))=true then
 (aw v_l v_i).bind fun b1=>(if (b1.aY==af)=true then (aw v_l v_i).bind fun b2=>some (decide (b2.n6≤v_t)) else some false).bind fun q3=>(if q3=true then (aw v_l v_i).bind fun b4=>some (decide (v_t < b4.jR)) else some false).bind fun q5=>if q5=true then
 (aw v_l v_i).bind fun b6=>(di v_v b6.iR).bind fun c7=>let v_v:az:=c7
 let v_i:Int:=(i64.wrap (v_i + 1))
 some (.inl (v_v,v_i))
 else
 let v_i:Int:=(i64.wrap (v_i + 1))
 some (.inl (v_v,v_i))
 else
 some (.inr (v_v,v_i))
def vt (v_l:(List a7)) (af:Int) (v_t:Int) : Option (az) :=
 let v_v:az:=(⟨0,0⟩ : az)
 let v_i:Int:=0
 (ah (ph v_l af v_t) ab (v_v,v_i)).bind fun r8 =>
 let v_v:=r8.1
 let v_i:=r8.2
 some v_v
def vp (v_n:Int) : Option (Bool) :=
 (if (decide (v_n≥0))=true then some (decide (v_n≤1073741824)) else some false).bind fun q1=>some q1
def lW (v_l:(List a7)) (v_t:Int) (gR:Int) (v_p:a7) (fK:az) (st:Int) : Option ((Int)⊕((Int)⊕(Bool))) :=
 let v_i:=st
 if (decide (v_i < (v_l.length:Int)))=true then
 (aw v_l v_i).bind fun b4=>let v_u:Int:=b4.n6
 (if (decide (v_u > v_t))=true then some (decide ((i64.wrap (v_u - v_t)) < gR)) else some false).bind fun q5=>(if q5=true then (vt v_l v_p.aY v_u).bind fun c6=>(di c6 v_p.iR).bind fun c7=>(fM c7 fK).bind fun c8=>some (!c8) else some false).bind fun q9=>if q9=true then
 some (.inr (.inr false))
 else
 let v_i:Int:=(i64.wrap (v_i + 1))
 some (.inl v_i)
 else
 some (.inr (.inl v_i))
def sM (v_l:(List a7)) (fK:az) (v_p:a7) (v_t:Int) (gR:Int) : Option (Bool) :=
 (vt v_l v_p.aY v_t).bind fun c1=>(di c1 v_p.iR).bind fun c2=>(fM c2 fK).bind fun c3=>if (!c3)=true then
 some false
 else
 let v_i:Int:=0
 (ah (lW v_l v_t gR v_p fK) ab v_i).bind fun r10=>match r10 with
 | .inr m11=>some m11
 | .inl m11 =>
 let v_i:=m11
 some true
def oG (v_l:(List a7)) (v_p:a7) (gR:Int) (fK:az) (st:Int×Int) : Option ((Int×Int)⊕((Int×Int))) :=
 let cQ:=st.1
 let v_i:=st.2
 if (decide (v_i < (v_l.length:Int)))=true then
 let v_t:Int:=v_p.n6
 (if (decide (v_i≥0))=true then
 (aw v_l v_i).bind fun b11=>let v_t:Int:=b11.jR
 some v_t
 else
 some v_t).bind fun j10=>let v_t:=j10
 (if (decide (v_t≥v_p.n6))=true then some (decide (v_t≤1000000)) else some false).bind fun q12=>(if q12=true then some (decide ((i64.wrap (v_t + gR))≤v_p.jR)) else some false).bind fun q13=>(if q13=true then (if (decide (cQ < 0))=true then some true else some (decide (v_t < cQ))).bind fun q14=>some q14 else some false).bind fun q15=>(if q15=true then (sM v_l fK v_p v_t gR).bind fun c16=>some c16 else some false).bind fun q17=>if q17=true then
 let cQ:Int:=v_t
 let v_i:Int:=(i64.wrap (v_i + 1))
 some (.inl (cQ,v_i))
 else
 let v_i:Int:=(i64.wrap (v_i + 1))
 some (.inl (cQ,v_i))
 else
 some (.inr (cQ,v_i))
def wj (v_l:(List a7)) (fK:az) (v_p:a7) (gR:Int) : Option (Int×Int) :=
 (if (decide (gR < 1))=true then some true else some (decide (gR > 1000))).bind fun q1=>(if q1=true then some true else some (decide (v_p.n6 < 0))).bind fun q2=>(if q2=true then some true else some (decide (v_p.n6 > 1000000))).bind fun q3=>(if q3=true then some true else some (decide (v_p.jR < 0))).bind fun q4=>(if q4=true then some true else some (decide (v_p.jR > 1000000))).bind fun q5=>(if q5=true then some true else (vp v_p.iR.bD).bind fun c6=>some (!c6)).bind fun q7=>(if q7=true then some true else (vp v_p.iR.be).bind fun c8=>some (!c8)).bind fun q9=>if q9=true then
 some (0,1)
 else
 let cQ:Int:=(-1)
 let v_i:Int:=(-1)
 (ah (oG v_l v_p gR fK) ab (cQ,v_i)).bind fun r18 =>
 let cQ:=r18.1
 let v_i:=r18.2
 if (decide (cQ < 0))=true then
 some (0,16)
 else
 some (cQ,0)
def nM (v_s:aa) (v_p:a7) (st:Int×Int) : Option ((Int×Int)⊕((Int×Int)⊕(aa×Int×Int))) :=
 let v_k:=st.1
 let v_i:=st.2
 if (decide (v_i < (v_s.bl.length:Int)))=true then
 (aw v_s.bl v_i).bind fun b5=>if (b5.fId==v_p.fId)=true then
 some (.inr (.inr (v_s,0,7)))
 else
 (aw v_s.bl v_i).bind fun b6=>if (decide (b6.fId < v_p.fId))=true then
 let v_k:Int:=(i64.wrap (v_i + 1))
 let v_i:Int:=(i64.wrap (v_i + 1))
 some (.inl (v_k,v_i))
 else
 let v_i:Int:=(i64.wrap (v_i + 1))
 some (.inl (v_k,v_i))
 else
 some (.inr (.inl (v_k,v_i)))
def zN (v_s:aa) (v_p:a7) (gR:Int) : Option (aa×Int×Int) :=
 (if (decide (v_p.fId < 0))=true then some true else some (decide (v_p.fId > 999))).bind fun q1=>(if q1=true then some true else some (decide (v_p.aY < 0))).bind fun q2=>(if q2=true then some true else some (decide (v_p.aY≥(v_s.bN.ak.length:Int)))).bind fun q3=>(if q3=true then some true else some ((v_p.iR.bD==(⟨0,0⟩ : az).bD)&&(v_p.iR.be==(⟨0,0⟩ : az).be))).bind fun q4=>if q4=true then
 some (v_s,0,1)
 else
 let v_k:Int:=0
 let v_i:Int:=0
 (ah (nM v_s v_p) ab (v_k,v_i)).bind fun r7=>match r7 with
 | .inr m8=>some m8
 | .inl m8 =>
 let v_k:=m8.1
 let v_i:=m8.2
 if (decide ((v_s.bl.length:Int)≥12))=true then
 some (v_s,0,4)
 else
 if (decide (v_p.n6 < v_s.cO))=true then
 some (v_s,0,15)
 else
 (je v_s v_p.aY).bind fun c9=>(wj v_s.bl c9 v_p gR).bind fun c10=>let v_t:Int:=c10.1
 let v_e:Int:=c10.2
 if (v_e != 0)=true then
 some (v_s,0,v_e)
 else
 (hiO v_s.bl v_k).bind fun b11=>(aU ([] : (List a7)) b11).bind fun b12=>let v_l:(List a7):=b12
 (aU v_l [(⟨v_p.fId,v_p.aY,v_t,(i64.wrap (v_t + gR)),v_p.iR⟩ : a7)]).bind fun b13=>let v_l:(List a7):=b13
 (loO v_s.bl v_k).bind fun b14=>(aU v_l b14).bind fun b15=>let v_s:aa:={ v_s with bl:=b15 }
 some (v_s,v_t,0)
def lX (v_s:aa) (bF:Int) (st:(List a7)×Int) : Option (((List a7)×Int)⊕(((List a7)×Int))) :=
 let v_l:=st.1
 let v_i:=st.2
 if (decide (v_i < (v_s.bl.length:Int)))=true then
 (aw v_s.bl v_i).bind fun b1=>if (b1.fId != bF)=true then
 (aw v_s.bl v_i).bind fun b2=>(aU v_l [b2]).bind fun b3=>let v_l:(List a7):=b3
 let v_i:Int:=(i64.wrap (v_i + 1))
 some (.inl (v_l,v_i))
 else
 let v_i:Int:=(i64.wrap (v_i + 1))
 some (.inl (v_l,v_i))
 else
 some (.inr (v_l,v_i))
def vr (v_s:aa) (bF:Int) : Option (aa×Int) :=
 let v_l:(List a7):=[]
 let v_i:Int:=0
 (ah (lX v_s bF) ab (v_l,v_i)).bind fun r4 =>
 let v_l:=r4.1
 let v_i:=r4.2
 if ((v_l.length:Int)==(v_s.bl.length:Int))=true then
 some (v_s,2)
 else
 let v_s:aa:={ v_s with bl:=v_l }
 some (v_s,0)
def tN (v_s:ByteArray) (v_c:Int) (st:(List ByteArray)×Int×Int) : Option (((List ByteArray)×Int×Int)⊕(((List ByteArray)×Int×Int))) :=
 let v_l:=st.1
 let oW:=st.2.1
 let v_i:=st.2.2
 if (decide (v_i < (v_s.size:Int)))=true then
 (jT v_s v_i).bind fun b1=>if (b1==v_c)=true then
 (JF v_s oW v_i).bind fun b2=>(aU v_l [b2]).bind fun b3=>let v_l:(List ByteArray):=b3
 let oW:Int:=(i64.wrap (v_i + 1))
 let v_i:Int:=(i64.wrap (v_i + 1))
 some (.inl (v_l,oW,v_i))
 else
 let v_i:Int:=(i64.wrap (v_i + 1))
 some (.inl (v_l,oW,v_i))
 else
 some (.inr (v_l,oW,v_i))
def F5 (v_s:ByteArray) (v_c:Int) : Option ((List ByteArray)) :=
 let v_l:(List ByteArray):=[]
 let oW:Int:=0
 let v_i:Int:=0
 (ah (tN v_s v_c) ab (v_l,oW,v_i)).bind fun r4 =>
 let v_l:=r4.1
 let oW:=r4.2.1
 let v_i:=r4.2.2
 (if (decide (oW < (v_s.size:Int)))=true then
 (S7 v_s oW).bind fun b6=>(aU v_l [b6]).bind fun b7=>let v_l:(List ByteArray):=b7
 some v_l
 else
 some v_l).bind fun j5=>let v_l:=j5
 some v_l
def p8 (v_l:(List ByteArray)) (st:(List ByteArray)×Int) : Option (((List ByteArray)×Int)⊕(((List ByteArray)×Int))) :=
 let al:=st.1
 let v_i:=st.2
 if (decide (v_i < (v_l.length:Int)))=true then
 (aw v_l v_i).bind fun b2=>if (!(b2.toList==(⟨#[]⟩ : ByteArray).toList))=true then
 (aw v_l v_i).bind fun b3=>(aU al [b3]).bind fun b4=>let al:(List ByteArray):=b4
 let v_i:Int:=(i64.wrap (v_i + 1))
 some (.inl (al,v_i))
 else
 let v_i:Int:=(i64.wrap (v_i + 1))
 some (.inl (al,v_i))
 else
 some (.inr (al,v_i))
def ze (v_s:ByteArray) : Option ((List ByteArray)) :=
 let al:(List ByteArray):=[]
 (F5 v_s 32).bind fun c1=>let v_l:(List ByteArray):=c1
 let v_i:Int:=0
 (ah (p8 v_l) ab (al,v_i)).bind fun r5 =>
 let al:=r5.1
 let v_i:=r5.2
 some al
def oB (v_s:ByteArray) (st:Int×Int) : Option ((Int×Int)⊕((Int×Int)⊕(Int×Bool))) :=
 let v_n:=st.1
 let v_i:=st.2
 if (decide (v_i < (v_s.size:Int)))=true then
 (jT v_s v_i).bind fun b5=>(if (decide (b5 < 48))=true then some true else (jT v_s v_i).bind fun b6=>some (decide (b6 > 57))).bind fun q7=>if q7=true then
 some (.inr (.inr (0,false)))
 else
 (jT v_s v_i).bind fun b8=>let v_n:Int:=(i64.wrap ((i64.wrap (v_n * 10)) + (i64.wrap (IntKind.u8.wrap (b8 - 48)))))
 let v_i:Int:=(i64.wrap (v_i + 1))
 some (.inl (v_n,v_i))
 else
 some (.inr (.inl (v_n,v_i)))
def px (v_s:ByteArray) : Option (Int×Bool) :=
 (if (decide ((v_s.size:Int) < 1))=true then some true else some (decide ((v_s.size:Int) > 7))).bind fun q1=>(if q1=true then some true else (jT v_s 0).bind fun b2=>(if (b2==48)=true then some (decide ((v_s.size:Int) > 1)) else some false).bind fun q3=>some q3).bind fun q4=>if q4=true then
 some (0,false)
 else
 let v_n:Int:=0
 let v_i:Int:=0
 (ah (oB v_s) ab (v_n,v_i)).bind fun r9=>match r9 with
 | .inr m10=>some m10
 | .inl m10 =>
 let v_n:=m10.1
 let v_i:=m10.2
 some (v_n,true)
def p9 (v_s:ByteArray) (st:Int) : Option ((Int)⊕((Int))) :=
 let v_k:=st
 (if (decide (v_k < (v_s.size:Int)))=true then (jT v_s v_k).bind fun b1=>some (b1 != 47) else some false).bind fun q2=>if q2=true then
 let v_k:Int:=(i64.wrap (v_k + 1))
 some (.inl v_k)
 else
 some (.inr v_k)
def zh (v_s:ByteArray) : Option (eu×Bool) :=
 let v_k:Int:=0
 (ah (p9 v_s) ab v_k).bind fun r3 =>
 let v_k:=r3
 if (v_k==(v_s.size:Int))=true then
 some ((⟨0,0⟩ : eu),false)
 else
 (GX v_s v_k).bind fun b4=>(px b4).bind fun c5=>let v_a:Int:=c5.1
 let v_p:Bool:=c5.2
 (S7 v_s (i64.wrap (v_k + 1))).bind fun b6=>(px b6).bind fun c7=>let v_b:Int:=c7.1
 let v_q:Bool:=c7.2
 (if v_p=true then some v_q else some false).bind fun q8=>some ((⟨v_a,v_b⟩ : eu),q8)
def qa (v_w:(List ByteArray)) (st:Bool×ax×Int) : Option ((Bool×ax×Int)⊕((Bool×ax×Int))) :=
 let ew:=st.1
 let v_q:=st.2.1
 let v_i:=st.2.2
 (if (decide (v_i < (v_w.length:Int)))=true then some ew else some false).bind fun q6=>if q6=true then
 let v_c:eu:=(⟨0,0⟩ : eu)
 (aw v_w v_i).bind fun b7=>(zh b7).bind fun c8=>let v_c:eu:=c8.1
 let ew:Bool:=c8.2
 (aU v_q.bu [v_c]).bind fun b9=>let v_q:ax:={ v_q with bu:=b9 }
 let v_i:Int:=(i64.wrap (v_i + 1))
 some (.inl (ew,v_q,v_i))
 else
 some (.inr (ew,v_q,v_i))
def zi (v_w:(List ByteArray)) (rP:Int) : Option (ax×Bool) :=
 (if ((v_w.length:Int) != (i64.wrap (3 + rP)))=true then some true else (aw v_w 0).bind fun b1=>some (!(b1.toList==(⟨#[113,117,101,117,101]⟩ : ByteArray).toList))).bind fun q2=>if q2=true then
 some ((⟨⟨#[]⟩,[],0⟩ : ax),false)
 else
 (aw v_w 2).bind fun b3=>(px b3).bind fun c4=>let v_n:Int:=c4.1
 let ew:Bool:=c4.2
 (aw v_w 1).bind fun b5=>let v_q:ax:=(⟨b5,[],v_n⟩ : ax)
 let v_i:Int:=3
 (ah (qa v_w) ab (ew,v_q,v_i)).bind fun r10 =>
 let ew:=r10.1
 let v_q:=r10.2.1
 let v_i:=r10.2.2
 some (v_q,ew)
def qc (v_c:av) (v_q:ax) (st:Int) : Option ((Int)⊕((Int))) :=
 let v_k:=st
 (if (decide (v_k < (v_c.ae.length:Int)))=true then (aw v_c.ae v_k).bind fun b10=>some (Op.bytesLess b10.aC.toList v_q.aC.toList) else some false).bind fun q11=>if q11=true then
 let v_k:Int:=(i64.wrap (v_k + 1))
 some (.inl v_k)
 else
 some (.inr v_k)
def qd (v_l:(List ByteArray)) (st:av×Bool×Int) : Option ((av×Bool×Int)⊕((av×Bool×Int)⊕(av×Int))) :=
 let v_c:=st.1
 let nx:=st.2.1
 let v_i:=st.2.2
 if (decide (v_i < (v_l.length:Int)))=true then
 (aw v_l v_i).bind fun b2=>(ze b2).bind fun c3=>let v_w:(List ByteArray):=c3
 if ((v_w.length:Int)==0)=true then
 let v_i:Int:=(i64.wrap (v_i + 1))
 some (.inl (v_c,nx,v_i))
 else
 if ((v_c.ak.length:Int)==0)=true then
 (aw v_w 0).bind fun b4=>if (!(b4.toList==(⟨#[108,97,98,101,108,115]⟩ : ByteArray).toList))=true then
 some (.inr (.inr ((⟨[],[]⟩ : av),6)))
 else
 if (decide ((v_w.length:Int) > 3))=true then
 some (.inr (.inr ((⟨[],[]⟩ : av),4)))
 else
 (loO v_w 1).bind fun b5=>(aU ([(⟨#[]⟩ : ByteArray)] : (List ByteArray)) b5).bind fun b6=>let v_c:av:={ v_c with ak:=b6 }
 let v_i:Int:=(i64.wrap (v_i + 1))
 some (.inl (v_c,nx,v_i))
 else
 (if ((v_c.ae.length:Int)==16)=true then (aw v_w 0).bind fun b7=>some (b7.toList==(⟨#[113,117,101,117,101]⟩ : ByteArray).toList) else some false).bind fun q8=>if q8=true then
 some (.inr (.inr ((⟨[],[]⟩ : av),4)))
 else
 (zi v_w (v_c.ak.length:Int)).bind fun c9=>let v_q:ax:=c9.1
 let ew:Bool:=c9.2
 if (!ew)=true then
 some (.inr (.inr ((⟨[],[]⟩ : av),6)))
 else
 let v_k:Int:=0
 (ah (qc v_c v_q) ab v_k).bind fun r12 =>
 let v_k:=r12
 (if nx=true then some true else (if (decide (v_k < (v_c.ae.length:Int)))=true then (aw v_c.ae v_k).bind fun b13=>some (b13.aC.toList==v_q.aC.toList) else some false).bind fun q14=>some q14).bind fun q15=>let nx:Bool:=q15
 (hiO v_c.ae v_k).bind fun b16=>(aU ([] : (List ax)) b16).bind fun b17=>let v_x:(List ax):=b17
 (aU v_x [v_q]).bind fun b18=>(loO v_c.ae v_k).bind fun b19=>(aU b18 b19).bind fun b20=>let v_c:av:={ v_c with ae:=b20 }
 let v_i:Int:=(i64.wrap (v_i + 1))
 some (.inl (v_c,nx,v_i))
 else
 some (.inr (.inl (v_c,nx,v_i)))
def zk (v_s:ByteArray) : Option (av×Int) :=
 if (decide ((v_s.size:Int) > 2000))=true then
 some ((⟨[],[]⟩ : av),5)
 else
 let v_c:av:=(⟨[],[]⟩ : av)
 let nx:Bool:=false
 (F5 v_s 10).bind fun c1=>let v_l:(List ByteArray):=c1
 let v_i:Int:=0
 (ah (qd v_l) ab (v_c,nx,v_i)).bind fun r21=>match r21 with
 | .inr m22=>some m22
 | .inl m22 =>
 let v_c:=m22.1
 let nx:=m22.2.1
 let v_i:=m22.2.2
 if ((v_c.ak.length:Int)==0)=true then
 some ((⟨[],[]⟩ : av),6)
 else
 if nx=true then
 some ((⟨[],[]⟩ : av),7)
 else
 some (v_c,0)
def dv:Nat→Int→Option (ByteArray)
 | 0=>fun _=>none
 | fuel + 1=>fun v_n =>
 let self:=dv fuel
 if (decide (v_n < 0))=true then
 if (v_n==(-9223372036854775808))=true then
 some (⟨#[45,57,50,50,51,51,55,50,48,51,54,56,53,52,55,55,53,56,48,56]⟩ : ByteArray)
 else
 (self (i64.wrap (0 - v_n))).bind fun c1=>(mw (⟨#[45]⟩ : ByteArray) c1).bind fun b2=>some b2
 else
 if (decide (v_n≥10))=true then
 (self (i64.wrap (Int.tdiv v_n 10))).bind fun c3=>(self (Int.tmod v_n 10)).bind fun c4=>(mw c3 c4).bind fun b5=>some b5
 else
 (Yo ([(IntKind.u8.wrap (i64.wrap (48 + v_n)))] : (List Int))).bind fun b6=>some b6
def rx (v_c:av) (st:ByteArray×Int) : Option ((ByteArray×Int)⊕((ByteArray×Int))) :=
 let al:=st.1
 let v_i:=st.2
 if (decide (v_i < (v_c.ak.length:Int)))=true then
 (mw al (⟨#[32]⟩ : ByteArray)).bind fun b1=>(aw v_c.ak v_i).bind fun b2=>(mw b1 b2).bind fun b3=>let al:ByteArray:=b3
 let v_i:Int:=(i64.wrap (v_i + 1))
 some (.inl (al,v_i))
 else
 some (.inr (al,v_i))
def ru (v_q:ax) (st:ByteArray×Int) : Option ((ByteArray×Int)⊕((ByteArray×Int))) :=
 let al:=st.1
 let v_k:=st.2
 if (decide (v_k < (v_q.bu.length:Int)))=true then
 (mw al (⟨#[32]⟩ : ByteArray)).bind fun b12=>(aw v_q.bu v_k).bind fun b13=>(dv ab b13.kz).bind fun c14=>(mw b12 c14).bind fun b15=>(mw b15 (⟨#[47]⟩ : ByteArray)).bind fun b16=>(aw v_q.bu v_k).bind fun b17=>(dv ab b17.sr).bind fun c18=>(mw b16 c18).bind fun b19=>let al:ByteArray:=b19
 let v_k:Int:=(i64.wrap (v_k + 1))
 some (.inl (al,v_k))
 else
 some (.inr (al,v_k))
def rv (v_c:av) (st:ByteArray×Int) : Option ((ByteArray×Int)⊕((ByteArray×Int))) :=
 let al:=st.1
 let aI:=st.2
 if (decide (aI < (v_c.ae.length:Int)))=true then
 (aw v_c.ae aI).bind fun b6=>let v_q:ax:=b6
 (mw al (⟨#[113,117,101,117,101,32]⟩ : ByteArray)).bind fun b7=>(mw b7 v_q.aC).bind fun b8=>(mw b8 (⟨#[32]⟩ : ByteArray)).bind fun b9=>(dv ab v_q.cy).bind fun c10=>(mw b9 c10).bind fun b11=>let al:ByteArray:=b11
 let v_k:Int:=0
 (ah (ru v_q) ab (al,v_k)).bind fun r20 =>
 let al:=r20.1
 let v_k:=r20.2
 (mw al (⟨#[10]⟩ : ByteArray)).bind fun b21=>let al:ByteArray:=b21
 let aI:Int:=(i64.wrap (aI + 1))
 some (.inl (al,aI))
 else
 some (.inr (al,aI))
def zj (v_c:av) : Option (ByteArray) :=
 let al:ByteArray:=(⟨#[108,97,98,101,108,115]⟩ : ByteArray)
 let v_i:Int:=1
 (ah (rx v_c) ab (al,v_i)).bind fun r4 =>
 let al:=r4.1
 let v_i:=r4.2
 (mw al (⟨#[10]⟩ : ByteArray)).bind fun b5=>let al:ByteArray:=b5
 let aI:Int:=0
 (ah (rv v_c) ab (al,aI)).bind fun r22 =>
 let al:=r22.1
 let aI:=r22.2
 some al
def rA (v_a:av) (v_b:av) (st:Int) : Option ((Int)⊕((Int)⊕(Bool))) :=
 let v_i:=st
 if (decide (v_i < (v_a.ak.length:Int)))=true then
 (aw v_a.ak v_i).bind fun b2=>(aw v_b.ak v_i).bind fun b3=>if (!(b2.toList==b3.toList))=true then
 some (.inr (.inr false))
 else
 let v_i:Int:=(i64.wrap (v_i + 1))
 some (.inl v_i)
 else
 some (.inr (.inl v_i))
def ry (v_x:ax) (v_y:ax) (st:Int) : Option ((Int)⊕((Int)⊕(Bool))) :=
 let v_k:=st
 if (decide (v_k < (v_x.bu.length:Int)))=true then
 (aw v_x.bu v_k).bind fun b12=>(aw v_y.bu v_k).bind fun b13=>if (!((b12.kz==b13.kz)&&(b12.sr==b13.sr)))=true then
 some (.inr (.inr false))
 else
 let v_k:Int:=(i64.wrap (v_k + 1))
 some (.inl v_k)
 else
 some (.inr (.inl v_k))
def rz (v_a:av) (v_b:av) (st:Int) : Option ((Int)⊕((Int)⊕(Bool))) :=
 let aI:=st
 if (decide (aI < (v_a.ae.length:Int)))=true then
 (aw v_a.ae aI).bind fun b6=>(aw v_b.ae aI).bind fun b7=>let t8:ax:=b6
 let t9:ax:=b7
 let v_x:ax:=t8
 let v_y:ax:=t9
 (if (!(v_x.aC.toList==v_y.aC.toList))=true then some true else some (v_x.cy != v_y.cy)).bind fun q10=>(if q10=true then some true else some ((v_x.bu.length:Int) != (v_y.bu.length:Int))).bind fun q11=>if q11=true then
 some (.inr (.inr false))
 else
 let v_k:Int:=0
 (ah (ry v_x v_y) ab v_k).bind fun r14=>match r14 with
 | .inr m15=>some (.inr (.inr m15))
 | .inl m15 =>
 let v_k:=m15
 let aI:Int:=(i64.wrap (aI + 1))
 some (.inl aI)
 else
 some (.inr (.inl aI))
def DI (v_a:av) (v_b:av) : Option (Bool) :=
 (if ((v_a.ak.length:Int) != (v_b.ak.length:Int))=true then some true else some ((v_a.ae.length:Int) != (v_b.ae.length:Int))).bind fun q1=>if q1=true then
 some false
 else
 let v_i:Int:=0
 (ah (rA v_a v_b) ab v_i).bind fun r4=>match r4 with
 | .inr m5=>some m5
 | .inl m5 =>
 let v_i:=m5
 let aI:Int:=0
 (ah (rz v_a v_b) ab aI).bind fun r16=>match r16 with
 | .inr m17=>some m17
 | .inl m17 =>
 let aI:=m17
 some true
def KU:Option (aa) :=
 some (⟨(⟨([(⟨#[]⟩ : ByteArray)] : (List ByteArray)),([(⟨(⟨#[114,111,111,116]⟩ : ByteArray),([(⟨10000,10000⟩ : eu)] : (List eu)),10000⟩ : ax)] : (List ax))⟩ : av),[],[],[],[],[],0,0,0⟩ : aa)
def dP (v_s:aa) (v_e:Int) : Option (aa×bw) :=
 some (v_s,(⟨v_e,[],[],[],0⟩ : bw))
def jB (v_s:aa) (v_c:av) (st:Int) : Option ((Int)⊕((Int)⊕(aa×bw))) :=
 let v_i:=st
 if (decide (v_i < (v_s.bN.ak.length:Int)))=true then
 (aw v_c.ak v_i).bind fun b6=>(aw v_s.bN.ak v_i).bind fun b7=>if (!(b6.toList==b7.toList))=true then
 (dP v_s 14).bind fun c8=>some (.inr (.inr c8))
 else
 let v_i:Int:=(i64.wrap (v_i + 1))
 some (.inl v_i)
 else
 some (.inr (.inl v_i))
def jA (v_s:aa) (v_c:av) (st:Int) : Option ((Int)⊕((Int)⊕(aa×bw))) :=
 let aI:=st
 if (decide (aI < (v_s.aj.length:Int)))=true then
 (aw v_s.aj aI).bind fun b11=>(dG b11).bind fun c12=>(if c12=true then (aw v_s.aj aI).bind fun b13=>(jx v_c b13.bC).bind fun c14=>some (!c14) else some false).bind fun q15=>if q15=true then
 (dP v_s 14).bind fun c16=>some (.inr (.inr c16))
 else
 let aI:Int:=(i64.wrap (aI + 1))
 some (.inl aI)
 else
 some (.inr (.inl aI))
def tQ (v_s:aa) (ZQ:ByteArray) : Option (aa×bw) :=
 (zk ZQ).bind fun c1=>let v_c:av:=c1.1
 let v_e:Int:=c1.2
 (if (v_e==0)=true then
 (vf v_c).bind fun c3=>let v_e:Int:=c3
 some v_e
 else
 some v_e).bind fun j2=>let v_e:=j2
 if (v_e != 0)=true then
 (dP v_s v_e).bind fun c4=>some c4
 else
 if (decide ((v_c.ak.length:Int) < (v_s.bN.ak.length:Int)))=true then
 (dP v_s 14).bind fun c5=>some c5
 else
 let v_i:Int:=0
 (ah (jB v_s v_c) ab v_i).bind fun r9=>match r9 with
 | .inr m10=>some m10
 | .inl m10 =>
 let v_i:=m10
 let aI:Int:=0
 (ah (jA v_s v_c) ab aI).bind fun r17=>match r17 with
 | .inr m18=>some m18
 | .inl m18 =>
 let aI:=m18
 let v_s:aa:={ v_s with bN:=v_c }
 some (v_s,(⟨0,[],[],[],0⟩ : bw))
def pf (v_s:aa) (cu:Int) (st:(List Int)×Int) : Option (((List Int)×Int)⊕(((List Int)×Int))) :=
 let v_l:=st.1
 let v_i:=st.2
 if (decide (v_i < (v_s.ac.length:Int)))=true then
 (aw v_s.ac v_i).bind fun b1=>if (b1.bJ==cu)=true then
 (aw v_s.ac v_i).bind fun b2=>(aU v_l [b2.fId]).bind fun b3=>let v_l:(List Int):=b3
 let v_i:Int:=(i64.wrap (v_i + 1))
 some (.inl (v_l,v_i))
 else
 let v_i:Int:=(i64.wrap (v_i + 1))
 some (.inl (v_l,v_i))
 else
 some (.inr (v_l,v_i))
def xT (v_s:aa) (cu:Int) : Option ((List Int)) :=
 let v_l:(List Int):=[]
 let v_i:Int:=0
 (ah (pf v_s cu) ab (v_l,v_i)).bind fun r4 =>
 let v_l:=r4.1
 let v_i:=r4.2
 some v_l
def lM (v_x:aK) (v_t:aa) (st:(List Int)×Int) : Option (((List Int)×Int)⊕(((List Int)×Int))) :=
 let cj:=st.1
 let v_i:=st.2
 if (decide (v_i < (v_x.fY.length:Int)))=true then
 (aw v_x.fY v_i).bind fun b7=>(eS v_t b7).bind fun c8=>let v_c:am:=c8.1
 let yo:Bool:=c8.2
 (if yo=true then some (v_c.bJ==v_x.fId) else some false).bind fun q9=>if q9=true then
 (aU cj [v_c.fId]).bind fun b10=>let cj:(List Int):=b10
 let v_i:Int:=(i64.wrap (v_i + 1))
 some (.inl (cj,v_i))
 else
 let v_i:Int:=(i64.wrap (v_i + 1))
 some (.inl (cj,v_i))
 else
 some (.inr (cj,v_i))
def zC (v_s:aa) (v_x:aK) : Option (aa×bw) :=
 (nC v_s v_x.fId).bind fun c1=>let v_n:aX:=c1.1
 let bS:Bool:=c1.2
 (if bS=true then some v_n.fUp else some false).bind fun q2=>(if q2=true then some (v_n.cd==v_x.cd) else some false).bind fun q3=>if q3=true then
 (xT v_s v_x.fId).bind fun c4=>some (v_s,(⟨0,[],c4,[],0⟩ : bw))
 else
 (DF v_s v_x.fId v_x.cd).bind fun c5=>let v_t:aa:=c5.1
 let v_e:Int:=c5.2
 if (v_e != 0)=true then
 (dP v_s v_e).bind fun c6=>some c6
 else
 let cj:(List Int):=[]
 let v_i:Int:=0
 (ah (lM v_x v_t) ab (cj,v_i)).bind fun r11 =>
 let cj:=r11.1
 let v_i:=r11.2
 (jo v_t cj).bind fun c12=>let v_t:aa:=c12
 (qy v_t v_x.fId).bind fun c13=>let v_t:aa:=c13.1
 (xT v_t v_x.fId).bind fun c14=>some (v_t,(⟨0,[],c14,[],0⟩ : bw))
def ke (cj:(List Int)) (v_s:aa) (st:(List am)×Int) : Option (((List am)×Int)⊕(((List am)×Int))) :=
 let v_l:=st.1
 let v_i:=st.2
 if (decide (v_i < (cj.length:Int)))=true then
 (aw cj v_i).bind fun b1=>(eS v_s b1).bind fun c2=>let v_c:am:=c2.1
 let bS:Bool:=c2.2
 if bS=true then
 (aU v_l [v_c]).bind fun b3=>let v_l:(List am):=b3
 let v_i:Int:=(i64.wrap (v_i + 1))
 some (.inl (v_l,v_i))
 else
 let v_i:Int:=(i64.wrap (v_i + 1))
 some (.inl (v_l,v_i))
 else
 some (.inr (v_l,v_i))
def sI (v_s:aa) (cj:(List Int)) : Option ((List am)) :=
 let v_l:(List am):=[]
 let v_i:Int:=0
 (ah (ke cj v_s) ab (v_l,v_i)).bind fun r4 =>
 let v_l:=r4.1
 let v_i:=r4.2
 some v_l
def iT (v_s:aa) (fc:Int) (st:(List Int)×Int) : Option (((List Int)×Int)⊕(((List Int)×Int))) :=
 let v_l:=st.1
 let v_i:=st.2
 if (decide (v_i < (v_s.ac.length:Int)))=true then
 (aw v_s.ac v_i).bind fun b1=>(if (b1.bG==fc)=true then (aw v_s.ac v_i).bind fun b2=>some (b2.ju != 0) else some false).bind fun q3=>if q3=true then
 (aw v_s.ac v_i).bind fun b4=>(aU v_l [b4.fId]).bind fun b5=>let v_l:(List Int):=b5
 let v_i:Int:=(i64.wrap (v_i + 1))
 some (.inl (v_l,v_i))
 else
 let v_i:Int:=(i64.wrap (v_i + 1))
 some (.inl (v_l,v_i))
 else
 some (.inr (v_l,v_i))
def od (v_s:aa) (fc:Int) : Option ((List Int)) :=
 let v_l:(List Int):=[]
 let v_i:Int:=0
 (ah (iT v_s fc) ab (v_l,v_i)).bind fun r6 =>
 let v_l:=r6.1
 let v_i:=r6.2
 some v_l
def ka (kv:(List aM)) (v_s:aa) (st:(List aM)×Int) : Option (((List aM)×Int)⊕(((List aM)×Int)⊕((List aM)×Int))) :=
 let v_l:=st.1
 let v_i:=st.2
 if (decide (v_i < (kv.length:Int)))=true then
 (aw kv v_i).bind fun b1=>(pX b1 (v_s.bN.ak.length:Int)).bind fun c2=>let v_e:Int:=c2
 if (v_e != 0)=true then
 some (.inr (.inr ([],v_e)))
 else
 (aw kv v_i).bind fun b3=>(FS v_l b3).bind fun c4=>let v_l:(List aM):=c4.1
 let v_e:Int:=c4.2
 if (v_e != 0)=true then
 some (.inr (.inr ([],v_e)))
 else
 let v_i:Int:=(i64.wrap (v_i + 1))
 some (.inl (v_l,v_i))
 else
 some (.inr (.inl (v_l,v_i)))
def wg (v_s:aa) (v_l:(List aM)) (kv:(List aM)) : Option ((List aM)×Int) :=
 let v_i:Int:=0
 (ah (ka kv v_s) ab (v_l,v_i)).bind fun r5=>match r5 with
 | .inr m6=>some m6
 | .inl m6 =>
 let v_l:=m6.1
 let v_i:=m6.2
 some (v_l,0)
def jz (v_x:aK) (st:aa×aq×Int) : Option ((aa×aq×Int)⊕((aa×aq×Int))) :=
 let v_s:=st.1
 let v_a:=st.2.1
 let v_i:=st.2.2
 if (decide (v_i < (v_x.fY.length:Int)))=true then
 (aw v_x.fY v_i).bind fun b11=>(eS v_s b11).bind fun c12=>let v_c:am:=c12.1
 let yo:Bool:=c12.2
 (if yo=true then some (v_c.bG==v_a.fId) else some false).bind fun q13=>(if q13=true then some (!v_c.a8) else some false).bind fun q14=>if q14=true then
 (qz v_s v_c.fId).bind fun c15=>let v_s:aa:=c15
 (jn v_a.bP v_c.fId).bind fun c16=>let v_a:aq:={ v_a with bP:=c16.1 }
 let v_i:Int:=(i64.wrap (v_i + 1))
 some (.inl (v_s,v_a,v_i))
 else
 let v_i:Int:=(i64.wrap (v_i + 1))
 some (.inl (v_s,v_a,v_i))
 else
 some (.inr (v_s,v_a,v_i))
def tP (v_s:aa) (v_x:aK) : Option (aa×bw) :=
 (eR v_s v_x.fId).bind fun c1=>let v_a:aq:=c1.1
 let bS:Bool:=c1.2
 if (!bS)=true then
 (dP v_s 2).bind fun c2=>some c2
 else
 if (v_a.da != 2)=true then
 (dP v_s 14).bind fun c3=>some c3
 else
 if (decide (v_x.cd < v_a.cd))=true then
 (dP v_s 15).bind fun c4=>some c4
 else
 if (v_x.cd==v_a.cd)=true then
 (sI v_s v_a.jO).bind fun c5=>(od v_s v_a.fId).bind fun c6=>(aU ([] : (List Int)) v_a.jW).bind fun b7=>some (v_s,(⟨0,c5,c6,b7,0⟩ : bw))
 else
 if (decide ((i64.wrap (v_x.cd - 1)) > v_a.cd))=true then
 (dP v_s 1).bind fun c8=>some c8
 else
 (wg v_s v_a.bI v_x.bI).bind fun c9=>let v_l:(List aM):=c9.1
 let v_e:Int:=c9.2
 if (v_e != 0)=true then
 (dP v_s v_e).bind fun c10=>some c10
 else
 let v_i:Int:=0
 (ah (jz v_x) ab (v_s,v_a,v_i)).bind fun r17 =>
 let v_s:=r17.1
 let v_a:=r17.2.1
 let v_i:=r17.2.2
 (sI v_s v_a.bP).bind fun c18=>(od v_s v_a.fId).bind fun c19=>(aU ([] : (List Int)) v_a.dr).bind fun b20=>let v_o:bw:=(⟨0,c18,c19,b20,0⟩ : bw)
 let t21:(List aM):=v_l
 let t22:Int:=v_s.cO
 let t23:Int:=v_x.cd
 let v_a:aq:={ v_a with bI:=t21 }
 let v_a:aq:={ v_a with cH:=t22 }
 let v_a:aq:={ v_a with cd:=t23 }
 let t24:(List Int):=v_a.bP
 let t25:(List Int):=v_a.dr
 let t26:(List Int):=[]
 let t27:(List Int):=[]
 let v_a:aq:={ v_a with jO:=t24 }
 let v_a:aq:={ v_a with jW:=t25 }
 let v_a:aq:={ v_a with bP:=t26 }
 let v_a:aq:={ v_a with dr:=t27 }
 (eT v_s v_a).bind fun c28=>some (c28,v_o)
def zy (v_s:aa) (bF:Int) (Ju:Int) : Option (aa×bw) :=
 (eR v_s bF).bind fun c1=>let v_a:aq:=c1.1
 let bS:Bool:=c1.2
 if (!bS)=true then
 (dP v_s 2).bind fun c2=>some c2
 else
 (dG v_a).bind fun c3=>if (!c3)=true then
 (dP v_s 14).bind fun c4=>some c4
 else
 (Li v_s bF Ju).bind fun c5=>let v_t:aa:=c5.1
 let jP:(List Int):=c5.2
 some (v_t,(⟨0,[],[],jP,0⟩ : bw))
def lL (v_s:aa) (fc:Int) (st:Int) : Option ((Int)⊕((Int)⊕(Int))) :=
 let v_i:=st
 if (decide (v_i < (v_s.ac.length:Int)))=true then
 (aw v_s.ac v_i).bind fun b1=>(if (b1.bG==fc)=true then (aw v_s.ac v_i).bind fun b2=>some b2.a8 else some false).bind fun q3=>if q3=true then
 (aw v_s.ac v_i).bind fun b4=>some (.inr (.inr b4.fId))
 else
 let v_i:Int:=(i64.wrap (v_i + 1))
 some (.inl v_i)
 else
 some (.inr (.inl v_i))
def vj (v_s:aa) (fc:Int) : Option (Int) :=
 let v_i:Int:=0
 (ah (lL v_s fc) ab v_i).bind fun r5=>match r5 with
 | .inr m6=>some m6
 | .inl m6 =>
 let v_i:=m6
 some (-1)
def lK (v_l:(List Int)) (st:aa×Int) : Option ((aa×Int)⊕((aa×Int))) :=
 let v_s:=st.1
 let v_i:=st.2
 if (decide (v_i < (v_l.length:Int)))=true then
 (aw v_l v_i).bind fun b5=>(y9 v_s b5).bind fun c6=>(aw v_l v_i).bind fun b7=>(fI c6 b7).bind fun c8=>let v_s:aa:=c8
 (aw v_l v_i).bind fun b9=>(xT v_s b9).bind fun c10=>(jo v_s c10).bind fun c11=>let v_s:aa:=c11
 let v_i:Int:=(i64.wrap (v_i + 1))
 some (.inl (v_s,v_i))
 else
 some (.inr (v_s,v_i))
def lJ (v_l:(List Int)) (st:aa×Int) : Option ((aa×Int)⊕((aa×Int))) :=
 let v_s:=st.1
 let aI:=st.2
 if (decide (aI < (v_l.length:Int)))=true then
 (aw v_l aI).bind fun b14=>(vj v_s b14).bind fun c15=>(jo v_s ([c15] : (List Int))).bind fun c16=>let v_s:aa:=c16
 let aI:Int:=(i64.wrap (aI + 1))
 some (.inl (v_s,aI))
 else
 some (.inr (v_s,aI))
def lI (v_s:aa) (st:(List a7)×Int) : Option (((List a7)×Int)⊕(((List a7)×Int))) :=
 let yl:=st.1
 let oV:=st.2
 if (decide (oV < (v_s.bl.length:Int)))=true then
 (aw v_s.bl oV).bind fun b18=>if (decide (b18.jR > v_s.cO))=true then
 (aw v_s.bl oV).bind fun b19=>(aU yl [b19]).bind fun b20=>let yl:(List a7):=b20
 let oV:Int:=(i64.wrap (oV + 1))
 some (.inl (yl,oV))
 else
 let oV:Int:=(i64.wrap (oV + 1))
 some (.inl (yl,oV))
 else
 some (.inr (yl,oV))
def zx (v_s:aa) (v_n:Int) : Option (aa×bw) :=
 (if (decide (v_n < 1))=true then some true else some (decide (v_n > 100))).bind fun q1=>if q1=true then
 (dP v_s 1).bind fun c2=>some c2
 else
 if (decide ((i64.wrap (v_s.cO + v_n)) > 1000000000))=true then
 (dP v_s 11).bind fun c3=>some c3
 else
 let kZ:aa:=v_s
 let v_s:aa:={ v_s with cO:=(i64.wrap (v_s.cO + v_n)) }
 (v7 v_s).bind fun c4=>let v_l:(List Int):=c4
 let v_i:Int:=0
 (ah (lK v_l) ab (v_s,v_i)).bind fun r12 =>
 let v_s:=r12.1
 let v_i:=r12.2
 (tU v_s).bind fun c13=>let v_l:(List Int):=c13
 let aI:Int:=0
 (ah (lJ v_l) ab (v_s,aI)).bind fun r17 =>
 let v_s:=r17.1
 let aI:=r17.2
 let yl:(List a7):=[]
 let oV:Int:=0
 (ah (lI v_s) ab (yl,oV)).bind fun r21 =>
 let yl:=r21.1
 let oV:=r21.2
 let v_s:aa:={ v_s with bl:=yl }
 (wh v_s).bind fun c22=>let v_s:aa:=c22.1
 (vn kZ v_s).bind fun c23=>some (v_s,(⟨0,[],[],c23,0⟩ : bw))
def sJ (v_s:aa) (v_x:aK) : Option (aa×bw) :=
 if (v_x.ig==1)=true then
 (tQ v_s v_x.MF).bind fun c1=>some c1
 else
 if (v_x.ig==2)=true then
 (rb v_s v_x.bJ).bind fun c2=>let v_t:aa:=c2.1
 let v_e:Int:=c2.2
 some (v_t,(⟨v_e,[],[],[],0⟩ : bw))
 else
 if (v_x.ig==3)=true then
 (zC v_s v_x).bind fun c3=>some c3
 else
 if (v_x.ig==4)=true then
 (kI v_s v_x.bG).bind fun c4=>let abh:aa:=c4.1
 let abk:Int:=c4.2
 some (abh,(⟨abk,[],[],[],0⟩ : bw))
 else
 if (v_x.ig==5)=true then
 (tP v_s v_x).bind fun c5=>some c5
 else
 if (v_x.ig==6)=true then
 (zy v_s v_x.fId 3).bind fun c6=>some c6
 else
 if (v_x.ig==7)=true then
 (zy v_s v_x.fId 4).bind fun c7=>some c7
 else
 if (v_x.ig==8)=true then
 (zx v_s v_x.fN).bind fun c8=>some c8
 else
 if (v_x.ig==9)=true then
 (zN v_s v_x.pR v_x.fN).bind fun c9=>let abg:aa:=c9.1
 let v_n:Int:=c9.2.1
 let abj:Int:=c9.2.2
 some (abg,(⟨abj,[],[],[],v_n⟩ : bw))
 else
 if (v_x.ig==10)=true then
 (vr v_s v_x.fId).bind fun c10=>let abf:aa:=c10.1
 let abi:Int:=c10.2
 some (abf,(⟨abi,[],[],[],0⟩ : bw))
 else
 if (v_x.ig==11)=true then
 if (decide (v_s.pT≥1048576))=true then
 (dP v_s 11).bind fun c11=>some c11
 else
 let t12:Int:=(i64.wrap (v_s.pT + 1))
 let t13:Int:=0
 let v_s:aa:={ v_s with pT:=t12 }
 let v_s:aa:={ v_s with sq:=t13 }
 some (v_s,(⟨0,[],[],[],0⟩ : bw))
 else
 (dP v_s 3).bind fun c14=>some c14
def qf (v_a:(List Int)) (v_b:(List Int)) (st:Int) : Option ((Int)⊕((Int)⊕(Bool))) :=
 let v_i:=st
 if (decide (v_i < (v_a.length:Int)))=true then
 (aw v_a v_i).bind fun b1=>(aw v_b v_i).bind fun b2=>if (b1 != b2)=true then
 some (.inr (.inr false))
 else
 let v_i:Int:=(i64.wrap (v_i + 1))
 some (.inl v_i)
 else
 some (.inr (.inl v_i))
def qg (v_a:(List Int)) (v_b:(List Int)) : Option (Bool) :=
 if ((v_a.length:Int) != (v_b.length:Int))=true then
 some false
 else
 let v_i:Int:=0
 (ah (qf v_a v_b) ab v_i).bind fun r3=>match r3 with
 | .inr m4=>some m4
 | .inl m4 =>
 let v_i:=m4
 some true
def rC (v_a:aq) (v_b:aq) (st:Int) : Option ((Int)⊕((Int)⊕(Bool))) :=
 let v_i:=st
 if (decide (v_i < (v_a.bI.length:Int)))=true then
 (aw v_a.bI v_i).bind fun b9=>(aw v_b.bI v_i).bind fun b10=>if (!((b9.bq==b10.bq)&&((b9.aY==b10.aY)&&((b9.cF.bD==b10.cF.bD)&&((b9.cF.be==b10.cF.be)&&((b9.fZ==b10.fZ)&&((b9.bJ==b10.bJ)&&((b9.eX==b10.eX)&&(b9.gV==b10.gV)))))))))=true then
 some (.inr (.inr false))
 else
 let v_i:Int:=(i64.wrap (v_i + 1))
 some (.inl v_i)
 else
 some (.inr (.inl v_i))
def DJ (v_a:aq) (v_b:aq) : Option (Bool) :=
 (if (v_a.fId != v_b.fId)=true then some true else some (v_a.da != v_b.da)).bind fun q1=>(if q1=true then some true else some (!(v_a.bC.toList==v_b.bC.toList))).bind fun q2=>(if q2=true then some true else some (v_a.cy != v_b.cy)).bind fun q3=>(if q3=true then some true else some (v_a.bq != v_b.bq)).bind fun q4=>(if q4=true then some true else some (!((v_a.a8.bD==v_b.a8.bD)&&(v_a.a8.be==v_b.a8.be)))).bind fun q5=>(if q5=true then some true else some (v_a.cH != v_b.cH)).bind fun q6=>(if q6=true then some true else some (v_a.cd != v_b.cd)).bind fun q7=>(if q7=true then some true else some ((v_a.bI.length:Int) != (v_b.bI.length:Int))).bind fun q8=>if q8=true then
 some false
 else
 let v_i:Int:=0
 (ah (rC v_a v_b) ab v_i).bind fun r11=>match r11 with
 | .inr m12=>some m12
 | .inl m12 =>
 let v_i:=m12
 (qg v_a.bP v_b.bP).bind fun c13=>(if c13=true then (qg v_a.dr v_b.dr).bind fun c14=>some c14 else some false).bind fun q15=>(if q15=true then (qg v_a.jO v_b.jO).bind fun c16=>some c16 else some false).bind fun q17=>(if q17=true then (qg v_a.jW v_b.jW).bind fun c18=>some c18 else some false).bind fun q19=>some q19
def qn (v_a:aa) (v_b:aa) (st:Bool×Int) : Option ((Bool×Int)⊕((Bool×Int))) :=
 let ew:=st.1
 let v_i:=st.2
 if (decide (v_i < (v_a.aB.length:Int)))=true then
 (if ew=true then (aw v_a.aB v_i).bind fun b10=>(aw v_b.aB v_i).bind fun b11=>some ((b10.fId==b11.fId)&&((b10.aY==b11.aY)&&((b10.eX==b11.eX)&&((b10.kT.bD==b11.kT.bD)&&((b10.kT.be==b11.kT.be)&&((b10.cH==b11.cH)&&((b10.cd==b11.cd)&&(b10.fUp==b11.fUp)))))))) else some false).bind fun q12=>let ew:Bool:=q12
 let v_i:Int:=(i64.wrap (v_i + 1))
 some (.inl (ew,v_i))
 else
 some (.inr (ew,v_i))
def qm (v_a:aa) (v_b:aa) (st:Bool×Int) : Option ((Bool×Int)⊕((Bool×Int))) :=
 let ew:=st.1
 let aI:=st.2
 if (decide (aI < (v_a.aj.length:Int)))=true then
 (if ew=true then (aw v_a.aj aI).bind fun b14=>(aw v_b.aj aI).bind fun b15=>(DJ b14 b15).bind fun c16=>some c16 else some false).bind fun q17=>let ew:Bool:=q17
 let aI:Int:=(i64.wrap (aI + 1))
 some (.inl (ew,aI))
 else
 some (.inr (ew,aI))
def ql (v_a:aa) (v_b:aa) (st:Bool×Int) : Option ((Bool×Int)⊕((Bool×Int))) :=
 let ew:=st.1
 let oV:=st.2
 if (decide (oV < (v_a.ac.length:Int)))=true then
 (if ew=true then (aw v_a.ac oV).bind fun b19=>(aw v_b.ac oV).bind fun b20=>some ((b19.fId==b20.fId)&&((b19.bG==b20.bG)&&((b19.bJ==b20.bJ)&&((b19.cF.bD==b20.cF.bD)&&((b19.cF.be==b20.cF.be)&&((b19.bq==b20.bq)&&((b19.aY==b20.aY)&&((b19.a8==b20.a8)&&(b19.ju==b20.ju))))))))) else some false).bind fun q21=>let ew:Bool:=q21
 let oV:Int:=(i64.wrap (oV + 1))
 some (.inl (ew,oV))
 else
 some (.inr (ew,oV))
def qk (v_a:aa) (v_b:aa) (st:Bool×Int) : Option ((Bool×Int)⊕((Bool×Int))) :=
 let ew:=st.1
 let GV:=st.2
 if (decide (GV < (v_a.aQ.length:Int)))=true then
 (if ew=true then (aw v_a.aQ GV).bind fun b23=>(aw v_b.aQ GV).bind fun b24=>some ((b23.bJ==b24.bJ)&&((b23.bG==b24.bG)&&(b23.bq==b24.bq))) else some false).bind fun q25=>let ew:Bool:=q25
 let GV:Int:=(i64.wrap (GV + 1))
 some (.inl (ew,GV))
 else
 some (.inr (ew,GV))
def qh (v_a:aa) (v_b:aa) (st:Bool×Int) : Option ((Bool×Int)⊕((Bool×Int))) :=
 let ew:=st.1
 let GU:=st.2
 if (decide (GU < (v_a.bl.length:Int)))=true then
 (if ew=true then (aw v_a.bl GU).bind fun b27=>(aw v_b.bl GU).bind fun b28=>some ((b27.fId==b28.fId)&&((b27.aY==b28.aY)&&((b27.n6==b28.n6)&&((b27.jR==b28.jR)&&((b27.iR.bD==b28.iR.bD)&&(b27.iR.be==b28.iR.be)))))) else some false).bind fun q29=>let ew:Bool:=q29
 let GU:Int:=(i64.wrap (GU + 1))
 some (.inl (ew,GU))
 else
 some (.inr (ew,GU))
def vk (v_a:aa) (v_b:aa) : Option (Bool) :=
 (DI v_a.bN v_b.bN).bind fun c1=>(if (!c1)=true then some true else some (v_a.cO != v_b.cO)).bind fun q2=>(if q2=true then some true else some (v_a.pT != v_b.pT)).bind fun q3=>(if q3=true then some true else some (v_a.sq != v_b.sq)).bind fun q4=>(if q4=true then some true else some ((v_a.aB.length:Int) != (v_b.aB.length:Int))).bind fun q5=>(if q5=true then some true else some ((v_a.aj.length:Int) != (v_b.aj.length:Int))).bind fun q6=>(if q6=true then some true else some ((v_a.ac.length:Int) != (v_b.ac.length:Int))).bind fun q7=>(if q7=true then some true else some ((v_a.aQ.length:Int) != (v_b.aQ.length:Int))).bind fun q8=>(if q8=true then some true else some ((v_a.bl.length:Int) != (v_b.bl.length:Int))).bind fun q9=>if q9=true then
 some false
 else
 let ew:Bool:=true
 let v_i:Int:=0
 (ah (qn v_a v_b) ab (ew,v_i)).bind fun r13 =>
 let ew:=r13.1
 let v_i:=r13.2
 let aI:Int:=0
 (ah (qm v_a v_b) ab (ew,aI)).bind fun r18 =>
 let ew:=r18.1
 let aI:=r18.2
 let oV:Int:=0
 (ah (ql v_a v_b) ab (ew,oV)).bind fun r22 =>
 let ew:=r22.1
 let oV:=r22.2
 let GV:Int:=0
 (ah (qk v_a v_b) ab (ew,GV)).bind fun r26 =>
 let ew:=r26.1
 let GV:=r26.2
 let GU:Int:=0
 (ah (qh v_a v_b) ab (ew,GU)).bind fun r30 =>
 let ew:=r30.1
 let GU:=r30.2
 some ew
def UW:Ent:=⟨[.lf (.int .i64)],[.lf (.bool)],fun x=>zo x.1⟩
theorem UV:EOk prog 194 UW:=aF .n [] [] [] .nil Tryz.mixed Tryz.func194
def XJ:Ent:=⟨[.ag 0],[.lf (.bool)],fun x=>tO x.1⟩
theorem Nz:EOk prog 191 XJ:=aF .n [] [] [] (.cons UV .nil) Tryz.mixed Tryz.func191
def U1:Ent:=⟨[.ag 0,.ag 0],[.lf (.bool)],fun x=>fM x.1 x.2.1⟩
theorem py:EOk prog 149 U1:=aF .n [] [] [] .nil Tryz.mixed Tryz.func149
def U0:Ent:=⟨[.ag 0,.ag 0],[.ag 0],fun x=>we x.1 x.2.1⟩
theorem Jh:EOk prog 171 U0:=aF .n [] [4] [] .nil Tryz.mixed Tryz.func171
def UU:Ent:=⟨[.lf (.int .i64),.lf (.int .i64)],[.lf (.int .i64),.lf (.int .i64)],fun x=>zn x.1 x.2.1⟩
theorem UT:EOk prog 198 UU:=aF .n [] [] [] .nil Tryz.mixed Tryz.func198
def Qn:Ent:=⟨[.ag 17,.ag 17],[.lf (.int .i64)],fun x=>qe x.1 x.2.1⟩
theorem F7:EOk prog 196 Qn:=aF (.s .n (.s (.s .n (.j [.box 2 243 17 []] .n)) (.s (.s .n (.j [.box 3 243 17 []] .n)) .n))) [] [] [] (.cons UT .nil) Tryz.mixed Tryz.func196
def UY:Ent:=⟨[.ag 0,.ag 0],[.ag 17],fun x=>zp x.1 x.2.1⟩
theorem UX:EOk prog 197 UY:=aF .n [] [4] [] (.cons F7 .nil) Tryz.mixed Tryz.func197
def Qr:Ent:=⟨[.ag 0,.ag 0,.ag 0,.ag 0],[.lf (.int .i64)],fun x=>zr x.1 x.2.1 x.2.2.1 x.2.2.2.1⟩
theorem Qq:EOk prog 195 Qr:=aF .n [] [] [] (.cons Nz (.cons UX (.cons F7 .nil))) Tryz.mixed Tryz.func195
def UZ:Ent:=⟨[.ag 0,.ag 0],[.ag 0],fun x=>di x.1 x.2.1⟩
theorem iK:EOk prog 126 UZ:=aF .n [] [4] [] .nil Tryz.mixed Tryz.func126
def Ql:Ent:=⟨[.lf (.int .i64),.lf (.int .i64)],[.lf (.int .i64)],fun x=>vg x.1 x.2.1⟩
theorem Qk:EOk prog 192 Ql:=aF .n [] [] [] .nil Tryz.mixed Tryz.func192
def Qp:Ent:=⟨[.ag 0,.lf (.int .i64)],[.ag 0,.lf (.int .i64)],fun x=>vh x.1 x.2.1⟩
theorem F8:EOk prog 187 Qp:=aF .n [] [4] [] (.cons Nz (.cons Qk .nil)) Tryz.mixed Tryz.func187
def UN:Ent:=⟨[.lf (.str)],[.lf (.bool)],fun x=>wb x.1⟩
theorem Jc:EOk prog 135 UN:=aF (.s .n (.s .n (.s (.s .n (.s (.lp [.leaf 3 (.int .i64)] 0 true .n) .n)) .n))) [] [] [] .nil Tryz.mixed Tryz.func135
def Nn:Ent:=⟨[.ag 5],[.lf (.int .i64)],fun x=>sF x.1⟩
theorem Nm:EOk prog 114 Nn:=aF (.s .n (.s .n (.s .n (.s (.s .n (.s (.lp [.leaf 3 (.int .i64)] 0 true .n) .n)) (.s (.s .n (.s (.lp [.leaf 4 (.int .i64)] 2 true (.s .n (.s (.s (.s .n (.s (.lp [.leaf 5 (.int .i64)] 4 true .n) .n)) .n) .n))) .n)) .n))))) [] [] [] (.cons Jc .nil) Tryz.mixed Tryz.func114
def Nq:Ent:=⟨[.lf (.str)],[.lf (.bool)],fun x=>wa x.1⟩
theorem Np:EOk prog 136 Nq:=aF (.s .n (.s .n (.s (.s .n (.s (.lp [.leaf 3 (.int .i64),.leaf 4 (.int .i64),.leaf 5 (.int .i64)] 0 true .n) .n)) .n))) [] [] [] (.cons Jc .nil) Tryz.mixed Tryz.func136
def P7:Ent:=⟨[.lf (.str)],[.lf (.str)],fun x=>dE x.1⟩
theorem xR:EOk prog 102 P7:=aF (.s .n (.s .n (.s (.s (.lp [.leaf 3 (.int .i64)] 0 false .n) .n) .n))) [] [] [] .nil Tryz.mixed Tryz.func102
def UQ:Ent:=⟨[.ag 5,.lf (.str)],[.ag 4,.lf (.bool)],fun x=>jy x.1 x.2.1⟩
theorem sH:EOk prog 60 UQ:=aF (.s .n (.s (.s .n (.s (.lp [.leaf 6 (.int .i64)] 0 true .n) .n)) .n)) [] [4] [] .nil Tryz.mixed Tryz.func60
def P6:Ent:=⟨[.ag 5,.lf (.int .i64)],[.lf (.int .i64)],fun x=>vd x.1 x.2.1⟩
theorem P5:EOk prog 115 P6:=aF (.s .n (.s .n (.s .n (.s .n (.s .n (.s .n (.s .n (.s (.s .n (.s (.lp [.leaf 8 (.int .i64)] 0 true .n) .n)) .n)))))))) [] [] [] (.cons Np (.cons xR (.cons sH .nil))) Tryz.mixed Tryz.func115
def Jd:Ent:=⟨[.ag 5,.lf (.str)],[.lf (.sl (.str))],fun x=>ei x.1 x.2.1⟩
theorem wd:EOk prog 55 Jd:=aF (.s .n (.s .n (.s (.s .n (.s (.lp [.row 5 5 9 1 (.str),.leaf 6 (.int .i64)] 0 false .n) .n)) .n))) [] [] [] (.cons xR .nil) Tryz.mixed Tryz.func55
def UM:Ent:=⟨[.ag 5],[.lf (.bool)],fun x=>DH x.1⟩
theorem UL:EOk prog 116 UM:=aF (.s .n (.s (.s .n (.s (.lp [.leaf 3 (.int .i64)] 0 true (.s .n (.s (.s (.s .n (.s .n (.s (.lp [.leaf 5 (.int .i64)] 2 true (.s .n (.s (.s (.s .n (.s (.s .n (.s (.lp [.leaf 6 (.int .i64),.leaf 7 (.int .i64)] 4 false .n) .n)) .n)) .n) .n))) .n))) .n) .n))) .n)) .n)) [] [] [] (.cons wd (.cons sH .nil)) Tryz.mixed Tryz.func116
def Qa:Ent:=⟨[.ag 5],[.lf (.int .i64)],fun x=>vf x.1⟩
theorem P9:EOk prog 79 Qa:=aF (.s .n (.s .n (.s .n (.s (.s .n (.s (.lp [.leaf 3 (.int .i64)] 0 true .n) .n)) (.s (.s .n (.s (.lp [.leaf 4 (.int .i64)] 2 true .n) .n)) .n))))) [] [] [] (.cons Nm (.cons P5 (.cons UL .nil))) Tryz.mixed Tryz.func79
def UO:Ent:=⟨[.ag 5,.lf (.str)],[.lf (.bool)],fun x=>jx x.1 x.2.1⟩
theorem BA:EOk prog 30 UO:=aF .n [] [] [] (.cons sH (.cons wd .nil)) Tryz.mixed Tryz.func30
def Zq:Ent:=⟨[.lf (.str)],[.lf (.sl (.str))],fun x=>zc x.1⟩
theorem KO:EOk prog 173 Zq:=aF (.s .n (.s .n (.s (.s (.lp [.row 3 3 9 1 (.str),.leaf 0 (.str)] 0 false .n) .n) .n))) [] [] [] (.cons xR .nil) Tryz.mixed Tryz.func173
def UK:Ent:=⟨[.ag 12,.lf (.int .i64)],[.ag 0],fun x=>tJ x.1 x.2.1⟩
theorem UJ:EOk prog 175 UK:=aF (.s .n (.s .n (.s (.s .n (.s (.lp [.box 5 27 0 [],.leaf 6 (.int .i64)] 0 false .n) .n)) .n))) [] [4] [] (.cons iK .nil) Tryz.mixed Tryz.func175
def P2:Ent:=⟨[.ag 12,.lf (.int .i64)],[.ag 0],fun x=>je x.1 x.2.1⟩
theorem pY:EOk prog 101 P2:=aF (.s .n (.s .n (.s (.s .n (.s (.lp [.box 5 27 0 [],.leaf 6 (.int .i64)] 0 false .n) .n)) .n))) [] [4] [] (.cons iK .nil) Tryz.mixed Tryz.func101
def UG:Ent:=⟨[.ag 12,.lf (.str),.lf (.int .i64),.lf (.bool)],[.ag 0],fun x=>tI x.1 x.2.1 x.2.2.1 x.2.2.2.1⟩
theorem I9:EOk prog 183 UG:=aF (.s .n (.s .n (.s .n (.s .n (.s .n (.s (.s .n (.s (.lp [.box 11 27 0 [],.leaf 13 (.int .i64)] 0 false (.s .n (.s (.s (.s .n (.s .n (.s (.s .n (.j [.leaf 16 (.int .i64)] .n)) .n))) .n) .n))) .n)) .n)))))) [] [8] [] (.cons sH (.cons pY (.cons KO (.cons F8 .nil)))) Tryz.mixed Tryz.func183
def FY:Ent:=⟨[.ag 12,.lf (.str),.lf (.int .i64)],[.ag 0],fun x=>lG x.1 x.2.1 x.2.2.1⟩
theorem pZ:EOk prog 164 FY:=aF .n [] [6] [] (.cons I9 .nil) Tryz.mixed Tryz.func164
def Jb:Ent:=⟨[.ag 12,.lf (.str),.lf (.int .i64)],[.ag 0],fun x=>v8 x.1 x.2.1 x.2.2.1⟩
theorem Ja:EOk prog 174 Jb:=aF .n [] [6] [] (.cons I9 .nil) Tryz.mixed Tryz.func174
def UI:Ent:=⟨[.ag 12,.lf (.str),.lf (.int .i64)],[.ag 0],fun x=>DG x.1 x.2.1 x.2.2.1⟩
theorem UH:EOk prog 170 UI:=aF .n [] [6] [] (.cons sH (.cons pZ (.cons F8 .nil))) Tryz.mixed Tryz.func170
def Ro:Ent:=⟨[.ag 12,.lf (.int .i64)],[.ag 12],fun x=>qz x.1 x.2.1⟩
theorem Gy:EOk prog 91 Ro:=aF (.s .n (.s .n (.s (.s .n (.s (.lp [.row 5 5 91 9 (.st 6),.leaf 6 (.int .i64)] 0 false .n) .n)) .n))) [] [4] [] .nil Tryz.mixed Tryz.func91
def Rn:Ent:=⟨[.ag 12,.lf (.int .i64)],[.ag 6,.lf (.bool)],fun x=>eS x.1 x.2.1⟩
theorem nn:EOk prog 85 Rn:=aF (.s .n (.s (.s .n (.s (.lp [.leaf 6 (.int .i64)] 0 true .n) .n)) .n)) [] [4] [] .nil Tryz.mixed Tryz.func85
def Rm:Ent:=⟨[.ag 12,.lf (.int .i64)],[.ag 2,.lf (.bool)],fun x=>eR x.1 x.2.1⟩
theorem g6:EOk prog 16 Rm:=aF (.s .n (.s (.s .n (.s (.lp [.leaf 6 (.int .i64)] 0 true .n) .n)) .n)) [] [4] [] .nil Tryz.mixed Tryz.func16
def Rl:Ent:=⟨[.ag 2],[.lf (.bool)],fun x=>dG x.1⟩
theorem g5:EOk prog 19 Rl:=aF .n [] [] [] .nil Tryz.mixed Tryz.func19
def Vi:Ent:=⟨[.ag 12,.ag 2],[.ag 12],fun x=>eT x.1 x.2.1⟩
theorem pB:EOk prog 21 Vi:=aF (.s .n (.s .n (.s (.s (.lp [.leaf 5 (.int .i64)] 0 false .n) .n) (.s .n (.s .n (.s (.s .n (.j [.leaf 5 (.int .i64)] .n)) .n)))))) [] [4] [] .nil Tryz.mixed Tryz.func21
def Rh:Ent:=⟨[.ag 12,.lf (.int .i64)],[.ag 12,.lf (.sl (.int .i64))],fun x=>sQ x.1 x.2.1⟩
theorem Gw:EOk prog 117 Rh:=aF (.s .n (.s .n (.s .n (.s .n (.s (.s .n (.s (.lp [.row 8 8 3 1 (.int .i64),.row 6 6 91 9 (.st 6),.leaf 9 (.int .i64)] 0 false .n) .n)) (.s (.s .n (.s (.lp [.row 7 7 93 3 (.st 11),.leaf 10 (.int .i64)] 2 false .n) .n)) .n)))))) [] [4] [] .nil Tryz.mixed Tryz.func117
def Vk:Ent:=⟨[.ag 12,.lf (.int .i64),.lf (.int .i64)],[.ag 12,.lf (.sl (.int .i64))],fun x=>Li x.1 x.2.1 x.2.2.1⟩
theorem Vj:EOk prog 93 Vk:=aF .n [] [6] [] (.cons g6 (.cons g5 (.cons pB (.cons Gw .nil)))) Tryz.mixed Tryz.func93
def Oc:Ent:=⟨[.ag 2],[.lf (.sl (.st 1))],fun x=>pA x.1⟩
theorem CE:EOk prog 39 Oc:=aF .n [] [] [] .nil Tryz.mixed Tryz.func39
def Hp:Ent:=⟨[.lf (.sl (.int .i64)),.lf (.int .i64)],[.lf (.sl (.int .i64)),.lf (.bool)],fun x=>jn x.1 x.2.1⟩
theorem w6:EOk prog 92 Hp:=aF (.s .n (.s .n (.s (.s .n (.s (.lp [.row 6 6 3 1 (.int .i64),.leaf 7 (.int .i64)] 0 false .n) .n)) .n))) [] [] [] .nil Tryz.mixed Tryz.func92
def Rk:Ent:=⟨[.ag 12,.lf (.sl (.int .i64))],[.ag 12],fun x=>jo x.1 x.2.1⟩
theorem yb:EOk prog 86 Rk:=aF (.s .n (.s (.s .n (.s (.lp [.box 2 43 12 [],.leaf 5 (.int .i64)] 0 false (.s .n (.s (.s (.s .n (.s .n (.s .n (.s .n (.s .n (.s .n (.s .n (.s (.s .n (.j [.box 8 30 2 []] .n)) .n)))))))) .n) .n))) .n)) .n)) [(4,[73,76,79,80]),(6,[73,76,79,80]),(8,[73,76,79,80]),(11,[73,76,79,80]),(12,[73,76,79,80]),(14,[73,76,79,80]),(17,[73,76,79,80])] [4] [] (.cons nn (.cons g6 (.cons CE (.cons pB (.cons Gw (.cons Gy (.cons w6 .nil))))))) Tryz.mixed Tryz.func86
def Lh:Ent:=⟨[.ag 12],[.lf (.sl (.int .i64))],fun x=>tU x.1⟩
theorem Lg:EOk prog 24 Lh:=aF (.s .n (.s .n (.s (.s .n (.s (.lp [.row 3 3 3 1 (.int .i64),.leaf 4 (.int .i64)] 0 false .n) .n)) .n))) [] [] [] .nil Tryz.mixed Tryz.func24
def Rj:Ent:=⟨[.lf (.int .i64)],[.lf (.bool)],fun x=>vB x.1⟩
theorem Ri:EOk prog 37 Rj:=aF .n [] [] [] .nil Tryz.mixed Tryz.func37
def Ld:Ent:=⟨[.ag 12],[.ag 12],fun x=>nj x.1⟩
theorem Lc:EOk prog 38 Ld:=aF (.s .n (.s .n (.s .n (.s (.s .n (.s (.lp [.leaf 4 (.bool),.row 3 3 30 14 (.st 2),.leaf 5 (.int .i64)] 0 false .n) .n)) .n)))) [(6,[30,31])] [2] [] (.cons g5 .nil) Tryz.mixed Tryz.func38
def Aj:Ent:=⟨[.ag 12,.ag 2],[.ag 12,.lf (.int .i64)],fun x=>kI x.1 x.2.1⟩
theorem Ai:EOk prog 13 Aj:=aF (.s .n (.s .n (.s .n (.s .n (.s .n (.s (.s .n (.s (.lp [.leaf 8 (.int .i64),.leaf 9 (.int .i64)] 0 false .n) .n)) (.s .n (.s .n (.s (.s .n (.j [.box 2 43 12 []] .n)) .n))))))))) [] [4] [] (.cons Ri (.cons g6 (.cons g5 (.cons BA (.cons Lc (.cons CE (.cons pB .nil))))))) Tryz.mixed Tryz.func13
def Up:Ent:=⟨[.lf (.int .i64)],[.lf (.bool)],fun x=>y6 x.1⟩
theorem Uo:EOk prog 140 Up:=aF .n [] [] [] .nil Tryz.mixed Tryz.func140
def PU:Ent:=⟨[.ag 1,.lf (.int .i64)],[.lf (.int .i64)],fun x=>pX x.1 x.2.1⟩
theorem PR:EOk prog 119 PU:=aF .n [] [] [] (.cons Uo .nil) Tryz.mixed Tryz.func119
def XG:Ent:=⟨[.lf (.sl (.st 1)),.lf (.int .i64)],[.ag 1,.lf (.bool)],fun x=>KK x.1 x.2.1⟩
theorem XF:EOk prog 152 XG:=aF (.s .n (.s (.s .n (.s (.lp [.leaf 6 (.int .i64)] 0 true .n) .n)) .n)) [] [4] [] .nil Tryz.mixed Tryz.func152
def Uu:Ent:=⟨[.lf (.sl (.st 1)),.lf (.int .i64)],[.lf (.sl (.st 1))],fun x=>DD x.1 x.2.1⟩
theorem Ut:EOk prog 178 Uu:=aF (.s .n (.s .n (.s (.s .n (.s (.lp [.row 5 7 123 8 (.st 1),.leaf 6 (.int .i64)] 0 false .n) .n)) .n))) [] [] [] .nil Tryz.mixed Tryz.func178
def KJ:Ent:=⟨[.lf (.sl (.st 1)),.lf (.int .i64)],[.ag 0],fun x=>kD x.1 x.2.1⟩
theorem KI:EOk prog 184 KJ:=aF (.s .n (.s .n (.s (.s .n (.s (.lp [.box 5 27 0 [],.leaf 6 (.int .i64)] 0 false .n) .n)) .n))) [] [4] [] (.cons iK .nil) Tryz.mixed Tryz.func184
def XE:Ent:=⟨[.lf (.sl (.st 1)),.ag 1],[.lf (.sl (.st 1)),.lf (.int .i64)],fun x=>FS x.1 x.2.1⟩
theorem XD:EOk prog 120 XE:=aF (.s .n (.s .n (.s .n (.s .n (.s (.s .n (.s (.lp [.row 6 6 123 8 (.st 1),.leaf 7 (.bool),.leaf 8 (.int .i64)] 0 false (.s .n (.s (.s (.s (.s .n (.j [.row 6 6 123 8 (.st 1),.leaf 7 (.bool)] .n)) .n) .n) .n))) .n)) (.s (.s .n (.j [.row 6 6 123 8 (.st 1)] .n)) .n)))))) [] [] [] .nil Tryz.mixed Tryz.func120
def Ur:Ent:=⟨[.lf (.sl (.st 1)),.lf (.int .i64)],[.lf (.sl (.st 1)),.lf (.bool)],fun x=>DC x.1 x.2.1⟩
theorem Uq:EOk prog 176 Ur:=aF (.s .n (.s .n (.s .n (.s (.s .n (.s (.lp [.leaf 7 (.bool),.row 6 6 123 8 (.st 1),.leaf 8 (.int .i64)] 0 false .n) .n)) .n)))) [] [] [] .nil Tryz.mixed Tryz.func176
def Ob:Ent:=⟨[.lf (.str),.lf (.str)],[.lf (.bool)],fun x=>ni x.1 x.2.1⟩
theorem CA:EOk prog 181 Ob:=aF (.s .n (.s .n (.s (.s .n (.s (.lp [.leaf 6 (.int .i64)] 0 true .n) .n)) .n))) [] [] [] (.cons KO .nil) Tryz.mixed Tryz.func181
def wZ:Ent:=⟨[.ag 12,.lf (.str),.lf (.int .i64)],[.ag 0],fun x=>og x.1 x.2.1 x.2.2.1⟩
theorem wY:EOk prog 165 wZ:=aF (.s .n (.s .n (.s (.s .n (.s (.lp [.box 7 27 0 [],.leaf 8 (.int .i64)] 0 false .n) .n)) .n))) [] [6] [] (.cons g5 (.cons CA (.cons KI (.cons iK .nil)))) Tryz.mixed Tryz.func165
def Rf:Ent:=⟨[.ag 12,.lf (.str),.lf (.int .i64),.lf (.bool),.lf (.int .i64)],[.ag 0],fun x=>vx x.1 x.2.1 x.2.2.1 x.2.2.2.1 x.2.2.2.2.1⟩
theorem Gp:EOk prog 162 Rf:=aF (.s .n (.s .n (.s (.s .n (.s (.lp [.box 11 27 0 [],.leaf 12 (.int .i64)] 0 false .n) .n)) .n))) [] [10] [] (.cons g6 (.cons CA (.cons iK .nil))) Tryz.mixed Tryz.func162
def Gu:Ent:=⟨[.ag 12,.lf (.str),.lf (.int .i64)],[.ag 0],fun x=>eO x.1 x.2.1 x.2.2.1⟩
theorem kH:EOk prog 141 Gu:=aF .n [] [6] [] (.cons Gp .nil) Tryz.mixed Tryz.func141
def Rg:Ent:=⟨[.ag 12,.lf (.str),.lf (.int .i64),.ag 0],[.lf (.bool)],fun x=>vy x.1 x.2.1 x.2.2.1 x.2.2.2.1⟩
theorem Gv:EOk prog 157 Rg:=aF (.s .n (.s .n (.s (.s .n (.s (.lp [.leaf 10 (.int .i64)] 0 true .n) .n)) .n))) [] [] [] (.cons KO (.cons kH (.cons iK (.cons Ja (.cons py (.cons pY (.cons UJ (.cons Jh .nil)))))))) Tryz.mixed Tryz.func157
def Gs:Ent:=⟨[.ag 12,.lf (.str),.lf (.int .i64),.lf (.int .i64)],[.ag 0],fun x=>pj x.1 x.2.1 x.2.2.1 x.2.2.2.1⟩
theorem Gq:EOk prog 169 Gs:=aF .n [] [8] [] (.cons Gp .nil) Tryz.mixed Tryz.func169
def Rc:Ent:=⟨[.ag 12,.lf (.str)],[.lf (.sl (.int .i64))],fun x=>Aa x.1 x.2.1⟩
theorem Rb:EOk prog 160 Rc:=aF (.s .n (.s .n (.s (.s .n (.s (.lp [.leaf 5 (.sl (.st 2)),.leaf 6 (.int .i64)] 0 false (.s .n (.s (.s (.s .n (.s .n (.s .n (.s (.s (.lp [.leaf 8 (.int .i64)] 2 false .n) .n) .n)))) .n) .n))) .n)) (.s .n (.s (.s .n (.s (.lp [.row 10 10 3 1 (.int .i64),.leaf 11 (.int .i64)] 4 false .n) .n)) .n))))) [(6,[5,53,56,57,62,75,76])] [] [] (.cons g5 .nil) Tryz.mixed Tryz.func160
def N8:Ent:=⟨[.ag 12,.lf (.str),.lf (.str),.lf (.int .i64)],[.lf (.bool)],fun x=>wo x.1 x.2.1 x.2.2.1 x.2.2.2.1⟩
theorem N7:EOk prog 193 N8:=aF .n [] [] [] (.cons kH (.cons pZ (.cons Qq .nil))) Tryz.mixed Tryz.func193
def Gn:Ent:=⟨[.ag 12,.lf (.str),.lf (.int .i64)],[.lf (.sl (.str))],fun x=>zX x.1 x.2.1 x.2.2.1⟩
theorem Ra:EOk prog 188 Gn:=aF (.s .n (.s .n (.s .n (.s (.s .n (.s (.lp [.leaf 8 (.sl (.str)),.leaf 9 (.int .i64)] 0 false (.s .n (.s (.s (.s .n (.s (.s (.lp [.leaf 10 (.int .i64)] 2 false .n) .n) .n)) .n) .n))) .n)) .n)))) [(1,[8,46,52,53,58]),(7,[8,46,52,53,58])] [] [] (.cons wd (.cons N7 .nil)) Tryz.mixed Tryz.func188
theorem K8 (k:Nat) (x:ct [.ag 12,.lf (.str),.lf (.int .i64)]) : iZ ⟨prog,[(177,⟨[.ag 12,.lf (.str),.lf (.int .i64)],[.lf (.sl (.str))],fun x=>jk k x.1 x.2.1 x.2.2.1⟩),(188,Gn)],35,[.lf (.sl (.str))],[.tmp 6],[(1,[18,33]),(8,[18])],[],[]⟩ ((Tryz.f177).body.getD .skip) (.s (.n) (.s (.n) (.s (.n) (.s (.n) (.s (.s (.n) (.s (.lp [.row 8 8 9 1 (.str),.leaf 9 (.int .i64)] 0 false (.n)) .n)) (.n)))))) [.ag 12,.lf (.str),.lf (.int .i64)] x=jk (k + 1) x.1 x.2.1 x.2.2.1:=by kernel_rfl
theorem zV:∀ k:Nat,bO prog 177 [.ag 12,.lf (.str),.lf (.int .i64)] [.lf (.sl (.str))] (fun x=>jk k x.1 x.2.1 x.2.2.1)
 | 0=>fun x r h=>by cases h
 | k + 1=>cD (n:=35) (.cons (zV k) (.cons (Ra) (.nil))) Tryz.mixed Tryz.func177 rfl (by kernel_rfl) rfl rfl rfl (K8 k)
def Lb:Ent:=⟨[.ag 12,.lf (.int .i64)],[.lf (.sl (.str))],fun x=>tS x.1 x.2.1⟩
theorem La:EOk prog 159 Lb:=aF .n [] [] [] (.cons (zV ab) .nil) Tryz.mixed Tryz.func159
def N6:Ent:=⟨[.ag 1,.ag 7],[.lf (.int .i64)],fun x=>nh x.1 x.2.1⟩
theorem Cy:EOk prog 168 N6:=aF .n [] [] [] .nil Tryz.mixed Tryz.func168
def Vh:Ent:=⟨[.ag 1,.ag 7],[.lf (.bool)],fun x=>tR x.1 x.2.1⟩
theorem Jm:EOk prog 153 Vh:=aF .n [] [] [] (.cons Cy .nil) Tryz.mixed Tryz.func153
def UB:Ent:=⟨[.ag 12,.lf (.int .i64)],[.ag 7,.lf (.bool)],fun x=>nC x.1 x.2.1⟩
theorem pw:EOk prog 81 UB:=aF (.s .n (.s (.s .n (.s (.lp [.leaf 6 (.int .i64)] 0 true .n) .n)) .n)) [] [4] [] .nil Tryz.mixed Tryz.func81
def XH:Ent:=⟨[.ag 12,.ag 7],[.ag 12],fun x=>Bt x.1 x.2.1⟩
theorem FT:EOk prog 82 XH:=aF (.s .n (.s .n (.s (.s (.lp [.leaf 5 (.int .i64)] 0 false .n) .n) (.s .n (.s .n (.s (.s .n (.j [.leaf 5 (.int .i64)] .n)) .n)))))) [] [4] [] .nil Tryz.mixed Tryz.func82
def UF:Ent:=⟨[.ag 12,.lf (.int .i64),.lf (.int .i64)],[.ag 12,.lf (.int .i64)],fun x=>DF x.1 x.2.1 x.2.2.1⟩
theorem UE:EOk prog 84 UF:=aF .n [] [6] [] (.cons pw (.cons FT .nil)) Tryz.mixed Tryz.func84
def UD:Ent:=⟨[.ag 12,.lf (.int .i64)],[.ag 12],fun x=>y9 x.1 x.2.1⟩
theorem UC:EOk prog 96 UD:=aF .n [] [4] [] (.cons pw (.cons FT .nil)) Tryz.mixed Tryz.func96
def Uz:Ent:=⟨[.ag 12,.lf (.int .i64)],[.ag 0],fun x=>DE x.1 x.2.1⟩
theorem Uy:EOk prog 172 Uz:=aF (.s .n (.s .n (.s (.s .n (.s (.lp [.box 5 27 0 [],.leaf 6 (.int .i64)] 0 false .n) .n)) .n))) [] [4] [] (.cons iK .nil) Tryz.mixed Tryz.func172
def UA:Ent:=⟨[.ag 12,.lf (.int .i64)],[.ag 0],fun x=>y8 x.1 x.2.1⟩
theorem I8:EOk prog 156 UA:=aF .n [] [4] [] (.cons pw (.cons Uy (.cons Jh .nil))) Tryz.mixed Tryz.func156
def Ux:Ent:=⟨[.lf (.int .i64)],[.lf (.bool)],fun x=>y7 x.1⟩
theorem Uw:EOk prog 80 Ux:=aF .n [] [] [] .nil Tryz.mixed Tryz.func80
def Hh:Ent:=⟨[.ag 12,.ag 7],[.ag 12,.lf (.int .i64)],fun x=>rb x.1 x.2.1⟩
theorem Hg:EOk prog 45 Hh:=aF .n [] [4] [] (.cons Uw (.cons pw (.cons FT .nil))) Tryz.mixed Tryz.func45
def Nk:Ent:=⟨[.ag 12],[.lf (.sl (.int .i64))],fun x=>v7 x.1⟩
theorem Nj:EOk prog 94 Nk:=aF (.s .n (.s .n (.s (.s .n (.s (.lp [.row 3 3 3 1 (.int .i64),.leaf 4 (.int .i64)] 0 false .n) .n)) .n))) [] [] [] .nil Tryz.mixed Tryz.func94
def Q0:Ent:=⟨[.ag 12,.lf (.int .i64)],[.ag 11,.lf (.bool)],fun x=>zP x.1 x.2.1⟩
theorem QZ:EOk prog 137 Q0:=aF (.s .n (.s (.s .n (.s (.lp [.leaf 6 (.int .i64)] 0 true .n) .n)) .n)) [] [4] [] .nil Tryz.mixed Tryz.func137
def Vc:Ent:=⟨[.ag 12,.lf (.str),.ag 1],[.lf (.bool)],fun x=>zS x.1 x.2.1 x.2.2.1⟩
theorem Jl:EOk prog 154 Vc:=aF .n [] [] [] (.cons kH (.cons iK (.cons pZ (.cons py .nil)))) Tryz.mixed Tryz.func154
def Q1:Ent:=⟨[.ag 12,.lf (.str),.lf (.int .i64),.lf (.int .i64)],[.lf (.bool)],fun x=>vu x.1 x.2.1 x.2.2.1 x.2.2.2.1⟩
theorem Gh:EOk prog 155 Q1:=aF .n [] [] [] (.cons Gq (.cons UH (.cons py .nil))) Tryz.mixed Tryz.func155
def K7:Ent:=⟨[.ag 12,.lf (.int .i64)],[.ag 12],fun x=>fI x.1 x.2.1⟩
theorem zT:EOk prog 95 K7:=aF (.s .n (.s .n (.s (.s .n (.s (.lp [.row 5 5 93 3 (.st 11),.leaf 6 (.int .i64)] 0 false .n) .n)) .n))) [] [4] [] .nil Tryz.mixed Tryz.func95
def N4:Ent:=⟨[.ag 12,.ag 7,.ag 2,.ag 1],[.ag 12,.ag 6],fun x=>ng x.1 x.2.1 x.2.2.1 x.2.2.2.1⟩
theorem Cw:EOk prog 158 N4:=aF (.s .n (.s .n (.s .n (.s .n (.s (.s .n (.j [.box 6 30 2 []] .n)) (.s .n (.s (.s (.lp [.leaf 11 (.int .i64)] 0 false .n) .n) .n))))))) [(3,[54,57,60,61,86,89,90,96]),(13,[54,57,60,61,81,86,89,90,96])] [8,9] [] (.cons Uq (.cons pB .nil)) Tryz.mixed Tryz.func158
def Q3:Ent:=⟨[.ag 12,.ag 7,.ag 11],[.ag 12,.lf (.int .i64),.ag 6,.lf (.bool)],fun x=>sN x.1 x.2.1 x.2.2.1⟩
theorem Q2:EOk prog 138 Q3:=aF .n [] [6,8] [] (.cons g6 (.cons XF (.cons g5 (.cons Jm (.cons py (.cons Jl (.cons Gh (.cons zT (.cons I8 (.cons Gv (.cons Cw .nil))))))))))) Tryz.mixed Tryz.func138
def N2:Ent:=⟨[.ag 12,.lf (.int .i64),.lf (.int .i64)],[.lf (.bool)],fun x=>wl x.1 x.2.1 x.2.2.1⟩
theorem N1:EOk prog 179 N2:=aF (.s .n (.s (.s .n (.s (.lp [.leaf 7 (.int .i64)] 0 true .n) .n)) .n)) [] [] [] .nil Tryz.mixed Tryz.func179
def Q5:Ent:=⟨[.ag 12,.ag 11],[.ag 12],fun x=>sO x.1 x.2.1⟩
theorem Q4:EOk prog 180 Q5:=aF (.s .n (.s .n (.s (.s (.lp [.leaf 5 (.int .i64)] 0 false .n) .n) .n))) [] [4] [] .nil Tryz.mixed Tryz.func180
def Ve:Ent:=⟨[.ag 12,.ag 7,.ag 2,.ag 1,.lf (.bool)],[.ag 12,.lf (.int .i64),.ag 6],fun x=>wm x.1 x.2.1 x.2.2.1 x.2.2.2.1 x.2.2.2.2.1⟩
theorem Vd:EOk prog 161 Ve:=aF (.s .n (.s .n (.s .n (.s (.s .n (.s (.s (.s .n (.j [.box 7 30 2 [],.box 5 43 12 []] .n)) .n) .n)) .n)))) [] [10,12] [] (.cons Jl (.cons Cy (.cons py (.cons Jm (.cons Ut (.cons pB (.cons Gv (.cons I8 (.cons Cw (.cons N1 (.cons Q4 .nil))))))))))) Tryz.mixed Tryz.func161
def NZ:Ent:=⟨[.ag 12,.ag 7,.lf (.bool)],[.ag 12,.lf (.int .i64),.ag 6],fun x=>er x.1 x.2.1 x.2.2.1⟩
theorem NY:EOk prog 139 NZ:=aF (.s .n (.s .n (.s (.s .n (.s (.lp [.box 3 43 12 [],.leaf 10 (.int .i64)] 0 true (.s .n (.s (.s (.s .n (.s .n (.s (.lp [.box 3 43 12 [],.leaf 12 (.int .i64)] 2 true (.s .n (.s (.s (.s .n (.s .n (.s .n (.s (.lp [.box 3 43 12 [],.leaf 15 (.int .i64)] 4 true .n) .n)))) .n) .n))) .n))) .n) .n))) .n)) .n))) [] [6,8] [] (.cons La (.cons Rb (.cons g6 (.cons Gh (.cons Vd .nil))))) Tryz.mixed Tryz.func139
def Vg:Ent:=⟨[.ag 12,.lf (.int .i64)],[.ag 12,.lf (.int .i64),.ag 6],fun x=>wn x.1 x.2.1⟩
theorem Vf:EOk prog 118 Vg:=aF .n [] [4,6] [] (.cons pw (.cons QZ (.cons Q2 (.cons NY .nil)))) Tryz.mixed Tryz.func118
def Q9:Ent:=⟨[.ag 12,.lf (.int .i64)],[.ag 12,.lf (.sl (.st 6))],fun x=>qy x.1 x.2.1⟩
theorem Q8:EOk prog 87 Q9:=aF (.s .n (.s .n (.s (.s .n (.s (.lp [.box 2 43 12 [],.row 6 6 91 9 (.st 6),.leaf 7 (.int .i64)] 0 false .n) .n)) .n))) [(5,[27,28])] [4] [] (.cons Vf .nil) Tryz.mixed Tryz.func87
def QP:Ent:=⟨[.lf (.int .i64)],[.lf (.int .i64)],fun x=>lU x.1⟩
theorem QO:EOk prog 189 QP:=aF .n [] [] [] .nil Tryz.mixed Tryz.func189
def Cu:Ent:=⟨[.lf (.int .i64),.lf (.sl (.int .i64)),.lf (.sl (.int .i64)),.lf (.sl (.int .i64))],[.lf (.sl (.int .i64))],fun x=>wi x.1 x.2.1 x.2.2.1 x.2.2.2.1⟩
theorem NR:EOk prog 182 Cu:=aF (.s .n (.s .n (.s .n (.s .n (.s (.s .n (.s (.lp [.row 11 11 3 1 (.int .i64),.leaf 10 (.int .i64),.leaf 12 (.int .i64)] 0 false .n) .n)) (.s (.s .n (.s (.lp [.row 11 11 3 1 (.int .i64),.leaf 10 (.int .i64),.leaf 14 (.int .i64)] 2 false .n) .n)) .n)))))) [(2,[49,50]),(7,[49,50]),(13,[49,50])] [] [] (.cons QO .nil) Tryz.mixed Tryz.func182
theorem QQ (k:Nat) (x:ct [.ag 12,.lf (.str),.lf (.int .i64),.lf (.int .i64)]) : iZ ⟨prog,[(163,⟨[.ag 12,.lf (.str),.lf (.int .i64),.lf (.int .i64)],[.lf (.sl (.st 18))],fun x=>lV k x.1 x.2.1 x.2.2.1 x.2.2.2.1⟩),(55,Jd),(164,FY),(174,Jb),(141,Gu),(165,wZ),(182,Cu)],101,[.lf (.sl (.st 18))],[.tmp 8],[(1,[27,43,44,54,55,74,75,99]),(8,[27,54,55,74,75,99]),(9,[27,43,44,74,75,99]),(10,[27,43,44,54,55,99]),(11,[10,11,12,27,43,44,54,55,74,75,99]),(16,[10,11,12,27,43,44,54,55,74,75])],[],[]⟩ ((Tryz.f163).body.getD .skip) (.s (.n) (.s (.n) (.s (.n) (.s (.n) (.s (.s (.n) (.s (.lp [.row 10 10 3 1 (.int .i64),.row 12 12 3 1 (.int .i64),.row 11 11 3 1 (.int .i64),.leaf 13 (.int .i64)] 0 false (.n)) .n)) (.s (.n) (.s (.n) (.s (.s (.n) (.s (.lp [.row 15 15 199 2 (.st 18),.leaf 16 (.int .i64)] 2 false (.n)) .n)) (.n))))))))) [.ag 12,.lf (.str),.lf (.int .i64),.lf (.int .i64)] x=lV (k + 1) x.1 x.2.1 x.2.2.1 x.2.2.2.1:=by kernel_rfl
theorem Gg:∀ k:Nat,bO prog 163 [.ag 12,.lf (.str),.lf (.int .i64),.lf (.int .i64)] [.lf (.sl (.st 18))] (fun x=>lV k x.1 x.2.1 x.2.2.1 x.2.2.2.1)
 | 0=>fun x r h=>by cases h
 | k + 1=>cD (n:=101) (.cons (Gg k) (.cons (wd) (.cons (pZ) (.cons (Ja) (.cons (kH) (.cons (wY) (.cons (NR) (.nil)))))))) Tryz.mixed Tryz.func163 rfl (by kernel_rfl) rfl rfl rfl (QQ k)
def K4:Ent:=⟨[.ag 12,.lf (.int .i64)],[.lf (.sl (.st 18))],fun x=>qx x.1 x.2.1⟩
theorem zK:EOk prog 145 K4:=aF (.s .n (.s .n (.s .n (.s (.s .n (.s (.lp [.leaf 5 (.sl (.st 18)),.leaf 7 (.int .i64)] 0 false (.s .n (.s (.s (.s .n (.s (.s (.lp [.leaf 8 (.int .i64)] 2 false .n) .n) .n)) .n) .n))) .n)) .n)))) [(2,[5,46,52,53,58])] [] [] (.cons pY (.cons (Gg ab) .nil)) Tryz.mixed Tryz.func145
def U8:Ent:=⟨[.ag 12,.lf (.int .i64),.lf (.str)],[.lf (.int .i64)],fun x=>zJ x.1 x.2.1 x.2.2.1⟩
theorem U7:EOk prog 144 U8:=aF (.s .n (.s .n (.s (.s .n (.s (.lp [.leaf 8 (.int .i64)] 0 true .n) .n)) .n))) [] [] [] (.cons zK .nil) Tryz.mixed Tryz.func144
def QN:Ent:=⟨[.ag 12,.ag 12],[.lf (.sl (.int .i64))],fun x=>vn x.1 x.2.1⟩
theorem Gf:EOk prog 99 QN:=aF (.s .n (.s .n (.s (.s .n (.s (.lp [.row 5 5 3 1 (.int .i64),.leaf 6 (.int .i64)] 0 false .n) .n)) .n))) [(5,[36,37])] [] [] (.cons nn .nil) Tryz.mixed Tryz.func99
def NJ:Ent:=⟨[.ag 12,.lf (.str),.lf (.int .i64)],[.lf (.int .i64)],fun x=>sK x.1 x.2.1 x.2.2.1⟩
theorem NI:EOk prog 146 NJ:=aF (.s .n (.s .n (.s (.s .n (.s (.lp [.leaf 9 (.int .i64)] 0 true (.s .n (.s (.s (.s .n (.s .n (.s (.lp [.leaf 11 (.int .i64)] 2 true .n) .n))) .n) .n))) .n)) .n))) [] [] [] (.cons kH (.cons pZ (.cons g5 (.cons wY .nil)))) Tryz.mixed Tryz.func146
def QI:Ent:=⟨[.ag 12,.ag 6],[.lf (.str)],fun x=>jg x.1 x.2.1⟩
theorem xW:EOk prog 142 QI:=aF .n [] [] [] (.cons g6 .nil) Tryz.mixed Tryz.func142
def XL:Ent:=⟨[.lf (.sl (.int .i64)),.lf (.int .i64)],[.lf (.bool)],fun x=>xX x.1 x.2.1⟩
theorem NL:EOk prog 166 XL:=aF (.s .n (.s (.s .n (.s (.lp [.leaf 5 (.int .i64)] 0 true .n) .n)) .n)) [] [] [] .nil Tryz.mixed Tryz.func166
def K1:Ent:=⟨[.ag 12,.lf (.str),.lf (.int .i64),.lf (.sl (.int .i64))],[.lf (.int .i64)],fun x=>nf x.1 x.2.1 x.2.2.1 x.2.2.2.1⟩
theorem K0:EOk prog 147 K1:=aF (.s .n (.s .n (.s (.s .n (.s (.lp [.leaf 9 (.int .i64),.leaf 10 (.int .i64)] 0 false .n) .n)) .n))) [] [] [] (.cons xW (.cons NL .nil)) Tryz.mixed Tryz.func147
def KY:Ent:=⟨[.ag 12,.lf (.str),.lf (.int .i64),.lf (.sl (.int .i64))],[.ag 6,.lf (.bool)],fun x=>qq x.1 x.2.1 x.2.2.1 x.2.2.2.1⟩
theorem KX:EOk prog 148 KY:=aF (.s .n (.s .n (.s (.s .n (.s (.lp [.box 10 91 6 [],.leaf 11 (.bool),.leaf 12 (.int .i64)] 0 false .n) .n)) .n))) [] [8] [] (.cons xW (.cons NL .nil)) Tryz.mixed Tryz.func148
def QM:Ent:=⟨[.ag 12,.lf (.int .i64)],[.lf (.sl (.int .i64))],fun x=>zH x.1 x.2.1⟩
theorem QL:EOk prog 122 QM:=aF (.s .n (.s .n (.s .n (.s (.s .n (.s (.lp [.leaf 6 (.int .i64),.leaf 7 (.int .i64)] 0 false .n) .n)) (.s .n (.s (.s (.lp [.row 8 8 3 1 (.int .i64)] 2 true (.s .n (.s (.s .n (.s (.s .n (.s (.lp [.leaf 9 (.int .i64),.box 10 91 6 [],.leaf 11 (.int .i64)] 4 false .n) .n)) .n)) .n))) .n) .n)))))) [(1,[103,104]),(2,[103,104]),(6,[103,104]),(8,[103,104]),(14,[103,104]),(15,[103,104])] [] [] (.cons zK (.cons pY (.cons kH (.cons NI (.cons K0 (.cons KX .nil)))))) Tryz.mixed Tryz.func122
def KW:Ent:=⟨[.ag 12,.ag 6],[.lf (.int .i64)],fun x=>qo x.1 x.2.1⟩
theorem KV:EOk prog 143 KW:=aF (.s .n (.s .n (.s (.s .n (.s (.lp [.leaf 5 (.int .i64),.leaf 6 (.int .i64)] 0 false .n) .n)) .n))) [] [] [] .nil Tryz.mixed Tryz.func143
def QH:Ent:=⟨[.ag 12,.lf (.int .i64),.lf (.int .i64)],[.ag 12],fun x=>oe x.1 x.2.1 x.2.2.1⟩
theorem Gc:EOk prog 123 QH:=aF (.s .n (.s .n (.s (.s .n (.s (.lp [.row 7 9 91 9 (.st 6),.leaf 8 (.int .i64)] 0 false .n) .n)) .n))) [] [6] [] .nil Tryz.mixed Tryz.func123
def QK:Ent:=⟨[.ag 12,.lf (.int .i64)],[.ag 12],fun x=>zE x.1 x.2.1⟩
theorem QJ:EOk prog 121 QK:=aF (.s .n (.s .n (.s (.s .n (.s (.lp [.row 5 5 91 9 (.st 6),.leaf 6 (.int .i64)] 0 false .n) .n)) (.s (.s .n (.s (.lp [.box 2 43 12 [],.leaf 8 (.int .i64)] 2 false .n) .n)) .n)))) [(11,[5,43,44,84]),(13,[5,43,44,84]),(14,[5,43,44]),(15,[5,43,44,84])] [4] [] (.cons nn (.cons xW (.cons kH (.cons KV (.cons U7 (.cons yb (.cons Gc .nil))))))) Tryz.mixed Tryz.func121
def NN:Ent:=⟨[.ag 12],[.ag 12,.lf (.sl (.int .i64))],fun x=>wh x.1⟩
theorem NM:EOk prog 98 NN:=aF (.s .n (.s .n (.s (.s .n (.s (.lp [.box 1 43 12 [],.leaf 5 (.int .i64)] 0 false (.s .n (.s (.s (.s .n (.s .n (.s .n (.s (.lp [.box 1 43 12 [],.leaf 7 (.int .i64)] 2 false .n) .n)))) .n) .n))) .n)) .n))) [] [2] [] (.cons QJ (.cons QL (.cons Gc (.cons Gf .nil)))) Tryz.mixed Tryz.func98
def QT:Ent:=⟨[.lf (.int .i64)],[.lf (.bool)],fun x=>vp x.1⟩
theorem QS:EOk prog 124 QT:=aF .n [] [] [] .nil Tryz.mixed Tryz.func124
def XN:Ent:=⟨[.lf (.sl (.st 8)),.lf (.int .i64),.lf (.int .i64)],[.ag 0],fun x=>vt x.1 x.2.1 x.2.2.1⟩
theorem XM:EOk prog 150 XN:=aF (.s .n (.s .n (.s (.s .n (.s (.lp [.box 7 27 0 [],.leaf 8 (.int .i64)] 0 false .n) .n)) .n))) [] [6] [] (.cons iK .nil) Tryz.mixed Tryz.func150
def QV:Ent:=⟨[.lf (.sl (.st 8)),.ag 0,.ag 8,.lf (.int .i64),.lf (.int .i64)],[.lf (.bool)],fun x=>sM x.1 x.2.1 x.2.2.1 x.2.2.2.1 x.2.2.2.2.1⟩
theorem QU:EOk prog 125 QV:=aF (.s .n (.s .n (.s (.s .n (.s (.lp [.leaf 11 (.int .i64)] 0 true .n) .n)) .n))) [] [] [] (.cons XM (.cons iK (.cons py .nil))) Tryz.mixed Tryz.func125
def NV:Ent:=⟨[.lf (.sl (.st 8)),.ag 0,.ag 8,.lf (.int .i64)],[.lf (.int .i64),.lf (.int .i64)],fun x=>wj x.1 x.2.1 x.2.2.1 x.2.2.2.1⟩
theorem NU:EOk prog 100 NV:=aF (.s .n (.s .n (.s .n (.s (.s .n (.s (.lp [.leaf 10 (.int .i64),.leaf 11 (.int .i64)] 0 false (.s .n (.s (.s (.s .n (.s (.s .n (.j [.leaf 12 (.int .i64)] .n)) .n)) .n) .n))) .n)) .n)))) [] [] [] (.cons QS (.cons QU .nil)) Tryz.mixed Tryz.func100
def Vb:Ent:=⟨[.ag 12,.ag 8,.lf (.int .i64)],[.ag 12,.lf (.int .i64),.lf (.int .i64)],fun x=>zN x.1 x.2.1 x.2.2.1⟩
theorem Va:EOk prog 50 Vb:=aF (.s .n (.s .n (.s .n (.s (.s .n (.s (.lp [.leaf 9 (.int .i64),.leaf 10 (.int .i64)] 0 true .n) .n)) .n)))) [] [6] [] (.cons pY (.cons NU .nil)) Tryz.mixed Tryz.func50
def QX:Ent:=⟨[.ag 12,.lf (.int .i64)],[.ag 12,.lf (.int .i64)],fun x=>vr x.1 x.2.1⟩
theorem QW:EOk prog 51 QX:=aF (.s .n (.s .n (.s (.s .n (.s (.lp [.row 6 6 74 6 (.st 8),.leaf 7 (.int .i64)] 0 false .n) .n)) .n))) [] [4] [] .nil Tryz.mixed Tryz.func51
theorem KP (k:Nat) (x:ct [.lf (.int .i64)]) : iZ ⟨prog,[(53,⟨[.lf (.int .i64)],[.lf (.str)],fun x=>dv k x.1⟩)],25,[.lf (.str)],[.tmp 2],[],[],[]⟩ ((Tryz.f53).body.getD .skip) (.n) [.lf (.int .i64)] x=dv (k + 1) x.1:=by kernel_rfl
theorem zl:∀ k:Nat,bO prog 53 [.lf (.int .i64)] [.lf (.str)] (fun x=>dv k x.1)
 | 0=>fun x r h=>by cases h
 | k + 1=>cD (n:=25) (.cons (zl k) (.nil)) Tryz.mixed Tryz.func53 rfl (by kernel_rfl) rfl rfl rfl (KP k)
def XI:Ent:=⟨[.lf (.str),.lf (.int .u8)],[.lf (.sl (.str))],fun x=>F5 x.1 x.2.1⟩
theorem Nw:EOk prog 111 XI:=aF (.s .n (.s .n (.s .n (.s (.s .n (.s (.lp [.row 5 5 9 1 (.str),.leaf 6 (.int .i64),.leaf 7 (.int .i64)] 0 false .n) .n)) (.s (.s .n (.j [.row 5 5 9 1 (.str)] .n)) .n))))) [] [] [] .nil Tryz.mixed Tryz.func111
def Qc:Ent:=⟨[.lf (.str)],[.lf (.sl (.str))],fun x=>ze x.1⟩
theorem Qb:EOk prog 112 Qc:=aF (.s .n (.s .n (.s .n (.s (.s .n (.s (.lp [.row 3 3 9 1 (.str),.leaf 5 (.int .i64)] 0 false .n) .n)) .n)))) [] [] [] (.cons Nw .nil) Tryz.mixed Tryz.func112
def Nv:Ent:=⟨[.lf (.str)],[.lf (.int .i64),.lf (.bool)],fun x=>px x.1⟩
theorem Cp:EOk prog 133 Nv:=aF (.s .n (.s .n (.s .n (.s (.s .n (.s (.lp [.leaf 4 (.int .i64),.leaf 5 (.int .i64)] 0 true .n) .n)) .n)))) [] [] [] .nil Tryz.mixed Tryz.func133
def Qe:Ent:=⟨[.lf (.str)],[.ag 3,.lf (.bool)],fun x=>zh x.1⟩
theorem Qd:EOk prog 134 Qe:=aF (.s .n (.s .n (.s (.s (.lp [.leaf 4 (.int .i64)] 0 false .n) .n) .n))) [] [2] [] (.cons Cp .nil) Tryz.mixed Tryz.func134
def Qg:Ent:=⟨[.lf (.sl (.str)),.lf (.int .i64)],[.ag 4,.lf (.bool)],fun x=>zi x.1 x.2.1⟩
theorem Qf:EOk prog 113 Qg:=aF (.s .n (.s .n (.s .n (.s .n (.s (.s .n (.s (.lp [.leaf 7 (.bool),.box 8 63 4 [(1,1161,98,2,.st 3)],.leaf 9 (.int .i64)] 0 false .n) .n)) .n))))) [] [4] [] (.cons Cp (.cons Qd .nil)) Tryz.mixed Tryz.func113
def Qi:Ent:=⟨[.lf (.str)],[.ag 5,.lf (.int .i64)],fun x=>zk x.1⟩
theorem Qh:EOk prog 78 Qi:=aF (.s .n (.s .n (.s .n (.s .n (.s .n (.s (.s .n (.s (.lp [.box 4 36 5 [],.leaf 5 (.bool),.leaf 7 (.int .i64)] 0 true (.s .n (.s (.s (.s .n (.s .n (.s .n (.s .n (.s .n (.s .n (.s .n (.s (.s (.lp [.leaf 11 (.int .i64)] 2 false .n) .n) .n)))))))) .n) .n))) .n)) .n)))))) [] [2] [] (.cons Nw (.cons Qb (.cons Qf .nil))) Tryz.mixed Tryz.func78
def US:Ent:=⟨[.ag 5,.ag 5],[.lf (.bool)],fun x=>DI x.1 x.2.1⟩
theorem UR:EOk prog 40 US:=aF (.s .n (.s .n (.s (.s .n (.s (.lp [.leaf 5 (.int .i64)] 0 true .n) .n)) (.s (.s .n (.s (.lp [.leaf 6 (.int .i64)] 2 true (.s .n (.s (.s (.s .n (.s .n (.s .n (.s (.lp [.leaf 9 (.int .i64)] 4 true .n) .n)))) .n) .n))) .n)) .n)))) [] [] [] .nil Tryz.mixed Tryz.func40
def BB:Ent:=⟨[.ag 5],[.lf (.str)],fun x=>zj x.1⟩
theorem Jf:EOk prog 27 BB:=aF (.s .n (.s .n (.s (.s .n (.s (.lp [.leaf 3 (.str),.leaf 4 (.int .i64)] 0 false .n) .n)) (.s .n (.s (.s .n (.s (.lp [.leaf 3 (.str),.leaf 5 (.int .i64)] 2 false (.s .n (.s (.s (.s .n (.s .n (.s (.s .n (.s (.lp [.leaf 3 (.str),.leaf 7 (.int .i64)] 4 false .n) .n)) .n))) .n) .n))) .n)) .n))))) [] [] [] (.cons (zl ab) .nil) Tryz.mixed Tryz.func27
def BC:Ent:=⟨[],[.ag 12],fun x=>KU ⟩
theorem Ji:EOk prog 25 BC:=aF .n [] [0] [] .nil Tryz.mixed Tryz.func25
def Qw:Ent:=⟨[.lf (.sl (.int .i64)),.lf (.sl (.int .i64))],[.lf (.bool)],fun x=>qg x.1 x.2.1⟩
theorem Qv:EOk prog 76 Qw:=aF (.s .n (.s .n (.s (.s .n (.s (.lp [.leaf 5 (.int .i64)] 0 true .n) .n)) .n))) [] [] [] .nil Tryz.mixed Tryz.func76
def U6:Ent:=⟨[.ag 2,.ag 2],[.lf (.bool)],fun x=>DJ x.1 x.2.1⟩
theorem U5:EOk prog 41 U6:=aF (.s .n (.s .n (.s (.s .n (.s (.lp [.leaf 5 (.int .i64)] 0 true .n) .n)) .n))) [] [] [] (.cons Qv .nil) Tryz.mixed Tryz.func41
def Gb:Ent:=⟨[.ag 12,.ag 12],[.lf (.bool)],fun x=>vk x.1 x.2.1⟩
theorem QE:EOk prog 14 Gb:=aF (.s .n (.s .n (.s .n (.s (.s .n (.s (.lp [.leaf 5 (.bool),.leaf 6 (.int .i64)] 0 false .n) .n)) (.s (.s .n (.s (.lp [.leaf 5 (.bool),.leaf 7 (.int .i64)] 2 false .n) .n)) (.s (.s .n (.s (.lp [.leaf 5 (.bool),.leaf 8 (.int .i64)] 4 false .n) .n)) (.s (.s .n (.s (.lp [.leaf 5 (.bool),.leaf 9 (.int .i64)] 6 false .n) .n)) (.s (.s .n (.s (.lp [.leaf 5 (.bool),.leaf 10 (.int .i64)] 8 false .n) .n)) .n)))))))) [] [] [] (.cons UR (.cons U5 .nil)) Tryz.mixed Tryz.func14
def U4:Ent:=⟨[.ag 12,.lf (.int .i64)],[.ag 12,.ag 10],fun x=>dP x.1 x.2.1⟩
theorem pz:EOk prog 52 U4:=aF .n [] [4,5] [] .nil Tryz.mixed Tryz.func52
def KT:Ent:=⟨[.ag 12,.lf (.str)],[.ag 12,.ag 10],fun x=>tQ x.1 x.2.1⟩
theorem KS:EOk prog 44 KT:=aF (.s .n (.s .n (.s (.s .n (.j [.leaf 7 (.int .i64)] .n)) (.s .n (.s .n (.s (.s .n (.s (.lp [.leaf 8 (.int .i64)] 0 true .n) .n)) (.s (.s .n (.s (.lp [.leaf 9 (.int .i64)] 2 true .n) .n)) .n))))))) [] [4,5] [] (.cons Qh (.cons P9 (.cons pz (.cons g5 (.cons BA .nil))))) Tryz.mixed Tryz.func44
def XK:Ent:=⟨[.ag 12,.lf (.int .i64)],[.lf (.sl (.int .i64))],fun x=>xT x.1 x.2.1⟩
theorem ND:EOk prog 83 XK:=aF (.s .n (.s .n (.s (.s .n (.s (.lp [.row 5 5 3 1 (.int .i64),.leaf 6 (.int .i64)] 0 false .n) .n)) .n))) [] [] [] .nil Tryz.mixed Tryz.func83
def QA:Ent:=⟨[.ag 12,.ag 9],[.ag 12,.ag 10],fun x=>zC x.1 x.2.1⟩
theorem Qz:EOk prog 46 QA:=aF (.s .n (.s .n (.s .n (.s .n (.s .n (.s .n (.s (.s .n (.s (.lp [.row 10 10 3 1 (.int .i64),.leaf 11 (.int .i64)] 0 false .n) .n)) .n))))))) [(1,[83,84]),(3,[83,84]),(4,[83,84]),(6,[83,84]),(11,[83,84]),(14,[10,83,84]),(15,[10,83,84]),(16,[10,83,84])] [4,5] [] (.cons pw (.cons ND (.cons UE (.cons pz (.cons nn (.cons yb (.cons Q8 .nil))))))) Tryz.mixed Tryz.func46
def NG:Ent:=⟨[.ag 12,.lf (.sl (.int .i64))],[.lf (.sl (.st 6))],fun x=>sI x.1 x.2.1⟩
theorem NF:EOk prog 88 NG:=aF (.s .n (.s .n (.s (.s .n (.s (.lp [.row 5 5 91 9 (.st 6),.leaf 6 (.int .i64)] 0 false .n) .n)) .n))) [(5,[27,28])] [] [] (.cons nn .nil) Tryz.mixed Tryz.func88
def Hj:Ent:=⟨[.ag 12,.lf (.int .i64)],[.lf (.sl (.int .i64))],fun x=>od x.1 x.2.1⟩
theorem Hi:EOk prog 89 Hj:=aF (.s .n (.s .n (.s (.s .n (.s (.lp [.row 5 5 3 1 (.int .i64),.leaf 6 (.int .i64)] 0 false .n) .n)) .n))) [] [] [] .nil Tryz.mixed Tryz.func89
def NC:Ent:=⟨[.ag 12,.lf (.sl (.st 1)),.lf (.sl (.st 1))],[.lf (.sl (.st 1)),.lf (.int .i64)],fun x=>wg x.1 x.2.1 x.2.2.1⟩
theorem NB:EOk prog 90 NC:=aF (.s .n (.s (.s .n (.s (.lp [.leaf 1 (.sl (.st 1)),.leaf 8 (.int .i64)] 0 true .n) .n)) .n)) [] [] [] (.cons PR (.cons XD .nil)) Tryz.mixed Tryz.func90
def KR:Ent:=⟨[.ag 12,.ag 9],[.ag 12,.ag 10],fun x=>tP x.1 x.2.1⟩
theorem KQ:EOk prog 47 KR:=aF (.s .n (.s .n (.s .n (.s .n (.s .n (.s (.s .n (.s (.lp [.box 2 43 12 [],.box 6 30 2 [],.leaf 10 (.int .i64)] 1 false .n) .n)) .n)))))) [(1,[61,64,144,147]),(3,[61,64,144,147]),(5,[61,64,144,147]),(7,[61,64,144,147]),(9,[144,147]),(11,[61,64,144,147]),(12,[61,64,144,147]),(14,[61,64,144,147]),(18,[61,64,144,147]),(20,[61,64,144,147]),(21,[61,64,144,147]),(22,[61,64]),(25,[61,64,144,147])] [4,5] [] (.cons g6 (.cons pz (.cons NF (.cons Hi (.cons NB (.cons nn (.cons Gy (.cons w6 (.cons pB .nil))))))))) Tryz.mixed Tryz.func47
def U3:Ent:=⟨[.ag 12,.lf (.int .i64),.lf (.int .i64)],[.ag 12,.ag 10],fun x=>zy x.1 x.2.1 x.2.2.1⟩
theorem U2:EOk prog 48 U3:=aF .n [] [6,7] [] (.cons g6 (.cons pz (.cons g5 (.cons Vj .nil)))) Tryz.mixed Tryz.func48
def Qy:Ent:=⟨[.ag 12,.lf (.int .i64)],[.lf (.int .i64)],fun x=>vj x.1 x.2.1⟩
theorem Qx:EOk prog 97 Qy:=aF (.s .n (.s (.s .n (.s (.lp [.leaf 5 (.int .i64)] 0 true .n) .n)) .n)) [] [] [] .nil Tryz.mixed Tryz.func97
def Qu:Ent:=⟨[.ag 12,.lf (.int .i64)],[.ag 12,.ag 10],fun x=>zx x.1 x.2.1⟩
theorem Qt:EOk prog 49 Qu:=aF (.s .n (.s .n (.s .n (.s .n (.s .n (.s .n (.s (.s .n (.s (.lp [.box 2 43 12 [],.leaf 8 (.int .i64)] 0 false .n) .n)) (.s .n (.s (.s .n (.s (.lp [.box 2 43 12 [],.leaf 9 (.int .i64)] 2 false .n) .n)) (.s .n (.s (.s .n (.s (.lp [.row 10 10 74 6 (.st 8),.leaf 11 (.int .i64)] 4 false .n) .n)) .n))))))))))) [(2,[79,103,104]),(4,[79,103,104]),(7,[79,103,104]),(11,[79,103,104]),(12,[79,103,104]),(13,[79,103,104]),(17,[103,104]),(25,[10,79,103,104]),(26,[10,79,103,104])] [4,5] [] (.cons pz (.cons Nj (.cons UC (.cons zT (.cons ND (.cons yb (.cons Lg (.cons Qx (.cons NM (.cons Gf .nil)))))))))) Tryz.mixed Tryz.func49
def Ga:Ent:=⟨[.ag 12,.ag 9],[.ag 12,.ag 10],fun x=>sJ x.1 x.2.1⟩
theorem QB:EOk prog 26 Ga:=aF .n [] [4,5] [] (.cons KS (.cons Hg (.cons Qz (.cons Ai (.cons KQ (.cons U2 (.cons Qt (.cons Va (.cons QW (.cons pz .nil)))))))))) Tryz.mixed Tryz.func26
abbrev Tx:=List UInt8
def sv (l:Tx) : Value:=.string ⟨l.toArray⟩
theorem aaz (S:ByteArray) : sv S.data.toList = .string S:=by cases S; rfl
structure QD where
 path:Tx
 caps:List (Int×Int)
 user:Int
def above (l:Tx) : Tx:=((l.reverse.dropWhile (fun b=>b != 46)).drop 1).reverse
theorem Xy {l:Tx} (h:(46:UInt8) ∉ l) : above l = []:=by
 unfold above
 have hp:∀ x∈l.reverse,(x != 46)=true:=fun x hx=>by
  simp
  intro e
  subst e
  exact h (List.mem_reverse.1 hx)
 have:=List.dropWhile_append_of_pos (l₂:=[]) hp
 rw [List.append_nil] at this
 rw [this]
 rfl
theorem Xz {a t:Tx} (h:(46:UInt8) ∉ t) : above (a++46::t)=a:=by
 unfold above
 have hp:∀ x∈t.reverse,(x != 46)=true:=fun x hx=>by simp; intro e; subst e; exact h (List.mem_reverse.1 hx)
 rw [List.reverse_append,List.reverse_cons,List.append_assoc,List.dropWhile_append_of_pos hp]
 simp
def lx (p:Tx) (q:QD) : Bool:=decide (p≠[])&&decide (above q.path=p)
def cA (p:Tx) (l:List QD) : List Tx:=(l.filter (lx p)).map (·.path)
theorem EF (l:List QD) : cA [] l = []:=by
 unfold cA
 have:l.filter (lx []) = []:=by
  rw [List.filter_eq_nil_iff]
  intro q _
  simp [lx]
 rw [this]; rfl
theorem TB {p:Tx} {l:List QD} {k:Nat} (h:k < l.length) : cA p (l.take (k + 1))=cA p (l.take k)++if lx p l[k] then [l[k].path] else []:=by
 unfold cA
 rw [List.take_succ_eq_append_getElem h,List.filter_append,List.map_append]
 congr 1
 by_cases hk:lx p l[k] = true
 ·simp [hk]
 ·simp [hk]
theorem Wu (p:Tx) (l:List QD) : (cA p l).length≤l.length:=by
 unfold cA
 rw [List.length_map]
 exact List.length_filter_le _ _
theorem YS {p:Tx} {q:QD} (h0:p≠[]) (h:above q.path=p) : lx p q=true:=by simp [lx,h0,h]
theorem aad {p:Tx} {q:QD} (h : ¬ above q.path=p) : lx p q=false:=by simp [lx,h]
theorem ZH {z x:ByteArray} (h : ¬ z=x) : (z.toList==x.toList)=false:=by
 rw [beq_eq_false_iff_ne]
 intro e
 rw [ByteArray.toList_eq,ByteArray.toList_eq] at e
 apply h
 cases z; cases x
 simp only at e
 rw [Array.toList_inj] at e
 rw [e]
theorem v6 (S:ByteArray) : S.size=S.data.toList.length:=by cases S; rfl
theorem Xs (S:ByteArray) (k:Nat) (h:k < S.size) : S[k] = S.data.toList[k]'(by rw [← v6]; exact h):=by cases S; rfl
theorem aar {S:ByteArray} : S=⟨#[]⟩↔S.data.toList = []:=by
 cases S with
 | mk d => constructor
           ·intro h; injection h with h; rw [h]
           ·intro h; simp at h; rw [h]
theorem Sp (S:ByteArray) (i j:Nat) : (S.extract i j).data.toList=(S.data.toList.drop i).take (j - i):=by
 cases S with
 | mk d=>simp [ByteArray.extract,ByteArray.copySlice,Array.toList_extract,List.extract_eq_take_drop]
theorem ZI {T S:ByteArray} (e:T.data.toList=S.data.toList) : T=S:=by
 cases T; cases S; simp only at e; rw [Array.toList_inj] at e; rw [e]
def ce (cs:List (Int×Int)) : List Value:=cs.flatMap fun p=>[.int .i64 p.1,.int .i64 p.2]
theorem He (cs:List (Int×Int)) (a b:Int) : ce (cs ++ [(a,b)])=ce cs ++ [.int .i64 a,.int .i64 b]:=by simp [ce]
structure QC where
 p:ByteArray
 A:Option Addr
 n:Nat
 c:Nat
 u:Int
def LY (q:QC) : List Value:=[.string q.p,.slice q.A q.n q.c,.int .i64 q.u]
def fT (qs:List QC) : List Value:=qs.flatMap LY
theorem LZ (qs:List QC) (q:QC) : fT (qs ++ [q])=fT qs++LY q:=by simp [fT]
theorem Tryz.infoStr:(prog.info? 9).map (fun i=>(i.zero,i.size,i.bytes))=some (some (.string ⟨#[]⟩),1,16):=by kernel_rfl
theorem Tryz.infoQ:(prog.info? 63).map (fun i=>(i.zero,i.size,i.bytes))=some (some (.agg #[.string ⟨#[]⟩,.slice none 0 0,.int .i64 0]),3,48):=by kernel_rfl
theorem abn {s:ByteArray} {A:Option Addr} {n c:Nat} {i:Int} : ∀ u∈[Value.string s,Value.slice A n c,Value.int .i64 i],u.oneCell' = true:=by
 intro u hu
 simp only [List.mem_cons,List.mem_nil_iff,or_false] at hu
 rcases hu with rfl | rfl | rfl <;> rfl
structure ZL (w:World) (g k:Nat) (q:QD) : Prop where
 ex:∃ (P:ByteArray) (A:Option Addr) (c:Nat),w.cell? ⟨g,k * 3,none⟩=some (.string P)∧w.cell? ⟨g,k * 3 + 1,none⟩=some (.slice A q.caps.length c)∧w.cell? ⟨g,k * 3 + 2,none⟩=some (.int .i64 q.user)∧P.data.toList=q.path∧RdK 2 w (.slice A q.caps.length c) q.caps.length (ce q.caps)
def QAt (w:World) (v:Value) (ds:List QD) : Prop:=∃ A c,v = .slice A ds.length c∧ds.length≤c∧c≤maxLen∧(0 < ds.length→∃ g,A=some ⟨g,0,none⟩∧g < w.heap.size∧∀ k (h:k < ds.length),ZL w g k ds[k])
theorem QAt.open {w:World} {v:Value} {ds:List QD} (h:QAt w v ds) : ∃ A N c,v = .slice A N c∧N=ds.length∧N≤c∧c≤9223372036854775807∧(0 < N→∃ g,A=some ⟨g,0,none⟩∧g < w.heap.size∧∀ k (h:k < ds.length),ZL w g k ds[k]):=by
 obtain ⟨A,c,rfl,h1,h2,h3⟩:=h
 unfold maxLen at h2
 exact ⟨A,_,c,rfl,rfl,h1,by omega,h3⟩
theorem Ls (a n:Int) (w:World) (hn : 0 < n∧n≤1125899906842625) :
  Calls prog 54 #[.int .i64 a,.int .i64 n] w fun e w'=>e = .returned (.int .i64 (a % n))∧w=w':=by
 obtain ⟨n0,n1⟩:=hn
 have hz:(n==0)=false:=by simp; omega
 have l1:a.tmod n < n:=Int.tmod_lt_of_pos a n0
 have l2 : -n < a.tmod n:=by have:=Int.lt_tmod_of_pos a n0; omega
 by_cases hneg:a.tmod n < 0
 ·rw [MN n0 hneg]
  go_enter Tryz.func54,Tryz.ntmps54
  go_wp2
  go_ret
  exact ⟨rfl,rfl⟩
 ·rw [MM n0 hneg]
  go_enter Tryz.func54,Tryz.ntmps54
  go_wp2
  go_ret
  exact ⟨rfl,rfl⟩
theorem gN (a:Int) (n:Nat) (m:Int) (w:World) (hm:m=(n:Int)) (hn : 0 < n∧n≤1125899906842625) :
  Calls prog 54 #[.int .i64 a,.int .i64 m] w fun e w'=>∃ y:Nat,e = .returned (.int .i64 (y:Int))∧(y:Int)=a % (n:Int)∧y < n∧w=w':=by
 subst hm
 refine (Ls a n w ⟨by omega,by omega⟩).mono ?_
 rintro e w' ⟨rfl,rfl⟩
 have h0:=Int.emod_nonneg a (show (n:Int)≠0 by omega)
 have h1:=Int.emod_lt_of_pos a (show (0:Int) < n by omega)
 refine ⟨(a % (n:Int)).toNat,?_,by omega,by omega,rfl⟩
 rw [show (((a % (n:Int)).toNat:Nat) : Int)=a % (n:Int) from by omega]
theorem OX {w:World} {base:Nat} {e:TypeId} {k:Nat} {v:Value} {n:Nat} {xs:List Value} (h:w.ownsRow base e k v n xs) {B:Nat} (hB:B≤base) : ∀ k,v.ownBlock=some k→B≤k :=
 fun k hk=>Nat.le_trans hB (h.lt k hk).1
theorem OP (S:ByteArray) (w:World) (hs:S.size≤1000000000) : Calls prog 102 #[.string S] w fun e w'=>∃ T:ByteArray,e = .returned (.string T)∧T.data.toList=above S.data.toList∧T.size≤S.size∧w=w':=by
 go_enter Tryz.func102,Tryz.ntmps102
 go_wp2
 go_loop [3] (fun i=>∃ k:Nat,k≤S.size∧i = .int .i64 ((k:Int) - 1)∧(46:UInt8) ∉ S.data.toList.drop k) (fun i=>(intOf i + 1).toNat)
 case atStart=>exact ⟨S.size,Nat.le_refl _,rfl,by rw [List.drop_of_length_le (by rw [v6]; omega)]; simp⟩
 case round =>
  obtain ⟨k,hk,rfl,hno⟩:=hrel
  have HNO:=Lib.hid hno
  clear hno
  cases k with
  | zero =>
   have H2:=Lib.hid (Xy (l:=S.data.toList) (by have:=HNO.out; simpa using this))
   go_wp2
   go_ret
   exact ⟨⟨#[]⟩,rfl,H2.out.symm,Nat.zero_le _,rfl⟩
  | succ k =>
   have hkl:k < S.data.toList.length:=by rw [← v6]; omega
   have e1:((k + 1:Nat) : Int) - 1=(k:Int):=by omega
   rw [e1]
   have i0:(0:Int)≤(k:Int):=by omega
   have i1:(k:Int) < (S.size:Int):=by omega
   have i2:(k:Int)≤1000000000:=by omega
   clear e1
   by_cases hd:S[k]'(by omega)=46
   ·have H2:=Lib.hid (show above S.data.toList=S.data.toList.take k by
     have e:S.data.toList=S.data.toList.take k++46::S.data.toList.drop (k + 1):=by
      have h4:S.data.toList[k] = 46:=by rw [← Xs S k (by omega)]; exact hd
      have:=List.take_append_drop k S.data.toList
      rw [List.drop_eq_getElem_cons hkl,h4] at this
      exact this.symm
     have:=Xz (a:=S.data.toList.take k) HNO.out
     rw [← e] at this
     exact this)
    have hq:(((S[k]'(by omega)).toNat:Int) != 46)=false:=by rw [hd]; rfl
    have hq2:((S[k]'(by omega)).toNat:Int)=46:=by rw [hd]; rfl
    clear hd
    go_wp2
    go_ret
    refine ⟨_,rfl,?_,?_,rfl⟩
    ·rw [Sp,H2.out]; simp
    ·rw [v6,Sp,v6]; simp; omega
   ·have hq : ¬ ((S[k]'(by omega)).toNat:Int)=46:=fun h=>hd (UInt8.toNat.inj (by have:(46:UInt8).toNat=46:=rfl; omega))
    have hq2:(((S[k]'(by omega)).toNat:Int) != 46)=true:=by simpa using hq
    have HN2:=Lib.hid (show (46:UInt8) ∉ S.data.toList.drop k by
     rw [List.drop_eq_getElem_cons hkl,List.mem_cons,not_or]
     exact ⟨fun e=>hd (by rw [Xs S k (by omega)]; exact e.symm),HNO.out⟩)
    clear hd
    go_wp2
    go_round
    case rel=>exact ⟨k,by omega,by simp,HN2.out⟩
    case measure=>simp [intOf]
end Go.Proofs.YtmjkjaahbgikjaaGreat
