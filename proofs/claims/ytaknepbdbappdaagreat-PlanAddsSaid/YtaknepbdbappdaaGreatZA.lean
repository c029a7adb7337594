/- My texts, in one. -/
import Derived.Test.YtaknepbdbappdaaGreatRows
import Derived.WalkKit
import Derived.Handy
import Derived.StillTail
import Derived.OrdersHeld
import Derived.Laws.AppendOwn
import Derived.Maps.AppendAt
import Derived.Deep.AppendSrc
import Derived.OwnWalk
import Derived.Below
import Derived.Laws.OwnMore
import Derived.Deep.AppendLies
import Derived.ProofKit
import Derived.Lib.Hide
import Derived.Laws.BytesArg
import Derived.Laws.IdiomStrings
import Derived.Laws.Slices
import Derived.Carry
import Derived.ChangeSlices
import Derived.OpenShut
import Derived.ChangeOld
import Derived.ChangeSame
import Derived.Deep.Slices
import Derived.IntWalk
import Derived.Outline
import Derived.Deep.QuietTactic
import Derived.BigQuiet
import Derived.WalkSmall
import Derived.Laws.Cells
import Derived.Laws.Rows
import Derived.Laws.StructEq
import Derived.Great.BuildSlice
import Derived.Laws.CopyOwn
import Derived.Laws.BytesString
import Derived.Deep.LoopGhost
import Derived.Orders
import Derived.Sort.OwnSortedInts
import Derived.Shelf.Small.Bits
import Derived.Shelf.Strconv.Itoa0
import Derived.Shelf.LaysM
import Derived.Shelf.Strconv.Clone
import Derived.Shelf.Sort.Plain
import Derived.Ground.Names2Prog
import Derived.Shelf.Slices.Clone
import Derived.Shelf.Slices.SearchI
import Derived.Shelf.Slices.In.SortNone
import Derived.Ground.SlgnProg
import Derived.Shelf.SlicesE.Clone
import Derived.Test.YtaknepbdbappdaaGreatProg
import Derived.Test.YtaknepbdbappdaaGreatChecked
import Derived.KernelRfl
import Derived.Laws.MakeOwn
import Derived.Laws.AppendOwnNone
import Derived.RangeFuncNested
import Derived.Lib.SliceRun
import Derived.Lib.Bytealg
import Derived.Lib.FieldsP
import Derived.Lib.ConvBytes
import Derived.Deep.CutRange
import Derived.Laws.Cover1
import Derived.Deep.Strs
import Derived.JoinedOf
import Derived.ChangeMaps
import Derived.JoinedAt
import Derived.RowKit3
import Derived.Lib.SmallJoins
set_option linter.all false
set_option maxRecDepth 100000
set_option maxHeartbeats 4000000
namespace Go.Proofs.YtaknepbdbappdaaGreat
open Go.RowKit
open IntKind (i64)
open Go.Proofs.Tryz (prog)
theorem zb {α β : Type} (a : α) (f : α → Option β) : (some a).bind f = f a := rfl
theorem zg {α : Type} {l : List α} {i : Nat} {a : α} : l[i]? = some a ↔ ∃ h : i < l.length, l[i] = a := List.getElem?_eq_some_iff
theorem zq {α : Type} {l : List α} {i : Nat} (h : i < l.length) : l[i]? = some l[i] := List.getElem?_eq_getElem h
theorem zf : (false = true) = False := by simp
theorem zt (n : Nat) : (n : Int).toNat = n := Int.toNat_natCast n
theorem zm {α β : Type} {f : α → β} {b : β} {x : Option α} : x.map f = some b ↔ ∃ a, x = some a ∧ f a = b := Option.map_eq_some_iff
theorem zd {p : Prop} [Decidable p] (h : decide p = true) : p := of_decide_eq_true h
section
def Ext (w w':World) : Prop:=Below w.heap.size w w'
theorem Ext.refl (w:World) : Ext w w:=Below.refl _ _
theorem Ext.trans {a b c:World} (h:Ext a b) (k:Ext b c) : Ext a c:=Below.trans h (Below.mono k (Below.size h))
theorem Ext.drew (w:World) : Ext w w.drew:=(Below.refl _ _).drew
theorem Ext.size {a b:World} (h:Ext a b) : a.heap.size≤b.heap.size:=Below.size h
theorem Ext.cell {a b:World} (h:Ext a b) {k o:Nat} {v:Value} (hc:a.cell? ⟨k,o,none⟩=some v) : b.cell? ⟨k,o,none⟩=some v:=by
 rw [Below.cell h (p:=⟨k,o,none⟩) (World.block_lt_of_cell? a _ hc)]; exact hc
section
variable {P:Program} {ops:Array Oper} {Q:Exit→Act→World→Prop} {md:Region.Mode}
def OkX (P:Program) (v:Value) (w:World) : Result Next→Prop
 | .ok (.value u) w'=>u=v∧Ext w w'
 | .ok (.enter f args) w'=>Ext w w'∧Calls P f args w' fun e w''=>e = .returned v∧Ext w' w''
 | _=>False
theorem OkX.val {v:Value} {w:World} : OkX P v w (.ok (.value v) w):=⟨rfl,Ext.refl _⟩
end
end
section
def Lw (w w':World) (v:Value) (n:Nat) : Prop :=
 ∀ (base:Nat) (e:TypeId) (u:Value) (k:Nat) (ys:List Value),w.ownsRow base e 1 u k ys→(u.ownBlock=v.ownBlock→k≤n)→w'.ownsRow base e 1 u k ys
theorem Mh {w w':World} {base:Nat} {e:TypeId} {u:Value} {k:Nat} {ys:List Value} (h:w.ownsRow base e 1 u k ys) (hb:∀ g,u.ownBlock=some g→w'.heap[g]? = w.heap[g]?) : w'.ownsRow base e 1 u k ys:=by
 refine ⟨h.1,?_⟩
 rcases h.2 with hn | ⟨g,cap,cur,rfl,hbg,hg,hr⟩
 ·exact .inl hn
 ·exact .inr ⟨g,cap,cur,rfl,hbg,(hb g rfl).trans hg,hr⟩
section
variable {P:Program} (w:World)
theorem JH (t tx ty e:TypeId) (i:TypeInfo) (ht:P.underlying t=some (.slice e)) (hi:P.info? e=some i) (hs1:i.size=1)
  (g sLen sCap:Nat) (cur:Array Value) (hg:w.heap[g]? = some (.cells cur e (0,0))) (x:Value) (n:Nat) (news:List Value) (hs:Src P 1 tx x n news w)
  (hroom:sLen + n≤sCap) (hfit:sLen + n≤cur.size) :
  (Builtin.append_ #[t,tx] ty #[.slice (some ⟨g,0,none⟩) sLen sCap,x]).run P w =
   .ok (.slice (some ⟨g,0,none⟩) (sLen + n) sCap) (w.setRow g (cur.toList.take sLen++news++cur.toList.drop (sLen + n)).toArray):=by
 have hl:=hs.newsLen
 have hst:=run_storeCells_at P g sLen e news 0 cur w hg (by omega) hs.one
 have e1:news.length=n:=by omega
 simp only [Nat.add_zero,e1] at hst
 have hc:=hs.cells
 rcases hs.kind with ⟨e',hk⟩ | hk <;> simp [Builtin.append_,run_underlying ht,run_underlying hk,sizeOf,typeInfo,hi,hs1,hs.len,hroom,hc,Addr.add_lit,hst]
theorem LS (base:Nat) (t tx ty e:TypeId) (i:TypeInfo) (z:Value) (bytes:Nat) (ht:P.underlying t=some (.slice e)) (hi:P.info? e=some i) (hz:i.zero=some z)
  (hsize:i.size=1) (hby:i.bytes=bytes) (hzs:z.cells.size=1)
  (v:Value) (n:Nat) (xs:List Value) (hown:w.ownsRow base e 1 v n xs) (x:Value) (m:Nat) (news:List Value) (hs:Src P 1 tx x m news w)
  (h63:n + m≤maxLen) (hbytes:(n + m) * bytes≤140737488355328) (hbase:base≤w.heap.size) :
  ∃ v' w',(Builtin.append_ #[t,tx] ty #[v,x]).run P w = .ok v' w'∧w'.ownsRow base e 1 v' (n + m) (xs++news)∧w.grownBy w' v.ownBlock ∧
   (v'.ownBlock=v.ownBlock∨v'.ownBlock=some w.heap.size)∧Lw w w' v n:=by
 subst hby
 have hl:news.length=m:=by have:=hs.newsLen; omega
 have hsmall:n + m≤9223372036854775807:=by simp only [maxLen] at h63; omega
 have hlen:(xs++news).length=(n + m) * 1:=by rw [List.length_append,hown.1,hl]; omega
 have grown:∀ (old:Nat),old < n + m→∀ (row:Option Nat),
   (w.drew.alloc (.cells ((xs++news).toArray++Builtin.zeroCells z.cells (grownCap w (n + m) old e - (n + m))) e)).ownsRow base e 1
    (.slice (some ⟨w.heap.size,0,none⟩) (n + m) (grownCap w (n + m) old e)) (n + m) (xs++news) ∧
   w.grownBy (w.drew.alloc (.cells ((xs++news).toArray++Builtin.zeroCells z.cells (grownCap w (n + m) old e - (n + m))) e)) row ∧
   Lw w (w.drew.alloc (.cells ((xs++news).toArray++Builtin.zeroCells z.cells (grownCap w (n + m) old e - (n + m))) e)) v n:=by
  intro old ho row
  have hge:=grownCap_ge w (n + m) old e
  have hcm:grownCap w (n + m) old e≤maxLen:=grownCap_le_maxLen w (n + m) old e h63
  refine ⟨⟨hlen,.inr ⟨w.heap.size,_,_,rfl,hbase,heap_alloc_new w.drew _,hge,hcm,?_,?_⟩⟩,⟨rfl,rfl,rfl,by simp,fun k hk _=>heap_alloc_old w.drew _ hk⟩,?_⟩
  ·simp only [Array.size_append,List.size_toArray,size_zeroCells,hzs,hlen]
   omega
  ·simp only [Array.toList_append]
   rw [← hlen]
   exact List.take_left
  ·intro b' e' u k ys hu _
   exact Mh hu fun g hg=>heap_alloc_old w.drew _ (hu.lt g hg).2
 rcases hown.2 with ⟨rfl,rfl⟩ | ⟨g,cap,cur,rfl,hbg,hg,hnc,hcm,hcs,htake⟩
 ·have hx:xs = []:=List.eq_nil_of_length_eq_zero (by simpa using hown.1)
  subst hx
  by_cases hm:m=0
  ·subst hm
   have hn:news = []:=List.eq_nil_of_length_eq_zero hl
   subst hn
   refine ⟨.slice none 0 0,w,?_,World.ownsRow_nil w base e 1,World.grownBy.refl w _,.inl rfl,fun _ _ _ _ _ hu _=>hu⟩
   have hc:=hs.cells
   rcases hs.kind with ⟨e',hk⟩ | hk <;> simp [Builtin.append_,run_underlying ht,run_underlying hk,sizeOf,typeInfo,hi,hsize,hs.len,hc]
  ·have hr:=run_append_grow_src (P:=P) w t tx ty e i z ht hi hz none 0 0 [] (by simpa using run_firstCells_none w.drew i.size 0 0 0) x m news (by rw [hsize]; exact hs) (by omega) (by omega) (by
    have hb:=hbytes; rw [Nat.zero_add] at hb ⊢; rw [nextslicecap_zero (by omega)]; omega)
   have hgr:=grown 0 (by omega) (Value.ownBlock (.slice none 0 0))
   exact ⟨_,_,hr,hgr.1,hgr.2.1,.inr rfl,hgr.2.2⟩
 ·by_cases hroom:n + m≤cap
  ·have hfit:n + m≤cur.size:=by omega
   have hr:=JH (P:=P) w t tx ty e i ht hi hsize g n cap cur hg x m news hs hroom hfit
   have e1:n * 1=n:=by omega
   rw [e1] at htake
   refine ⟨_,_,hr,⟨hlen,.inr ⟨g,cap,_,rfl,hbg,setRow_heap w g cur _ e _ hg,hroom,hcm,?_,?_⟩⟩,⟨rfl,rfl,rfl,by simp,fun k _ hk=>setRow_other w g k _ (fun e=>hk (by simp [Value.ownBlock,e]))⟩,.inl rfl,?_⟩
   ·simp only [List.size_toArray,List.length_append,List.length_take,List.length_drop,Array.length_toList]
    omega
   ·rw [htake,← hlen]
    exact List.take_left
   ·intro b' e' u k ys hu hk
    by_cases hug:u.ownBlock=some g
    ·have hkn:k≤n:=hk hug
     refine ⟨hu.1,?_⟩
     rcases hu.2 with h0 | ⟨g',cap',cur',rfl,hb',hg',hk',hm',hcs',ht'⟩
     ·exact .inl h0
     ·have:g' = g:=by simpa [Value.ownBlock] using hug
      subst this
      rw [hg] at hg'
      injection hg' with hg'
      injection hg' with h1 h2
      subst h1 h2
      refine .inr ⟨g',cap',_,rfl,hb',setRow_heap w g' cur _ e _ hg,hk',hm',?_,?_⟩
      ·simp only [List.size_toArray,List.length_append,List.length_take,List.length_drop,Array.length_toList]
       omega
      ·rw [← ht']
       simp only [Nat.mul_one]
       rw [List.append_assoc,List.take_append_of_le_length (by simp; omega),List.take_take,Nat.min_eq_left hkn]
    ·exact Mh hu fun g' hg'=>setRow_other w g g' _ (fun e=>hug (by rw [hg',e]))
  ·have holds:∀ j u,xs[j]? = some u→w.cell? ((⟨g,0,none⟩ : Addr).add j)=some u:=hown.cells (g:=g) rfl
   have hr:=run_append_grow_src (P:=P) w t tx ty e i z ht hi hz (some ⟨g,0,none⟩) n cap xs (run_firstCells_some w.drew i.size n ⟨g,0,none⟩ n cap xs (by rw [hsize]; exact hown.1) (by simpa using holds)) x m news (by rw [hsize]; exact hs) (by omega) (by omega) (growslice_fits (by omega) hbytes)
   have hgr:=grown cap (by omega) (Value.ownBlock (.slice (some ⟨g,0,none⟩) n cap))
   exact ⟨_,_,hr,hgr.1,hgr.2.1,.inr rfl,hgr.2.2⟩
theorem OM {o:Oper} {a:Act} {K:Act→World→Prop} {Q:Exit→Act→World→Prop} (s y:Operand) (t tx:TypeId)
  (ho:o.op = .call { callee:=.builtin .append,args:=#[s,y],argTypes:=#[t,tx] })
  (base:Nat) (e:TypeId) (i:TypeInfo) (z:Value) (bytes:Nat) (ht:P.underlying t=some (.slice e)) (hi:P.info? e=some i) (hz:i.zero=some z)
  (hsize:i.size=1) (hby:i.bytes=bytes) (hzs:z.cells.size=1)
  (v:Value) (n:Nat) (xs:List Value) (hs:a.eval s=v) (hown:w.ownsRow base e 1 v n xs) (x:Value) (m:Nat) (news:List Value) (hx:a.eval y=x) (hr:Src P 1 tx x m news w)
  (h63:n + m≤maxLen) (hbytes:(n + m) * bytes≤140737488355328) (hbase:base≤w.heap.size)
  (h:∀ v' w',w'.ownsRow base e 1 v' (n + m) (xs++news)→w.grownBy w' v.ownBlock→(v'.ownBlock=v.ownBlock∨v'.ownBlock=some w.heap.size)→Lw w w' v n→K (a.put o.dst v') w') : o.wp P a w K Q:=by
 obtain ⟨v',w',hrun,h2,h3,h4,h5⟩:=LS (P:=P) w base t tx o.type e i z bytes ht hi hz hsize hby hzs v n xs hown x m news hr h63 hbytes hbase
 unfold Oper.wp execOp
 simp only [ho,resolve,invoke,builtin,Sem.run_bind,Sem.run_pure,Result.andThen_ok,List.map_toArray,List.map_cons,List.map_nil,hs,hx,hrun]
 exact h v' w' h2 h3 h4 h5
theorem DP {ops:Array Oper} {rest:List Oper} {o:Oper} {a:Act} {Q:Exit→Act→World→Prop} (hgd:o.guard=none) (s y:Operand) (t tx:TypeId)
  (ho:o.op = .call { callee:=.builtin .append,args:=#[s,y],argTypes:=#[t,tx] })
  (base:Nat) (e:TypeId) (i:TypeInfo) (z:Value) (bytes:Nat) (ht:P.underlying t=some (.slice e)) (hi:P.info? e=some i) (hz:i.zero=some z)
  (hsize:i.size=1) (hby:i.bytes=bytes) (hzs:z.cells.size=1)
  (v:Value) (n:Nat) (xs:List Value) (hs:a.eval s=v) (hown:w.ownsRow base e 1 v n xs) (x:Value) (m:Nat) (news:List Value) (hx:a.eval y=x) (hr:Src P 1 tx x m news w)
  (h63:n + m≤maxLen) (hbytes:(n + m) * bytes≤140737488355328) (hbase:base≤w.heap.size)
  (h:∀ v' w',w'.ownsRow base e 1 v' (n + m) (xs++news)→w.grownBy w' v.ownBlock→(v'.ownBlock=v.ownBlock∨v'.ownBlock=some w.heap.size)→Lw w w' v n→wpList P ops Q rest (a.put o.dst v') w') :
  wpList P ops Q (o::rest) a w :=
 wpList_plain hgd fun _ hK=>OM w s y t tx ho base e i z bytes ht hi hz hsize hby hzs v n xs hs hown x m news hx hr h63 hbytes hbase fun v' w' h2 h3 h4 h5=>hK _ _ (h v' w' h2 h3 h4 h5)
end
end
def Rd (w:World) (v:Value) (xs:List Value) : Prop :=
 ∃ A c,v = .slice A xs.length c∧xs.length≤c∧c≤maxLen∧(0 < xs.length→∃ a,A=some a∧a.block < w.heap.size∧∀ j u,xs[j]? = some u→w.cell? (a.add j)=some u)
theorem da (a:Addr) (n:Nat) : (a.add n).block=a.block:=by unfold Addr.add; split <;> rfl
theorem Rd.ext {w w':World} {v:Value} {xs:List Value} (h:Rd w v xs) (k:Ext w w') : Rd w' v xs:=by
 obtain ⟨A,c,rfl,h1,h2,h3⟩:=h
 refine ⟨A,c,rfl,h1,h2,fun hn=>?_⟩
 obtain ⟨a,rfl,hb,hc⟩:=h3 hn
 exact ⟨a,rfl,Nat.lt_of_lt_of_le hb k.size,fun j u hu=>(Below.cell k (p:=a.add j) (by rw [da]; exact hb)).trans (hc j u hu)⟩
theorem Ext.trans' {w a b:World} (h:Ext w a) (k:Below w.heap.size a b) : Ext w b:=Below.trans h k
theorem cL {w w':World} {r:Option Nat} (h:w.grownBy w' r) {B:Nat} (hB:B≤w.heap.size) (hr:∀ k,r=some k→B≤k) : Below B w w' :=
 ⟨h.os,h.tape,h.output,h.size,fun k hk=>h.block k (by omega) (fun e=>by have:=hr k e.symm; omega)⟩
theorem Rd.src {P:Program} {w:World} {x:Value} {news:List Value} (h:Rd w x news) (h1:∀ u∈news,u.oneCell' = true) {tx e':TypeId} (hk:P.underlying tx=some (.slice e')) : Src P 1 tx x news.length news w:=by
 obtain ⟨A,c,rfl,hc1,hc2,hcell⟩:=h
 by_cases h0:news.length=0
 ·have hn:news = []:=List.eq_nil_of_length_eq_zero h0
  subst hn
  cases A with
  | some a=>exact Src.ofSlice w hk a 0 c [] rfl (by simp) h1
  | none=>exact Src.ofNil w hk c
 ·obtain ⟨a,rfl,_,hcs⟩:=hcell (by omega)
  exact Src.ofSlice w hk a news.length c news (by simp) hcs h1
theorem Rd.one (w:World) (x:Value) (t:TypeId) (n c:Nat) (hn:n=1) (hc:c=1) : Rd (w.alloc (.cells #[x] t)) (.slice (some ⟨w.heap.size,0,none⟩) n c) [x]:=by
 subst hn hc
 exact ⟨_,_,rfl,Nat.le_refl _,by simp [maxLen],fun _=>⟨_,rfl,by simp,cell_one_new w x t⟩⟩
theorem XU {P:Program} {code:Code} {Q:Exit→Act→World→Prop} {a:Act} {w:World} (h:∀ W0,W0=w→code.wp P Q a W0) : code.wp P Q a w:=h w rfl
theorem MZ {a n:Int} (hn : 0 < n) (h:a.tmod n < 0) : a % n=a.tmod n + n:=by
 have h2:=@Int.tmod_eq_emod a n
 have h0 : ¬ 0≤a:=fun h0=>by have:=Int.tmod_nonneg n h0; omega
 rw [h2]; rw [h2] at h
 split at h
 ·have:=Int.emod_nonneg a (show n≠0 by omega); omega
 ·rw [if_neg (by assumption)]; omega
theorem MY {a n:Int} (hn : 0 < n) (h : ¬ a.tmod n < 0) : a % n=a.tmod n:=by
 have h2:=@Int.tmod_eq_emod a n
 rw [h2]; rw [h2] at h
 split at h
 ·rw [if_pos (by assumption)]; omega
 ·have:=Int.emod_lt_of_pos a hn; omega
section
theorem Ext.cell' {a b:World} (h:Ext a b) {p:Addr} {v:Value} (hc:a.cell? p=some v) : b.cell? p=some v:=by
 rw [Below.cell h (p:=p) (World.block_lt_of_cell? a _ hc)]; exact hc
section
variable {P:Program} {T e:TypeId} {A:Option Addr} {n c:Nat}
end
theorem Ip {w:World} {v:Value} {l:List Int} (h:Rd w v (l.map (Value.int .i64))) : ∃ A N c,v = .slice A N c∧N=l.length∧N≤c∧c≤9223372036854775807 ∧
  (0 < N→∃ a,A=some a∧a.block < w.heap.size∧∀ k (hk:k < l.length),w.cell? (a.add k)=some (.int .i64 l[k])):=by
 obtain ⟨A,c,rfl,h1,h2,h3⟩:=h
 rw [List.length_map] at *
 unfold maxLen at h2
 refine ⟨A,_,c,rfl,rfl,h1,by omega,fun hn=>?_⟩
 obtain ⟨a,rfl,hb,hc⟩:=h3 hn
 exact ⟨a,rfl,hb,fun k hk=>hc k (.int .i64 l[k]) (by simp [hk])⟩
end
section
open Go.ChangeShapes Go.WideShapes Go.ChangeAt Go.RowKit
section
variable {H:Type} {enc:TypeId×Value→H} {P:Program} {w:World} {base:Nat} {spare:Nat→Bool} {held:Bool} {r:Reach} {b0:Nat}
end
end
section
open Go.ChangeShapes Go.WideShapes Go.ChangeAt Go.RowKit Go.Deep
section
variable {H:Type} {enc:TypeId×Value→H} {P:Program} {w:World} {base:Nat} {spare:Nat→Bool} {held:Bool} {r:Reach} {b0:Nat}
end
end
theorem aU (w:World) (o:Obj) : Ext w (w.alloc o):=(Below.refl _ _).alloc (Nat.le_refl _) o
theorem yX {w w':World} {b o:Nat} (h:Ext w w') (hb:w.heap.size≤b) (v:Value) : Ext w (w'.setCell ⟨b,o,none⟩ v):=Below.setCell h (p:=⟨b,o,none⟩) hb v
inductive D where
 | v (x:Value)
 | sl (es:List (List D))
inductive d7 (w:World) (F:Nat→Prop) : Value→D→Prop
 | v (x:Value) (h1:x.oneCell' = true) : d7 w F x (.v x)
 | sl (A:Option Addr) (n c k:Nat) (es:List (List D)) (us:Nat→Value) (hn:n=es.length) (hc:n≤c) (hm:c≤maxLen) (hk:∀ e∈es,e.length=k)
   (hA : 0 < n→∃ a,A=some a∧F a.block) (hA0:A=none→c=0) (hcell:∀ a j d,A=some a→es.flatten[j]? = some d→w.cell? (a.add j)=some (us j))
   (hrep:∀ j d,es.flatten[j]? = some d→d7 w F (us j) d) : d7 w F (.slice A n c) (.sl es)
theorem d7.mono {w w':World} {F F':Nat→Prop} {x:Value} {d:D} (h:d7 w F x d) (hF:∀ g,F g→F' g) (hw:∀ g,F g→w'.heap[g]? = w.heap[g]?) : d7 w' F' x d:=by
 induction h with
 | v x h1=>exact .v x h1
 | sl A n c k es us hn hc hm hk hA hA0 hcell hrep ih =>
  refine .sl A n c k es us hn hc hm hk (fun h=>(hA h).imp fun a ha=>⟨ha.1,hF _ ha.2⟩) hA0 (fun a j d ha hj=>?_) ih
  have h0 : 0 < n:=by
   rw [hn]
   rcases es with _ | ⟨e,es⟩
   ·simp at hj
   ·simp
  obtain ⟨a',ha',hFa⟩:=hA h0
  rw [ha] at ha'
  injection ha' with ha'
  subst ha'
  exact (World.cell?_of_block (w:=w) (w':=w') (a:=a.add j) (by rw [da]; exact hw _ hFa)).trans (hcell a j d ha hj)
theorem d7.one {w:World} {F:Nat→Prop} {x:Value} {d:D} (h:d7 w F x d) : x.oneCell' = true:=by
 cases h with
 | v x h1=>exact h1
 | sl=>rfl
def nrm:D→D
 | .v (.slice none 0 0)=>.sl []
 | d=>d
theorem d7.nrm {w:World} {F:Nat→Prop} {x:Value} {d:D} (h:d7 w F x d) : d7 w F x (nrm d):=by
 unfold Go.Proofs.YtaknepbdbappdaaGreat.nrm
 split
 ·cases h with
  | v _ h1=>exact .sl none 0 0 0 [] (fun _=>undef) rfl (Nat.le_refl _) (by simp [maxLen]) (by simp) (by omega) (fun _=>rfl) (by simp) (by simp)
 ·exact h
inductive PV where
 | junk
 | d (x:D)
 | ag (cs:List PV)
 | tup (vs:List PV)
 | ptr (t off:Nat)
 | row (t n:Nat)
 | re (t n i off:Nat)
 | vw (t n lo hi:Nat)
 | fe (cs:List D)
 | fn (f:FuncId) (ps qs:List PV)
inductive Box where
 | st (ty:TypeId) (cs:List PV)
 | rw (e k:Nat) (es:List (List D))
inductive aR (ρ : Nat→Value) (b:Nat→Option Box) (w:World) (F:Nat→Prop) : Value→PV→Prop
 | junk (x:Value) : aR ρ b w F x .junk
 | d (x:Value) (d:D) (h:d7 w F x d) : aR ρ b w F x (.d d)
 | ag (xs:Array Value) (cs:List PV) (hl:xs.size=cs.length) (h1:∀ x∈xs,x.oneCell' = true) (hr:∀ (j:Nat) x c,xs[j]? = some x→cs[j]? = some c→aR ρ b w F x c) : aR ρ b w F (.agg xs) (.ag cs)
 | tup (xs:Array Value) (cs:List PV) (hl:xs.size=cs.length) (hr:∀ (j:Nat) x c,xs[j]? = some x→cs[j]? = some c→aR ρ b w F x c) : aR ρ b w F (.tuple xs) (.tup cs)
 | ptr (t off g:Nat) (ty:TypeId) (cs:List PV) (hb:b t=some (.st ty cs)) (hρ : ρ t = .pointer (some ⟨g,0,none⟩)) : aR ρ b w F (.pointer (some ⟨g,off,none⟩)) (.ptr t off)
 | row (t n:Nat) (A:Option Addr) (c e k:Nat) (es:List (List D)) (hb:b t=some (.rw e k es)) (hn:n≤es.length) (hc:n≤c) (hA : 0 < n→∃ a,A=some a) (hρ : es.length=n→ρ t = .slice A n c) : aR ρ b w F (.slice A n c) (.row t n)
 | re (t n i off:Nat) (a:Addr) (e k:Nat) (es:List (List D)) (hb:b t=some (.rw e k es)) (hn:n≤es.length) (hi:i < n) (hρ : es.length=n→∃ g c,ρ t = .slice (some ⟨g,0,none⟩) n c∧a=⟨g,i * k + off,none⟩) : aR ρ b w F (.pointer (some a)) (.re t n i off)
 | vw (t n lo hi:Nat) (A:Option Addr) (m c e k:Nat) (es:List (List D)) (hb:b t=some (.rw e k es)) (hn:n≤es.length) (hl:lo≤hi) (hh:hi≤n) (hm:m=hi - lo) (hρ : es.length=n→∃ A' c',ρ t = .slice A' n c'∧Value.slice A m c=sliced A' lo hi c' k) : aR ρ b w F (.slice A m c) (.vw t n lo hi)
 | fe (a:Addr) (cs:List D) (us:Nat→Value) (hF:F a.block) (hcell:∀ (j:Nat) d,cs[j]? = some d→w.cell? (a.add j)=some (us j)) (hrep:∀ (j:Nat) d,cs[j]? = some d→d7 w F (us j) d) : aR ρ b w F (.pointer (some a)) (.fe cs)
 | fn (f:FuncId) (xs ys:Array Value) (ps qs:List PV) (hl:xs.size=ps.length) (hr:∀ (j:Nat) x c,xs[j]? = some x→ps[j]? = some c→aR ρ b w F x c) (hl2:ys.size=qs.length) (hr2:∀ (j:Nat) x c,ys[j]? = some x→qs[j]? = some c→aR ρ b w F x c) : aR ρ b w F (.func (.func f) xs ys) (.fn f ps qs)
structure Stp (ρ : Nat→Value) (b:Nat→Option Box) (w:World) (F:Nat→Prop) (ρ':Nat→Value) (b':Nat→Option Box) (w':World) (F':Nat→Prop) : Prop where
 hF:∀ g,F g→F' g
 hw:∀ g,F g→w'.heap[g]? = w.heap[g]?
 hst:∀ t ty cs,b t=some (.st ty cs)→(∃ ty' cs',b' t=some (.st ty' cs'))∧ρ' t = ρ t
 hrw:∀ t e k es,b t=some (.rw e k es)→∃ e' es',b' t=some (.rw e' k es')∧es.length≤es'.length∧(es'.length=es.length→ρ' t = ρ t)
theorem Stp.refl (ρ : Nat→Value) (b:Nat→Option Box) (w:World) (F:Nat→Prop) : Stp ρ b w F ρ b w F :=
 ⟨fun _ h=>h,fun _ _=>rfl,fun _ ty cs h=>⟨⟨ty,cs,h⟩,rfl⟩,fun _ e _ es h=>⟨e,es,h,Nat.le_refl _,fun _=>rfl⟩⟩
theorem aR.mono {ρ ρ':Nat→Value} {b b':Nat→Option Box} {w w':World} {F F':Nat→Prop} {x:Value} {p:PV} (h:aR ρ b w F x p) (s:Stp ρ b w F ρ' b' w' F') : aR ρ' b' w' F' x p:=by
 induction h with
 | junk x=>exact .junk x
 | d x d h=>exact .d x d (h.mono s.hF s.hw)
 | ag xs cs hl h1 hr ih=>exact .ag xs cs hl h1 ih
 | tup xs cs hl hr ih=>exact .tup xs cs hl ih
 | ptr t off g ty cs hb hρ =>
  obtain ⟨⟨ty',cs',hb'⟩,e⟩:=s.hst t ty cs hb
  exact .ptr t off g ty' cs' hb' (e.trans hρ)
 | row t n A c e k es hb hn hc hA hρ =>
  obtain ⟨e',es',hb',hle,hq⟩:=s.hrw t e k es hb
  exact .row t n A c e' k es' hb' (by omega) hc hA (fun h=>by rw [hq (by omega)]; exact hρ (by omega))
 | re t n i off a e k es hb hn hi hρ =>
  obtain ⟨e',es',hb',hle,hq⟩:=s.hrw t e k es hb
  exact .re t n i off a e' k es' hb' (by omega) hi (fun h=>by rw [hq (by omega)]; exact hρ (by omega))
 | vw t n lo hi A m c e k es hb hn hl hh hm hρ =>
  obtain ⟨e',es',hb',hle,hq⟩:=s.hrw t e k es hb
  exact .vw t n lo hi A m c e' k es' hb' (by omega) hl hh hm (fun h=>by rw [hq (by omega)]; exact hρ (by omega))
 | fn f xs ys ps qs hl hr hl2 hr2 ih ih2=>exact .fn f xs ys ps qs hl ih hl2 ih2
 | fe a cs us hF hcell hrep =>
  refine .fe a cs us (s.hF _ hF) (fun j d hj=>?_) (fun j d hj=>(hrep j d hj).mono s.hF s.hw)
  exact (World.cell?_of_block (w:=w) (w':=w') (a:=a.add j) (by rw [da]; exact s.hw _ hF)).trans (hcell j d hj)
def blk:Value→Option Nat
 | .pointer (some a)=>some a.block
 | .slice (some a) _ _=>some a.block
 | _=>none
structure WM where
 w:World
 M:Nat→Prop
 R:Nat→Option (Value×Option (Nat×Nat))
def WM.own (w0:WM) (g:Nat) : Prop:=w0.w.heap.size≤g∨w0.M g
structure GY (w0:WM) (w:World) : Prop where
 os:w.os=w0.w.os
 tape:w.tape=w0.w.tape
 output:w.output=w0.w.output
 size:w0.w.heap.size≤w.heap.size
 block:∀ g,g < w0.w.heap.size→¬ w0.M g→w.heap[g]? = w0.w.heap[g]?
theorem GY.of {w0:WM} (w:World) (h:w0.w=w) : GY w0 w:=by subst h; exact ⟨rfl,rfl,rfl,Nat.le_refl _,fun _ _ _=>rfl⟩
theorem GY.step {w0:WM} {w w':World} (h:GY w0 w) (h1:w'.os=w.os) (h2:w'.tape=w.tape) (h3:w'.output=w.output) (h4:w.heap.size≤w'.heap.size) (h5:∀ g,g < w0.w.heap.size→¬ w0.M g→w'.heap[g]? = w.heap[g]?) : GY w0 w' :=
 ⟨h1.trans h.os,h2.trans h.tape,h3.trans h.output,Nat.le_trans h.size h4,fun g hg hM=>(h5 g hg hM).trans (h.block g hg hM)⟩
theorem GY.trans {w0:WM} {w w':World} (h:GY w0 w) (k:Ext w w') : GY w0 w':=h.step k.os k.tape k.output k.size fun g hg _=>k.block g (Nat.lt_of_lt_of_le hg h.size)
theorem vI {w0:WM} {g:Nat} (hg:g < w0.w.heap.size) (hM : ¬ w0.M g) : ¬ w0.own g:=fun h=>h.elim (fun h=>by omega) hM
inductive jC (ρ : Nat→Value) (b:Nat→Option Box) (own:Nat→Prop) (w:World) (F:Nat→Prop) (t:Nat) : Box→Prop
 | st (ty:TypeId) (cs:List PV) (g:Nat) (xs:Array Value) (hρ : ρ t = .pointer (some ⟨g,0,none⟩)) (hg:own g) (hF : ¬ F g) (hh:w.heap[g]? = some (.cells xs ty (0,0))) (hl:xs.size=cs.length)
   (h1:∀ x∈xs,x.oneCell' = true) (hr:∀ (j:Nat) x c,xs[j]? = some x→cs[j]? = some c→aR ρ b w F x c) : jC ρ b own w F t (.st ty cs)
 | rw (e k:Nat) (es:List (List D)) (xs:List Value) (hk0 : 0 < k) (ho:w.ownsRow 0 e k (ρ t) es.length xs) (hF:∀ g,blk (ρ t)=some g→¬ F g) (hk:∀ x∈es,x.length=k) (hl:xs.length=es.flatten.length)
   (hr:∀ (j:Nat) x d,xs[j]? = some x→es.flatten[j]? = some d→d7 w F x d) (hown:∀ g,blk (ρ t)=some g→own g) : jC ρ b own w F t (.rw e k es)
 | gn (e k:Nat) (es:List (List D)) (hρ : ρ t = .tuple #[]) : jC ρ b own w F t (.rw e k es)
def p6 (ρ : Nat→Value) (b:Nat→Option Box) (t:Nat) : Value×Option (Nat×Nat)→Prop
 | (x,none)=>b t=none∨((∃ ty cs,b t=some (.st ty cs))∧ρ t=x)
 | (x,some (k,n0))=>b t=none∨∃ e es,b t=some (.rw e k es)∧n0≤es.length∧(es.length=n0→ρ t=x)
theorem p6.mono {ρ ρ':Nat→Value} {b b':Nat→Option Box} {t:Nat} {q:Value×Option (Nat×Nat)} (h:p6 ρ b t q) (h0:b t=none→b' t=none) (h1:∀ ty cs,b t=some (.st ty cs)→(∃ ty' cs',b' t=some (.st ty' cs'))∧ρ' t = ρ t)
  (h2:∀ e k es,b t=some (.rw e k es)→∃ e' es',b' t=some (.rw e' k es')∧es.length≤es'.length∧(es'.length=es.length→ρ' t = ρ t)) : p6 ρ' b' t q:=by
 obtain ⟨x,q⟩:=q
 cases q with
 | none =>
  rcases h with h | ⟨⟨ty,cs,h⟩,hx⟩
  ·exact .inl (h0 h)
  ·obtain ⟨m1,m2⟩:=h1 ty cs h
   exact .inr ⟨m1,m2.trans hx⟩
 | some q =>
  obtain ⟨k,n0⟩:=q
  rcases h with h | ⟨e,es,h,hn,hx⟩
  ·exact .inl (h0 h)
  ·obtain ⟨e',es',m1,m2,m3⟩:=h2 e k es h
   exact .inr ⟨e',es',m1,by omega,fun he=>by rw [m3 (by omega)]; exact hx (by omega)⟩
theorem p6.same {ρ ρ':Nat→Value} {b b':Nat→Option Box} {t:Nat} {q:Value×Option (Nat×Nat)} (h:p6 ρ b t q) (h0:b' t=b t) (h1 : ρ' t = ρ t) : p6 ρ' b' t q :=
 h.mono (fun e=>h0.trans e) (fun ty cs e=>⟨⟨ty,cs,h0.trans e⟩,h1⟩) (fun e k es he=>⟨e,es,h0.trans he,Nat.le_refl _,fun _=>h1⟩)
theorem p6.less {ρ : Nat→Value} {b b':Nat→Option Box} {t:Nat} {q:Value×Option (Nat×Nat)} (h:p6 ρ b t q) (h0:b' t=none∨b' t=b t) : p6 ρ b' t q:=by
 rcases h0 with h0 | h0
 ·obtain ⟨x,q⟩:=q
  cases q with
  | none=>exact .inl h0
  | some q=>exact .inl h0
 ·exact h.same h0 rfl
structure Inv (w0:WM) (F0:Nat→Prop) (ρ : Nat→Value) (b:Nat→Option Box) (w:World) (F:Nat→Prop) : Prop where
 ext:GY w0 w
 f0:∀ g,F0 g→F g
 flt:∀ g,F g→g < w.heap.size
 fnew:∀ g,F g→F0 g∨w0.own g
 box:∀ t B,b t=some B→jC ρ b w0.own w F t B
 dist:∀ t t' B B' g,b t=some B→b t' = some B'→t≠t'→blk (ρ t)=some g→blk (ρ t')≠some g
 reg:∀ t q,w0.R t=some q→1000000≤t∧p6 ρ b t q
theorem Inv.reg_stp {w0:WM} {F0:Nat→Prop} {ρ ρ':Nat→Value} {b b':Nat→Option Box} {w w':World} {F F':Nat→Prop} (hi:Inv w0 F0 ρ b w F) (hs:Stp ρ b w F ρ' b' w' F') (hn:∀ t,1000000≤t→b t=none→b' t=none) : ∀ t q,w0.R t=some q→1000000≤t∧p6 ρ' b' t q:=by
 intro t q h
 obtain ⟨h1,h2⟩:=hi.reg t q h
 exact ⟨h1,h2.mono (hn t h1) (hs.hst t) (hs.hrw t)⟩
structure PS where
 t:Nat→PV
 b:Nat→Option Box
def dc (b:Nat→Option Box) (u:Option (Nat×Box)) : Nat→Option Box:=fun i=>match u with | some (j,B)=>if i=j then some B else b i | none=>b i
def xi (t:Nat→PV) (dst:Option Nat) (r:PV) : Nat→PV:=fun i=>if dst=some i then r else t i
def PS.upd (s:PS) (dst:Option Nat) (r:PV) (u:Option (Nat×Box)) : PS:=⟨xi s.t dst r,dc s.b u⟩
def ow (n:Nat) (w0:WM) (F0:Nat→Prop) (s:PS) (a:Act) (w:World) : Prop :=
 a.tmps.size=n∧a.defers = []∧∃ ρ F,Inv w0 F0 ρ s.b w F∧∀ i,aR ρ s.b w F (a.tmps.getD i undef) (s.t i)
def Out (w0:WM) (F0:Nat→Prop) (ρ : Nat→Value) (b:Nat→Option Box) (w:World) (F:Nat→Prop) (res:Result Next) (r:PV) (u:Option (Nat×Box)) : Prop :=
 ∃ v w' ρ' F',(res = .ok (.value v) w'∨(res = .ok .skip w'∧v=undef))∧Inv w0 F0 ρ' (dc b u) w' F'∧Stp ρ b w F ρ' (dc b u) w' F'∧aR ρ' (dc b u) w' F' v r
theorem Out.pure {w0:WM} {F0:Nat→Prop} {ρ : Nat→Value} {b:Nat→Option Box} {w:World} {F:Nat→Prop} {res:Result Next} {r:PV} {v:Value} (hi:Inv w0 F0 ρ b w F) (h:res = .ok (.value v) w) (hr:aR ρ b w F v r) : Out w0 F0 ρ b w F res r none :=
 ⟨v,w,ρ,F,.inl h,hi,Stp.refl _ _ _ _,hr⟩
section
section
variable {ρ ρ':Nat→Value} {b b':Nat→Option Box} {w w':World} {w0:WM} {F F' F0:Nat→Prop}
structure cG (ρ : Nat→Value) (b:Nat→Option Box) (w:World) (F:Nat→Prop) (xs:List Value) (cs:List PV) : Prop where
 len:xs.length=cs.length
 rep:∀ (j:Nat) x c,xs[j]? = some x→cs[j]? = some c→aR ρ b w F x c
theorem cG.nil:cG ρ b w F [] []:=⟨rfl,fun j x c h=>by simp at h⟩
theorem cG.cons {x:Value} {c:PV} {xs:List Value} {cs:List PV} (h:aR ρ b w F x c) (hs:cG ρ b w F xs cs) : cG ρ b w F (x::xs) (c::cs) :=
 ⟨by simp [hs.len],fun j x' c' h1 h2=>by
  cases j with
  | zero=>simp at h1 h2; subst h1 h2; exact h
  | succ j=>simp at h1 h2; exact hs.rep j _ _ h1 h2⟩
theorem cG.mono {xs:List Value} {cs:List PV} (h:cG ρ b w F xs cs) (s:Stp ρ b w F ρ' b' w' F') : cG ρ' b' w' F' xs cs:=⟨h.len,fun j x c h1 h2=>(h.rep j x c h1 h2).mono s⟩
theorem cG.drop {xs:List Value} {cs:List PV} (h:cG ρ b w F xs cs) (n:Nat) : cG ρ b w F (xs.drop n) (cs.drop n) :=
 ⟨by simp [h.len],fun j x c h1 h2=>by rw [List.getElem?_drop] at h1 h2; exact h.rep _ _ _ h1 h2⟩
theorem cG.take {xs:List Value} {cs:List PV} (h:cG ρ b w F xs cs) (n:Nat) : cG ρ b w F (xs.take n) (cs.take n) :=
 ⟨by simp [h.len],fun j x c h1 h2=>by
  rw [List.getElem?_take] at h1 h2
  split at h1
  ·rename_i hj
   rw [if_pos hj] at h2
   exact h.rep _ _ _ h1 h2
  ·cases h1⟩
theorem cG.append {xs ys:List Value} {cs ds:List PV} (h:cG ρ b w F xs cs) (k:cG ρ b w F ys ds) : cG ρ b w F (xs++ys) (cs++ds) :=
 ⟨by simp [h.len,k.len],fun j x c h1 h2=>by
  rw [List.getElem?_append] at h1 h2
  rw [h.len] at h1
  split at h1
  ·rename_i hj
   rw [if_pos hj] at h2
   exact h.rep _ _ _ h1 h2
  ·rename_i hj
   rw [if_neg hj] at h2
   exact k.rep _ _ _ h1 h2⟩
def splice {α : Type} (cs:List α) (off:Nat) (ns:List α) : List α:=cs.take off++ns++cs.drop (off + ns.length)
theorem cG.splice {xs ys:List Value} {cs ds:List PV} (h:cG ρ b w F xs cs) (k:cG ρ b w F ys ds) (off:Nat) : cG ρ b w F (splice xs off ys) (splice cs off ds):=by
 unfold Go.Proofs.YtaknepbdbappdaaGreat.splice
 rw [k.len]
 exact ((h.take off).append k).append (h.drop _)
theorem mJ {α : Type} {cs ns:List α} {off:Nat} (h:off + ns.length≤cs.length) : (splice cs off ns).length=cs.length:=by
 simp [splice]; omega
theorem Er {xs ys:List Value} (hx:∀ x∈xs,x.oneCell' = true) (hy:∀ x∈ys,x.oneCell' = true) (off:Nat) : ∀ x∈splice xs off ys,x.oneCell' = true:=by
 intro x h
 simp only [Go.Proofs.YtaknepbdbappdaaGreat.splice,List.mem_append] at h
 rcases h with (h | h) | h
 ·exact hx x (List.mem_of_mem_take h)
 ·exact hy x h
 ·exact hx x (List.mem_of_mem_drop h)
def Bt:PV→Option (List PV)
 | .ag cs=>some cs
 | .junk=>none
 | .tup _=>none
 | p=>some [p]
theorem qW {x:Value} {p:PV} {ns:List PV} (h:aR ρ b w F x p) (hp:Bt p=some ns) : cG ρ b w F x.cells.toList ns∧∀ y∈x.cells.toList,y.oneCell' = true:=by
 have one:∀ {x:Value} {p:PV},aR ρ b w F x p→x.oneCell' = true→x.cells = #[x]→cG ρ b w F x.cells.toList [p]∧∀ y∈x.cells.toList,y.oneCell' = true:=by
  intro x p h h1 hc
  rw [hc]
  exact ⟨.cons h .nil,fun y hy=>by simp at hy; rw [hy]; exact h1⟩
 cases h with
 | junk=>cases hp
 | tup=>cases hp
 | ag xs cs hl h1 hr =>
  injection hp with hp
  subst hp
  exact ⟨⟨by simpa [Value.cells] using hl,fun j x c h2 h3=>hr j x c (by simpa [Value.cells] using h2) h3⟩,fun y hy=>h1 y (by simpa [Value.cells] using hy)⟩
 | d _ dd h =>
  injection hp with hp
  subst hp
  refine one (.d x dd h) h.one ?_
  have:=h.one
  cases x <;> first | rfl | (simp [Value.oneCell'] at this)
 | ptr t off g ty cs hb hρ =>
  injection hp with hp
  subst hp
  exact one (.ptr t off g ty cs hb hρ) rfl rfl
 | row t n A c e k es hb hn hc hA hρ =>
  injection hp with hp
  subst hp
  exact one (.row t n A c e k es hb hn hc hA hρ) rfl rfl
 | re t n i off a e k es hb hn hi hρ =>
  injection hp with hp
  subst hp
  exact one (.re t n i off a e k es hb hn hi hρ) rfl rfl
 | vw t n lo hi A m c e k es hb hn hl hh hm hρ =>
  injection hp with hp
  subst hp
  exact one (.vw t n lo hi A m c e k es hb hn hl hh hm hρ) rfl rfl
 | fe a cs us hF hcell hrep =>
  injection hp with hp
  subst hp
  exact one (.fe a cs us hF hcell hrep) rfl rfl
 | fn f xs ys ps qs hl hr hl2 hr2 =>
  injection hp with hp
  subst hp
  exact one (.fn f xs ys ps qs hl hr hl2 hr2) rfl rfl
theorem nZ {n j i:Nat} (h:(List.range n)[j]? = some i) : i=j∧j < n:=by
 rw [zg] at h
 obtain ⟨h1,h2⟩:=h
 rw [List.getElem_range] at h2
 exact ⟨h2.symm,by simpa using h1⟩
theorem rv (g off j:Nat) : (⟨g,off,none⟩ : Addr).add j=⟨g,off + j,none⟩:=by unfold Addr.add; split <;> simp_all
def abv (ρ : Nat→Value) (b:Nat→Option Box) (w:World) (F:Nat→Prop) (a:Addr) (cl:List PV) : Prop :=
 ∃ us:List Value,cG ρ b w F us cl∧(∀ (j:Nat) u,us[j]? = some u→w.cell? (a.add j)=some u)∧∀ u∈us,u.oneCell' = true
def u4 (b:Nat→Option Box) : PV→Option (List PV)
 | .ptr t off=>match b t with | some (.st _ cs)=>some (cs.drop off) | _=>none
 | .fe cs=>some (cs.map .d)
 | .re t n i off=>match b t with
  | some (.rw _ _ es)=>if es.length=n then match es[i]? with | some e=>some ((e.drop off).map .d) | none=>none else none
  | _=>none
 | _=>none
theorem yV {α : Type} (k:Nat) : ∀ (es:List (List α)) (_:∀ e∈es,e.length=k) (i:Nat) (e:List α),es[i]? = some e→∀ j,j < k→es.flatten[i * k + j]? = e[j]?
 | [],_,i,e,h,_,_=>by simp at h
 | x::es,hk,0,e,h,j,hj=>by
  simp at h
  subst h
  have:=hk x (by simp)
  rw [List.flatten_cons,Nat.zero_mul,Nat.zero_add,List.getElem?_append_left (by omega)]
 | x::es,hk,i + 1,e,h,j,hj=>by
  simp at h
  have hx:=hk x (by simp)
  have ih:=yV k es (fun e he=>hk e (by simp [he])) i e h j hj
  rw [List.flatten_cons,List.getElem?_append_right (by rw [hx,Nat.succ_mul]; omega),hx,Nat.succ_mul,show i * k + k + j - k=i * k + j by omega]
  exact ih
theorem cr {α : Type} (k:Nat) : ∀ (es:List (List α)) (_:∀ e∈es,e.length=k),es.flatten.length=es.length * k
 | [],_=>by simp
 | x::es,hk=>by
  have hx:=hk x (by simp)
  rw [List.flatten_cons,List.length_append,cr k es (fun e he=>hk e (by simp [he])),hx,List.length_cons,Nat.succ_mul]
  omega
theorem vO {α : Type} (k:Nat) : ∀ (l:Nat) (es:List (List α)) (_:∀ e∈es,e.length=k),l≤es.length→(es.drop l).flatten=es.flatten.drop (l * k)
 | 0,es,_,_=>by simp
 | l + 1,[],_,h=>by simp at h
 | l + 1,e::es,hk,h=>by
  have he:=hk e (by simp)
  rw [List.drop_succ_cons,vO k l es (fun x hx=>hk x (by simp [hx])) (by simpa using h),List.flatten_cons,Nat.succ_mul,Nat.add_comm (l * k) k,← he]
  rw [← List.drop_drop,List.drop_left]
theorem AH {α : Type} (es:List (List α)) (m:Nat) (j:Nat) (d : α) (h:(es.take m).flatten[j]? = some d) : es.flatten[j]? = some d:=by
 have e:es.flatten=(es.take m).flatten++(es.drop m).flatten:=by rw [← List.flatten_append,List.take_append_drop]
 rw [e,List.getElem?_append_left (zg.1 h).1]
 exact h
theorem D8 {own:Nat→Prop} {t e k:Nat} {es:List (List D)} {g n c:Nat} (h:jC ρ b own w F t (.rw e k es)) (hρ : ρ t = .slice (some ⟨g,0,none⟩) n c) :
  n=es.length∧(∀ x∈es,x.length=k)∧∀ j d,es.flatten[j]? = some d→∃ u,w.cell? ⟨g,j,none⟩=some u∧d7 w F u d:=by
 cases h with
 | gn _ _ _ hg=>rw [hρ] at hg; cases hg
 | rw _ _ _ xs hk0 ho hF hk hl hr =>
  rw [hρ] at ho
  have hn:n=es.length:=by
   rcases ho.2 with ⟨h,_⟩ | ⟨g',cap,cur,h,_⟩
   ·cases h
   ·injection h
  subst hn
  refine ⟨rfl,hk,fun j d hj=>?_⟩
  have hlt:j < es.flatten.length:=(zg.1 hj).1
  have hx:xs[j]? = some (xs[j]'(by omega)):=by simp [hl,hlt]
  refine ⟨_,?_,hr j _ d hx hj⟩
  rw [ho.cellAt (g:=g) j (by rw [cr k es hk] at hlt; exact hlt)]
  exact hx
theorem yC {own:Nat→Prop} {t e k:Nat} {es:List (List D)} {A:Option Addr} {n c:Nat} (h:jC ρ b own w F t (.rw e k es)) (hρ : ρ t = .slice A n c) :
  n=es.length∧n≤c∧c≤maxLen∧(∀ x∈es,x.length=k)∧0 < k∧((A=none∧es = []∧c=0)∨∃ g,A=some ⟨g,0,none⟩):=by
 cases h with
 | gn _ _ _ hg=>rw [hρ] at hg; cases hg
 | rw _ _ _ xs hk0 ho hF hk hl hr =>
  rw [hρ] at ho
  rcases ho.2 with ⟨h,h0⟩ | ⟨g',cap,cur,h,_,_,h1,h2,_⟩
  ·injection h with e1 e2 e3
   subst e1 e2 e3
   exact ⟨h0.symm,Nat.le_refl _,by simp [maxLen],hk,hk0,.inl ⟨rfl,List.eq_nil_of_length_eq_zero h0,rfl⟩⟩
  ·injection h with e1 e2 e3
   subst e1 e2 e3
   exact ⟨rfl,h1,h2,hk,hk0,.inr ⟨g',rfl⟩⟩
theorem LC {own:Nat→Prop} {t e k:Nat} {es:List (List D)} {A:Option Addr} {n c lo hi:Nat} (h:jC ρ b own w F t (.rw e k es)) (hρ : ρ t = .slice A n c) (hl:lo≤hi) (hh:hi≤n) :
  ∃ A2 c2,sliced A lo hi c k = .slice A2 (hi - lo) c2∧hi - lo≤c2∧c2≤maxLen∧(A2=none→hi - lo=0∧c2=0)∧(lo < hi→∃ g,A=some ⟨g,0,none⟩∧A2=some ⟨g,lo * k,none⟩) ∧
   ∀ a,A2=some a→∀ (j:Nat) d,((es.drop lo).take (hi - lo)).flatten[j]? = some d→∃ u,w.cell? (a.add j)=some u∧d7 w F u d:=by
 obtain ⟨rfl,hc,hm,hk,hk0,hA⟩:=yC h hρ
 unfold sliced
 refine ⟨_,_,rfl,by omega,by omega,fun hn=>?_,fun hlt=>?_,fun a ha j d hj=>?_⟩
 ·rcases hA with ⟨rfl,rfl,rfl⟩ | ⟨g,rfl⟩
  ·simp at hh; omega
  ·split at hn <;> cases hn
 ·rcases hA with ⟨rfl,rfl,rfl⟩ | ⟨g,rfl⟩
  ·simp at hh; omega
  ·refine ⟨g,rfl,?_⟩
   rw [if_neg (by omega)]
   simp [rv]
 ·have hlen:((es.drop lo).take (hi - lo)).length=hi - lo:=by simp; omega
  have h1:=AH _ _ _ _ hj
  have hlt0:=(zg.1 hj).1
  rw [cr k _ (fun e he=>hk e (List.mem_of_mem_drop (List.mem_of_mem_take he))),hlen] at hlt0
  have hlt:lo < hi:=by
   rcases Nat.lt_or_ge lo hi with h | h'
   ·exact h
   ·rw [show hi - lo=0 by omega,Nat.zero_mul] at hlt0; omega
  rw [vO k lo es hk (by omega),List.getElem?_drop] at h1
  rcases hA with ⟨rfl,rfl,rfl⟩ | ⟨g,rfl⟩
  ·simp at hh; omega
  ·rw [if_neg (by omega)] at ha
   injection ha with ha
   subst ha
   obtain ⟨_,_,hcell⟩:=D8 h hρ
   obtain ⟨u,h2,h3⟩:=hcell _ d h1
   exact ⟨u,by show w.cell? (((⟨g,0,none⟩ : Addr).add (lo * k)).add j)=some u; rw [rv,rv,Nat.zero_add]; exact h2,h3⟩
theorem Cp {x:Value} {p:PV} {cl:List PV} (hi:Inv w0 F0 ρ b w F) (h:aR ρ b w F x p) (hp:u4 b p=some cl) : ∃ a,x = .pointer (some a)∧abv ρ b w F a cl:=by
 cases h with
 | junk=>cases hp
 | d=>cases hp
 | ag=>cases hp
 | tup=>cases hp
 | row=>cases hp
 | vw=>cases hp
 | fn=>cases hp
 | ptr t off g ty cs hb hρ =>
  simp only [u4,hb] at hp
  injection hp with hp
  subst hp
  refine ⟨_,rfl,?_⟩
  cases hi.box t _ hb with
  | st _ _ g' xs hρ' hg hF hh hl h1 hr =>
   rw [hρ] at hρ'
   injection hρ' with e
   injection e with e
   injection e with e
   subst e
   have R:cG ρ b w F xs.toList cs:=⟨by simpa using hl,fun j x c h2 h3=>hr j x c (by simpa using h2) h3⟩
   refine ⟨xs.toList.drop off,R.drop off,fun j u hu=>?_,fun u hu=>h1 u (by simpa using List.mem_of_mem_drop hu)⟩
   rw [rv,cell_of_row w g (off + j) xs ty (0,0) hh,← Array.getElem?_toList,← List.getElem?_drop]
   exact hu
 | fe a cs us hF hcell hrep =>
  injection hp with hp
  subst hp
  refine ⟨a,rfl,(List.range cs.length).map us,⟨by simp,fun j x c h1 h2=>?_⟩,fun j u hu=>?_,fun u hu=>?_⟩
  ·simp only [List.getElem?_map,zm] at h1 h2
   obtain ⟨j',hj',rfl⟩:=h1
   obtain ⟨rfl,hj⟩:=nZ hj'
   obtain ⟨d,hd,rfl⟩:=h2
   exact .d _ _ (hrep _ _ hd)
  ·simp only [List.getElem?_map,zm] at hu
   obtain ⟨j',hj',rfl⟩:=hu
   obtain ⟨rfl,hj⟩:=nZ hj'
   exact hcell _ _ (zq hj)
  ·simp at hu
   obtain ⟨j,hj,rfl⟩:=hu
   exact (hrep j _ (zq hj)).one
 | re t n i off a e k es hb hn hi' hρ =>
  simp only [u4,hb] at hp
  split at hp
  ·rename_i hle
   split at hp
   ·rename_i el hel
    injection hp with hp
    subst hp
    obtain ⟨g,c,hr,rfl⟩:=hρ hle
    obtain ⟨_,hk,hcell⟩:=D8 (hi.box t _ hb) hr
    have hel':el.length=k:=hk el (List.mem_of_getElem? hel)
    have key:∀ j d,(el.drop off)[j]? = some d→∃ u,w.cell? ⟨g,i * k + off + j,none⟩=some u∧d7 w F u d:=by
     intro j d hd
     rw [List.getElem?_drop] at hd
     have hlt:=(zg.1 hd).1
     have:=yV k es hk i el hel (off + j) (by omega)
     rw [hd] at this
     obtain ⟨u,h1,h2⟩:=hcell _ _ this
     exact ⟨u,by rw [Nat.add_assoc]; exact h1,h2⟩
    refine ⟨_,rfl,(List.range (el.drop off).length).map (fun j=>(w.cell? ⟨g,i * k + off + j,none⟩).getD undef),⟨by simp,fun j x c h1 h2=>?_⟩,fun j u hu=>?_,fun u hu=>?_⟩
    ·simp only [List.getElem?_map,zm] at h1 h2
     obtain ⟨j',hj',rfl⟩:=h1
     obtain ⟨d,hd,rfl⟩:=h2
     obtain ⟨rfl,hj⟩:=nZ hj'
     obtain ⟨u,h1,h2⟩:=key _ _ hd
     rw [h1]
     exact .d _ _ h2
    ·simp only [List.getElem?_map,zm] at hu
     obtain ⟨j',hj',rfl⟩:=hu
     obtain ⟨rfl,hj⟩:=nZ hj'
     obtain ⟨u,h1,_⟩:=key _ _ (zq hj)
     rw [rv,h1]
     rfl
    ·rw [List.mem_map] at hu
     obtain ⟨j,hj,rfl⟩:=hu
     obtain ⟨u,h1,h2⟩:=key _ _ (zq (List.mem_range.1 hj))
     rw [h1]
     exact h2.one
   ·cases hp
  ·cases hp
end
end
section
section
variable {ρ ρ':Nat→Value} {b b':Nat→Option Box} {w w':World} {w0:WM} {F F' F0:Nat→Prop}
theorem jC.lt {own:Nat→Prop} {t:Nat} {B:Box} (h:jC ρ b own w F t B) {g:Nat} (hg:blk (ρ t)=some g) : g < w.heap.size∧own g∧¬ F g:=by
 cases h with
 | st ty cs g' xs hρ hb hF hh hl h1 hr =>
  rw [hρ] at hg
  injection hg with hg
  subst hg
  exact ⟨(Array.getElem?_eq_some_iff.1 hh).1,hb,hF⟩
 | gn e k es hρ=>rw [hρ] at hg; cases hg
 | rw e k es xs hk0 ho hF hk hl hr hown =>
  refine ⟨?_,hown g hg,hF g hg⟩
  ·rcases ho.2 with ⟨h,_⟩ | ⟨g',cap,cur,h,hb,hh,_⟩
   ·rw [h] at hg; cases hg
   ·rw [h] at hg; injection hg with hg; subst hg; exact (Array.getElem?_eq_some_iff.1 hh).1
theorem TZ {w w':World} {base e k n:Nat} {v:Value} {xs:List Value} (h:w.ownsRow base e k v n xs) (hb:∀ g,blk v=some g→w'.heap[g]? = w.heap[g]?) : w'.ownsRow base e k v n xs:=by
 refine ⟨h.1,?_⟩
 rcases h.2 with hn | ⟨g,cap,cur,rfl,hg,hh,hr⟩
 ·exact .inl hn
 ·exact .inr ⟨g,cap,cur,rfl,hg,(hb g rfl).trans hh,hr⟩
theorem jC.mono {own:Nat→Prop} {t:Nat} {B:Box} (h:jC ρ b own w F t B) (s:Stp ρ b w F ρ' b' w' F') (hρ : ρ' t = ρ t) (hw:∀ g,blk (ρ t)=some g→w'.heap[g]? = w.heap[g]?) (hF:∀ g,blk (ρ t)=some g→¬ F' g) : jC ρ' b' own w' F' t B:=by
 cases h with
 | st ty cs g xs hr0 hg hF0 hh hl h1 hr =>
  exact .st ty cs g xs (hρ.trans hr0) hg (hF g (by rw [hr0]; rfl)) ((hw g (by rw [hr0]; rfl)).trans hh) hl h1 (fun j x c h2 h3=>(hr j x c h2 h3).mono s)
 | gn e k es hr0=>exact .gn e k es (hρ.trans hr0)
 | rw e k es xs hk0 ho hF0 hk hl hr hown =>
  refine .rw e k es xs hk0 ?_ (fun g hg=>hF g (by rw [← hρ]; exact hg)) hk hl (fun j x d h2 h3=>(hr j x d h2 h3).mono s.hF s.hw) (fun g hg=>hown g (by rw [← hρ]; exact hg))
  rw [hρ]
  exact TZ ho hw
def ux (ρ : Nat→Value) (t:Nat) (v:Value) : Nat→Value:=fun i=>if i=t then v else ρ i
theorem dn (ρ : Nat→Value) (t:Nat) (v:Value) : ux ρ t v t=v:=by simp [ux]
theorem kq (ρ : Nat→Value) {t i:Nat} (v:Value) (h:i≠t) : ux ρ t v i = ρ i:=by simp [ux,h]
theorem cZ (b:Nat→Option Box) (t:Nat) (B:Box) : dc b (some (t,B)) t=some B:=by simp [dc]
theorem ct (b:Nat→Option Box) {t i:Nat} (B:Box) (h:i≠t) : dc b (some (t,B)) i=b i:=by simp [dc,h]
theorem Inv.new {t:Nat} {B:Box} {v:Value} {w':World} (hi:Inv w0 F0 ρ b w F) (ht:t < 1000000) (hb:b t=none) (hx:Ext w w') (hv:∀ g,blk v=some g→w.heap.size≤g)
  (hB:Stp ρ b w F (ux ρ t v) (dc b (some (t,B))) w' F→jC (ux ρ t v) (dc b (some (t,B))) w0.own w' F t B) :
  Inv w0 F0 (ux ρ t v) (dc b (some (t,B))) w' F∧Stp ρ b w F (ux ρ t v) (dc b (some (t,B))) w' F:=by
 have hw:∀ g,g < w.heap.size→w'.heap[g]? = w.heap[g]? := fun g hg=>hx.block g hg
 have hne:∀ t',b t'≠none→t'≠t:=fun t' h e=>h (by rw [e]; exact hb)
 have hs:Stp ρ b w F (ux ρ t v) (dc b (some (t,B))) w' F:=by
  refine ⟨fun _ h=>h,fun g hg=>hw g (hi.flt g hg),fun t' ty cs h=>?_,fun t' e k es h=>?_⟩
  ·have:=hne t' (by rw [h]; simp)
   rw [kq _ _ this,ct _ _ this]
   exact ⟨⟨ty,cs,h⟩,rfl⟩
  ·have:=hne t' (by rw [h]; simp)
   rw [kq _ _ this,ct _ _ this]
   exact ⟨e,es,h,Nat.le_refl _,fun _=>rfl⟩
 refine ⟨⟨hi.ext.trans hx,hi.f0,fun g hg=>Nat.lt_of_lt_of_le (hi.flt g hg) hx.size,hi.fnew,fun t' B' h=>?_,fun t1 t2 B1 B2 g h1 h2 hn hg=>?_,hi.reg_stp hs fun t' h' hn=>by rw [ct _ _ (by omega)]; exact hn⟩,hs⟩
 ·by_cases h':t' = t
  ·subst h'
   rw [cZ] at h
   injection h with h
   subst h
   exact hB hs
  ·rw [ct _ _ h'] at h
   have hbx:=hi.box t' B' h
   exact hbx.mono hs (kq _ _ h') (fun g hg=>hw g (hbx.lt hg).1) (fun g hg=>(hbx.lt hg).2.2)
 ·by_cases h1':t1=t
  ·subst h1'
   have h2':t2≠t1:=Ne.symm hn
   rw [ct _ _ h2'] at h2
   rw [dn] at hg
   rw [kq _ _ h2']
   intro e
   have:=((hi.box t2 B2 h2).lt e).1
   have:=hv g hg
   omega
  ·rw [ct _ _ h1'] at h1
   rw [kq _ _ h1'] at hg
   by_cases h2':t2=t
   ·subst h2'
    rw [dn]
    intro e
    have:=((hi.box t1 B1 h1).lt hg).1
    have:=hv g e
    omega
   ·rw [ct _ _ h2'] at h2
    rw [kq _ _ h2']
    exact hi.dist t1 t2 B1 B2 g h1 h2 hn hg
theorem Inv.turn {t:Nat} {B B':Box} {v:Value} (hi:Inv w0 F0 ρ b w F) (hb:b t=some B) (hs:Stp ρ b w F (ux ρ t v) (dc b (some (t,B'))) w' F)
  (hx:GY w0 w') (hsz:w.heap.size≤w'.heap.size) (hw:∀ g,g < w.heap.size→blk (ρ t)≠some g→w'.heap[g]? = w.heap[g]?) (hv:∀ g,blk v=some g→blk (ρ t)=some g∨w.heap.size≤g)
  (hB:jC (ux ρ t v) (dc b (some (t,B'))) w0.own w' F t B') : Inv w0 F0 (ux ρ t v) (dc b (some (t,B'))) w' F:=by
 refine ⟨hx,hi.f0,fun g hg=>Nat.lt_of_lt_of_le (hi.flt g hg) hsz,hi.fnew,fun t' B2 h=>?_,fun t1 t2 B1 B2 g h1 h2 hn hg=>?_,hi.reg_stp hs fun t' h' hn=>by rw [ct _ _ (fun e=>by rw [e,hb] at hn; cases hn)]; exact hn⟩
 ·by_cases h':t' = t
  ·subst h'
   rw [cZ] at h
   injection h with h
   subst h
   exact hB
  ·rw [ct _ _ h'] at h
   have hbx:=hi.box t' B2 h
   exact hbx.mono hs (kq _ _ h') (fun g hg=>hw g (hbx.lt hg).1 (fun e=>hi.dist t' t B2 B g h hb h' hg e)) (fun g hg=>(hbx.lt hg).2.2)
 ·by_cases h1':t1=t
  ·subst h1'
   have h2':t2≠t1:=Ne.symm hn
   rw [ct _ _ h2'] at h2
   rw [dn] at hg
   rw [kq _ _ h2']
   rcases hv g hg with h | h
   ·exact hi.dist t1 t2 B B2 g hb h2 hn h
   ·intro e
    have:=((hi.box t2 B2 h2).lt e).1
    omega
  ·rw [ct _ _ h1'] at h1
   rw [kq _ _ h1'] at hg
   by_cases h2':t2=t
   ·subst h2'
    rw [dn]
    intro e
    rcases hv g e with h | h
    ·exact hi.dist t1 t2 B1 B g h1 hb hn hg h
    ·have:=((hi.box t1 B1 h1).lt hg).1
     omega
   ·rw [ct _ _ h2'] at h2
    rw [kq _ _ h2']
    exact hi.dist t1 t2 B1 B2 g h1 h2 hn hg
theorem cC (ρ : Nat→Value) (t:Nat) : ux ρ t (ρ t) = ρ:=by
 funext i
 unfold ux
 split
 ·rename_i h; rw [h]
 ·rfl
theorem Inv.write {t off:Nat} {ty:TypeId} {cs ns:List PV} {g:Nat} {xs:Array Value} {vs:List Value} (hi:Inv w0 F0 ρ b w F) (hb:b t=some (.st ty cs)) (hρ : ρ t = .pointer (some ⟨g,0,none⟩))
  (hh:w.heap[g]? = some (.cells xs ty (0,0))) (hl:xs.size=cs.length) (h1:∀ x∈xs,x.oneCell' = true) (hr:cG ρ b w F xs.toList cs) (hv:cG ρ b w F vs ns) (hv1:∀ x∈vs,x.oneCell' = true) (hfit:off + ns.length≤cs.length) :
  Inv w0 F0 ρ (dc b (some (t,.st ty (splice cs off ns)))) (w.setRow g (splice xs.toList off vs).toArray) F∧Stp ρ b w F ρ (dc b (some (t,.st ty (splice cs off ns)))) (w.setRow g (splice xs.toList off vs).toArray) F:=by
 have hbx:=hi.box t _ hb
 have hg:=hbx.lt (g:=g) (by rw [hρ]; rfl)
 have hs:Stp ρ b w F ρ (dc b (some (t,.st ty (splice cs off ns)))) (w.setRow g (splice xs.toList off vs).toArray) F:=by
  refine ⟨fun _ h=>h,fun k hk=>setRow_other w g k _ (fun e=>hg.2.2 (e ▸ hk)),fun t' ty' cs' h=>?_,fun t' e k es h=>?_⟩
  ·refine ⟨?_,rfl⟩
   by_cases h':t' = t
   ·subst h'; rw [cZ]; exact ⟨_,_,rfl⟩
   ·rw [ct _ _ h']; exact ⟨_,_,h⟩
  ·have h':t'≠t:=fun e=>by rw [e,hb] at h; cases h
   rw [ct _ _ h']
   exact ⟨e,es,h,Nat.le_refl _,fun _=>rfl⟩
 refine ⟨?_,hs⟩
 have hs2:=hs
 rw [← cC ρ t] at hs
 have:=Inv.turn (v:=ρ t) (B':=.st ty (splice cs off ns)) (w':=w.setRow g (splice xs.toList off vs).toArray) hi hb (by rw [cC] at hs ⊢; exact hs2)
  (hi.ext.step rfl rfl rfl (by simp) fun k hk hM=>setRow_other w g k _ (fun e=>vI hk hM (e ▸ hg.2.1))) (by simp) (fun k _ hk=>setRow_other w g k _ (fun e=>hk (by rw [hρ,e]; rfl))) (fun k hk=>.inl hk) ?_
 ·rw [cC] at this; exact this
 ·rw [cC]
  have hsp:=(hr.splice hv off).mono hs2
  refine .st ty _ g _ hρ hg.2.1 hg.2.2 (setRow_heap w g xs _ ty _ hh) (by have:=hsp.len; simpa using this) (fun x hx=>?_) (fun j x c h2 h3=>hsp.rep j x c (by simpa using h2) h3)
  exact Er (xs:=xs.toList) (fun y hy=>h1 y (by simpa using hy)) hv1 off x (by simpa using hx)
end
end
section
structure TI where
 size:Nat
 bytes:Nat
 agg:Bool
 zero:List Value
def jc (P:Program) (t:TypeId) : Bool:=match P.underlying t with | some (.struct _) | some (.array _ _)=>true | _=>false
def uQ (P:Program) (f:Field) : Option (Nat×Nat×Bool):=match P.info? f.type with | some i=>if (P.underlying f.type).isSome then some (f.offset,i.size,jc P f.type) else none | none=>none
def MJ (P:Program) (t:TypeId) : Option (List (Nat×Nat×Bool)):=match P.underlying t with | some (.struct fs)=>fs.toList.mapM (uQ P) | _=>none
def Bg (P:Program) (t:TypeId) : List (Nat×Nat×Bool):=(MJ P t).getD []
def mw (P:Program) (t:TypeId) : Option TI :=
 match P.info? t with
 | none=>none
 | some i=>match i.zero with
  | none=>none
  | some z=>if (P.underlying t).isSome&&z.cells.size==i.size&&z.cells.all (·.oneCell') then some ⟨i.size,i.bytes,jc P t,z.cells.toList⟩ else none
theorem dm {P:Program} {t:TypeId} {i:TI} (h:mw P t=some i) : ∃ j z u,P.info? t=some j∧j.zero=some z∧P.underlying t=some u∧z.cells.size=i.size∧j.size=i.size∧j.bytes=i.bytes∧i.agg=jc P t∧i.zero=z.cells.toList∧∀ x∈i.zero,x.oneCell' = true:=by
 unfold mw at h
 split at h
 ·cases h
 ·rename_i j hj
  split at h
  ·cases h
  ·rename_i z hz
   split at h
   ·rename_i hc
    simp only [Bool.and_eq_true,Option.isSome_iff_exists,beq_iff_eq] at hc
    obtain ⟨⟨⟨u,hu⟩,hs⟩,h1⟩:=hc
    injection h with h
    subst h
    exact ⟨j,z,u,hj,hz,hu,hs,rfl,rfl,rfl,rfl,fun x hx=>(Array.all_eq_true_iff_forall_mem.1 h1) x (by simpa using hx)⟩
   ·cases h
def Ev:Value→PV
 | .agg xs=>if xs.all (·.oneCell') then .ag (xs.toList.map fun x=>.d (.v x)) else .junk
 | .tuple _=>.junk
 | v=>.d (.v v)
def ev (s:PS) : Operand→PV
 | .tmp i=>s.t i
 | .const v=>Ev v
 | .func f=>.fn f [] []
 | _=>.junk
def lc (b:Nat→Option Box) : PV→Option (List (List D))
 | .d (.sl es)=>some es
 | .d (.v (.slice none n c))=>if n=0∧c=0 then some [] else none
 | .row t n=>match b t with
  | some (.rw _ _ es)=>if es.length=n then some es else none
  | _=>none
 | .vw t n lo hi=>match b t with
  | some (.rw _ _ es)=>if es.length=n then some ((es.drop lo).take (hi - lo)) else none
  | _=>none
 | _=>none
def Py:PV→Option Nat
 | .d (.sl es)=>some es.length
 | .d (.v (.slice _ n _))=>some n
 | .row _ n=>some n
 | .vw _ _ lo hi=>some (hi - lo)
 | _=>none
def B8 (size:Nat) (agg:Bool) (cl:List PV) : Option PV :=
 if agg then (if size≤cl.length then some (.ag (cl.take size)) else none) else cl.head?
section
variable {P:Program} {ρ ρ':Nat→Value} {b b':Nat→Option Box} {w w':World} {w0:WM} {F F' F0:Nat→Prop}
theorem T0 (v:Value) : aR ρ b w F v (Ev v):=by
 cases v with
 | agg xs =>
  simp only [Ev]
  split
  ·rename_i h
   rw [Array.all_eq_true_iff_forall_mem] at h
   refine .ag xs _ (by simp) h (fun j x c h1 h2=>?_)
   rw [List.getElem?_map,Array.getElem?_toList,h1] at h2
   injection h2 with h2
   subst h2
   exact .d x _ (.v x (h x (Array.mem_of_getElem? h1)))
  ·exact .junk _
 | tuple xs=>exact .junk _
 | _=>exact .d _ _ (.v _ rfl)
theorem Xs {s:PS} {a:Act} (h:∀ i,aR ρ s.b w F (a.tmps.getD i undef) (s.t i)) (x:Operand) : aR ρ s.b w F (a.eval x) (ev s x):=by
 cases x with
 | tmp i=>exact h i
 | const v=>exact T0 v
 | global g=>exact .junk _
 | func f=>exact .fn f #[] #[] [] [] rfl (fun j x c h _=>by simp at h) rfl (fun j x c h _=>by simp at h)
theorem aR.int {x:Value} {k:IntKind} {n:Int} (h:aR ρ b w F x (.d (.v (.int k n)))) : x = .int k n:=by
 cases h with
 | d _ _ h=>cases h; rfl
theorem aR.vv {x v:Value} (h:aR ρ b w F x (.d (.v v))) : x=v∧v.oneCell' = true:=by
 cases h with
 | d _ _ h=>cases h with | v _ h1=>exact ⟨rfl,h1⟩
theorem aR.lit {v:Value} (h1:v.oneCell' = true) : aR ρ b w F v (.d (.v v)):=.d _ _ (.v _ h1)
theorem kO {x:Value} {p:PV} {es:List (List D)} (hi:Inv w0 F0 ρ b w F) (h:aR ρ b w F x p) (hp:lc b p=some es) :
  ∃ A c k,x = .slice A es.length c∧es.length≤c∧c≤maxLen∧(∀ e∈es,e.length=k)∧(A=none→es = []∧c=0) ∧
   ∀ a,A=some a→∀ (j:Nat) d,es.flatten[j]? = some d→∃ u,w.cell? (a.add j)=some u∧d7 w F u d:=by
 cases h with
 | junk=>cases hp
 | ag=>cases hp
 | tup=>cases hp
 | ptr=>cases hp
 | re=>cases hp
 | fe=>cases hp
 | fn=>cases hp
 | d _ dd h =>
  cases h with
  | v _ h1 =>
   unfold lc at hp
   split at hp
   ·rename_i e; cases e
   ·rename_i e
    injection e with e
    injection e with e
    subst e
    split at hp
    ·rename_i hn
     obtain ⟨rfl,rfl⟩:=hn
     injection hp with hp
     subst hp
     exact ⟨none,0,0,rfl,Nat.le_refl _,by simp [maxLen],fun _ h=>by simp at h,fun _=>⟨rfl,rfl⟩,fun a ha=>by cases ha⟩
    ·cases hp
   ·rename_i e; cases e
   ·rename_i e; cases e
   ·cases hp
  | sl A n c k es' us hn hc hm hk hA hAc hcell hrep =>
   injection hp with hp
   subst hp
   refine ⟨A,c,k,by rw [hn],by omega,hm,hk,fun hA0=>⟨?_,hAc hA0⟩,fun a ha j d hj=>⟨us j,hcell a j d ha hj,hrep j d hj⟩⟩
   rcases es' with _ | ⟨e,es'⟩
   ·rfl
   ·obtain ⟨a,ha,_⟩:=hA (by rw [hn]; simp)
    rw [hA0] at ha
    cases ha
 | row t n A c e k es' hb hn hc _ hρ =>
  simp only [lc,hb] at hp
  split at hp
  ·rename_i hl
   injection hp with hp
   subst hp
   have hbx:=hi.box t _ hb
   have hr:=hρ hl
   cases hbx with
   | gn _ _ _ hg=>rw [hr] at hg; cases hg
   | rw _ _ _ xs hk0 ho hF hk hl' hrep =>
    rw [hr] at ho
    rcases ho.2 with ⟨h,h0⟩ | ⟨g,cap,cur,h,hb2,hh,hc2,hm,_⟩
    ·injection h with hA hn' hc'
     subst hA hc'
     rw [hl,hn']
     have:es' = []:=List.eq_nil_of_length_eq_zero h0
     subst this
     exact ⟨none,0,k,rfl,Nat.le_refl _,by simp [maxLen],fun _ h=>by simp at h,fun _=>⟨rfl,rfl⟩,fun a ha=>by cases ha⟩
    ·injection h with hA hn' hc'
     subst hA hc'
     have hz:jC ρ b w0.own w F t (.rw e k es'):=hi.box t _ hb
     obtain ⟨_,_,hcell⟩:=D8 hz hr
     refine ⟨_,c,k,by rw [hl],by omega,hm,hk,(fun h=>by cases h),fun a ha j d hj=>?_⟩
     injection ha with ha
     subst ha
     obtain ⟨u,h1,h2⟩:=hcell j d hj
     exact ⟨u,by rw [rv,Nat.zero_add]; exact h1,h2⟩
  ·cases hp
 | vw t n lo hi' A m c e k es' hb hn hl hh hm hρ =>
  simp only [lc,hb] at hp
  split at hp
  ·rename_i hln
   injection hp with hp
   subst hp
   obtain ⟨A',c',hr,hs⟩:=hρ hln
   have hbx:=hi.box t _ hb
   obtain ⟨A2,c2,e1,h1,h2,h3,_,h5⟩:=LC hbx hr hl hh
   rw [e1] at hs
   injection hs with q1 q2 q3
   subst q1 q2 q3
   have hlen:((es'.drop lo).take (hi' - lo)).length=hi' - lo:=by simp; omega
   refine ⟨A,c,k,by rw [hlen,hm],by rw [hlen]; omega,h2,fun e he=>(yC hbx hr).2.2.2.1 e (List.mem_of_mem_drop (List.mem_of_mem_take he)),fun hA=>⟨List.eq_nil_of_length_eq_zero (by rw [hlen]; exact (h3 hA).1),(h3 hA).2⟩,h5⟩
  ·cases hp
theorem T5 {x:Value} {p:PV} {n:Nat} (h:aR ρ b w F x p) (hp:Py p=some n) : ∃ A c,x = .slice A n c:=by
 cases h with
 | junk=>cases hp
 | ag=>cases hp
 | tup=>cases hp
 | ptr=>cases hp
 | re=>cases hp
 | fe=>cases hp
 | fn=>cases hp
 | row t n' A c e k es' hb hn hc _ hρ=>injection hp with hp; subst hp; exact ⟨A,c,rfl⟩
 | vw t n' lo hi A m c e k es' hb hn hl hh hm hρ=>injection hp with hp; subst hp; exact ⟨A,c,by rw [hm]⟩
 | d _ dd h =>
  cases h with
  | v _ h1 =>
   unfold Py at hp
   split at hp
   ·rename_i e; cases e
   ·rename_i e
    injection e with e
    injection e with e
    subst e
    injection hp with hp
    subst hp
    exact ⟨_,_,rfl⟩
   ·rename_i e; cases e
   ·rename_i e; cases e
   ·cases hp
  | sl A n' c k es' us hn hc hm hk hA _ hcell hrep =>
   injection hp with hp
   subst hp
   exact ⟨A,c,by rw [hn]⟩
end
end
section
def Bj:Nat→PV→PV→Option Bool
 | 0,.d (.v (.int k a)),.d (.v (.int k' b))=>if k=k' then some (a==b) else none
 | 1,.d (.v (.bool a)),.d (.v (.bool b))=>some (a==b)
 | 2,.d (.v (.string a)),.d (.v (.string b))=>some (a.toList==b.toList)
 | _,_,_=>none
def kh:List Nat→List PV→List PV→Option Bool
 | [],[],[]=>some true
 | k::ks,x::xs,y::ys=>match Bj k x y with
  | some a=>match kh ks xs ys with
   | some r=>some (a&&r)
   | none=>none
  | none=>none
 | _,_,_=>none
def EI (lf:TypeId→Option (List Nat)) (P:Program) : List Field→Nat→Option (List Nat)
 | [],_=>some []
 | f::fs,off=>match P.info? f.type,lf f.type with
  | some i,some l=>if f.name ≠ "_" ∧ f.offset=off∧l.length=i.size∧0 < i.size∧(P.underlying f.type).isSome=true then (EI lf P fs (off + i.size)).map (l ++ ·) else none
  | _,_=>none
def EH (P:Program) : Nat→TypeId→Option (List Nat)
 | 0,_=>none
 | d + 1,t=>match P.underlying t with
  | some (.int _)=>some [0]
  | some .bool=>some [1]
  | some .string=>some [2]
  | some (.struct fs)=>if P.stoodInHeld t then none else EI (EH P d) P fs.toList 0
  | _=>none
def aaF (P:Program) (t:TypeId) : Option (List Nat):=if jc P t && !P.eqGuardType P.depth t then EH P 6 t else none
section
variable {P:Program} {ρ : Nat→Value} {b:Nat→Option Box} {w:World} {F:Nat→Prop}
theorem Fc:∀ (k1 k2:List Nat) {xs ys:List PV} {r:Bool},kh (k1++k2) xs ys=some r→∃ a c,kh k1 (xs.take k1.length) (ys.take k1.length)=some a∧kh k2 (xs.drop k1.length) (ys.drop k1.length)=some c∧r=(a&&c)
 | [],k2,xs,ys,r,h=>⟨true,r,rfl,h,by simp⟩
 | k::k1,k2,xs,ys,r,h=>by
  match xs,ys,h with
  | x::xs,y::ys,h =>
   simp only [List.cons_append,kh] at h
   split at h
   ·rename_i a ha
    split at h
    ·rename_i r' hr
     injection h with h
     obtain ⟨a',c,h1,h2,h3⟩:=Fc k1 k2 hr
     exact ⟨a&&a',c,by simp [kh,ha,h1],by simpa using h2,by rw [← h,h3,Bool.and_assoc]⟩
    ·cases h
   ·cases h
  | [],[],h=>simp [kh] at h
  | [],_ :: _,h=>simp [kh] at h
  | _ :: _,[],h=>simp [kh] at h
def yp (P:Program) (t:TypeId) (xs:List Value) : Value:=if jc P t then .agg xs.toArray else xs.headD undef
theorem El {t:TypeId} {u:TypeDesc} {i:TypeInfo} (hu:P.underlying t=some u) (hi:P.info? t=some i) (xs:Array Value) (off:Nat) (hfit:off + i.size≤xs.size) (h1:jc P t=false→i.size=1) : (part t xs off).run P w = .ok (yp P t ((xs.toList.drop off).take i.size)) w:=by
 have ha:(isAgg t).run P w = .ok (jc P t) w:=by
  unfold isAgg
  rw [Sem.run_bind,run_underlying hu w]
  unfold jc
  rw [hu]
  cases u <;> rfl
 unfold yp
 cases hb:jc P t with
 | true =>
  have e:(xs.extract off (off + i.size))=((xs.toList.drop off).take i.size).toArray:=by
   apply Array.ext'
   simp [Array.toList_extract,List.extract]
  simp [part,ha,hb,sizeOf,typeInfo,hi,e]
 | false =>
  have hs:=h1 hb
  have hlt:off < xs.size:=by omega
  have e:((xs.toList.drop off).take i.size).headD undef=xs[off]:=by
   rw [hs,List.drop_eq_getElem_cons (by simpa using hlt)]
   simp
  simp only [zf,if_false]
  rw [e]
  simp [part,ha,hb,hlt]
theorem Mw:∀ (d D:Nat) (t:TypeId) (l:List Nat) (xs ys:List Value) (cs ds:List PV) (r:Bool),EH P d t=some l→cG ρ b w F xs cs→cG ρ b w F ys ds→kh l cs ds=some r→(jc P t=false→xs.length=1) →
  (Op.equalIn (D + d) t (yp P t xs) (yp P t ys)).run P w = .ok r w
 | 0,_,_,_,_,_,_,_,_,h,_,_,_,_=>by cases h
 | d + 1,D,t,l,xs,ys,cs,ds,r,h,hx,hy,he,_=>by
  have one:∀ (k:Nat),l = [k]→∃ x y c e a,cs = [c]∧ds = [e]∧xs = [x]∧ys = [y]∧Bj k c e=some a∧r=a∧aR ρ b w F x c∧aR ρ b w F y e:=by
   rintro k rfl
   match cs,ds,he with
   | [],[],he=>simp [kh] at he
   | [],_ :: _,he=>simp [kh] at he
   | _ :: _,[],he=>simp [kh] at he
   | c::cs,e::ds,he =>
    simp only [kh] at he
    split at he
    ·rename_i a ha
     match cs,ds,he with
     | [],[],he =>
      simp [kh] at he
      have l1:=hx.len
      have l2:=hy.len
      match xs,ys,l1,l2 with
      | [x],[y],_,_=>exact ⟨x,y,c,e,a,rfl,rfl,rfl,rfl,ha,he.symm,hx.rep 0 x c rfl rfl,hy.rep 0 y e rfl rfl⟩
     | [],_ :: _,he=>simp [kh] at he
     | _ :: _,[],he=>simp [kh] at he
     | _ :: _,_ :: _,he=>simp [kh] at he
    ·cases he
  unfold EH at h
  split at h
  ·rename_i k hu
   injection h with h
   obtain ⟨x,y,c,e,a,rfl,rfl,rfl,rfl,h1,rfl,h2,h3⟩:=one 0 h.symm
   have ha:jc P t=false:=by simp [jc,hu]
   unfold Bj at h1
   split at h1 <;> first
    | (split at h1
       ·rename_i hk; subst hk; injection h1 with h1; subst h1
        obtain rfl:=h2.vv.1
        obtain rfl:=h3.vv.1
        simp only [yp,ha]
        exact run_equalIn_int w (D + d) t _ k _ _ hu
       ·cases h1)
    | (exfalso; omega)
    | cases h1
  ·rename_i hu
   injection h with h
   obtain ⟨x,y,c,e,a,rfl,rfl,rfl,rfl,h1,rfl,h2,h3⟩:=one 1 h.symm
   have ha:jc P t=false:=by simp [jc,hu]
   unfold Bj at h1
   split at h1 <;> first
    | (injection h1 with h1; subst h1
       obtain rfl:=h2.vv.1
       obtain rfl:=h3.vv.1
       simp only [yp,ha]
       exact run_equalIn_bool' w (D + d) t _ _ hu)
    | (exfalso; omega)
    | cases h1
  ·rename_i hu
   injection h with h
   obtain ⟨x,y,c,e,a,rfl,rfl,rfl,rfl,h1,rfl,h2,h3⟩:=one 2 h.symm
   have ha:jc P t=false:=by simp [jc,hu]
   unfold Bj at h1
   split at h1 <;> first
    | (injection h1 with h1; subst h1
       obtain rfl:=h2.vv.1
       obtain rfl:=h3.vv.1
       simp only [yp,ha]
       exact run_equalIn_string w (D + d) t _ _ hu)
    | (exfalso; omega)
    | cases h1
  ·rename_i fs hu
   split at h
   ·cases h
   ·rename_i hst
    have ha:jc P t=true:=by simp [jc,hu]
    have hfo:P.fieldsOf t=fs:=by simp [Program.fieldsOf,hu]
    simp only [yp,ha,if_true]
    rw [show D + (d + 1)=(D + d) + 1 by omega,run_equalIn_agg w (D + d) t _ _ (by rw [hfo]; exact hu) (by simpa using hst),hfo]
    have key:∀ (fl:List Field) (off:Nat) (l:List Nat) (r:Bool),EI (EH P d) P fl off=some l→kh l (cs.drop off) (ds.drop off)=some r→(Op.eqFields (D + d) xs.toArray ys.toArray fl).run P w = .ok r w:=by
     intro fl
     induction fl with
     | nil =>
      intro off l r h he
      simp only [EI] at h
      injection h with h
      subst h
      match cs.drop off,ds.drop off,he with
      | [],[],he=>simp [kh] at he; subst he; rfl
      | [],_ :: _,he=>simp [kh] at he
      | _ :: _,_,he=>simp [kh] at he
     | cons f fl ih =>
      intro off l r h he
      simp only [EI] at h
      split at h
      ·rename_i i lf hi hlf
       split at h
       ·rename_i hc
        obtain ⟨hn,hoff,hlen,hpos,hu2⟩:=hc
        rw [zm] at h
        obtain ⟨l2,h3,rfl⟩:=h
        obtain ⟨a,c,h4,h5,rfl⟩:=Fc lf l2 he
        obtain ⟨u,hu2⟩:=Option.isSome_iff_exists.1 hu2
        have e1:(cs.drop off).take lf.length=(cs.drop off).take i.size:=by rw [hlen]
        have hcl:∀ {k:List Nat} {x y:List PV} {a:Bool},kh k x y=some a→x.length=k.length∧y.length=k.length:=by
         intro k
         induction k with
         | nil =>
          intro x y a h
          match x,y,h with
          | [],[],_=>exact ⟨rfl,rfl⟩
          | [],_ :: _,h=>simp [kh] at h
          | _ :: _,_,h=>simp [kh] at h
         | cons k ks ihk =>
          intro x y a h
          match x,y,h with
          | x::xs,y::ys,h =>
           simp only [kh] at h
           split at h
           ·split at h
            ·rename_i h2
             have:=ihk h2
             simp [this.1,this.2]
            ·cases h
           ·cases h
          | [],_,h=>simp [kh] at h
          | _ :: _,[],h=>simp [kh] at h
        obtain ⟨c1,c2⟩:=hcl h4
        have hxl:=hx.len
        have hyl:=hy.len
        have s1:jc P f.type=false→i.size=1:=by
         intro hag
         rw [← hlen]
         cases d with
         | zero=>simp [EH] at hlf
         | succ d' =>
          simp only [EH,hu2] at hlf
          unfold jc at hag
          rw [hu2] at hag
          cases u <;> simp at hlf hag <;> first | (rw [← hlf]; rfl) | skip
        have p1:=El (w:=w) hu2 hi xs.toArray off (by rw [List.length_take,List.length_drop] at c1 c2; simp; omega) s1
        have p2:=El (w:=w) hu2 hi ys.toArray off (by rw [List.length_take,List.length_drop] at c1 c2; simp; omega) s1
        have ihd:=Mw d D f.type lf ((xs.drop off).take i.size) ((ys.drop off).take i.size) ((cs.drop off).take i.size) ((ds.drop off).take i.size) a hlf ((hx.drop off).take _) ((hy.drop off).take _) (by rw [hlen] at h4; exact h4) (fun hag=>by
         have:=s1 hag
         simp at c1 c2 ⊢
         omega)
        have ihr:=ih (off + i.size) l2 c h3 (by rw [hlen,List.drop_drop,List.drop_drop] at h5; exact h5)
        simp only [Op.eqFields]
        rw [if_pos hn,hoff]
        simp only [Sem.run_bind,p1,p2,Result.andThen_ok]
        rw [show (xs.toArray.toList.drop off).take i.size=(xs.drop off).take i.size by simp,show (ys.toArray.toList.drop off).take i.size=(ys.drop off).take i.size by simp,ihd]
        cases a
        ·simp
        ·simpa using ihr
       ·cases h
      ·cases h
    exact key fs.toList 0 l r h (by simpa using he)
  ·cases h
end
end
section
def asI:PV→Option (IntKind×Int) | .d (.v (.int k n))=>some (k,n) | _=>none
def asB:PV→Option Bool | .d (.v (.bool t))=>some t | _=>none
def asS:PV→Option ByteArray | .d (.v (.string t))=>some t | _=>none
def za (op:BinOp) (k:IntKind) (x y:Int) : Option PV :=
 match op with
 | .add=>some (.d (.v (.int k (k.wrap (x + y)))))
 | .sub=>some (.d (.v (.int k (k.wrap (x - y)))))
 | .mul=>some (.d (.v (.int k (k.wrap (x * y)))))
 | .quo=>if y=0 then none else some (.d (.v (.int k (k.wrap (x.tdiv y)))))
 | .rem=>if y=0 then none else some (.d (.v (.int k (x.tmod y))))
 | .eql=>some (.d (.v (.bool (x==y))))
 | .neq=>some (.d (.v (.bool (x != y))))
 | .lss=>some (.d (.v (.bool (decide (x < y)))))
 | .leq=>some (.d (.v (.bool (decide (x≤y)))))
 | .gtr=>some (.d (.v (.bool (decide (x > y)))))
 | .geq=>some (.d (.v (.bool (decide (x≥y)))))
 | .and=>some (.d (.v (.int k (bits .and k x y))))
 | .or=>some (.d (.v (.int k (bits .or k x y))))
 | .xor=>some (.d (.v (.int k (bits .xor k x y))))
 | _=>none
def s6 (op:BinOp) (k:IntKind) (x y:Int) : Option PV :=
 if y < 0 then none else match op with
 | .shl=>some (.d (.v (.int k (k.wrap (x * 2 ^ (min y.toNat k.bits))))))
 | .shr=>some (.d (.v (.int k (x.fdiv (2 ^ (min y.toNat k.bits))))))
 | _=>none
def J3:BinOp→Bool | .shl=>true | .shr=>true | _=>false
def LK (op:BinOp) (x y:ByteArray) : Option PV :=
 match op with
 | .add=>if x.size + y.size≤9223372036854775807 then some (.d (.v (.string (x++y)))) else none
 | .eql=>some (.d (.v (.bool (x.toList==y.toList))))
 | .neq=>some (.d (.v (.bool (!(x.toList==y.toList)))))
 | .lss=>some (.d (.v (.bool (Op.bytesLess x.toList y.toList))))
 | .leq=>some (.d (.v (.bool (Op.bytesLess x.toList y.toList||x.toList==y.toList))))
 | .gtr=>some (.d (.v (.bool (!(Op.bytesLess x.toList y.toList||x.toList==y.toList)))))
 | .geq=>some (.d (.v (.bool (!Op.bytesLess x.toList y.toList))))
 | _=>none
def rm (op:BinOp) (x y:Bool) : Option PV :=
 match op with
 | .eql=>some (.d (.v (.bool (x==y))))
 | .neq=>some (.d (.v (.bool (!(x==y)))))
 | _=>none
def Kf (P:Program) (op:BinOp) (t:TypeId) (p q:PV) : Option PV :=
 match p,q,aaF P t with
 | .ag xs,.ag ys,some l=>match kh l xs ys with
  | some r=>rm op r true
  | none=>none
 | _,_,_=>none
def tr (P:Program) (op:BinOp) (t:TypeId) (p q:PV) : Option PV :=
 match asI p,asI q with
 | some (k,x),some (k',y)=>if J3 op then s6 op k x y else if k=k' then za op k x y else none
 | _,_=>match asS p,asS q with
  | some x,some y=>LK op x y
  | _,_=>match asB p,asB q,P.underlying t with
   | some x,some y,some .bool=>rm op x y
   | _,_,_=>Kf P op t p q
def S3 (op:UnOp) (p:PV) : Option PV :=
 match op with
 | .not=>(asB p).map fun x=>.d (.v (.bool (!x)))
 | .neg=>(asI p).map fun (k,x)=>.d (.v (.int k (k.wrap (0 - x))))
 | _=>none
def tp (P:Program) (src dst:TypeId) (p:PV) : Option PV :=
 match P.underlying src,P.underlying dst with
 | some _,some (.int k)=>(asI p).map fun (_,x)=>.d (.v (.int k (k.wrap x)))
 | some _,some .string=>(asS p).map fun x=>.d (.v (.string x))
 | _,_=>none
def hJ (P:Program) (t:TypeId) (p:PV) (f:Nat) : Option PV :=
 match (Bg P t)[f]? with
 | some (off,size,_)=>if size=0 then none else match p with
  | .ptr t o=>some (.ptr t (o + off))
  | .fe cs=>some (.fe (cs.drop off))
  | .re t n i o=>some (.re t n i (o + off))
  | _=>none
 | none=>none
def uT (P:Program) (t:TypeId) (p:PV) (f:Nat) : Option PV :=
 match (Bg P t)[f]?,p with
 | some (off,size,agg),.ag cs=>B8 size agg (cs.drop off)
 | _,_=>none
def qU (P:Program) (b:Nat→Option Box) (t:TypeId) (p:PV) : Option PV :=
 match mw P t,u4 b p with
 | some i,some cl=>B8 i.size i.agg cl
 | _,_=>none
def ek (P:Program) (b:Nat→Option Box) (t:TypeId) (p q:PV) : Option PV :=
 match P.underlying t,asI q with
 | some (.slice e),some (_,i)=>match mw P e with
  | some ie=>if 0≤i then match p with
   | .d (.sl es)=>match es[i.toNat]? with
    | some el=>if el.length=ie.size then some (.fe el) else none
    | none=>none
   | .row t n=>match b t with
    | some (.rw _ k _)=>if k=ie.size∧i.toNat < n then some (.re t n i.toNat 0) else none
    | _=>none
   | _=>none
   else none
  | none=>none
 | _,_=>none
def tn (p:PV) (i:Nat) : Option PV:=match p with | .tup vs=>vs[i]? | _=>none
def uS (P:Program) (t:TypeId) (p:PV) : Option PV :=
 match P.underlying t with
 | some (.slice _)=>(Py p).map fun (n:Nat)=>.d (.v (.int .i64 (n:Int)))
 | some .string=>(asS p).map fun x=>.d (.v (.int .i64 x.size))
 | _=>none
section
variable {P:Program} {ρ ρ':Nat→Value} {b b':Nat→Option Box} {w w':World} {w0:WM} {F F' F0:Nat→Prop}
theorem ec {x:Value} {p:PV} {k:IntKind} {n:Int} (h:aR ρ b w F x p) (hp:asI p=some (k,n)) : x = .int k n:=by
 unfold asI at hp
 split at hp
 ·injection hp with hp; injection hp with h1 h2; subst h1 h2; exact h.int
 ·cases hp
theorem sH {x:Value} {p:PV} {t:Bool} (h:aR ρ b w F x p) (hp:asB p=some t) : x = .bool t:=by
 unfold asB at hp
 split at hp
 ·injection hp with hp; subst hp; exact h.vv.1
 ·cases hp
theorem sG {x:Value} {p:PV} {t:ByteArray} (h:aR ρ b w F x p) (hp:asS p=some t) : x = .string t:=by
 unfold asS at hp
 split at hp
 ·injection hp with hp; subst hp; exact h.vv.1
 ·cases hp
theorem Cj (op:BinOp) (t:TypeId) (x y:Operand) (k k':IntKind) (m n:Int) (w:World) : (eqGuard op t x y (.int k m) (.int k' n)).run P w = .ok () w:=by
 unfold eqGuard; cases op <;> rfl
theorem MR (op:BinOp) (t:TypeId) (x y:Operand) (m n:ByteArray) (w:World) : (eqGuard op t x y (.string m) (.string n)).run P w = .ok () w:=by
 unfold eqGuard; cases op <;> rfl
theorem Kc (op:BinOp) (t:TypeId) (x y:Operand) (m n:Bool) (w:World) : (eqGuard op t x y (.bool m) (.bool n)).run P w = .ok () w:=by
 unfold eqGuard; cases op <;> rfl
theorem TG {op:BinOp} {t:TypeId} {k:IntKind} {x y:Int} {r:PV} (h:za op k x y=some r) : ∃ v,r = .d (.v v)∧v.oneCell' = true∧(binOp op t (.int k x) (.int k y)).run P w = .ok v w:=by
 cases op <;> simp only [za] at h <;> first
  | (cases h; done)
  | (injection h with h; subst h; refine ⟨_,rfl,rfl,?_⟩; simp [binOp,Op.intArith,Op.intCmp]; done)
  | (injection h with h; subst h; refine ⟨_,rfl,rfl,?_⟩; simp [binOp,intBits_and,intBits_or,intBits_xor]; done)
  | (split at h
     ·cases h
     ·rename_i hy; injection h with h; subst h; refine ⟨_,rfl,rfl,?_⟩; simp [binOp,Op.intDiv,hy]; done)
theorem TE {op:BinOp} {t:TypeId} {k k':IntKind} {x y:Int} {r:PV} (h:s6 op k x y=some r) : ∃ v,r = .d (.v v)∧v.oneCell' = true∧(binOp op t (.int k x) (.int k' y)).run P w = .ok v w:=by
 unfold s6 at h
 split at h
 ·cases h
 ·rename_i hy
  cases op <;> simp only at h <;> first
   | (cases h; done)
   | (injection h with h; subst h; refine ⟨_,rfl,rfl,?_⟩; simp [binOp,Op.shift,hy])
theorem TD {op:BinOp} {t:TypeId} {x y:ByteArray} {r:PV} (h:LK op x y=some r) : ∃ v,r = .d (.v v)∧v.oneCell' = true∧(binOp op t (.string x) (.string y)).run P w = .ok v w:=by
 cases op <;> simp only [LK] at h <;> first
  | (cases h; done)
  | (injection h with h; subst h; refine ⟨_,rfl,rfl,?_⟩; simp [binOp,Op.stringOp]; done)
  | (split at h
     ·rename_i hs
      injection h with h; subst h; refine ⟨_,rfl,rfl,?_⟩
      have e:IntKind.i64.max=9223372036854775807:=by decide
      have:(x.size:Int) + (y.size:Int)≤9223372036854775807:=by omega
      simp [binOp,Op.stringOp,e,this]
     ·cases h)
theorem Pb {op:BinOp} {t:TypeId} (ht:P.underlying t=some .bool) {x y:Bool} {r:PV} (h:rm op x y=some r) : ∃ v,r = .d (.v v)∧v.oneCell' = true∧(binOp op t (.bool x) (.bool y)).run P w = .ok v w:=by
 cases op <;> simp only [rm] at h <;> first
  | (cases h; done)
  | (injection h with h; subst h; refine ⟨_,rfl,rfl,?_⟩; simp [binOp,run_equal_bool w t x y ht]; done)
theorem Uw {op:BinOp} {t:TypeId} {xv yv:Value} {p q r:PV} (hx:aR ρ b w F xv p) (hy:aR ρ b w F yv q) (h:Kf P op t p q=some r) :
  ∃ v xs ys,xv = .agg xs∧yv = .agg ys∧r = .d (.v v)∧v.oneCell' = true∧(binOp op t (.agg xs) (.agg ys)).run P w = .ok v w∧P.eqGuardType P.depth t=false:=by
 unfold Kf at h
 split at h
 ·rename_i cs ds l hl
  split at h
  ·rename_i e he
   cases hx with
   | ag xs _ hlx h1x hrx =>
    cases hy with
    | ag ys _ hly h1y hry =>
     unfold aaF at hl
     split at hl
     ·rename_i hc
      simp only [Bool.and_eq_true,Bool.not_eq_true'] at hc
      have hX:cG ρ b w F xs.toList cs:=⟨by simpa using hlx,fun j x c h2 h3=>hrx j x c (by simpa using h2) h3⟩
      have hY:cG ρ b w F ys.toList ds:=⟨by simpa using hly,fun j x c h2 h3=>hry j x c (by simpa using h2) h3⟩
      have hk:=Mw 6 9994 t l xs.toList ys.toList cs ds e hl hX hY he (fun h=>by rw [hc.1] at h; cases h)
      simp only [yp,hc.1,if_true,Array.toArray_toList] at hk
      have heq:(Op.equal t (.agg xs) (.agg ys)).run P w = .ok e w:=hk
      cases op <;> simp only [rm] at h <;> first
       | (cases h; done)
       | (injection h with h; subst h; refine ⟨_,xs,ys,rfl,rfl,rfl,rfl,?_,hc.2⟩; simp [binOp,heq]; done)
     ·cases hl
  ·cases h
 ·cases h
theorem Uy {op:BinOp} {t:TypeId} {x y:Operand} {xv yv:Value} {p q r:PV} (hx:aR ρ b w F xv p) (hy:aR ρ b w F yv q) (h:tr P op t p q=some r) :
  ∃ v,aR ρ b w F v r∧(do eqGuard op t x y xv yv; binOp op t xv yv:Sem Value).run P w = .ok v w:=by
 have fin:∀ {v:Value},r = .d (.v v)→v.oneCell' = true→(eqGuard op t x y xv yv).run P w = .ok () w→(binOp op t xv yv).run P w = .ok v w→∃ v,aR ρ b w F v r∧(do eqGuard op t x y xv yv; binOp op t xv yv:Sem Value).run P w = .ok v w:=by
  rintro v rfl h1 h2 h3
  exact ⟨v,.lit h1,by simp [Sem.run_bind,h2,h3]⟩
 unfold tr at h
 split at h
 ·rename_i k m k' n h1 h2
  split at h
  ·obtain rfl:=ec hx h1
   obtain rfl:=ec hy h2
   obtain ⟨v,h3,h4,h5⟩:=TE (P:=P) (w:=w) (t:=t) (k':=k') h
   exact fin h3 h4 (Cj _ _ _ _ _ _ _ _ _) h5
  split at h
  ·rename_i hk
   subst hk
   obtain rfl:=ec hx h1
   obtain rfl:=ec hy h2
   obtain ⟨v,h3,h4,h5⟩:=TG (P:=P) (w:=w) (t:=t) h
   exact fin h3 h4 (Cj _ _ _ _ _ _ _ _ _) h5
  ·cases h
 ·split at h
  ·rename_i m n h1 h2
   obtain rfl:=sG hx h1
   obtain rfl:=sG hy h2
   obtain ⟨v,h3,h4,h5⟩:=TD (P:=P) (w:=w) (t:=t) h
   exact fin h3 h4 (MR _ _ _ _ _ _ _) h5
  ·split at h
   ·rename_i m n h1 h2 h3
    obtain rfl:=sH hx h1
    obtain rfl:=sH hy h2
    obtain ⟨v,h3,h4,h5⟩:=Pb (P:=P) (w:=w) h3 h
    exact fin h3 h4 (Kc _ _ _ _ _ _ _) h5
   ·obtain ⟨v,xs,ys,rfl,rfl,h3,h4,h5,h6⟩:=Uw (w:=w) hx hy h
    exact fin h3 h4 (run_eqGuard_agg w op t x y xs ys h6) h5
theorem Xx {op:UnOp} {xv:Value} {p r:PV} (hx:aR ρ b w F xv p) (h:S3 op p=some r) : ∃ v,aR ρ b w F v r∧(Op.unary op xv).run P w = .ok v w:=by
 unfold S3 at h
 split at h
 ·rw [zm] at h
  obtain ⟨t,h1,rfl⟩:=h
  obtain rfl:=sH hx h1
  exact ⟨_,.lit rfl,by simp [Op.unary]⟩
 ·rw [zm] at h
  obtain ⟨⟨k,n⟩,h1,rfl⟩:=h
  obtain rfl:=ec hx h1
  exact ⟨_,.lit rfl,by simp [Op.unary,Op.intArith]⟩
 ·cases h
theorem PY {src dst:TypeId} {xv:Value} {p r:PV} (hx:aR ρ b w F xv p) (h:tp P src dst p=some r) : ∃ v,aR ρ b w F v r∧(convert src dst xv).run P w = .ok v w:=by
 unfold tp at h
 split at h
 ·rename_i u k hu hk
  rw [zm] at h
  obtain ⟨⟨k',n⟩,h1,rfl⟩:=h
  obtain rfl:=ec hx h1
  refine ⟨_,.lit rfl,?_⟩
  simp [convert,run_underlying hu,run_underlying hk,Conv.intToInt]
 ·rename_i u hu hk
  rw [zm] at h
  obtain ⟨n,h1,rfl⟩:=h
  obtain rfl:=sG hx h1
  refine ⟨_,.lit rfl,?_⟩
  simp [convert,run_underlying hu,run_underlying hk]
 ·cases h
theorem Ch {t:TypeId} {f off size:Nat} {agg:Bool} (h:(Bg P t)[f]? = some (off,size,agg)) : ∃ fs fd j,P.underlying t=some (.struct fs)∧fs[f]? = some fd∧fd.offset=off∧P.info? fd.type=some j∧j.size=size∧jc P fd.type=agg∧∃ u,P.underlying fd.type=some u:=by
 unfold Bg MJ at h
 split at h
 ·rename_i fs hu
  refine ⟨fs,?_⟩
  cases hm:fs.toList.mapM (uQ P) with
  | none=>simp [hm] at h
  | some l =>
   rw [hm] at h
   simp only [Option.getD_some] at h
   have key:∀ (l1:List Field) (l2:List (Nat×Nat×Bool)),l1.mapM (uQ P)=some l2→∀ (f:Nat) (x:Nat×Nat×Bool),l2[f]? = some x→∃ fd,l1[f]? = some fd∧uQ P fd=some x:=by
    intro l1
    induction l1 with
    | nil=>intro l2 h f x hx; simp at h; subst h; simp at hx
    | cons a l1 ih =>
     intro l2 h f x hx
     simp only [List.mapM_cons,Option.bind_eq_bind,Option.pure_def] at h
     cases ha:uQ P a with
     | none=>simp [ha] at h
     | some y =>
      cases hr:l1.mapM (uQ P) with
      | none=>simp [ha,hr] at h
      | some rest =>
       simp [ha,hr] at h
       subst h
       cases f with
       | zero=>simp at hx; subst hx; exact ⟨a,rfl,ha⟩
       | succ f=>simp at hx; simpa using ih rest hr f x hx
   obtain ⟨fd,h1,h2⟩:=key _ _ hm f _ h
   unfold uQ at h2
   cases hj:P.info? fd.type with
   | none=>simp [hj] at h2
   | some j =>
    simp only [hj] at h2
    split at h2
    ·rename_i hu2
     simp only [Option.some.injEq,Prod.mk.injEq] at h2
     exact ⟨fd,j,hu,by rw [← Array.getElem?_toList]; exact h1,h2.1,hj,h2.2.1,h2.2.2,Option.isSome_iff_exists.1 hu2⟩
    ·cases h2
 ·simp at h
theorem CZ {t:TypeId} {f:Nat} {xv:Value} {p r:PV} (hx:aR ρ b w F xv p) (h:hJ P t p f=some r) : ∃ v,aR ρ b w F v r∧(Instr.fieldAt t xv f).run P w = .ok v w:=by
 unfold hJ at h
 split at h
 ·rename_i off size agg hf
  obtain ⟨fs,fd,j,hu,hfd,rfl,hj,rfl,_,_⟩:=Ch hf
  split at h
  ·cases h
  ·rename_i hs
   have run:∀ a:Addr,(Instr.fieldAt t (.pointer (some a)) f).run P w = .ok (.pointer (some (a.add fd.offset))) w:=by
    intro a
    simp [Instr.fieldAt,run_underlying hu,hfd,Instr.sureAddr,fieldPlace,sizeOf,typeInfo,hj,hs]
   split at h
   ·injection h with h
    subst h
    cases hx with
    | ptr _ _ g ty cs hb hρ =>
     exact ⟨_,.ptr _ _ g ty cs hb hρ,by rw [run,rv]⟩
   ·injection h with h
    subst h
    cases hx with
    | fe a cs us hF hcell hrep =>
     refine ⟨_,.fe (a.add fd.offset) _ (fun j=>us (fd.offset + j)) (by rw [da]; exact hF) (fun j d hj=>?_) (fun j d hj=>?_),by rw [run]⟩
     ·rw [List.getElem?_drop] at hj
      rw [Go.Deep.add_add]
      exact hcell _ d hj
     ·rw [List.getElem?_drop] at hj
      exact hrep _ d hj
   ·injection h with h
    subst h
    cases hx with
    | re _ _ _ _ a e k es hb hn hi hρ =>
     refine ⟨_,.re _ _ _ _ (a.add fd.offset) e k es hb hn hi (fun h=>?_),by rw [run]⟩
     obtain ⟨g,c,h1,h2⟩:=hρ h
     exact ⟨g,c,h1,by rw [h2,rv,Nat.add_assoc]⟩
   ·cases h
 ·cases h
theorem px {t:TypeId} {u:TypeDesc} (hu:P.underlying t=some u) : (isAgg t).run P w = .ok (jc P t) w:=by
 unfold isAgg
 rw [Sem.run_bind,run_underlying hu w]
 unfold jc
 rw [hu]
 cases u <;> rfl
theorem AX {size:Nat} {agg:Bool} {xs:List Value} {cl:List PV} {r:PV} (hr:cG ρ b w F xs cl) (h1:∀ x∈xs,x.oneCell' = true) (h:B8 size agg cl=some r) :
  (agg=true∧size≤xs.length∧aR ρ b w F (.agg (xs.take size).toArray) r)∨(agg=false∧∃ x,xs[0]? = some x∧aR ρ b w F x r):=by
 unfold B8 at h
 split at h
 ·rename_i ha
  split at h
  ·rename_i hs
   injection h with h
   subst h
   have ht:=hr.take size
   refine .inl ⟨ha,by rw [hr.len]; exact hs,.ag _ _ (by simpa using ht.len) (fun x hx=>h1 x (List.mem_of_mem_take (by simpa using hx))) (fun j x c h2 h3=>ht.rep j x c (by simpa using h2) h3)⟩
  ·cases h
 ·rename_i ha
  cases cl with
  | nil=>cases h
  | cons c cl =>
   injection h with h
   subst h
   cases xs with
   | nil=>have:=hr.len; simp at this
   | cons x xs=>exact .inr ⟨by simpa using ha,x,rfl,hr.rep 0 x c rfl rfl⟩
theorem M2 {t:TypeId} {f:Nat} {xv:Value} {p r:PV} (hx:aR ρ b w F xv p) (h:uT P t p f=some r) : ∃ v,aR ρ b w F v r∧(Instr.field t xv f).run P w = .ok v w:=by
 unfold uT at h
 split at h
 ·rename_i off size agg cs hf
  obtain ⟨fs,fd,j,hu,hfd,rfl,hj,rfl,ha,u,hu2⟩:=Ch hf
  cases hx with
  | ag xs _ hl h1 hr =>
   have R:cG ρ b w F xs.toList cs:=⟨by simpa using hl,fun j x c h2 h3=>hr j x c (by simpa using h2) h3⟩
   have hp:=AX (R.drop fd.offset) (fun x hx=>h1 x (by simpa using List.mem_of_mem_drop hx)) h
   have key:∀ u,P.underlying fd.type=some u→∃ v,aR ρ b w F v r∧(Instr.field t (.agg xs) f).run P w = .ok v w:=by
    intro u hu2
    rcases hp with ⟨h2,h3,h4⟩ | ⟨h2,x,h3,h4⟩
    ·refine ⟨_,h4,?_⟩
     have e:(xs.extract fd.offset (fd.offset + j.size))=((xs.toList.drop fd.offset).take j.size).toArray:=by
      apply Array.ext'
      simp [Array.toList_extract,List.extract]
     simp [Instr.field,run_underlying hu,hfd,asAgg,part,px hu2,ha,h2,sizeOf,typeInfo,hj,e]
    ·refine ⟨x,h4,?_⟩
     rw [List.getElem?_drop,Nat.add_zero,Array.getElem?_toList] at h3
     simp [Instr.field,run_underlying hu,hfd,asAgg,part,px hu2,ha,h2,h3]
   exact key u hu2
 ·cases h
theorem Fp {t:TypeId} {xv:Value} {p r:PV} (hi:Inv w0 F0 ρ b w F) (hx:aR ρ b w F xv p) (h:qU P b t p=some r) : ∃ v,aR ρ b w F v r∧(Instr.loadAt t xv).run P w = .ok v w:=by
 unfold qU at h
 split at h
 ·rename_i i cl hi' hcl
  obtain ⟨j,z,u,hj,hz,hu,hzs,hs,hby,ha,_,_⟩:=dm hi'
  obtain ⟨a,rfl,us,hR,hc,h1⟩:=Cp hi hx hcl
  rcases AX hR h1 h with ⟨h2,h3,h4⟩ | ⟨h2,x,h3,h4⟩
  ·refine ⟨_,h4,?_⟩
   have hl:=run_loadCells_list (P:=P) w a (us.take i.size) (fun j v hv=>by
    rw [List.getElem?_take] at hv
    split at hv
    ·exact hc j v hv
    ·cases hv)
   rw [List.length_take,Nat.min_eq_left h3] at hl
   simp [Instr.loadAt,Instr.sureAddr,loadVar,px hu,← ha,h2,sizeOf,typeInfo,hj,hs,hl]
  ·refine ⟨x,h4,?_⟩
   have:=hc 0 x h3
   have e:a.add 0=a:=by simp [Addr.add]
   rw [e] at this
   simp [Instr.loadAt,Instr.sureAddr,loadVar,px hu,← ha,h2,load,Sem.run,this]
 ·cases h
theorem yZ {t e:TypeId} (h:P.underlying t=some (.slice e)) : P.elem t=e:=by unfold Program.elem; simp [h]
theorem CY {t:TypeId} {xv yv:Value} {p q r:PV} (hi:Inv w0 F0 ρ b w F) (hx:aR ρ b w F xv p) (hy:aR ρ b w F yv q) (h:ek P b t p q=some r) : ∃ v,aR ρ b w F v r∧(Instr.indexAt t xv yv).run P w = .ok v w:=by
 unfold ek at h
 split at h
 ·rename_i e k i hu hq
  obtain rfl:=ec hy hq
  split at h
  ·rename_i ie hie
   obtain ⟨j,z,u,hj,hz,hu2,hzs,hs,hby,ha,_,_⟩:=dm hie
   split at h
   ·rename_i h0
    have run:∀ (a:Addr) (n c:Nat),i.toNat < n→(Instr.indexAt t (.slice (some a) n c) (.int k i)).run P w = .ok (.pointer (some (a.add (i.toNat * ie.size)))) w:=by
     intro a n c hlt
     rw [run_indexAt_slice w t a n c k i (by rw [yZ hu]; exact hu),if_pos ⟨h0,by omega⟩,yZ hu]
     simp [sizeOf,typeInfo,hj,hs,Result.andThen]
    split at h
    ·rename_i es
     split at h
     ·rename_i el hel
      split at h
      ·rename_i hlen
       injection h with h
       subst h
       cases hx with
       | d _ _ hd =>
        cases hd with
        | sl A n c k' _ us hn hc hm hk hA _ hcell hrep =>
         have hlt:i.toNat < n:=by rw [hn]; exact (zg.1 hel).1
         obtain ⟨a,rfl,hFa⟩:=hA (by omega)
         have hk':k' = ie.size:=by rw [← hlen]; exact (hk el (List.mem_of_getElem? hel)).symm
         refine ⟨_,.fe (a.add (i.toNat * ie.size)) el (fun j=>us (i.toNat * ie.size + j)) (by rw [da]; exact hFa) (fun j d hd=>?_) (fun j d hd=>?_),run a n c hlt⟩
         all_goals
          have hj':j < ie.size:=by have:=(zg.1 hd).1; omega
          have hfl:=yV ie.size es (fun e he=>by rw [hk e he,hk']) i.toNat el hel j hj'
          rw [hd] at hfl
         ·rw [Go.Deep.add_add]
          exact hcell a _ d rfl hfl
         ·exact hrep _ d hfl
      ·cases h
     ·cases h
    ·rename_i t' n
     split at h
     ·rename_i e' k' es' hbx
      split at h
      ·rename_i hc
       obtain ⟨rfl,hlt⟩:=hc
       injection h with h
       subst h
       cases hx with
       | row _ _ A c e2 k2 es2 hb hn hc hA hρ =>
        rw [hbx] at hb
        injection hb with hb
        injection hb with e1 e2 e3
        subst e1 e2 e3
        obtain ⟨a,rfl⟩:=hA (by omega)
        refine ⟨_,.re _ _ _ _ (a.add (i.toNat * ie.size)) _ _ _ hbx hn hlt (fun hl=>?_),run a n c hlt⟩
        have hr:=hρ hl
        cases hi.box _ _ hbx with
        | gn _ _ _ hg=>rw [hr] at hg; cases hg
        | rw _ _ _ xs hk0 ho hF hk hl' hrep =>
         rw [hr] at ho
         rcases ho.2 with ⟨h,_⟩ | ⟨g,cap,cur,h,_⟩
         ·cases h
         ·injection h with h _ _
          injection h with h
          subst h
          exact ⟨g,c,hr,by rw [rv,Nat.zero_add,Nat.add_zero]⟩
      ·cases h
     ·cases h
    ·cases h
   ·cases h
  ·cases h
 ·cases h
theorem G9 {i:Nat} {xv:Value} {p r:PV} (hx:aR ρ b w F xv p) (h:tn p i=some r) : ∃ v,aR ρ b w F v r∧(Instr.extract xv i).run P w = .ok v w:=by
 unfold tn at h
 split at h
 ·rename_i vs
  cases hx with
  | tup xs _ hl hr =>
   have hlt:i < xs.size:=by rw [hl]; exact (zg.1 h).1
   exact ⟨xs[i],hr i _ _ (by simp [hlt]) h,by simp [Instr.extract,hlt]⟩
 ·cases h
theorem Uu {t ty:TypeId} {xv:Value} {p r:PV} (hx:aR ρ b w F xv p) (h:uS P t p=some r) : ∃ v,aR ρ b w F v r∧(Builtin.len_ #[t] ty #[xv]).run P w = .ok v w:=by
 unfold uS at h
 split at h
 ·rename_i e hu
  rw [zm] at h
  obtain ⟨n,h1,rfl⟩:=h
  obtain ⟨A,c,rfl⟩:=T5 hx h1
  exact ⟨_,.lit rfl,by simp [Builtin.len_,run_underlying hu,goInt]⟩
 ·rename_i hu
  rw [zm] at h
  obtain ⟨n,h1,rfl⟩:=h
  obtain rfl:=sG hx h1
  exact ⟨_,.lit rfl,by simp [Builtin.len_,run_underlying hu,goInt]⟩
 ·cases h
end
end
section
def xB (k:Nat) (es:List (List D)) : Prop:=∀ e∈es,e.length=k
instance (k:Nat) (es:List (List D)) : Decidable (xB k es):=inferInstanceAs (Decidable (∀ e∈es,e.length=k))
def small (n b:Nat) : Prop:=n * b≤140737488355328
instance (n b:Nat) : Decidable (small n b):=inferInstanceAs (Decidable (n * b≤140737488355328))
def toD:PV→Option D | .d x=>some (nrm x) | _=>none
def sB (k:Nat) : Nat→List D→List (List D)
 | 0,_=>[]
 | n + 1,l=>l.take k::sB k n (l.drop k)
def Fa (place:Nat→Option (Nat×Nat)) : List PV→List (Nat×PV)→Option (List PV)
 | cs,[]=>some cs
 | cs,(i,p)::rest=>match place i,Bt p with
  | some (off,size),some ns=>if ns.length=size∧off + ns.length≤cs.length then Fa place (splice cs off ns) rest else none
  | _,_=>none
def pG (i:TI) : List PV:=i.zero.map fun x=>.d (.v x)
def uU (P:Program) (b:Nat→Option Box) (dst:Option Nat) (e:TypeId) : Option (PV×Option (Nat×Box)) :=
 match dst,mw P e with
 | some t,some i=>match b t with
  | none=>some (.ptr t 0,some (t,.st e (pG i)))
  | some _=>none
 | _,_=>none
def Fw (b:Nat→Option Box) (dst:Option Nat) (e:TypeId) (p:PV) : Option (PV×Option (Nat×Box)) :=
 match dst,Bt p with
 | some t,some cs=>match b t with
  | none=>some (.ptr t 0,some (t,.st e cs))
  | some _=>none
 | _,_=>none
def aam (P:Program) (t:TypeId) : Option (Nat→Option (Nat×Nat)):=match P.underlying t with
 | some (.array _ e)=>(mw P e).map fun i j=>some (j * i.size,i.size)
 | _=>(MJ P t).map fun fl j=>(fl[j]?).map fun x=>(x.1,x.2.1)
def y5 (P:Program) (t:TypeId) (parts:List (Nat×PV)) : Option PV :=
 match mw P t,aam P t with
 | some i,some pl=>(Fa pl (pG i) parts).map .ag
 | _,_=>none
def iU (P:Program) (b:Nat→Option Box) (dst:Option Nat) (t:TypeId) (len:Nat) (parts:List (Nat×PV)) : Option (PV×Option (Nat×Box)) :=
 match dst,P.underlying t with
 | some d,some (.slice e)=>match mw P e,b d with
  | some i,none=>if 0 < i.size∧len≤1000∧len * i.size≤16777216 then
    match Fa (fun j=>some (j * i.size,i.size)) (List.replicate len (pG i)).flatten parts with
    | some cs=>match cs.mapM toD with
     | some ds=>some (.row d len,some (d,.rw e i.size (sB i.size len ds)))
     | none=>none
    | none=>none
   else none
  | _,_=>none
 | _,_=>none
def lH (P:Program) (b:Nat→Option Box) (t:TypeId) (p q:PV) : Option (Nat×Box) :=
 match mw P t,Bt q with
 | some i,some ns=>match p with
  | .ptr x off=>match b x with
   | some (.st ty cs)=>if ns.length=i.size∧off + ns.length≤cs.length then some (x,.st ty (splice cs off ns)) else none
   | _=>none
  | .re x n j off=>match b x,ns.mapM toD with
   | some (.rw e k es),some ds=>match es[j]? with
    | some el=>if es.length=n∧ds.length=i.size∧off + ds.length≤el.length then some (x,.rw e k (es.set j (splice el off ds))) else none
    | none=>none
   | _,_=>none
  | _=>none
 | _,_=>none
def jG (P:Program) (b:Nat→Option Box) (dst:Option Nat) (t:TypeId) (p q:PV) : Option (PV×Option (Nat×Box)) :=
 match P.underlying t,lc b q with
 | some (.slice e),some es2=>match mw P e with
  | some i=>if 0 < i.size∧0 < i.bytes∧xB i.size es2 then
    match p with
    | .row x n=>match b x with
     | some (.rw e' k es)=>if es.length=n∧e' = e∧k=i.size∧small (n + es2.length) i.bytes then some (.row x (n + es2.length),some (x,.rw e k (es++es2))) else none
     | _=>none
    | .d (.v (.slice none n c))=>if n=0∧c=0 then (match dst with
      | some d=>match b d with
       | none=>if small es2.length i.bytes then some (.row d es2.length,some (d,.rw e i.size es2)) else none
       | some _=>none
      | none=>none) else none
    | _=>none
   else none
  | none=>none
 | _,_=>none
section
variable {P:Program} {ρ ρ':Nat→Value} {b b':Nat→Option Box} {w w':World} {w0:WM} {F F' F0:Nat→Prop}
def Got (P:Program) (w0:WM) (F0:Nat→Prop) (ρ : Nat→Value) (b:Nat→Option Box) (w:World) (F:Nat→Prop) (res:Result Value) (r:PV) (u:Option (Nat×Box)) : Prop :=
 ∃ v w' ρ',res = .ok v w'∧Inv w0 F0 ρ' (dc b u) w' F∧Stp ρ b w F ρ' (dc b u) w' F∧aR ρ' (dc b u) w' F v r
theorem Got.pure (hi:Inv w0 F0 ρ b w F) {res:Result Value} {r:PV} (h:∃ v,aR ρ b w F v r∧res = .ok v w) : Got P w0 F0 ρ b w F res r none:=by
 obtain ⟨v,h1,h2⟩:=h
 exact ⟨v,w,ρ,h2,hi,Stp.refl _ _ _ _,h1⟩
theorem ZU {t e:Nat} {xs:Array Value} {cs:List PV} (hi:Inv w0 F0 ρ b w F) (ht:t < 1000000) (hb:b t=none) (hr:cG ρ b w F xs.toList cs) (h1:∀ x∈xs,x.oneCell' = true) :
  Got P w0 F0 ρ b w F (.ok (.pointer (some ⟨w.heap.size,0,none⟩)) (w.alloc (.cells xs e))) (.ptr t 0) (some (t,.st e cs)):=by
 have:=Inv.new (t:=t) (B:=.st e cs) (v:=.pointer (some ⟨w.heap.size,0,none⟩)) (w':=w.alloc (.cells xs e)) hi ht hb (aU _ _) (fun g hg=>by simp [blk] at hg; omega) (fun s=>by
  have hrs:=hr.mono s
  exact .st e cs w.heap.size xs (dn _ _ _) (.inl hi.ext.size) (fun h=>by have:=hi.flt _ h; omega) (heap_alloc_new w _) (by simpa using hr.len) h1 (fun j x c h2 h3=>hrs.rep j x c (by simpa using h2) h3))
 exact ⟨_,_,_,rfl,this.1,this.2,.ptr t 0 w.heap.size e cs (cZ _ _ _) (dn _ _ _)⟩
theorem uo {i:TI} {z:Value} (hz:i.zero=z.cells.toList) (h1:∀ x∈i.zero,x.oneCell' = true) : cG ρ b w F z.cells.toList (pG i):=by
 refine ⟨by rw [pG,hz]; simp,fun j x c h2 h3=>?_⟩
 rw [pG,hz,List.getElem?_map,h2] at h3
 injection h3 with h3
 subst h3
 exact .d _ _ (.v x (h1 x (by rw [hz]; exact List.mem_of_getElem? h2)))
theorem M5 {dst:Option Nat} {e:TypeId} {r:PV} {u:Option (Nat×Box)} (hd:∀ d,dst=some d→d < 1000000) (hi:Inv w0 F0 ρ b w F) (h:uU P b dst e=some (r,u)) : Got P w0 F0 ρ b w F ((Instr.alloc e true (.tuple #[])).run P w) r u:=by
 unfold uU at h
 split at h
 ·rename_i t i hti
  obtain ⟨j,z,uu,hj,hz,hu,hzs,hs,hby,ha,hzz,h1⟩:=dm hti
  split at h
  ·rename_i hb
   injection h with h
   injection h with e1 e2
   subst e1 e2
   have:=ZU (P:=P) (e:=e) hi (hd _ rfl) hb (uo (w:=w) (F:=F) hzz h1) (fun x hx=>h1 x (by rw [hzz]; simpa using hx))
   have hrun:(Instr.alloc e true (.tuple #[])).run P w = .ok (.pointer (some ⟨w.heap.size,0,none⟩)) (w.alloc (.cells z.cells e)):=by
    simp [Instr.alloc,zeroValue,typeInfo,hj,hz,newVar,newRow]
   rw [hrun]
   exact this
  ·cases h
 ·cases h
theorem Ux {dst:Option Nat} {e:TypeId} {xv:Value} {p r:PV} {u:Option (Nat×Box)} (hd:∀ d,dst=some d→d < 1000000) (hi:Inv w0 F0 ρ b w F) (hx:aR ρ b w F xv p) (h:Fw b dst e p=some (r,u)) : Got P w0 F0 ρ b w F ((Instr.box e xv).run P w) r u:=by
 unfold Fw at h
 split at h
 ·rename_i t cs hcs
  obtain ⟨hr,h1⟩:=qW hx hcs
  split at h
  ·rename_i hb
   injection h with h
   injection h with e1 e2
   subst e1 e2
   have:=ZU (P:=P) (e:=e) hi (hd _ rfl) hb hr (fun x hx=>h1 x (by simpa using hx))
   have hrun:(Instr.box e xv).run P w = .ok (.pointer (some ⟨w.heap.size,0,none⟩)) (w.alloc (.cells xv.cells e)):=by
    simp [Instr.box,newVar,newRow]
   rw [hrun]
   exact this
  ·cases h
 ·cases h
theorem Cg:∀ (l:List Value) (off i:Nat) (cells:Array Value),off + i + l.length≤cells.size→(l.zipIdx i).foldl (fun cs (c,j)=>cs.setIfInBounds (off + j) c) cells=(splice cells.toList (off + i) l).toArray
 | [],off,i,cells,_=>by simp [splice]
 | v::l,off,i,cells,h=>by
  simp only [List.length_cons] at h
  rw [List.zipIdx_cons,List.foldl_cons,Cg l off (i + 1) _ (by simp; omega)]
  congr 1
  have e:=list_seg_step cells.toList (off + i) v l (by simp; omega)
  unfold splice
  rw [Array.toList_setIfInBounds,← Nat.add_assoc]
  exact e
theorem J7 (place:Nat→Option (Nat×Nat)) : ∀ (vs:List (Nat×Value)) (ps:List (Nat×PV)) (cells:Array Value) (cs cs':List PV),vs.length=ps.length →
  (∀ (j:Nat) v p,vs[j]? = some v→ps[j]? = some p→v.1=p.1∧aR ρ b w F v.2 p.2)→cG ρ b w F cells.toList cs→(∀ x∈cells,x.oneCell' = true)→Fa place cs ps=some cs' →
  ∃ cells',Instr.fill place cells vs=some cells'∧cG ρ b w F cells'.toList cs'∧(∀ x∈cells',x.oneCell' = true)∧cells'.size=cells.size
 | [],[],cells,cs,cs',_,_,hr,h1,h=>by
  injection h with h
  subst h
  exact ⟨cells,rfl,hr,h1,rfl⟩
 | [],_ :: _,_,_,_,hl,_,_,_,_=>by simp at hl
 | _ :: _,[],_,_,_,hl,_,_,_,_=>by simp at hl
 | (i,v)::vs,(i',p)::ps,cells,cs,cs',hl,hp,hr,h1,h=>by
  obtain ⟨e,hv⟩:=hp 0 _ _ rfl rfl
  simp only at e hv
  subst e
  simp only [Fa] at h
  split at h
  ·rename_i off size ns hpl hns
   split at h
   ·rename_i hc
    obtain ⟨hc1,hc2⟩:=hc
    obtain ⟨hrn,h1n⟩:=qW hv hns
    have hsz:v.cells.size=size:=by have:=hrn.len; simp at this; omega
    have hcs:cs.length=cells.size:=by have:=hr.len; simp at this; omega
    have hfit : ¬ (v.cells.size≠size∨off + v.cells.size > cells.size):=by omega
    have hfold:v.cells.zipIdx.foldl (fun cs (c,j)=>cs.setIfInBounds (off + j) c) cells=(splice cells.toList off v.cells.toList).toArray:=by
     have:=Cg v.cells.toList off 0 cells (by simp; omega)
     rw [Nat.add_zero] at this
     rw [← this,← Array.foldl_toList]
     simp
    obtain ⟨cells',h2,h3,h4,h5⟩:=J7 place vs ps (splice cells.toList off v.cells.toList).toArray (splice cs off ns) cs' (by simpa using hl) (fun j v p h2 h3=>hp (j + 1) v p (by simpa using h2) (by simpa using h3)) (by simpa using hr.splice hrn off)
     (fun x hx=>Er (xs:=cells.toList) (fun y hy=>h1 y (by simpa using hy)) h1n off x (by simpa using hx)) h
    refine ⟨cells',?_,h3,h4,?_⟩
    ·simp only [Instr.fill,hpl]
     rw [if_neg (by simpa using hfit),hfold]
     exact h2
    ·rw [h5]
     have:=mJ (cs:=cells.toList) (ns:=v.cells.toList) (off:=off) (by simp; omega)
     simpa using this
   ·cases h
  ·cases h
theorem Ib {a:Act} {s:PS} (h:∀ x,aR ρ s.b w F (a.eval x) (ev s x)) (parts:Array (Nat×Operand)) : (parts.map fun (i,x)=>(i,a.eval x)).toList.length=(parts.toList.map fun (i,x)=>(i,ev s x)).length ∧
  ∀ (j:Nat) v p,(parts.map fun (i,x)=>(i,a.eval x)).toList[j]? = some v→(parts.toList.map fun (i,x)=>(i,ev s x))[j]? = some p→v.1=p.1∧aR ρ s.b w F v.2 p.2:=by
 refine ⟨by simp,fun j v p h1 h2=>?_⟩
 rw [Array.toList_map,List.getElem?_map] at h1
 rw [List.getElem?_map] at h2
 cases hj:parts.toList[j]? with
 | none=>rw [hj] at h1; cases h1
 | some y =>
  rw [hj] at h1 h2
  injection h1 with h1
  injection h2 with h2
  subst h1 h2
  exact ⟨rfl,h _⟩
theorem TV {t:TypeId} {fl:List (Nat×Nat×Bool)} (h:MJ P t=some fl) : ∃ fs,P.underlying t=some (.struct fs)∧fs.toList.mapM (fun f=>(P.info? f.type).map fun i=>(f.offset,i.size))=some (fl.map fun x=>(x.1,x.2.1)):=by
 unfold MJ at h
 split at h
 ·rename_i fs hu
  refine ⟨fs,hu,?_⟩
  have key:∀ (l1:List Field) (l2:List (Nat×Nat×Bool)),l1.mapM (uQ P)=some l2→l1.mapM (fun f=>(P.info? f.type).map fun i=>(f.offset,i.size))=some (l2.map fun x=>(x.1,x.2.1)):=by
   intro l1
   induction l1 with
   | nil=>intro l2 h; simp at h; subst h; simp
   | cons a l1 ih =>
    intro l2 h
    simp only [List.mapM_cons,Option.bind_eq_bind,Option.pure_def] at h
    cases ha:uQ P a with
    | none=>simp [ha] at h
    | some y =>
     cases hr:l1.mapM (uQ P) with
     | none=>simp [ha,hr] at h
     | some rest =>
      simp [ha,hr] at h
      subst h
      have hy:(P.info? a.type).map (fun i=>(a.offset,i.size))=some (y.1,y.2.1):=by
       unfold uQ at ha
       cases hj:P.info? a.type with
       | none=>simp [hj] at ha
       | some j =>
        simp only [hj] at ha
        split at ha
        ·injection ha with ha
         subst ha
         rfl
        ·cases ha
      simp only [List.mapM_cons,Option.bind_eq_bind,Option.pure_def,hy,ih rest hr,zb,List.map_cons]
  exact key _ _ h
 ·cases h
theorem M4 {t:TypeId} {vs:Array (Nat×Value)} {ps:List (Nat×PV)} {r:PV} (hl:vs.toList.length=ps.length) (hp:∀ (j:Nat) v p,vs.toList[j]? = some v→ps[j]? = some p→v.1=p.1∧aR ρ b w F v.2 p.2)
  (h:y5 P t ps=some r) : ∃ v,aR ρ b w F v r∧(Instr.build t vs).run P w = .ok v w:=by
 unfold y5 at h
 split at h
 ·rename_i i pl hti hpl
  obtain ⟨j,z,uu,hj,hz,hu,hzs,hs,hby,ha,hzz,h1⟩:=dm hti
  rw [zm] at h
  obtain ⟨cs',h2,rfl⟩:=h
  obtain ⟨cells',h3,h4,h5,_⟩:=J7 _ vs.toList ps z.cells (pG i) cs' hl hp (uo hzz h1) (fun x hx=>h1 x (by rw [hzz]; simpa using hx)) h2
  refine ⟨.agg cells',.ag _ _ (by simpa using h4.len) h5 (fun j x c h6 h7=>h4.rep j x c (by simpa using h6) h7),run_build w t vs cells' ?_⟩
  unfold aam at hpl
  split at hpl
  ·rename_i m e hue
   rw [zm] at hpl
   obtain ⟨ie,hie,rfl⟩:=hpl
   obtain ⟨je,ze,ue,hje,_,_,_,hse,_⟩:=dm hie
   unfold Program.built
   simp only [hj,hue,hz,hje,hse]
   exact h3
  ·rw [zm] at hpl
   obtain ⟨fl,hfl,rfl⟩:=hpl
   obtain ⟨fs,hfs,hpl⟩:=TV hfl
   unfold Program.built
   simp only [hj,hfs,hz,hpl]
   have e:(fun (x:Nat)=>(fl.map fun (x:Nat×Nat×Bool)=>(x.1,x.2.1)).toArray[x]?)=fun (j:Nat)=>(fl[j]?).map fun (x:Nat×Nat×Bool)=>(x.1,x.2.1):=by
    funext j; simp
   rw [e]
   exact h3
 ·cases h
end
end
section
def wj:Option PV→Nat→Option Nat
 | none,n=>some n
 | some p,_=>match asI p with
  | some (_,i)=>if 0≤i then some i.toNat else none
  | none=>none
def eG (P:Program) (b:Nat→Option Box) (t:TypeId) (p:PV) (lo hi:Option PV) : Option PV :=
 match P.underlying t with
 | some (.slice e)=>match mw P e,p with
  | some i,.d _=>match lc b p with
   | some es=>match wj lo 0,wj hi es.length with
    | some l,some h=>if l≤h∧h≤es.length∧xB i.size es then some (.d (.sl ((es.drop l).take (h - l)))) else none
    | _,_=>none
   | none=>none
  | some i,.row t n=>match b t with
   | some (.rw _ k es)=>match wj lo 0,wj hi n with
    | some l,some h=>if es.length=n∧k=i.size∧l≤h∧h≤n then some (.vw t n l h) else none
    | _,_=>none
   | _=>none
  | _,_=>none
 | some .string=>match asS p with
  | some s=>match wj lo 0,wj hi s.size with
   | some l,some h=>if l≤h∧h≤s.size then some (.d (.v (.string (s.extract l h)))) else none
   | _,_=>none
  | none=>none
 | _=>none
def Fk (p q:PV) : Option PV:=match asI p,asI q with
 | some (k,x),some (_,y)=>some (.d (.v (.int k (if y < x then y else x))))
 | _,_=>none
def Fo (p q:PV) : Option PV:=match asI p,asI q with
 | some (k,x),some (_,y)=>some (.d (.v (.int k (if y > x then y else x))))
 | _,_=>none
def tj:PV→List PV→Option PV
 | p,[]=>some p
 | p,q::qs=>match Fk p q with
  | some r=>tj r qs
  | none=>none
def tm:PV→List PV→Option PV
 | p,[]=>some p
 | p,q::qs=>match Fo p q with
  | some r=>tm r qs
  | none=>none
section
variable {P:Program} {ρ ρ':Nat→Value} {b b':Nat→Option Box} {w w':World} {w0:WM} {F F' F0:Nat→Prop}
theorem Br (k:Nat) : ∀ (n:Nat) (l:List D),(sB k n l).length=n
 | 0,_=>rfl
 | n + 1,l=>by simp [sB,Br k n]
theorem FM (k:Nat) : ∀ (n:Nat) (l:List D),l.length=n * k→∀ x∈sB k n l,x.length=k
 | 0,_,_,x,h=>by simp [sB] at h
 | n + 1,l,hl,x,h=>by
  rw [Nat.succ_mul] at hl
  simp only [sB,List.mem_cons] at h
  rcases h with rfl | h
  ·simp; omega
  ·exact FM k n (l.drop k) (by simp; omega) x h
theorem xO (k:Nat) : ∀ (n:Nat) (l:List D),l.length=n * k→(sB k n l).flatten=l
 | 0,l,h=>by
  have:l = []:=List.eq_nil_of_length_eq_zero (by omega)
  subst this; rfl
 | n + 1,l,h=>by
  rw [Nat.succ_mul] at h
  simp only [sB,List.flatten_cons]
  rw [xO k n (l.drop k) (by simp; omega),List.take_append_drop]
theorem yO:∀ (cs:List PV) (ds:List D),cs.mapM toD=some ds→cs.length=ds.length∧∀ (j:Nat) d,ds[j]? = some d→∃ x,cs[j]? = some (.d x)∧d=nrm x
 | [],ds,h=>by simp at h; subst h; exact ⟨rfl,fun j d h=>by simp at h⟩
 | c::cs,ds,h=>by
  simp only [List.mapM_cons,Option.bind_eq_bind,Option.pure_def] at h
  cases hc:toD c with
  | none=>simp [hc] at h
  | some x =>
   cases hr:cs.mapM toD with
   | none=>simp [hc,hr] at h
   | some rest =>
    simp [hc,hr] at h
    subst h
    obtain ⟨h1,h2⟩:=yO cs rest hr
    unfold toD at hc
    split at hc
    ·rename_i y
     injection hc with hc
     subst hc
     refine ⟨by simp [h1],fun j d hj=>?_⟩
     cases j with
     | zero=>simp at hj; subst hj; exact ⟨y,rfl,rfl⟩
     | succ j=>simp at hj; simpa using h2 j d hj
    ·cases hc
theorem xe {z:Array Value} {k n:Nat} (hz:z.size=k) : ((Array.range (n * k)).map (z[· % z.size]!)).toList=(List.replicate n z.toList).flatten:=by
 apply List.ext_getElem?
 intro j
 have hf:(List.replicate n z.toList).flatten.length=n * k:=by
  rw [cr k _ (fun e he=>by rw [List.eq_of_mem_replicate he]; simpa using hz)]; simp
 by_cases hj:j < n * k
 ·have hk : 0 < k:=by
   rcases Nat.eq_zero_or_pos k with h | h
   ·rw [h] at hj; omega
   ·exact h
  have h1:j / k < n:=by rw [Nat.div_lt_iff_lt_mul hk]; exact hj
  have h2:=yV k (List.replicate n z.toList) (fun e he=>by rw [List.eq_of_mem_replicate he]; simpa using hz) (j / k) z.toList (by rw [List.getElem?_replicate,if_pos h1]) (j % k) (Nat.mod_lt _ hk)
  rw [show j / k * k + j % k=j by rw [Nat.mul_comm]; exact Nat.div_add_mod j k] at h2
  rw [h2]
  have h3:j % z.size < z.size:=by rw [hz]; exact Nat.mod_lt _ hk
  have h4:(Array.range (n * k))[j]? = some j:=by simp [hj]
  rw [← Array.getElem?_toList] at h4
  rw [Array.toList_map,List.getElem?_map,h4,← hz]
  simp [h3]
 ·rw [List.getElem?_eq_none (by simp; omega),List.getElem?_eq_none (by omega)]
theorem cG.flat {xs:List Value} {cs:List PV} (h:cG ρ b w F xs cs) : ∀ n,cG ρ b w F (List.replicate n xs).flatten (List.replicate n cs).flatten
 | 0=>.nil
 | n + 1=>by simp only [List.replicate_succ,List.flatten_cons]; exact h.append (cG.flat h n)
theorem Ez {t e k:Nat} {es:List (List D)} {xs:List Value} {v:Value} {w':World} (hi:Inv w0 F0 ρ b w F) (ht:t < 1000000) (hb:b t=none) (hk0 : 0 < k) (hx:Ext w w') (hv:∀ g,blk v=some g→w.heap.size≤g)
  (ho:w'.ownsRow 0 e k v es.length xs) (hk:∀ x∈es,x.length=k) (hl:xs.length=es.flatten.length) (hr:∀ (j:Nat) x d,xs[j]? = some x→es.flatten[j]? = some d→d7 w F x d) :
  Got P w0 F0 ρ b w F (.ok v w') (.row t es.length) (some (t,.rw e k es)):=by
 have:=Inv.new (t:=t) (B:=.rw e k es) (v:=v) (w':=w') hi ht hb hx hv (fun s=>by
  refine .rw e k es xs hk0 (by rw [dn]; exact ho) (fun g hg=>?_) hk hl (fun j x d h1 h2=>(hr j x d h1 h2).mono s.hF s.hw) (fun g hg=>.inl (Nat.le_trans hi.ext.size (hv g (by rw [dn] at hg; exact hg))))
  rw [dn] at hg
  intro h
  have:=hi.flt g h
  have:=hv g hg
  omega)
 refine ⟨v,w',_,rfl,this.1,this.2,?_⟩
 rcases ho.2 with ⟨rfl,h0⟩ | ⟨g,cap,cur,rfl,_,_,hc,_⟩
 ·rw [h0]
  exact .row t 0 none 0 e k es (cZ _ _ _) (by omega) (Nat.le_refl _) (fun h=>by omega) (fun _=>dn _ _ _)
 ·exact .row t es.length _ cap e k es (cZ _ _ _) (Nat.le_refl _) hc (fun _=>⟨_,rfl⟩) (fun _=>dn _ _ _)
theorem Bo {dst:Option Nat} {t:TypeId} {len:Nat} {vs:Array (Nat×Value)} {ps:List (Nat×PV)} {r:PV} {u:Option (Nat×Box)} (hd:∀ d,dst=some d→d < 1000000) (hi:Inv w0 F0 ρ b w F) (hl:vs.toList.length=ps.length) (hp:∀ (j:Nat) v p,vs.toList[j]? = some v→ps[j]? = some p→v.1=p.1∧aR ρ b w F v.2 p.2)
  (h:iU P b dst t len ps=some (r,u)) : Got P w0 F0 ρ b w F ((Instr.buildSlice t len vs).run P w) r u:=by
 unfold iU at h
 split at h
 ·rename_i d e hu
  split at h
  ·rename_i i hti hb
   obtain ⟨j,z,uu,hj,hz,hu2,hzs,hs,hby,ha,hzz,h1⟩:=dm hti
   split at h
   ·rename_i hc
    obtain ⟨hk0,hlen,hsm⟩:=hc
    split at h
    ·rename_i cs hfill
     split at h
     ·rename_i ds hds
      injection h with h
      injection h with e1 e2
      subst e1 e2
      have hzl:∀ x∈z.cells,x.oneCell' = true:=fun x hx=>h1 x (by rw [hzz]; simpa using hx)
      obtain ⟨cells',h3,h4,h5,h6⟩:=J7 (ρ:=ρ) (b:=b) (w:=w) (F:=F) (fun j=>some (j * i.size,i.size)) vs.toList ps ((Array.range (len * i.size)).map (z.cells[· % z.cells.size]!)) (List.replicate len (pG i)).flatten cs hl hp
       (by rw [xe hzs]; exact (uo hzz h1).flat len) (fun x hx=>by
        have hx2:x∈(List.replicate len z.cells.toList).flatten:=by rw [← xe hzs]; simpa using hx
        rw [List.mem_flatten] at hx2
        obtain ⟨l,hl1,hl2⟩:=hx2
        rw [List.eq_of_mem_replicate hl1] at hl2
        exact hzl x (by simpa using hl2)) hfill
      have hcs:=yO cs ds hds
      have hsz:cells'.size=len * i.size:=by rw [h6]; simp
      have hdl:ds.length=len * i.size:=by have:=h4.len; rw [hcs.1] at this; simp at this; omega
      have hrun:(Instr.buildSlice t len vs).run P w = .ok (.slice (some ⟨w.heap.size,0,none⟩) len len) (w.alloc (.cells cells' e)):=by
       by_cases h0:len * i.size=0
       ·have hf:Instr.fill (fun i_1=>some (i_1 * i.size,i.size)) #[] vs.toList=some cells':=by
         have:(Array.range (len * i.size)).map (z.cells[· % z.cells.size]!) = #[]:=by rw [h0]; simp
         rw [this] at h3
         exact h3
        have hl0:len=0:=by
         rcases Nat.eq_zero_or_pos len with h | h
         ·exact h
         ·have:=Nat.mul_pos h hk0; omega
        subst hl0
        have hr0:Array.range 0 = #[]:=by apply Array.ext' ; simp
        simp [Instr.buildSlice,run_underlying hu,sizeOf,typeInfo,hj,hs,hf,newRow,hr0]
       ·exact run_buildSlice w t e len vs cells' j z hu hj hz (by rw [hs]; omega) (by rw [hs]; exact h0) (by rw [hs]; exact h3)
      rw [hrun]
      have hcl:=Br i.size len ds
      have hown:(w.alloc (.cells cells' e)).ownsRow 0 e i.size (.slice (some ⟨w.heap.size,0,none⟩) len len) len cells'.toList:=World.ownsRow_lit w cells' len (Nat.zero_le _) (by simp [maxLen]; omega) hsz
      have:=Ez (P:=P) (t:=d) (e:=e) (k:=i.size) (es:=sB i.size len ds) (xs:=cells'.toList) (v:=.slice (some ⟨w.heap.size,0,none⟩) len len) (w':=w.alloc (.cells cells' e)) hi (hd _ rfl) hb hk0 (aU _ _) (fun g hg=>by simp [blk] at hg; omega)
       (by rw [hcl]; exact hown) (FM _ _ _ hdl) (by rw [xO _ _ _ hdl]; simp; omega) (fun j x dd h7 h8=>by
        rw [xO _ _ _ hdl] at h8
        obtain ⟨y,h9,rfl⟩:=hcs.2 j dd h8
        have:=h4.rep j x (.d y) h7 h9
        cases this with
        | d _ _ h=>exact h.nrm)
      rw [hcl] at this
      exact this
     ·cases h
    ·cases h
   ·cases h
  ·cases h
 ·cases h
theorem xm {α β : Type} (f : α→β) (cs ns:List α) (off:Nat) : (splice cs off ns).map f=splice (cs.map f) off (ns.map f):=by
 simp [splice,List.map_take,List.map_drop]
theorem BW {α : Type} (c v:List α) (o n:Nat) (h:o + v.length≤n) (hc:n≤c.length) : (splice c o v).take n=splice (c.take n) o v:=by
 unfold splice
 have e1:(c.take o++v).length=o + v.length:=by simp; omega
 rw [List.take_append,List.take_of_length_le (by omega),e1,List.drop_take,List.take_take,Nat.min_eq_left (by omega)]
theorem JD {α : Type} (x F ds:List α) (o:Nat) : splice (x++F) (x.length + o) ds=x++splice F o ds:=by
 unfold splice
 rw [List.take_append,List.drop_append,List.take_of_length_le (by omega),List.drop_eq_nil_of_le (by omega),Nat.add_sub_cancel_left,show x.length + o + ds.length - x.length=o + ds.length by omega]
 simp [List.append_assoc]
theorem LO {α : Type} (x F ds:List α) (o:Nat) (h:o + ds.length≤x.length) : splice (x++F) o ds=splice x o ds++F:=by
 unfold splice
 rw [List.take_append_of_le_length (by omega),List.drop_append_of_le_length (by omega)]
 simp [List.append_assoc]
theorem ML {α : Type} (k:Nat) : ∀ (es:List (List α)) (_:∀ e∈es,e.length=k) (j off:Nat) (el ds:List α),es[j]? = some el→off + ds.length≤k→(es.set j (splice el off ds)).flatten=splice es.flatten (j * k + off) ds
 | [],_,j,off,el,ds,h,_=>by simp at h
 | x::es,hk,0,off,el,ds,h,hd=>by
  simp at h
  subst h
  have hx:=hk x (by simp)
  rw [List.set_cons_zero,List.flatten_cons,List.flatten_cons,Nat.zero_mul,Nat.zero_add,LO _ _ _ _ (by omega)]
 | x::es,hk,j + 1,off,el,ds,h,hd=>by
  simp at h
  have hx:=hk x (by simp)
  have ih:=ML k es (fun e he=>hk e (by simp [he])) j off el ds h hd
  rw [List.set_cons_succ,List.flatten_cons,List.flatten_cons,ih,show (j + 1) * k + off=x.length + (j * k + off) by rw [Nat.succ_mul,hx]; omega,JD]
theorem O3 {t:TypeId} {x n j off e k:Nat} {es:List (List D)} {el ds:List D} {i:TI} {xv yv:Value} {ns:List PV} {q:PV} (hti:mw P t=some i) (hi:Inv w0 F0 ρ b w F) (hx:aR ρ b w F xv (.re x n j off)) (hy:aR ρ b w F yv q) (hns:Bt q=some ns)
  (hb:b x=some (.rw e k es)) (hds:ns.mapM toD=some ds) (hel:es[j]? = some el) (hlen:es.length=n) (hsz:ds.length=i.size) (hfit:off + ds.length≤el.length) :
  ∃ w',(Instr.storeAt t xv yv).run P w = .ok () w'∧Inv w0 F0 ρ (dc b (some (x,.rw e k (es.set j (splice el off ds))))) w' F∧Stp ρ b w F ρ (dc b (some (x,.rw e k (es.set j (splice el off ds))))) w' F:=by
 obtain ⟨jj,z,uu,hj,hz,hu,hzs,hs,hby,ha,hzz,h1⟩:=dm hti
 obtain ⟨hr,h1y⟩:=qW hy hns
 obtain ⟨hml,hmd⟩:=yO ns ds hds
 cases hx with
 | re _ _ _ _ a e1 k1 es1 hb1 hn1 hi1 hρ1 =>
  rw [hb] at hb1
  injection hb1 with hb1
  injection hb1 with q1 q2 q3
  subst q1 q2 q3
  obtain ⟨g,c,hρ,rfl⟩:=hρ1 hlen
  have hbx:=hi.box x _ hb
  cases hbx with
  | gn _ _ _ hg=>rw [hρ] at hg; cases hg
  | rw _ _ _ xs hk0 ho hF hk hl hrx hown =>
   have hFg : ¬ F g:=hF g (by rw [hρ]; rfl)
   have hown0:w0.own g:=hown g (by rw [hρ]; rfl)
   have ho':=ho
   rw [hρ] at ho'
   rcases ho'.2 with ⟨h',_⟩ | ⟨g',cap',cur,h',hbase,hg,hnc,hcm,hcs,htake⟩
   ·cases h'
   ·injection h' with h2 h3 h4
    injection h2 with h2
    injection h2 with h2
    subst h2 h4
    have hek:el.length=k:=hk el (List.mem_of_getElem? hel)
    have hvl:yv.cells.toList.length=ds.length:=by rw [hr.len,hml]
    have hjk:j * k + k≤es.length * k:=by
     have:(j + 1) * k≤es.length * k:=Nat.mul_le_mul_right _ (by omega)
     rw [Nat.succ_mul] at this; exact this
    have hck:es.length * k≤cur.size:=by rw [hcs]; exact Nat.mul_le_mul_right _ hnc
    have hfl:es.flatten.length=es.length * k:=cr k es hk
    have hst:=run_storeCells_at P g (j * k + off) e yv.cells.toList 0 cur w hg (by omega) h1y
    have e0:(List.take (j * k + off + 0) cur.toList++yv.cells.toList++List.drop (j * k + off + 0 + yv.cells.toList.length) cur.toList)=splice cur.toList (j * k + off) yv.cells.toList:=by simp [splice]
    rw [e0] at hst
    have hsz2:yv.cells.size=i.size:=by have:=hvl; simp at this; omega
    have hR:cG ρ b w F xs (es.flatten.map .d):=⟨by rw [List.length_map]; exact hl,fun p u d h5 h6=>by
     rw [List.getElem?_map,zm] at h6
     obtain ⟨d',h6,rfl⟩:=h6
     exact .d _ _ (hrx p u d' h5 h6)⟩
    have hV:cG ρ b w F yv.cells.toList (ds.map .d):=⟨by rw [List.length_map]; exact hvl,fun p u d h5 h6=>by
     rw [List.getElem?_map,zm] at h6
     obtain ⟨d',h6,rfl⟩:=h6
     obtain ⟨x',h7,rfl⟩:=hmd p d' h6
     have h8:=hr.rep p u _ h5 h7
     cases h8 with
     | d _ _ h9=>exact .d _ _ h9.nrm⟩
    have hSp:=hR.splice hV (j * k + off)
    rw [← xm,← ML k es hk j off el ds hel (by omega)] at hSp
    have hkk:∀ y∈es.set j (splice el off ds),y.length=k:=fun y hy=>by
     rcases List.mem_or_eq_of_mem_set hy with h | rfl
     ·exact hk y h
     ·rw [mJ (by omega)]; exact hek
    have hstp:Stp ρ b w F ρ (dc b (some (x,.rw e k (es.set j (splice el off ds))))) (w.setRow g (splice cur.toList (j * k + off) yv.cells.toList).toArray) F:=by
     refine ⟨fun _ h=>h,fun p hp=>setRow_other w g p _ (fun h=>hFg (h ▸ hp)),fun t' ty' cs' h=>?_,fun t' e' k' es' h=>?_⟩
     ·have h':t'≠x:=fun h'=>by rw [h',hb] at h; cases h
      rw [ct _ _ h']; exact ⟨⟨_,_,h⟩,rfl⟩
     ·by_cases h':t' = x
      ·subst h'
       rw [hb] at h
       injection h with h
       injection h with q1 q2 q3
       subst q1 q2 q3
       rw [cZ]
       exact ⟨_,_,rfl,by simp,fun _=>rfl⟩
      ·rw [ct _ _ h']; exact ⟨e',es',h,Nat.le_refl _,fun _=>rfl⟩
    refine ⟨w.setRow g (splice cur.toList (j * k + off) yv.cells.toList).toArray,?_,?_,hstp⟩
    ·simp [Instr.storeAt,Instr.sureAddr,storeVar,sizeOf,typeInfo,hj,hs,hsz2,hst]
    ·have hs2:=hstp
     rw [← cC ρ x] at hstp
     have:=Inv.turn (v:=ρ x) (B':=.rw e k (es.set j (splice el off ds))) (w':=w.setRow g (splice cur.toList (j * k + off) yv.cells.toList).toArray) hi hb (by rw [cC] at hstp ⊢; exact hs2)
      (hi.ext.step rfl rfl rfl (by simp) fun p hp hM=>setRow_other w g p _ (fun h=>vI hp hM (h ▸ hown0))) (by simp) (fun p _ hp=>setRow_other w g p _ (fun h=>hp (by rw [hρ,h]; rfl))) (fun p hp=>.inl hp) ?_
     ·rw [cC] at this; exact this
     ·rw [cC]
      have hsp:=hSp.mono hs2
      refine .rw e k _ (splice xs (j * k + off) yv.cells.toList) hk0 ?_ hF hkk ?_ (fun p u d h5 h6=>?_) hown
      ·rw [hρ]
       refine ⟨by rw [mJ (by rw [hl]; omega),List.length_set]; exact ho.1,.inr ⟨g,c,(splice cur.toList (j * k + off) yv.cells.toList).toArray,by rw [List.length_set,hlen],hbase,setRow_heap w g cur _ e _ hg,by rw [List.length_set]; exact hnc,hcm,?_,?_⟩⟩
       ·rw [List.size_toArray,mJ (by simp; omega)]; simpa using hcs
       ·rw [List.length_set,BW _ _ _ _ (by omega) (by simpa using hck),htake]
      ·have:=hsp.len; rw [List.length_map] at this; exact this
      ·have:=hsp.rep p u (.d d) h5 (by rw [List.getElem?_map,h6]; rfl)
       cases this with
       | d _ _ h9=>exact h9
theorem M0 {t:TypeId} {xv yv:Value} {p q:PV} {u:Nat×Box} (hi:Inv w0 F0 ρ b w F) (hx:aR ρ b w F xv p) (hy:aR ρ b w F yv q) (h:lH P b t p q=some u) :
  ∃ w',(Instr.storeAt t xv yv).run P w = .ok () w'∧Inv w0 F0 ρ (dc b (some u)) w' F∧Stp ρ b w F ρ (dc b (some u)) w' F:=by
 unfold lH at h
 split at h
 ·rename_i i ns hti hns
  split at h
  rotate_left
  ·rename_i x n jj off
   split at h
   ·rename_i e k es ds hbx hds
    split at h
    ·rename_i el hel
     split at h
     ·rename_i hc
      injection h with h
      subst h
      exact O3 hti hi hx hy hns hbx hds hel hc.1 hc.2.1 hc.2.2
     ·cases h
    ·cases h
   ·cases h
  ·cases h
  rename_i x off
  obtain ⟨j,z,uu,hj,hz,hu,hzs,hs,hby,ha,hzz,h1⟩:=dm hti
  obtain ⟨hr,h1y⟩:=qW hy hns
  split at h
  ·rename_i ty cs hb
   split at h
   ·rename_i hc
    obtain ⟨hc1,hc2⟩:=hc
    injection h with h
    subst h
    cases hx with
    | ptr _ _ g ty' cs' hb' hρ =>
     cases hi.box x _ hb with
     | st _ _ g' xs hρ' hg hF hh hl h1x hrx =>
      rw [hρ] at hρ'
      injection hρ' with e
      injection e with e
      injection e with e
      subst e
      have R:cG ρ b w F xs.toList cs:=⟨by simpa using hl,fun j x c h2 h3=>hrx j x c (by simpa using h2) h3⟩
      have hw:=Inv.write (off:=off) hi hb hρ hh hl h1x R hr h1y hc2
      refine ⟨_,?_,hw.1,hw.2⟩
      have hsz:yv.cells.size=i.size:=by have:=hr.len; simp at this; omega
      have hst:=run_storeCells_at P g off ty yv.cells.toList 0 xs w hh (by simp; omega) h1y
      have e:(List.take (off + 0) xs.toList++yv.cells.toList++List.drop (off + 0 + yv.cells.toList.length) xs.toList)=splice xs.toList off yv.cells.toList:=by
       simp [splice]
      rw [e] at hst
      simp [Instr.storeAt,Instr.sureAddr,storeVar,sizeOf,typeInfo,hj,hs,hsz,hst]
   ·cases h
  ·cases h
 ·cases h
end
end
section
section
variable {P:Program} {ρ ρ':Nat→Value} {b b':Nat→Option Box} {w w':World} {w0:WM} {F F' F0:Nat→Prop}
theorem Co {t ty e:TypeId} {j:TypeInfo} {A A2:Option Addr} {n c c2:Nat} (hu:P.underlying t=some (.slice e)) (hj:P.info? e=some j) (hc:n≤c) :
  (Builtin.append_ #[t,t] ty #[.slice A n c,.slice A2 0 c2]).run P w = .ok (.slice A n c) w:=by
 cases A <;> cases A2 <;> simp [Builtin.append_,run_underlying hu,sizeOf,typeInfo,hj,Builtin.lenOf,Builtin.firstCells,hc,storeCells,loadCells,loadCellsFrom]
theorem o5 {base e k n:Nat} {v:Value} {xs:List Value} (h:w.ownsRow base e k v n xs) : blk v=v.ownBlock:=by
 rcases h.2 with ⟨rfl,_⟩ | ⟨g,cap,cur,rfl,_⟩ <;> rfl
theorem I6 {x:Value} {p:PV} {es:List (List D)} (hi:Inv w0 F0 ρ b w F) (h:aR ρ b w F x p) (hp:lc b p=some es) (hne:es≠[]) :
  ∃ (a:Addr) (c:Nat) (us:List Value),x = .slice (some a) es.length c∧us.length=es.flatten.length∧(∀ (j:Nat) u,us[j]? = some u→w.cell? (a.add j)=some u)∧∀ (j:Nat) u d,us[j]? = some u→es.flatten[j]? = some d→d7 w F u d:=by
 obtain ⟨A,c,k,rfl,hc,hm,hk,hA,hcell⟩:=kO hi h hp
 cases A with
 | none=>exact absurd (hA rfl).1 hne
 | some a =>
  have hcell:=hcell a rfl
  refine ⟨a,c,(List.range es.flatten.length).map (fun j=>(w.cell? (a.add j)).getD undef),rfl,by simp,fun j u hu=>?_,fun j u d hu hd=>?_⟩
  ·simp only [List.getElem?_map,zm] at hu
   obtain ⟨j',hj',rfl⟩:=hu
   obtain ⟨rfl,hj⟩:=nZ hj'
   obtain ⟨u,h1,_⟩:=hcell _ _ (zq hj)
   rw [h1]; rfl
  ·simp only [List.getElem?_map,zm] at hu
   obtain ⟨j',hj',rfl⟩:=hu
   obtain ⟨rfl,hj⟩:=nZ hj'
   obtain ⟨u,h1,h2⟩:=hcell _ _ hd
   rw [h1]; exact h2
theorem Np {x:Value} {p:PV} (hi:Inv w0 F0 ρ b w F) (h:aR ρ b w F x p) (hp:lc b p=some []) : ∃ A c,x = .slice A 0 c:=by
 obtain ⟨A,c,k,rfl,_⟩:=kO hi h hp
 exact ⟨A,c,rfl⟩
theorem Kg {dst:Option Nat} {t ty:TypeId} {xv yv:Value} {p q r:PV} {u:Option (Nat×Box)} (hd:∀ d,dst=some d→d < 1000000) (hi:Inv w0 F0 ρ b w F) (hx:aR ρ b w F xv p) (hy:aR ρ b w F yv q) (h:jG P b dst t p q=some (r,u)) :
  Got P w0 F0 ρ b w F ((Builtin.append_ #[t,t] ty #[xv,yv]).run P w) r u:=by
 unfold jG at h
 split at h
 ·rename_i e es2 hu hq
  split at h
  ·rename_i i hti
   obtain ⟨j,z,uu,hj,hz,hu2,hzs,hs,hby,ha,hzz,h1⟩:=dm hti
   split at h
   ·rename_i hc
    obtain ⟨hk0,hb0,hk2⟩:=hc
    split at h
    ·rename_i x n
     split at h
     ·rename_i e' k es hbx
      cases hx with
      | row _ _ A c e3 k3 es3 hb3 hn hcc hA hρ =>
       by_cases hnil:es2 = []
       ·split at h
        ·rename_i hc
         obtain ⟨hl,rfl,rfl,hbytes⟩:=hc
         injection h with h
         injection h with e1 e2
         subst e1 e2 hnil
         obtain ⟨A2,c2,rfl⟩:=Np hi hy hq
         have hsame:dc b (some (x,.rw e' i.size (es ++ [])))=b:=by
          funext t'
          by_cases ht:t' = x
          ·subst ht; rw [cZ,List.append_nil]; exact hbx.symm
          ·rw [ct _ _ ht]
         refine ⟨_,w,ρ,Co hu hj hcc,?_,?_,?_⟩
         ·rw [hsame]; exact hi
         ·rw [hsame]; exact Stp.refl _ _ _ _
         ·rw [hsame]; exact .row _ _ A c e3 k3 es3 hb3 hn hcc hA hρ
        ·cases h
       ·have hne:=hnil
        split at h
        ·rename_i hc
         obtain ⟨hl,rfl,rfl,hbytes⟩:=hc
         injection h with h
         injection h with e1 e2
         subst e1 e2
         rw [hbx] at hb3
         injection hb3 with hb3
         injection hb3 with e1 e2 e3
         subst e1 e2 e3
         have hρ:=hρ hl
         subst hl
         obtain ⟨a,c2,us,rfl,hul,hcell,hrep⟩:=I6 hi hy hq hne
         have hfl:=cr i.size es2 hk2
         have h1u:∀ u∈us,u.oneCell' = true:=fun u hu=>by
          obtain ⟨jj,hjj⟩:=List.getElem?_of_mem hu
          have hlt:=(zg.1 hjj).1
          exact (hrep jj u _ hjj (zq (by omega))).one
         have hbx0:=hi.box _ _ hbx
         cases hbx0 with
         | gn _ _ _ hg=>rw [hρ] at hg; cases hg
         | rw _ _ _ xs hk0' ho hFg hk hl' hr hown0 =>
          have h63:es.length + es2.length≤maxLen:=by
           have hbytes:=hbytes
           unfold small at hbytes
           have:(es.length + es2.length) * 1≤(es.length + es2.length) * i.bytes:=Nat.mul_le_mul_left _ hb0
           simp only [maxLen]; omega
          rw [← hρ]
          obtain ⟨v',w',hrun,hown,hgrow,hnilv,hat⟩:=run_append_own_at (P:=P) w 0 t ty _ j z i.size i.bytes hu hj hz hs hby hzs hk0 (ρ x) es.length xs ho a es2.length c2 us (by rw [hul,hfl]) hcell h1u h63 hbytes (Nat.zero_le _)
          have hne2 : 0 < es2.length:=by cases es2 with | nil=>exact absurd rfl hne | cons _ _=>simp
          have hFb:∀ g,F g→some g≠(ρ x).ownBlock:=fun g hg e=>hFg g (by rw [o5 ho]; exact e.symm) hg
          have hstp:Stp ρ b w F (ux ρ x v') (dc b (some (x,.rw e' i.size (es++es2)))) w' F:=by
           refine ⟨fun _ h=>h,fun g hg=>hgrow.block g (hi.flt g hg) (hFb g hg),fun t' ty' cs' h=>?_,fun t' e2 k2 es3 h=>?_⟩
           ·have h':t'≠x:=fun e=>by rw [e,hbx] at h; cases h
            rw [kq _ _ h',ct _ _ h']
            exact ⟨⟨_,_,h⟩,rfl⟩
           ·by_cases h':t' = x
            ·subst h'
             rw [hbx] at h
             injection h with h
             injection h with e1 e2 e3
             subst e1 e2 e3
             rw [cZ]
             exact ⟨_,_,rfl,by simp,fun h=>by simp at h; exact absurd h hne⟩
            ·rw [kq _ _ h',ct _ _ h']
             exact ⟨e2,es3,h,Nat.le_refl _,fun _=>rfl⟩
          have hext:GY w0 w':=hi.ext.step hgrow.os hgrow.tape hgrow.output hgrow.size fun g hg hM=>hgrow.block g (Nat.lt_of_lt_of_le hg hi.ext.size) fun e=>vI hg hM (hown0 g (by rw [o5 ho]; exact e.symm))
          have hlen2:(es++es2).length=es.length + es2.length:=by simp
          have hbox:jC (ux ρ x v') (dc b (some (x,.rw e' i.size (es++es2)))) w0.own w' F x (.rw e' i.size (es++es2)):=by
           refine .rw e' i.size (es++es2) (xs++us) hk0 (by rw [dn,hlen2]; exact hown) (fun g hg=>?_) (fun y hy=>?_) (by simp [hl',hul]) (fun jj x' d h2 h3=>?_) (fun g hg=>?_)
           ·rw [dn,o5 hown] at hg
            rcases hat with h | h
            ·rw [h] at hg
             exact fun hF=>hFb g hF hg.symm
            ·rw [h] at hg
             injection hg with hg
             intro hF
             have:=hi.flt g hF
             omega
           ·rcases List.mem_append.1 hy with h | h
            ·exact hk y h
            ·exact hk2 y h
           ·rw [List.flatten_append] at h3
            rw [List.getElem?_append] at h2 h3
            rw [← hl'] at h3
            split at h2
            ·rename_i hlt
             rw [if_pos hlt] at h3
             exact (hr jj x' d h2 h3).mono hstp.hF hstp.hw
            ·rename_i hlt
             rw [if_neg hlt] at h3
             exact (hrep _ x' d h2 h3).mono hstp.hF hstp.hw
           ·rw [dn,o5 hown] at hg
            rcases hat with h | h
            ·rw [h] at hg; exact hown0 g (by rw [o5 ho]; exact hg)
            ·rw [h] at hg; injection hg with hg; exact .inl (by have:=hi.ext.size; omega)
          have hinv:=Inv.turn (w':=w') hi hbx hstp hext hgrow.size (fun g hg hne=>hgrow.block g hg (fun e=>hne (by rw [o5 ho]; exact e.symm))) (fun g hg=>by
           rw [o5 hown] at hg
           rcases hat with h | h
           ·rw [h] at hg; exact .inl (by rw [o5 ho]; exact hg)
           ·rw [h] at hg; injection hg with hg; exact .inr (by omega)) hbox
          refine ⟨v',w',_,hrun,hinv,hstp,?_⟩
          rcases hown.2 with ⟨_,h0⟩ | ⟨g,cap,cur,rfl,_,_,hcap,_⟩
          ·omega
          ·exact .row _ _ _ cap _ _ _ (cZ _ _ _) (by rw [hlen2]; exact Nat.le_refl _) hcap (fun _=>⟨_,rfl⟩) (fun _=>dn _ _ _)
        ·cases h
     ·cases h
    ·rename_i n c
     split at h
     ·rename_i hnc
      obtain ⟨rfl,rfl⟩:=hnc
      obtain ⟨rfl,_⟩:=hx.vv
      by_cases hnil:es2 = []
      ·split at h
       ·rename_i d
        split at h
        ·rename_i hbd
         split at h
         ·injection h with h
          injection h with e1 e2
          subst e1 e2 hnil
          obtain ⟨A2,c2,rfl⟩:=Np hi hy hq
          rw [Co hu hj (Nat.le_refl _)]
          exact Ez (P:=P) (t:=d) (e:=e) (k:=i.size) (es:=[]) (xs:=[]) hi (hd _ rfl) hbd hk0 (Ext.refl w) (fun g hg=>by cases hg) (World.ownsRow_nil w _ e i.size) (by simp) rfl (by simp)
         ·cases h
        ·cases h
       ·cases h
      ·have hne:=hnil
       split at h
       ·rename_i d
        split at h
        ·rename_i hbd
         split at h
         ·rename_i hbytes
          injection h with h
          injection h with e1 e2
          subst e1 e2
          obtain ⟨a,c2,us,rfl,hul,hcell,hrep⟩:=I6 hi hy hq hne
          have hfl:=cr i.size es2 hk2
          have h1u:∀ u∈us,u.oneCell' = true:=fun u hu=>by
           obtain ⟨jj,hjj⟩:=List.getElem?_of_mem hu
           have hlt:=(zg.1 hjj).1
           exact (hrep jj u _ hjj (zq (by omega))).one
          have h63 : 0 + es2.length≤maxLen:=by
           have hbytes:=hbytes
           unfold small at hbytes
           have:es2.length * 1≤es2.length * i.bytes:=Nat.mul_le_mul_left _ hb0
           simp only [maxLen]; omega
          obtain ⟨v',w',hrun,hown,hgrow,hnilv,hat⟩:=run_append_own_at (P:=P) w 0 t ty e j z i.size i.bytes hu hj hz hs hby hzs hk0 (.slice none 0 0) 0 [] (World.ownsRow_nil w _ e i.size) a es2.length c2 us (by rw [hul,hfl]) hcell h1u h63 (by rw [Nat.zero_add]; exact hbytes) (Nat.zero_le _)
          rw [Nat.zero_add,List.nil_append] at hown
          have hx2:Ext w w':=⟨hgrow.os,hgrow.tape,hgrow.output,hgrow.size,fun k hk=>hgrow.block k hk (by simp [Value.ownBlock])⟩
          have hv:∀ g,blk v' = some g→w.heap.size≤g:=fun g hg=>by
           rw [o5 hown] at hg
           rcases hat with h | h
           ·rw [h] at hg; cases hg
           ·rw [h] at hg; injection hg with hg; omega
          have:=Ez (P:=P) (t:=d) (e:=e) (k:=i.size) (es:=es2) (xs:=us) hi (hd _ rfl) hbd hk0 hx2 hv hown hk2 hul hrep
          rw [hrun]
          exact this
         ·cases h
        ·cases h
       ·cases h
     ·cases h
    ·cases h
   ·cases h
  ·cases h
 ·cases h
theorem Us {ty1:Array TypeId} {ty:TypeId} {xv yv:Value} {p q r:PV} (hx:aR ρ b w F xv p) (hy:aR ρ b w F yv q) (h:Fk p q=some r) : ∃ v,aR ρ b w F v r∧(Builtin.min_ ty1 ty #[xv,yv]).run P w = .ok v w:=by
 unfold Fk at h
 split at h
 ·rename_i k m k' n h1 h2
  injection h with h
  subst h
  obtain rfl:=ec hx h1
  obtain rfl:=ec hy h2
  exact ⟨_,.lit rfl,by simp [Builtin.min_,Builtin.min2]⟩
 ·cases h
theorem Ut {ty1:Array TypeId} {ty:TypeId} {xv yv:Value} {p q r:PV} (hx:aR ρ b w F xv p) (hy:aR ρ b w F yv q) (h:Fo p q=some r) : ∃ v,aR ρ b w F v r∧(Builtin.max_ ty1 ty #[xv,yv]).run P w = .ok v w:=by
 unfold Fo at h
 split at h
 ·rename_i k m k' n h1 h2
  injection h with h
  subst h
  obtain rfl:=ec hx h1
  obtain rfl:=ec hy h2
  exact ⟨_,.lit rfl,by simp [Builtin.max_,Builtin.max2]⟩
 ·cases h
theorem Fj:∀ (qs:List PV) (ys:List Value) (p:PV) (x:Value) (r:PV),aR ρ b w F x p→cG ρ b w F ys qs→tj p qs=some r→∃ v,aR ρ b w F v r∧(ys.foldlM Builtin.min2 x).run P w = .ok v w
 | [],ys,p,x,r,hx,hr,h=>by
  have:ys = []:=List.eq_nil_of_length_eq_zero (by simpa using hr.len)
  subst this
  injection h with h
  subst h
  exact ⟨x,hx,rfl⟩
 | q::qs,ys,p,x,r,hx,hr,h=>by
  cases ys with
  | nil=>have:=hr.len; simp at this
  | cons y ys =>
   simp only [tj] at h
   cases hm:Fk p q with
   | none=>rw [hm] at h; cases h
   | some r1 =>
    rw [hm] at h
    have hy:=hr.rep 0 y q rfl rfl
    have hr2:cG ρ b w F ys qs:=⟨by have:=hr.len; simpa using this,fun j v c h1 h2=>hr.rep (j + 1) v c (by simpa using h1) (by simpa using h2)⟩
    obtain ⟨v,h3,h4⟩:=Us (P:=P) (ty1:=#[]) (ty:=0) hx hy hm
    obtain ⟨v2,h5,h6⟩:=Fj qs ys r1 v r h3 hr2 h
    refine ⟨v2,h5,?_⟩
    have e:(Builtin.min2 x y).run P w = .ok v w:=by simpa [Builtin.min_] using h4
    rw [List.foldlM_cons,Sem.run_bind,e]
    exact h6
theorem Fl:∀ (qs:List PV) (ys:List Value) (p:PV) (x:Value) (r:PV),aR ρ b w F x p→cG ρ b w F ys qs→tm p qs=some r→∃ v,aR ρ b w F v r∧(ys.foldlM Builtin.max2 x).run P w = .ok v w
 | [],ys,p,x,r,hx,hr,h=>by
  have:ys = []:=List.eq_nil_of_length_eq_zero (by simpa using hr.len)
  subst this
  injection h with h
  subst h
  exact ⟨x,hx,rfl⟩
 | q::qs,ys,p,x,r,hx,hr,h=>by
  cases ys with
  | nil=>have:=hr.len; simp at this
  | cons y ys =>
   simp only [tm] at h
   cases hm:Fo p q with
   | none=>rw [hm] at h; cases h
   | some r1 =>
    rw [hm] at h
    have hy:=hr.rep 0 y q rfl rfl
    have hr2:cG ρ b w F ys qs:=⟨by have:=hr.len; simpa using this,fun j v c h1 h2=>hr.rep (j + 1) v c (by simpa using h1) (by simpa using h2)⟩
    obtain ⟨v,h3,h4⟩:=Ut (P:=P) (ty1:=#[]) (ty:=0) hx hy hm
    obtain ⟨v2,h5,h6⟩:=Fl qs ys r1 v r h3 hr2 h
    refine ⟨v2,h5,?_⟩
    have e:(Builtin.max2 x y).run P w = .ok v w:=by simpa [Builtin.max_] using h4
    rw [List.foldlM_cons,Sem.run_bind,e]
    exact h6
end
end
section
def Sm:PV→Option (Nat×Nat×Nat×Nat)
 | .row t n=>some (t,n,0,n)
 | .vw t n lo hi=>some (t,n,lo,hi)
 | _=>none
def ka {α : Type} (es:List α) (lo:Nat) (ys:List α) : List α:=es.take lo++ys++es.drop (lo + ys.length)
def qV (P:Program) (b:Nat→Option Box) (t:TypeId) (p q:PV) : Option (PV×(Nat×Box)) :=
 match P.underlying t,lc b q,Sm p with
 | some (.slice e),some ys,some (x,n,lo,hi)=>match mw P e,b x with
  | some i,some (.rw e' k es)=>if es.length=n∧k=i.size∧xB i.size ys∧lo≤hi∧hi≤n then
    some (.d (.v (.int .i64 (min ys.length (hi - lo) : Nat))),(x,.rw e' k (ka es lo (ys.take (hi - lo))))) else none
  | _,_=>none
 | _,_,_=>none
def vN (P:Program) (b:Nat→Option Box) (dst:Option Nat) (t:TypeId) (p q:PV) : Option (PV×Option (Nat×Box)) :=
 match dst,P.underlying t,asI p,asI q with
 | some d,some (.slice e),some (_,n),some (_,m)=>match mw P e,b d with
  | some i,none=>if n=m∧0≤n∧n≤1000000∧0 < i.size∧i.bytes≤1000000 then
    some (.row d n.toNat,some (d,.rw e i.size (List.replicate n.toNat (i.zero.map fun z=>nrm (.v z))))) else none
  | _,_=>none
 | _,_,_,_=>none
section
variable {P:Program} {ρ ρ':Nat→Value} {b b':Nat→Option Box} {w w':World} {w0:WM} {F F' F0:Nat→Prop}
theorem TF (w:World) (dT sT ty elem:TypeId) (K g o dLen dCap m:Nat) (a:Addr) (sLen sCap:Nat) (cur:Array Value) (t:TypeId) (cs:List Value)
  (hu:P.underlying dT=some (.slice elem)) (hs:(P.info? elem).map (·.size)=some K)
  (hg:w.heap[g]? = some (.cells cur t (0,0))) (hm:Nat.min sLen dLen=m) (hn:cs.length=m * K)
  (hsrc:∀ j v,cs[j]? = some v→w.cell? (a.add j)=some v) (hfit:o + cs.length≤cur.size) (h1:∀ v∈cs,v.oneCell' = true) :
  (Builtin.copy_ #[dT,sT] ty #[.slice (some ⟨g,o,none⟩) dLen dCap,.slice (some a) sLen sCap]).run P w =
   .ok (goInt m) (w.setRow g (splice cur.toList o cs).toArray):=by
 have hl:=run_loadCells_list (P:=P) w a cs hsrc
 have hst:=run_storeCells_at P g o t cs 0 cur w hg (by simpa using hfit) h1
 rw [hn] at hl
 cases hq:P.info? elem with
 | none=>simp [hq] at hs
 | some i =>
  have hi:i.size=K:=by simpa [hq] using hs
  simp [Builtin.copy_,run_underlying hu,Builtin.lenOf,Builtin.firstCells,sizeOf,typeInfo,hq,hi,hm,hl,hst,splice]
theorem D9 (w:World) (dT sT ty elem:TypeId) (K:Nat) (d a:Option Addr) (dLen dCap sLen sCap:Nat) (hu:P.underlying dT=some (.slice elem)) (hs:(P.info? elem).map (·.size)=some K) (hn:Nat.min sLen dLen=0) :
  (Builtin.copy_ #[dT,sT] ty #[.slice d dLen dCap,.slice a sLen sCap]).run P w = .ok (goInt 0) w:=by
 cases hq:P.info? elem with
 | none=>simp [hq] at hs
 | some i =>
  have hl:∀ (x:Addr),(loadCells x 0).run P w = .ok #[] w:=fun x=>by simpa using run_loadCells_list (P:=P) w x [] (by simp)
  cases d <;> cases a <;> simp [Builtin.copy_,run_underlying hu,Builtin.lenOf,Builtin.firstCells,sizeOf,typeInfo,hq,hn,storeCells,hl]
theorem JE {x e k g c o:Nat} {es es':List (List D)} {vs:List Value} {ds:List D} (hi:Inv w0 F0 ρ b w F) (hb:b x=some (.rw e k es)) (hρ : ρ x = .slice (some ⟨g,0,none⟩) es.length c)
  (hvl:vs.length=ds.length) (h1y:∀ y∈vs,y.oneCell' = true) (hrv:∀ (j:Nat) u d,vs[j]? = some u→ds[j]? = some d→d7 w F u d) (hfit:o + ds.length≤es.length * k)
  (hfl':es'.flatten=splice es.flatten o ds) (hkk:∀ y∈es',y.length=k) (hl':es'.length=es.length) :
  ∃ cur,w.heap[g]? = some (.cells cur e (0,0))∧o + vs.length≤cur.size∧Inv w0 F0 ρ (dc b (some (x,.rw e k es'))) (w.setRow g (splice cur.toList o vs).toArray) F∧Stp ρ b w F ρ (dc b (some (x,.rw e k es'))) (w.setRow g (splice cur.toList o vs).toArray) F:=by
 have hbx:=hi.box x _ hb
 cases hbx with
 | gn _ _ _ hg=>rw [hρ] at hg; cases hg
 | rw _ _ _ xs hk0 ho hF hk hl hrx hown =>
  have hFg : ¬ F g:=hF g (by rw [hρ]; rfl)
  have hown0:w0.own g:=hown g (by rw [hρ]; rfl)
  have ho':=ho
  rw [hρ] at ho'
  rcases ho'.2 with ⟨h',_⟩ | ⟨g',cap',cur,h',hbase,hg,hnc,hcm,hcs,htake⟩
  ·cases h'
  ·injection h' with h2 h3 h4
   injection h2 with h2
   injection h2 with h2
   subst h2 h4
   have hck:es.length * k≤cur.size:=by rw [hcs]; exact Nat.mul_le_mul_right _ hnc
   have hfl:es.flatten.length=es.length * k:=cr k es hk
   have hR:cG ρ b w F xs (es.flatten.map .d):=⟨by rw [List.length_map]; exact hl,fun p u d h5 h6=>by
    rw [List.getElem?_map,zm] at h6
    obtain ⟨d',h6,rfl⟩:=h6
    exact .d _ _ (hrx p u d' h5 h6)⟩
   have hV:cG ρ b w F vs (ds.map .d):=⟨by rw [List.length_map]; exact hvl,fun p u d h5 h6=>by
    rw [List.getElem?_map,zm] at h6
    obtain ⟨d',h6,rfl⟩:=h6
    exact .d _ _ (hrv p u d' h5 h6)⟩
   have hSp:=hR.splice hV o
   rw [← xm,← hfl'] at hSp
   have hstp:Stp ρ b w F ρ (dc b (some (x,.rw e k es'))) (w.setRow g (splice cur.toList o vs).toArray) F:=by
    refine ⟨fun _ h=>h,fun p hp=>setRow_other w g p _ (fun h=>hFg (h ▸ hp)),fun t' ty' cs' h=>?_,fun t' e' k' es2 h=>?_⟩
    ·have h':t'≠x:=fun h'=>by rw [h',hb] at h; cases h
     rw [ct _ _ h']; exact ⟨⟨_,_,h⟩,rfl⟩
    ·by_cases h':t' = x
     ·subst h'
      rw [hb] at h
      injection h with h
      injection h with q1 q2 q3
      subst q1 q2 q3
      rw [cZ]
      exact ⟨_,_,rfl,by omega,fun _=>rfl⟩
     ·rw [ct _ _ h']; exact ⟨e',es2,h,Nat.le_refl _,fun _=>rfl⟩
   refine ⟨cur,hg,by rw [hvl]; omega,?_,hstp⟩
   have hs2:=hstp
   rw [← cC ρ x] at hstp
   have:=Inv.turn (v:=ρ x) (B':=.rw e k es') (w':=w.setRow g (splice cur.toList o vs).toArray) hi hb (by rw [cC] at hstp ⊢; exact hs2)
    (hi.ext.step rfl rfl rfl (by simp) fun p hp hM=>setRow_other w g p _ (fun h=>vI hp hM (h ▸ hown0))) (by simp) (fun p _ hp=>setRow_other w g p _ (fun h=>hp (by rw [hρ,h]; rfl))) (fun p hp=>.inl hp) ?_
   ·rw [cC] at this; exact this
   ·rw [cC]
    have hsp:=hSp.mono hs2
    refine .rw e k _ (splice xs o vs) hk0 ?_ hF hkk ?_ (fun p u d h5 h6=>?_) hown
    ·rw [hρ]
     refine ⟨by rw [mJ (by rw [hl]; omega),hl']; exact ho.1,.inr ⟨g,c,(splice cur.toList o vs).toArray,by rw [hl'],hbase,setRow_heap w g cur _ e _ hg,by rw [hl']; exact hnc,hcm,?_,?_⟩⟩
     ·rw [List.size_toArray,mJ (by simp; omega)]; simpa using hcs
     ·rw [hl',BW _ _ _ _ (by omega) (by simpa using hck),htake]
    ·have:=hsp.len; rw [List.length_map] at this; exact this
    ·have:=hsp.rep p u (.d d) h5 (by rw [List.getElem?_map,h6]; rfl)
     cases this with
     | d _ _ h9=>exact h9
theorem H9 {α : Type} {es ys:List α} {lo:Nat} (h:lo + ys.length≤es.length) : (ka es lo ys).length=es.length:=by
 simp [ka]; omega
theorem Ph {α : Type} (k:Nat) {es ys:List (List α)} (hk:∀ e∈es,e.length=k) (hy:∀ e∈ys,e.length=k) {lo:Nat} (h:lo + ys.length≤es.length) : (ka es lo ys).flatten=splice es.flatten (lo * k) ys.flatten:=by
 have e1:(es.take lo).flatten=es.flatten.take (lo * k):=by
  have hl:(es.take lo).flatten.length=lo * k:=by rw [cr k _ (fun e he=>hk e (List.mem_of_mem_take he))]; simp; rw [Nat.min_eq_left (by omega)]
  have:es.flatten=(es.take lo).flatten++(es.drop lo).flatten:=by rw [← List.flatten_append,List.take_append_drop]
  rw [this,List.take_left' hl]
 unfold ka splice
 rw [List.flatten_append,List.flatten_append,e1,vO k _ es hk h,cr k ys hy,Nat.add_mul]
theorem TT {α : Type} {es ys:List α} {lo:Nat} {y : α} (h:y∈ka es lo ys) : y∈es∨y∈ys:=by
 simp only [ka,List.mem_append] at h
 rcases h with (h | h) | h
 ·exact .inl (List.mem_of_mem_take h)
 ·exact .inr h
 ·exact .inl (List.mem_of_mem_drop h)
theorem PX {t sT ty:TypeId} {xv yv:Value} {p q r:PV} {u:Nat×Box} (hi:Inv w0 F0 ρ b w F) (hx:aR ρ b w F xv p) (hy:aR ρ b w F yv q) (h:qV P b t p q=some (r,u)) :
  Got P w0 F0 ρ b w F ((Builtin.copy_ #[t,sT] ty #[xv,yv]).run P w) r (some u):=by
 unfold qV at h
 split at h
 ·rename_i e ys x n lo hi' hu hq hp
  split at h
  ·rename_i i e' k es hti hb
   obtain ⟨j,z,uu,hj,hz,hu2,hzs,hs,hby,ha,hzz,h1⟩:=dm hti
   split at h
   ·rename_i hc
    obtain ⟨hl,hk,hall,hlo,hhi⟩:=hc
    injection h with h
    injection h with e1 e2
    subst e1 e2 hk
    have hsz:(P.info? e).map (·.size)=some i.size:=by rw [hj]; simp [hs]
    have hd:∃ A c A2 c2,ρ x = .slice A n c∧xv = .slice A2 (hi' - lo) c2∧(lo < hi'→∃ g,A=some ⟨g,0,none⟩∧A2=some ⟨g,lo * i.size,none⟩):=by
     cases hx with
     | row _ _ A c e3 k3 es3 hb3 hn hcc hA hρ =>
      injection hp with hp
      injection hp with q1 q2
      injection q2 with q2 q3
      injection q3 with q3 q4
      subst q1 q2 q3 q4
      rw [hb] at hb3
      injection hb3 with hb3
      injection hb3 with q1 q2 q3
      subst q1 q2 q3
      refine ⟨A,c,A,c,hρ hl,rfl,fun h0=>?_⟩
      obtain ⟨a,rfl⟩:=hA h0
      rcases (yC (hi.box _ _ hb) (hρ hl)).2.2.2.2.2 with ⟨h,_⟩ | ⟨g,h⟩
      ·cases h
      ·exact ⟨g,h,by rw [h,Nat.zero_mul]⟩
     | vw _ _ _ _ A m c e3 k3 es3 hb3 hn hl3 hh3 hm hρ =>
      injection hp with hp
      injection hp with q1 q2
      injection q2 with q2 q3
      injection q3 with q3 q4
      subst q1 q2 q3 q4
      rw [hb] at hb3
      injection hb3 with hb3
      injection hb3 with q1 q2 q3
      subst q1 q2 q3
      obtain ⟨A',c',h1,h2⟩:=hρ hl
      obtain ⟨A2,c2,e1,_,_,_,h5,_⟩:=LC (hi.box _ _ hb) h1 hlo hhi
      rw [e1] at h2
      exact ⟨A',c',A2,c2,h1,h2,h5⟩
     | _=>cases hp
    obtain ⟨A,c,A2,c2,hρ,rfl,hpos⟩:=hd
    obtain ⟨B,cB,kB,rfl,_,_,_,hB,hcB⟩:=kO hi hy hq
    have hmin:(ys.take (hi' - lo)).length=min ys.length (hi' - lo):=by rw [List.length_take,Nat.min_comm]
    by_cases h0:min ys.length (hi' - lo)=0
    ·have hnil:ys.take (hi' - lo) = []:=List.eq_nil_of_length_eq_zero (by omega)
     have hsame:dc b (some (x,.rw e' i.size (ka es lo (ys.take (hi' - lo)))))=b:=by
      rw [hnil]
      funext t'
      by_cases ht:t' = x
      ·subst ht; rw [cZ,hb]; simp [ka]
      ·rw [ct _ _ ht]
     refine ⟨_,w,ρ,D9 w t sT ty e i.size A2 B (hi' - lo) c2 ys.length cB hu hsz h0,?_,?_,?_⟩
     ·rw [hsame]; exact hi
     ·rw [hsame]; exact Stp.refl _ _ _ _
     ·rw [h0]; exact .lit rfl
    ·obtain ⟨g,rfl,rfl⟩:=hpos (by omega)
     cases B with
     | none =>
      have:=(hB rfl).1
      subst this
      simp at h0
     | some a =>
      have hcB:=hcB a rfl
      have hml:(ys.take (hi' - lo)).flatten.length=min ys.length (hi' - lo) * i.size:=by rw [cr i.size _ (fun e he=>hall e (List.mem_of_mem_take he)),hmin]
      have hcell:∀ (j:Nat) d,(ys.take (hi' - lo)).flatten[j]? = some d→∃ u,w.cell? (a.add j)=some u∧d7 w F u d:=fun j d hj=>hcB j d (AH _ _ _ _ hj)
      have hsrc:∀ (j:Nat) v,((List.range (ys.take (hi' - lo)).flatten.length).map fun j=>(w.cell? (a.add j)).getD undef)[j]? = some v→j < (ys.take (hi' - lo)).flatten.length∧w.cell? (a.add j)=some v∧∀ d,(ys.take (hi' - lo)).flatten[j]? = some d→d7 w F v d:=by
       intro j v hv
       rw [List.getElem?_map,zm] at hv
       obtain ⟨j',hj',rfl⟩:=hv
       obtain ⟨rfl,hlt⟩:=nZ hj'
       obtain ⟨u,h3,h4⟩:=hcell _ _ (zq hlt)
       refine ⟨hlt,by rw [h3]; rfl,fun d hd=>?_⟩
       obtain ⟨u',h5,h6⟩:=hcell _ _ hd
       rw [h5]; exact h6
      have hone:∀ y∈((List.range (ys.take (hi' - lo)).flatten.length).map fun j=>(w.cell? (a.add j)).getD undef),y.oneCell' = true:=by
       intro y hy
       obtain ⟨j,hj⟩:=List.getElem?_of_mem hy
       obtain ⟨hlt,_,h5⟩:=hsrc j y hj
       exact (h5 _ (zq hlt)).one
      have hfit:lo + (ys.take (hi' - lo)).length≤es.length:=by rw [hmin]; omega
      have hk3:=(yC (hi.box _ _ hb) hρ).2.2.2.1
      subst hl
      obtain ⟨cur,k1,k2,k3,k4⟩:=JE (o:=lo * i.size) (es':=ka es lo (ys.take (hi' - lo))) (vs:=(List.range (ys.take (hi' - lo)).flatten.length).map fun j=>(w.cell? (a.add j)).getD undef) (ds:=(ys.take (hi' - lo)).flatten) hi hb hρ (by simp) hone
       (fun j u d hu hd=>(hsrc j u hu).2.2 d hd) (by rw [hml,← Nat.add_mul,← hmin]; exact Nat.mul_le_mul_right _ hfit) (Ph i.size hk3 (fun e he=>hall e (List.mem_of_mem_take he)) hfit)
       (fun y hy=>(TT hy).elim (hk3 y) (fun h=>hall y (List.mem_of_mem_take h))) (H9 hfit)
      refine ⟨_,_,ρ,TF w t sT ty e i.size g (lo * i.size) (hi' - lo) c2 (min ys.length (hi' - lo)) a ys.length cB cur e' _ hu hsz k1 rfl (by simpa using hml) (fun j v hv=>(hsrc j v hv).2.1) k2 hone,k3,k4,.lit rfl⟩
   ·cases h
  ·cases h
 ·cases h
theorem PU {dst:Option Nat} {t:TypeId} {xv yv:Value} {p q r:PV} {u:Option (Nat×Box)} (hd:∀ d,dst=some d→d < 1000000) (hi:Inv w0 F0 ρ b w F) (hx:aR ρ b w F xv p) (hy:aR ρ b w F yv q) (h:vN P b dst t p q=some (r,u)) :
  Got P w0 F0 ρ b w F ((Instr.makeSlice t xv yv).run P w) r u:=by
 unfold vN at h
 split at h
 ·rename_i d e kn n km m hu hn hm
  split at h
  ·rename_i i hti hb
   obtain ⟨j,z,uu,hj,hz,hu2,hzs,hs,hby,ha,hzz,h1⟩:=dm hti
   split at h
   ·rename_i hc
    obtain ⟨rfl,h0,hle,hk0,hbb⟩:=hc
    injection h with h
    injection h with e1 e2
    subst e1 e2
    obtain rfl:=ec hx hn
    obtain rfl:=ec hy hm
    have hnn:(n:Int)=((n.toNat:Nat) : Int):=(Int.toNat_of_nonneg h0).symm
    have hbm:j.bytes * n.toNat≤281474976710656:=by
     have h2:j.bytes≤1000000:=by rw [hby]; exact hbb
     have h3:n.toNat≤1000000:=by omega
     exact Nat.le_trans (Nat.mul_le_mul h2 h3) (by decide)
    obtain ⟨w',hrun,hown,hgrow⟩:=run_make_full (P:=P) w 0 t e j z i.size hu hj hz hs kn km n.toNat hbm (by simp [maxLen]; omega) (Nat.zero_le _)
    rw [← hnn] at hrun
    rw [hrun]
    have hx2:Ext w w':=⟨hgrow.os,hgrow.tape,hgrow.output,hgrow.size,fun k hk=>hgrow.block k hk (by simp)⟩
    have hzl:∀ y∈List.replicate n.toNat (i.zero.map fun z=>nrm (.v z)),y.length=i.size:=fun y hy=>by
     rw [List.eq_of_mem_replicate hy,List.length_map,hzz]; simpa using hzs
    have hmade:(madeCells z.cells (n.toNat * i.size)).toList=(List.replicate n.toNat z.cells.toList).flatten:=xe hzs
    have hfm:(List.replicate n.toNat (i.zero.map fun z=>nrm (.v z))).flatten=((List.replicate n.toNat z.cells.toList).flatten).map fun z=>nrm (.v z):=by
     rw [List.map_flatten,List.map_replicate,hzz]
    have:=Ez (P:=P) (t:=d) (e:=e) (k:=i.size) (es:=List.replicate n.toNat (i.zero.map fun z=>nrm (.v z))) (xs:=(madeCells z.cells (n.toNat * i.size)).toList) (v:=.slice (some ⟨w.heap.size,0,none⟩) n.toNat n.toNat) (w':=w') hi (hd _ rfl) hb hk0 hx2
     (fun g hg=>by simp [blk] at hg; omega) (by rw [List.length_replicate]; exact hown) hzl (by rw [hmade,hfm,List.length_map]) (fun p x d' h7 h8=>by
      rw [hfm,List.getElem?_map] at h8
      rw [hmade] at h7
      rw [h7] at h8
      injection h8 with h8
      subst h8
      have hmem:=List.mem_of_getElem? h7
      rw [List.mem_flatten] at hmem
      obtain ⟨l,hl1,hl2⟩:=hmem
      rw [List.eq_of_mem_replicate hl1] at hl2
      exact (d7.v x (h1 x (by rw [hzz]; exact hl2))).nrm)
    rw [List.length_replicate] at this
    exact this
   ·cases h
  ·cases h
 ·cases h
end
end
section
def tq (P:Program) (b:Nat→Option Box) (dst:Option Nat) (f:Builtin) (args:List PV) (ts:List TypeId) : Option (PV×Option (Nat×Box)) :=
 match f with
 | .len=>match args,ts with | [x],[t]=>(uS P t x).map fun r=>(r,none) | _,_=>none
 | .append=>match args,ts with | [x,y],[t,t']=>if t' = t then jG P b dst t x y else none | _,_=>none
 | .min=>match args with | x::xs=>(tj x xs).map fun r=>(r,none) | _=>none
 | .max=>match args with | x::xs=>(tm x xs).map fun r=>(r,none) | _=>none
 | .copy=>match args,ts with | [x,y],[t,_]=>(qV P b t x y).map fun r=>(r.1,some r.2) | _,_=>none
 | _=>none
def Dy (P:Program) (t:TypeId) (p q:PV) : Option PV:=match P.underlying t,asS p,asI q with
 | some .string,some s,some (_,i)=>if 0≤i then (match s.data.toList[i.toNat]? with
  | some c=>some (.d (.v (.int .u8 (c.toNat:Int))))
  | none=>none) else none
 | _,_,_=>none
theorem PW {P:Program} {ρ : Nat→Value} {b:Nat→Option Box} {w:World} {F:Nat→Prop} {t:TypeId} {xv iv:Value} {p q r:PV} (hx:aR ρ b w F xv p) (hq:aR ρ b w F iv q) (h:Dy P t p q=some r) :
  ∃ v,aR ρ b w F v r∧(Instr.index t xv iv).run P w = .ok v w:=by
 unfold Dy at h
 split at h
 ·rename_i s k i hu hs hi'
  have e1:=sG hx hs
  have e2:=ec hq hi'
  subst e1 e2
  split at h
  ·rename_i h0
   split at h
   ·rename_i c hc
    injection h with h
    subst h
    have hlt:i.toNat < s.size:=by have:=(zg.1 hc).1; simpa using this
    have hv:s[i.toNat] = c:=by
     have:=(zg.1 hc).2
     have h2:s.data[i.toNat]'(by simpa using hlt)=c:=by simpa using this
     exact h2
    refine ⟨.int .u8 ((s[i.toNat]).toNat:Int),?_,?_⟩
    ·rw [hv]; exact .d _ _ (.v _ rfl)
    ·rw [run_index_string (w:=w) t s k i hu,dif_pos ⟨h0,by omega⟩]
   ·cases h
  ·cases h
 ·cases h
def Fq (P:Program) (t:TypeId) (p q:PV) : Option PV:=match P.underlying t,p,asI q with
 | some (.array n e),.ag cs,some (_,i)=>match mw P e with
  | some ie=>if 0≤i∧i < n then B8 ie.size ie.agg (cs.drop (i.toNat * ie.size)) else none
  | none=>none
 | _,_,_=>Dy P t p q
theorem Uv {P:Program} {ρ : Nat→Value} {b:Nat→Option Box} {w:World} {F:Nat→Prop} {t:TypeId} {xv iv:Value} {p q r:PV} (hx:aR ρ b w F xv p) (hq:aR ρ b w F iv q) (h:Fq P t p q=some r) :
  ∃ v,aR ρ b w F v r∧(Instr.index t xv iv).run P w = .ok v w:=by
 unfold Fq at h
 split at h
 ·rename_i n e cs k i hu hi'
  have e2:=ec hq hi'
  subst e2
  split at h
  ·rename_i ie hie
   obtain ⟨j,z,u,hj,hz,hu2,hzs,hs,hby,ha,hzz,h1z⟩:=dm hie
   split at h
   ·rename_i hb
    cases hx with
    | ag xs _ hl h1 hr =>
     have R:cG ρ b w F xs.toList cs:=⟨by simpa using hl,fun j x c h2 h3=>hr j x c (by simpa using h2) h3⟩
     have hp:=AX (R.drop (i.toNat * ie.size)) (fun x hx=>h1 x (by simpa using List.mem_of_mem_drop hx)) h
     rcases hp with ⟨h2,h3,h4⟩ | ⟨h2,x,h3,h4⟩
     ·refine ⟨_,h4,?_⟩
      have e:(xs.extract (i.toNat * ie.size) (i.toNat * ie.size + ie.size))=((xs.toList.drop (i.toNat * ie.size)).take ie.size).toArray:=by
       apply Array.ext'
       simp [Array.toList_extract,List.extract]
      rw [ha] at h2
      simp [Instr.index,run_underlying hu,asIntOf,hb,part,px hu2,h2,sizeOf,typeInfo,hj,hs,e]
     ·refine ⟨x,h4,?_⟩
      rw [List.getElem?_drop,Nat.add_zero,Array.getElem?_toList] at h3
      rw [ha] at h2
      simp [Instr.index,run_underlying hu,asIntOf,hb,part,px hu2,h2,sizeOf,typeInfo,hj,hs,h3]
   ·cases h
  ·cases h
 ·exact PW hx hq h
def KA:List D→Option Int
 | [.v (.int .u8 n)]=>some n
 | _=>none
def vP:List (List D)→ByteArray→Option ByteArray
 | [],acc=>some acc
 | e::es,acc=>match KA e with
  | some n=>vP es (acc.push (UInt8.ofNat n.toNat))
  | none=>none
theorem Nl {e:List D} {n:Int} (h:KA e=some n) : e = [.v (.int .u8 n)]:=by
 unfold KA at h
 split at h
 ·injection h with h; rw [h]
 ·cases h
def iz (P:Program) (b:Nat→Option Box) (src dst:TypeId) (p:PV) : Option PV :=
 match P.underlying src,P.underlying dst with
 | some (.slice e),some .string=>match P.underlying e,lc b p with
  | some (.int .u8),some (x::es)=>(vP (x::es) ByteArray.empty).map fun s=>.d (.v (.string s))
  | _,_=>none
 | _,_=>tp P src dst p
theorem y8:∀ (es:List (List D)) (acc s:ByteArray),vP es acc=some s→∃ ns:List Int,es=ns.map (fun n=>[.v (.int .u8 n)])∧s=ns.foldl (fun r n=>r.push (UInt8.ofNat n.toNat)) acc
 | [],acc,s,h=>by injection h with h; exact ⟨[],rfl,h.symm⟩
 | e::es,acc,s,h=>by
  simp only [vP] at h
  cases hb:KA e with
  | none=>rw [hb] at h; cases h
  | some n =>
   rw [hb] at h
   obtain ⟨ns,h3,h4⟩:=y8 _ _ s h
   exact ⟨n::ns,by rw [h3,Nl hb]; rfl,h4⟩
theorem M3 {P:Program} {ρ : Nat→Value} {b:Nat→Option Box} {w:World} {w0:WM} {F F0:Nat→Prop} {src dst:TypeId} {xv:Value} {p r:PV} (hi:Inv w0 F0 ρ b w F) (hx:aR ρ b w F xv p) (h:iz P b src dst p=some r) : ∃ v,aR ρ b w F v r∧(convert src dst xv).run P w = .ok v w:=by
 unfold iz at h
 split at h
 ·rename_i e hs hd
  split at h
  ·rename_i y es he hes
   rw [zm] at h
   obtain ⟨s,h1,rfl⟩:=h
   obtain ⟨ns,h2,rfl⟩:=y8 _ _ _ h1
   obtain ⟨A,c,k,rfl,hc,hm,hk,hA,hcell⟩:=kO hi hx hes
   cases A with
   | none=>exact absurd (hA rfl).1 (by simp)
   | some a =>
    have hcell:=hcell a rfl
    refine ⟨_,.d _ _ (.v _ rfl),?_⟩
    rw [run_convert_bytes_string w src dst e (some a) _ c hs he hd]
    have hl:(y::es).length=ns.length:=by rw [h2]; simp
    rw [hl]
    refine run_bytesToString w a ns.length c ns ?_
    have:=run_loadCells_list (P:=P) w a (ns.map (Value.int .u8)) (fun j v hv=>?_)
    ·rw [List.length_map] at this; exact this
    ·rw [List.getElem?_map,zm] at hv
     obtain ⟨n,hn,rfl⟩:=hv
     have hf:(y::es).flatten[j]? = some (.v (.int .u8 n)):=by
      rw [h2]
      have:∀ (ns:List Int) (j:Nat) (n:Int),ns[j]? = some n→((ns.map (fun n=>[D.v (.int .u8 n)])).flatten)[j]? = some (.v (.int .u8 n)):=by
       intro ns
       induction ns with
       | nil=>intro j n h; simp at h
       | cons m ns ih =>
        intro j n h
        cases j with
        | zero=>simp at h; subst h; rfl
        | succ j=>simp at h; simpa using ih j n h
      exact this ns j n hn
     obtain ⟨u,h4,h5⟩:=hcell j _ hf
     cases h5 with
     | v _ _=>exact h4
  ·cases h
 ·exact PY hx h
def xK (p:PV) : Option PV:=match p with
 | .ptr t o=>some (.ptr t o)
 | .re t n i o=>some (.re t n i o)
 | .fe cs=>some (.fe cs)
 | _=>none
theorem Ur {ρ : Nat→Value} {b:Nat→Option Box} {w:World} {F:Nat→Prop} {xv:Value} {p r:PV} (hx:aR ρ b w F xv p) (h:xK p=some r) : r=p∧∃ a,xv = .pointer (some a):=by
 unfold xK at h
 split at h
 ·injection h with h
  cases hx with
  | ptr t off g ty cs hb hρ=>exact ⟨h.symm,_,rfl⟩
 ·injection h with h
  cases hx with
  | re t n i off a e k es hb hn hi hρ=>exact ⟨h.symm,_,rfl⟩
 ·injection h with h
  cases hx with
  | fe a cs us hF hcell hrep=>exact ⟨h.symm,_,rfl⟩
 ·cases h
def eff (P:Program) (o:Oper) (s:PS) : Option (PV×Option (Nat×Box)) :=
 match o.op with
 | .move x=>some (ev s x,none)
 | .assign x=>some (ev s x,none)
 | .pick c x y=>match asB (ev s c) with | some t=>some (if t then ev s x else ev s y,none) | none=>none
 | .alloc e=>uU P s.b o.dst e
 | .box e x=>Fw s.b o.dst e (ev s x)
 | .build t ps=>(y5 P t (ps.toList.map fun (i,x)=>(i,ev s x))).map fun r=>(r,none)
 | .buildSlice t n ps=>iU P s.b o.dst t n (ps.toList.map fun (i,x)=>(i,ev s x))
 | .load t x=>(qU P s.b t (ev s x)).map fun r=>(r,none)
 | .store t x y=>(lH P s.b t (ev s x) (ev s y)).map fun u=>(.junk,some u)
 | .binOp op t x y _=>(tr P op t (ev s x) (ev s y)).map fun r=>(r,none)
 | .unOp op _ x=>(S3 op (ev s x)).map fun r=>(r,none)
 | .convert src dst x=>(iz P s.b src dst (ev s x)).map fun r=>(r,none)
 | .slice t x lo hi none=>(eG P s.b t (ev s x) (lo.map (ev s)) (hi.map (ev s))).map fun r=>(r,none)
 | .fieldAddr t x f=>(hJ P t (ev s x) f).map fun r=>(r,none)
 | .field t x f=>(uT P t (ev s x) f).map fun r=>(r,none)
 | .indexAddr t x i=>(ek P s.b t (ev s x) (ev s i)).map fun r=>(r,none)
 | .extract x i=>(tn (ev s x) i).map fun r=>(r,none)
 | .index t x i=>(Fq P t (ev s x) (ev s i)).map fun r=>(r,none)
 | .call c=>match c.callee with
  | .builtin f=>tq P s.b o.dst f (c.args.toList.map (ev s)) c.argTypes.toList
  | _=>none
 | .makeFunc (.func f) ps qs=>some (.fn f (ps.toList.map (ev s)) (qs.toList.map (ev s)),none)
 | .makeSlice t x y=>vN P s.b o.dst t (ev s x) (ev s y)
 | .nilCheck x=>(xK (ev s x)).map fun r=>(r,none)
 | _=>none
section
variable {P:Program} {ρ ρ':Nat→Value} {b b':Nat→Option Box} {w w':World} {w0:WM} {F F' F0:Nat→Prop}
theorem pw {ov:Option Value} {op:Option PV} {n l:Nat} (h:match ov,op with | some v,some p=>aR ρ b w F v p | none,none=>True | _,_=>False) (hp:wj op n=some l) :
  (ov=none∧op=none∧l=n)∨∃ k,ov=some (.int k (l:Int)):=by
 unfold wj at hp
 split at hp
 ·injection hp with hp
  cases ov with
  | none=>exact .inl ⟨rfl,rfl,hp.symm⟩
  | some v=>exact h.elim
 ·rename_i p
  cases ov with
  | none=>exact h.elim
  | some v =>
   split at hp
   ·rename_i k i hi
    split at hp
    ·rename_i h0
     injection hp with hp
     obtain rfl:=ec h hi
     exact .inr ⟨k,by rw [← hp,Int.toNat_of_nonneg h0]⟩
    ·cases hp
   ·cases hp
theorem JF {x:Value} {A:Option Addr} {c:Nat} {es:List (List D)} {k l h:Nat} (_:x = .slice A es.length c) (hc:es.length≤c) (hm:c≤maxLen) (hk:∀ e∈es,e.length=k) (hA:A=none→es = []∧c=0)
  (hcell:∀ a,A=some a→∀ (j:Nat) d,es.flatten[j]? = some d→∃ u,w.cell? (a.add j)=some u∧d7 w F u d) (hF:∀ a,A=some a→0 < es.length→F a.block) (hl:l≤h) (hh:h≤es.length) :
  d7 w F (sliced A l h c k) (.sl ((es.drop l).take (h - l))):=by
 have hlen:((es.drop l).take (h - l)).length=h - l:=by simp; omega
 unfold sliced
 cases A with
 | none =>
  obtain ⟨rfl,rfl⟩:=hA rfl
  have:l=0∧h=0:=by simp at hh; omega
  obtain ⟨rfl,rfl⟩:=this
  exact .sl none 0 0 0 [] (fun _=>undef) rfl (Nat.le_refl _) (by simp [maxLen]) (by simp) (by omega) (fun _=>rfl) (by simp) (by simp)
 | some a =>
  have hcell:=hcell a rfl
  refine .sl _ _ _ k _ (fun j=>(w.cell? (a.add (l * k + j))).getD undef) hlen.symm (by omega) (by omega) (fun e he=>hk e (List.mem_of_mem_drop (List.mem_of_mem_take he))) (fun h0=>?_) (fun h0=>?_) (fun a' j d ha' hj=>?_) (fun j d hj=>?_)
  ·have hF:=hF a rfl (by omega)
   split
   ·exact ⟨a,rfl,hF⟩
   ·exact ⟨_,rfl,by rw [da]; exact hF⟩
  ·split at h0 <;> cases h0
  all_goals
   have h1:=AH _ _ _ _ hj
   have hlt0:=(zg.1 hj).1
   rw [cr k _ (fun e he=>hk e (List.mem_of_mem_drop (List.mem_of_mem_take he))),hlen] at hlt0
   have hlt:l < h:=by
    rcases Nat.lt_or_ge l h with h | h'
    ·exact h
    ·rw [show h - l=0 by omega,Nat.zero_mul] at hlt0; omega
   rw [vO k l es hk (by omega),List.getElem?_drop] at h1
   obtain ⟨u,h2,h3⟩:=hcell _ d h1
  ·rw [if_neg (by omega)] at ha'
   injection ha' with ha'
   subst ha'
   rw [Go.Deep.add_add,h2]
   rfl
  ·rw [h2]
   exact h3
theorem Nq {x:Value} {dd:D} {es:List (List D)} {A:Option Addr} {n c:Nat} {a:Addr} (h:aR ρ b w F x (.d dd)) (hp:lc b (.d dd)=some es) (hx:x = .slice A n c) (ha:A=some a) (h0 : 0 < es.length) : F a.block:=by
 cases h with
 | d _ _ h =>
  cases h with
  | v _ h1 =>
   subst hx ha
   simp [lc] at hp
  | sl A' n' c' k es' us hn hc hm hk hA hA0 hcell hrep =>
   injection hp with hp
   subst hp
   injection hx with e1 e2 e3
   subst e1
   obtain ⟨a',h1,h2⟩:=hA (by omega)
   rw [ha] at h1
   injection h1 with h1
   subst h1
   exact h2
theorem M1 {t:TypeId} {xv:Value} {p r:PV} {lo hi':Option Value} {plo phi:Option PV} (hi:Inv w0 F0 ρ b w F) (hx:aR ρ b w F xv p)
  (hlo:match lo,plo with | some v,some p=>aR ρ b w F v p | none,none=>True | _,_=>False) (hhi:match hi',phi with | some v,some p=>aR ρ b w F v p | none,none=>True | _,_=>False)
  (h:eG P b t p plo phi=some r) : ∃ v,aR ρ b w F v r∧(Instr.sliceAt t xv lo hi' none).run P w = .ok v w:=by
 unfold eG at h
 split at h
 ·rename_i e hu
  have hue:P.underlying t=some (.slice (P.elem t)):=by rw [yZ hu]; exact hu
  split at h
  ·rename_i i dd hti
   obtain ⟨j,z,uu,hj,hz,hu2,hzs,hs,hby,ha,hzz,h1⟩:=dm hti
   split at h
   ·rename_i es hes
    split at h
    ·rename_i l hh hl hhh
     split at h
     ·rename_i hc
      obtain ⟨hc1,hc2,hc3⟩:=hc
      injection h with h
      subst h
      obtain ⟨A,c,k,rfl,hcap,hm,hk,hA,hcell⟩:=kO hi hx hes
      have hsz:∀ w:World,(sizeOf (P.elem t)).run P w = .ok i.size w:=fun w=>by rw [yZ hu]; simp [sizeOf,typeInfo,hj,hs]
      have hd:d7 w F (sliced A l hh c i.size) (.sl ((es.drop l).take (hh - l))) :=
       JF rfl hcap hm hc3 hA hcell (fun a ha h0=>Nq hx hes rfl ha h0) hc1 hc2
      refine ⟨_,.d _ _ hd,?_⟩
      rw [run_sliceAt_slice w t _ _ _ _ hue]
      rcases pw hlo hl with ⟨rfl,_,rfl⟩ | ⟨k1,rfl⟩ <;> rcases pw hhi hhh with ⟨rfl,_,rfl⟩ | ⟨k2,rfl⟩
      ·rw [run_slice_all w t A es.length c hue,hsz]; rfl
      ·rw [run_slice_h w t A es.length c hue k2 hh (by omega) (by omega),hsz]; rfl
      ·rw [run_slice_l w t A es.length c hue k1 l (by omega) (by omega),hsz]; rfl
      ·rw [run_slice_lh w t A es.length c hue k1 k2 l hh (by omega) (by omega) (by omega),hsz]; rfl
     ·cases h
    ·cases h
   ·cases h
  ·rename_i i x n hti
   obtain ⟨j,z,uu,hj,hz,hu2,hzs,hs,hby,ha,hzz,h1⟩:=dm hti
   split at h
   ·rename_i e' k es hb
    split at h
    ·rename_i l hh hl hhh
     split at h
     ·rename_i hc
      obtain ⟨hc0,hc1,hc2,hc3⟩:=hc
      injection h with h
      subst h hc1
      cases hx with
      | row x n A c e3 k3 es3 hb3 hn hcc hA hρ =>
       rw [hb] at hb3
       injection hb3 with hb3
       injection hb3 with q1 q2 q3
       subst q1 q2 q3
       have hsz:∀ w:World,(sizeOf (P.elem t)).run P w = .ok i.size w:=fun w=>by rw [yZ hu]; simp [sizeOf,typeInfo,hj,hs]
       refine ⟨sliced A l hh c i.size,.vw x n l hh _ _ _ e' i.size es hb hn hc2 hc3 rfl (fun h=>⟨A,c,hρ h,rfl⟩),?_⟩
       rw [run_sliceAt_slice w t _ _ _ _ hue]
       rcases pw hlo hl with ⟨rfl,_,rfl⟩ | ⟨k1,rfl⟩ <;> rcases pw hhi hhh with ⟨rfl,_,rfl⟩ | ⟨k2,rfl⟩
       ·rw [run_slice_all w t A _ c hue,hsz]; rfl
       ·rw [run_slice_h w t A _ c hue k2 hh (by omega) (by omega),hsz]; rfl
       ·rw [run_slice_l w t A _ c hue k1 l (by omega) (by omega),hsz]; rfl
       ·rw [run_slice_lh w t A _ c hue k1 k2 l hh (by omega) (by omega) (by omega),hsz]; rfl
     ·cases h
    ·cases h
   ·cases h
  ·cases h
 ·rename_i hu
  split at h
  ·rename_i s hs
   obtain rfl:=sG hx hs
   split at h
   ·rename_i l hh hl hhh
    split at h
    ·rename_i hc
     obtain ⟨hc1,hc2⟩:=hc
     injection h with h
     subst h
     refine ⟨_,.lit rfl,?_⟩
     rw [run_sliceAt_string w t _ _ _ _ hu]
     rcases pw hlo hl with ⟨rfl,_,rfl⟩ | ⟨k1,rfl⟩ <;> rcases pw hhi hhh with ⟨rfl,_,rfl⟩ | ⟨k2,rfl⟩
     ·simp [Instr.slice,run_underlying hu,Instr.sliceBounds]
     ·have : ¬ (hh:Int) < 0:=by omega
      simp [Instr.slice,run_underlying hu,Instr.sliceBounds,Instr.sliceBound,asIntOf,hc2]
     ·simp [Instr.slice,run_underlying hu,Instr.sliceBounds,Instr.sliceBound,asIntOf,hc1]
     ·simp [Instr.slice,run_underlying hu,Instr.sliceBounds,Instr.sliceBound,asIntOf,hc1,hc2]
    ·cases h
   ·cases h
  ·cases h
 ·cases h
theorem Out.got {res:Result Value} {r:PV} {u:Option (Nat×Box)} (h:Got P w0 F0 ρ b w F res r u) : Out w0 F0 ρ b w F (res.andThen fun v w=>.ok (.value v) w) r u:=by
 obtain ⟨v,w',ρ',rfl,h1,h2,h3⟩:=h
 exact ⟨v,w',ρ',F,.inl rfl,h1,h2,h3⟩
theorem Out.one (hi:Inv w0 F0 ρ b w F) {res:Result Value} {r:PV} (h:∃ v,aR ρ b w F v r∧res = .ok v w) : Out w0 F0 ρ b w F (res.andThen fun v w=>.ok (.value v) w) r none :=
 Out.got (P:=default) (Got.pure hi h)
end
end
section
section
variable {P:Program} {ρ ρ':Nat→Value} {b b':Nat→Option Box} {w w':World} {w0:WM} {F F' F0:Nat→Prop}
theorem Mr {α : Type} {l:Array α} {x : α} (h:l.toList = [x]) : l = #[x]:=by apply Array.ext'; simpa using h
theorem yP {α : Type} {l:Array α} {x y : α} (h:l.toList = [x,y]) : l = #[x,y]:=by apply Array.ext'; simpa using h
theorem Sz {α β : Type} {f : α→β} {l:List α} {y : β} (h:l.map f = [y]) : ∃ x,l = [x]∧f x=y:=by
 cases l with
 | nil=>cases h
 | cons a l=>cases l with
  | nil=>exact ⟨a,rfl,by injection h⟩
  | cons _ _=>simp at h
theorem Sy {α β : Type} {f : α→β} {l:List α} {y z : β} (h:l.map f = [y,z]) : ∃ x x',l = [x,x']∧f x=y∧f x' = z:=by
 cases l with
 | nil=>cases h
 | cons a l =>
  simp only [List.map_cons,List.cons.injEq] at h
  obtain ⟨x',h1,h2⟩:=Sz h.2
  exact ⟨a,x',by rw [h1],h.1,h2⟩
theorem Sp {s:PS} {a:Act} (hev:∀ x,aR ρ s.b w F (a.eval x) (ev s x)) (o:Option Operand) : match o.map a.eval,o.map (ev s) with | some v,some p=>aR ρ s.b w F v p | none,none=>True | _,_=>False:=by
 cases o with
 | none=>trivial
 | some x=>exact hev x
theorem AW {s:PS} {a:Act} (hev:∀ x,aR ρ s.b w F (a.eval x) (ev s x)) (xs:Array Operand) : cG ρ s.b w F (xs.map a.eval).toList (xs.toList.map (ev s)) :=
 ⟨by simp,fun j x c h1 h2=>by
  rw [Array.toList_map,List.getElem?_map] at h1
  rw [List.getElem?_map] at h2
  cases hj:xs.toList[j]? with
  | none=>rw [hj] at h1; cases h1
  | some y =>
   rw [hj] at h1 h2
   injection h1 with h1
   injection h2 with h2
   subst h1 h2
   exact hev y⟩
theorem Ek {s:PS} {a:Act} (hev:∀ x,aR ρ s.b w F (a.eval x) (ev s x)) {xs:Array Operand} {l:List PV} (h:xs.toList.map (ev s)=l) : cG ρ s.b w F (xs.map a.eval).toList l:=by
 rw [← h]; exact AW hev xs
theorem aaI {o:Oper} {s:PS} {a:Act} {r:PV} {u:Option (Nat×Box)} (hd:∀ d,o.dst=some d→d < 1000000) (hi:Inv w0 F0 ρ s.b w F) (hev:∀ x,aR ρ s.b w F (a.eval x) (ev s x)) (h:eff P o s=some (r,u)) :
  Out w0 F0 ρ s.b w F ((execOp a.eval o).run P w) r u:=by
 have vrun:∀ (m:Sem Value),((do pure (.value (← m)) : Sem Next)).run P w=(m.run P w).andThen fun v w=>.ok (.value v) w:=fun m=>by
  rw [Sem.run_bind]; rfl
 unfold eff at h
 unfold execOp
 split at h
 all_goals
  rename_i ho
  simp only [ho]
 ·injection h with h
  injection h with e1 e2
  subst e1 e2
  exact Out.pure hi rfl (hev _)
 ·injection h with h
  injection h with e1 e2
  subst e1 e2
  exact Out.pure hi rfl (hev _)
 ·split at h
  ·rename_i t ht
   injection h with h
   injection h with e1 e2
   subst e1 e2
   have hb:=sH (hev _) ht
   rw [hb]
   cases t
   ·exact Out.pure hi rfl (hev _)
   ·exact Out.pure hi rfl (hev _)
  ·cases h
 ·rw [vrun]; exact Out.got (M5 hd hi h)
 ·rw [vrun]; exact Out.got (Ux hd hi (hev _) h)
 ·rw [zm] at h
  obtain ⟨r',h1,h2⟩:=h
  injection h2 with e1 e2
  subst e1 e2
  rw [vrun]
  have hp:=Ib hev (by assumption)
  exact Out.one hi (M4 hp.1 hp.2 h1)
 ·rw [vrun]
  have hp:=Ib hev (by assumption)
  exact Out.got (Bo hd hi hp.1 hp.2 h)
 ·rw [zm] at h
  obtain ⟨r',h1,h2⟩:=h
  injection h2 with e1 e2
  subst e1 e2
  rw [vrun]
  exact Out.one hi (Fp hi (hev _) h1)
 ·rw [zm] at h
  obtain ⟨r',h1,h2⟩:=h
  injection h2 with e1 e2
  subst e1 e2
  obtain ⟨w',h3,h4,h5⟩:=M0 hi (hev _) (hev _) h1
  refine ⟨undef,w',ρ,F,.inr ⟨?_,rfl⟩,h4,h5,.junk _⟩
  rw [Sem.run_bind,h3]
  rfl
 ·rw [zm] at h
  obtain ⟨r',h1,h2⟩:=h
  injection h2 with e1 e2
  subst e1 e2
  rw [vrun]
  exact Out.one hi (Uy (hev _) (hev _) h1)
 ·rw [zm] at h
  obtain ⟨r',h1,h2⟩:=h
  injection h2 with e1 e2
  subst e1 e2
  rw [vrun]
  exact Out.one hi (Xx (hev _) h1)
 ·rw [zm] at h
  obtain ⟨r',h1,h2⟩:=h
  injection h2 with e1 e2
  subst e1 e2
  rw [vrun]
  exact Out.one hi (M3 hi (hev _) h1)
 ·rw [zm] at h
  obtain ⟨r',h1,h2⟩:=h
  injection h2 with e1 e2
  subst e1 e2
  rw [vrun]
  exact Out.one hi (M1 hi (hev _) (Sp hev _) (Sp hev _) h1)
 ·rw [zm] at h
  obtain ⟨r',h1,h2⟩:=h
  injection h2 with e1 e2
  subst e1 e2
  rw [vrun]
  exact Out.one hi (CZ (hev _) h1)
 ·rw [zm] at h
  obtain ⟨r',h1,h2⟩:=h
  injection h2 with e1 e2
  subst e1 e2
  rw [vrun]
  exact Out.one hi (M2 (hev _) h1)
 ·rw [zm] at h
  obtain ⟨r',h1,h2⟩:=h
  injection h2 with e1 e2
  subst e1 e2
  rw [vrun]
  exact Out.one hi (CY hi (hev _) (hev _) h1)
 ·rw [zm] at h
  obtain ⟨r',h1,h2⟩:=h
  injection h2 with e1 e2
  subst e1 e2
  rw [vrun]
  exact Out.one hi (G9 (hev _) h1)
 ·rw [zm] at h
  obtain ⟨r',h1,h2⟩:=h
  injection h2 with e1 e2
  subst e1 e2
  rw [vrun]
  exact Out.one hi (Uv (hev _) (hev _) h1)
 ·split at h
  ·rename_i c f hf
   simp only [resolve,hf,Sem.run_bind,Sem.run_pure,Result.andThen_ok,invoke,builtin]
   unfold tq at h
   split at h
   ·split at h
    ·rename_i x t hx ht
     rw [zm] at h
     obtain ⟨r',h1,h2⟩:=h
     injection h2 with e1 e2
     subst e1 e2
     obtain ⟨y,hy,rfl⟩:=Sz hx
     have ea:=Mr hy
     have et:=Mr ht
     rw [ea,et]
     simp only [List.map_toArray,List.map_cons,List.map_nil]
     rw [vrun]
     exact Out.one hi (Uu (hev _) h1)
    ·cases h
   ·split at h
    ·rename_i x y t t' hx ht
     split at h
     ·rename_i htt
      subst htt
      obtain ⟨z,z',hz,rfl,rfl⟩:=Sy hx
      have ea:=yP hz
      have et:=yP ht
      rw [ea,et]
      simp only [List.map_toArray,List.map_cons,List.map_nil]
      rw [vrun]
      exact Out.got (Kg hd hi (hev _) (hev _) h)
     ·cases h
    ·cases h
   ·split at h
    ·rename_i x xs hx
     rw [zm] at h
     obtain ⟨r',h1,h2⟩:=h
     injection h2 with e1 e2
     subst e1 e2
     rw [vrun]
     refine Out.one hi ?_
     have hR:=Ek hev hx
     unfold Builtin.min_
     revert hR
     generalize (Array.map a.eval _).toList=ll
     intro hR
     cases ll with
     | nil=>have:=hR.len; simp at this
     | cons v vs=>exact Fj xs vs x v r' (hR.rep 0 v x rfl rfl) ⟨by have:=hR.len; simpa using this,fun j u q h3 h4=>hR.rep (j + 1) u q (by simpa using h3) (by simpa using h4)⟩ h1
    ·cases h
   ·split at h
    ·rename_i x xs hx
     rw [zm] at h
     obtain ⟨r',h1,h2⟩:=h
     injection h2 with e1 e2
     subst e1 e2
     rw [vrun]
     refine Out.one hi ?_
     have hR:=Ek hev hx
     unfold Builtin.max_
     revert hR
     generalize (Array.map a.eval _).toList=ll
     intro hR
     cases ll with
     | nil=>have:=hR.len; simp at this
     | cons v vs=>exact Fl xs vs x v r' (hR.rep 0 v x rfl rfl) ⟨by have:=hR.len; simpa using this,fun j u q h3 h4=>hR.rep (j + 1) u q (by simpa using h3) (by simpa using h4)⟩ h1
    ·cases h
   ·split at h
    ·rename_i x y t t' hx ht
     rw [zm] at h
     obtain ⟨⟨r',u'⟩,h1,h2⟩:=h
     injection h2 with e1 e2
     subst e1 e2
     obtain ⟨z,z',hz,rfl,rfl⟩:=Sy hx
     have ea:=yP hz
     have et:=yP ht
     rw [ea,et]
     simp only [List.map_toArray,List.map_cons,List.map_nil]
     rw [vrun]
     exact Out.got (PX hi (hev _) (hev _) h1)
    ·cases h
   ·cases h
  ·cases h
 ·injection h with h
  injection h with e1 e2
  subst e1 e2
  rw [vrun]
  rename_i f ps qs
  have h1:=AW hev ps
  have h2:=AW hev qs
  exact Out.one hi ⟨_,.fn f (ps.map a.eval) (qs.map a.eval) _ _ (by simp) (fun j x c k1 k2=>h1.rep j x c (by simpa using k1) k2) (by simp) (fun j x c k1 k2=>h2.rep j x c (by simpa using k1) k2),rfl⟩
 ·rw [vrun]
  exact Out.got (PU hd hi (hev _) (hev _) h)
 ·rename_i x
  rw [zm] at h
  obtain ⟨r',h1,h2⟩:=h
  injection h2 with e1 e2
  subst e1 e2
  obtain ⟨rfl,ad,had⟩:=Ur (hev x) h1
  have hx:=hev x
  rw [had] at hx ⊢
  exact Out.pure hi rfl hx
 ·cases h
def eb:Nat→Option Box:=fun _=>none
def ρNone:Nat→Value:=fun _=>undef
def d9 (P:Program) (f:FuncId) : Bool:=match P.funcs[f]? with | some fn=>fn.body.isSome && !(fn.name == "runtime.NumGoroutine") | none=>false
def PC (P:Program) (f:FuncId) (args:List PV) (r:PV) : Prop :=
 d9 P f=true∧∀ (w:World) (F:Nat→Prop) (vs:Array Value),(∀ g,F g→g < w.heap.size)→cG ρNone eb w F vs.toList args →
  Calls P f vs w fun e w'=>∃ v F',e = .returned v∧Ext w w'∧(∀ g,F g→F' g)∧(∀ g,F' g→g < w'.heap.size)∧(∀ g,F' g→F g∨w.heap.size≤g)∧aR ρNone eb w' F' v r
mutual
def clean:PV→Bool
 | .junk=>true
 | .d _=>true
 | .ag cs=>cK cs
 | .tup cs=>cK cs
 | .fe _=>true
 | .fn _ ps qs=>cK ps&&cK qs
 | _=>false
def cK:List PV→Bool
 | []=>true
 | c::cs=>clean c&&cK cs
end
mutual
def asData (b:Nat→Option Box) : PV→PV
 | .row t n=>match b t with
  | some (.rw _ _ es)=>if es.length=n then .d (.sl es) else .junk
  | _=>.junk
 | .ag cs=>.ag (bO b cs)
 | .tup cs=>.tup (bO b cs)
 | .ptr _ _=>.junk
 | .re _ _ _ _=>.junk
 | .vw _ _ _ _=>.junk
 | .d x=>.d (nrm x)
 | .fn f ps qs=>.fn f (bO b ps) (bO b qs)
 | p=>p
def bO (b:Nat→Option Box) : List PV→List PV
 | []=>[]
 | c::cs=>asData b c::bO b cs
end
mutual
def flat:PV→Bool
 | .junk=>true
 | .d (.v _)=>true
 | .ag cs=>uR cs
 | .tup cs=>uR cs
 | _=>false
def uR:List PV→Bool
 | []=>true
 | c::cs=>flat c&&uR cs
end
theorem fU:∀ {cs:List PV} (_:cK cs=true) {j:Nat} {c:PV},cs[j]? = some c→clean c=true
 | [],_,j,c,h=>by simp at h
 | d::cs,h,j,c,hj=>by
  simp only [cK,Bool.and_eq_true] at h
  cases j with
  | zero=>simp at hj; subst hj; exact h.1
  | succ j=>simp at hj; exact fU h.2 hj
theorem Bh:∀ {cs:List PV} (_:uR cs=true) {j:Nat} {c:PV},cs[j]? = some c→flat c=true
 | [],_,j,c,h=>by simp at h
 | d::cs,h,j,c,hj=>by
  simp only [uR,Bool.and_eq_true] at h
  cases j with
  | zero=>simp at hj; subst hj; exact h.1
  | succ j=>simp at hj; exact Bh h.2 hj
theorem dJ (b:Nat→Option Box) : ∀ (cs:List PV) (j:Nat) (c:PV),(bO b cs)[j]? = some c→∃ d,cs[j]? = some d∧c=asData b d
 | [],j,c,h=>by simp [bO] at h
 | d::cs,j,c,h=>by
  simp only [bO] at h
  cases j with
  | zero=>simp at h; exact ⟨d,rfl,h.symm⟩
  | succ j=>simp at h; simpa using dJ b cs j c h
theorem dI (b:Nat→Option Box) : ∀ (cs:List PV),(bO b cs).length=cs.length
 | []=>rfl
 | d::cs=>by simp [bO,dI b cs]
theorem aR.clean {x:Value} {p:PV} (h:aR ρ b w F x p) : clean p=true→aR ρ' b' w F x p:=by
 induction h with
 | junk x=>exact fun _=>.junk x
 | d x d h=>exact fun _=>.d x d h
 | ag xs cs hl h1 hr ih=>exact fun hc=>.ag xs cs hl h1 (fun j x c h2 h3=>ih j x c h2 h3 (fU (by simpa [Go.Proofs.YtaknepbdbappdaaGreat.clean] using hc) h3))
 | tup xs cs hl hr ih=>exact fun hc=>.tup xs cs hl (fun j x c h2 h3=>ih j x c h2 h3 (fU (by simpa [Go.Proofs.YtaknepbdbappdaaGreat.clean] using hc) h3))
 | ptr=>exact fun hc=>by simp [Go.Proofs.YtaknepbdbappdaaGreat.clean] at hc
 | row=>exact fun hc=>by simp [Go.Proofs.YtaknepbdbappdaaGreat.clean] at hc
 | re=>exact fun hc=>by simp [Go.Proofs.YtaknepbdbappdaaGreat.clean] at hc
 | vw=>exact fun hc=>by simp [Go.Proofs.YtaknepbdbappdaaGreat.clean] at hc
 | fe a cs us hF hcell hrep=>exact fun _=>.fe a cs us hF hcell hrep
 | fn f xs ys ps qs hl hr hl2 hr2 ih ih2 =>
  intro hc
  simp only [Go.Proofs.YtaknepbdbappdaaGreat.clean,Bool.and_eq_true] at hc
  exact .fn f xs ys ps qs hl (fun j x c h2 h3=>ih j x c h2 h3 (fU hc.1 h3)) hl2 (fun j x c h2 h3=>ih2 j x c h2 h3 (fU hc.2 h3))
theorem aR.flat {x:Value} {p:PV} (h:aR ρ b w F x p) : flat p=true→aR ρ' b' w' F' x p:=by
 induction h with
 | junk x=>exact fun _=>.junk x
 | d x d h =>
  intro hc
  cases h with
  | v x h1=>exact .d x _ (.v x h1)
  | sl=>simp [Go.Proofs.YtaknepbdbappdaaGreat.flat] at hc
 | ag xs cs hl h1 hr ih=>exact fun hc=>.ag xs cs hl h1 (fun j x c h2 h3=>ih j x c h2 h3 (Bh (by simpa [Go.Proofs.YtaknepbdbappdaaGreat.flat] using hc) h3))
 | tup xs cs hl hr ih=>exact fun hc=>.tup xs cs hl (fun j x c h2 h3=>ih j x c h2 h3 (Bh (by simpa [Go.Proofs.YtaknepbdbappdaaGreat.flat] using hc) h3))
 | ptr=>exact fun hc=>by simp [Go.Proofs.YtaknepbdbappdaaGreat.flat] at hc
 | row=>exact fun hc=>by simp [Go.Proofs.YtaknepbdbappdaaGreat.flat] at hc
 | re=>exact fun hc=>by simp [Go.Proofs.YtaknepbdbappdaaGreat.flat] at hc
 | vw=>exact fun hc=>by simp [Go.Proofs.YtaknepbdbappdaaGreat.flat] at hc
 | fe=>exact fun hc=>by simp [Go.Proofs.YtaknepbdbappdaaGreat.flat] at hc
 | fn=>exact fun hc=>by simp [Go.Proofs.YtaknepbdbappdaaGreat.flat] at hc
def UI (ρ : Nat→Value) (b:Nat→Option Box) (F:Nat→Prop) : Nat→Prop:=fun g=>F g∨∃ t B,b t=some B∧blk (ρ t)=some g
theorem LU {t n:Nat} {e k:Nat} {es:List (List D)} {x:Value} (hi:Inv w0 F0 ρ b w F) (hb:b t=some (.rw e k es)) (h:aR ρ b w F x (.row t n)) (hn:es.length=n) : d7 w (UI ρ b F) x (.sl es):=by
 have hF:∀ g,F g→UI ρ b F g:=fun g h=>.inl h
 have hr:=kO hi h (show lc b (.row t n)=some es by simp [lc,hb,hn])
 obtain ⟨A,c,k',rfl,hc,hm,hk,hA,hcell⟩:=hr
 have hu:∀ a,A=some a→∃ us:Nat→Value,∀ (j:Nat) d,es.flatten[j]? = some d→w.cell? (a.add j)=some (us j)∧d7 w F (us j) d:=fun a ha=>by
  refine ⟨fun j=>(w.cell? (a.add j)).getD undef,fun j d hj=>?_⟩
  obtain ⟨u,h1,h2⟩:=hcell a ha j d hj
  simp only [h1,Option.getD_some]
  exact ⟨trivial,h2⟩
 cases A with
 | none =>
  obtain ⟨rfl,rfl⟩:=hA rfl
  exact .sl none 0 0 0 [] (fun _=>undef) rfl (Nat.le_refl _) (by simp [maxLen]) (by simp) (by omega) (fun _=>rfl) (by simp) (by simp)
 | some a =>
  obtain ⟨us,hus⟩:=hu a rfl
  refine .sl (some a) es.length c k' es us rfl hc hm hk (fun h0=>⟨a,rfl,.inr ⟨t,_,hb,?_⟩⟩) (fun h=>by cases h) (fun a' j d ha' hj=>by injection ha' with ha'; subst ha'; exact (hus j d hj).1) (fun j d hj=>(hus j d hj).2.mono hF (fun _ _=>rfl))
  cases h with
  | row _ _ _ _ e' k2 es2 hb2 _ _ _ hρ =>
   rw [hb] at hb2
   injection hb2 with hb2
   injection hb2 with e1 e2 e3
   subst e3
   rw [hρ hn]
   rfl
theorem aR.cleanData {x:Value} {p:PV} (h:aR ρ b w F x p) : Go.Proofs.YtaknepbdbappdaaGreat.clean p=true→aR ρNone eb w F x (Go.Proofs.YtaknepbdbappdaaGreat.asData eb p):=by
 induction h with
 | junk x=>exact fun _=>.junk x
 | d x d h=>exact fun _=>.d x _ h.nrm
 | ag xs cs hl h1 hr ih =>
  refine fun hc=>.ag xs _ (by rw [dI]; exact hl) h1 (fun j x c h2 h3=>?_)
  obtain ⟨d,h4,rfl⟩:=dJ eb cs j c h3
  exact ih j x d h2 h4 (fU (by simpa [Go.Proofs.YtaknepbdbappdaaGreat.clean] using hc) h4)
 | tup xs cs hl hr ih =>
  refine fun hc=>.tup xs _ (by rw [dI]; exact hl) (fun j x c h2 h3=>?_)
  obtain ⟨d,h4,rfl⟩:=dJ eb cs j c h3
  exact ih j x d h2 h4 (fU (by simpa [Go.Proofs.YtaknepbdbappdaaGreat.clean] using hc) h4)
 | ptr=>exact fun hc=>by simp [Go.Proofs.YtaknepbdbappdaaGreat.clean] at hc
 | row=>exact fun hc=>by simp [Go.Proofs.YtaknepbdbappdaaGreat.clean] at hc
 | re=>exact fun hc=>by simp [Go.Proofs.YtaknepbdbappdaaGreat.clean] at hc
 | vw=>exact fun hc=>by simp [Go.Proofs.YtaknepbdbappdaaGreat.clean] at hc
 | fe a cs us hF hcell hrep=>exact fun _=>.fe a cs us hF hcell hrep
 | fn f xs ys ps qs hl hr hl2 hr2 ih ih2 =>
  intro hc
  simp only [Go.Proofs.YtaknepbdbappdaaGreat.clean,Bool.and_eq_true] at hc
  refine .fn f xs ys _ _ (by rw [dI]; exact hl) (fun j x c h2 h3=>?_) (by rw [dI]; exact hl2) (fun j x c h2 h3=>?_)
  ·obtain ⟨d,h4,rfl⟩:=dJ eb ps j c h3
   exact ih j x d h2 h4 (fU hc.1 h4)
  ·obtain ⟨d,h4,rfl⟩:=dJ eb qs j c h3
   exact ih2 j x d h2 h4 (fU hc.2 h4)
theorem aR.asData {x:Value} {p:PV} (hi:Inv w0 F0 ρ b w F) (h:aR ρ b w F x p) : aR ρNone eb w (UI ρ b F) x (asData b p):=by
 have hF:∀ g,F g→UI ρ b F g:=fun g h=>.inl h
 induction h with
 | junk x=>exact .junk x
 | d x d h=>exact .d x _ (h.nrm.mono hF (fun _ _=>rfl))
 | ag xs cs hl h1 hr ih =>
  refine .ag xs _ (by rw [dI]; exact hl) h1 (fun j x c h2 h3=>?_)
  obtain ⟨d,h4,rfl⟩:=dJ b cs j c h3
  exact ih j x d h2 h4
 | tup xs cs hl hr ih =>
  refine .tup xs _ (by rw [dI]; exact hl) (fun j x c h2 h3=>?_)
  obtain ⟨d,h4,rfl⟩:=dJ b cs j c h3
  exact ih j x d h2 h4
 | ptr=>exact .junk _
 | re=>exact .junk _
 | vw=>exact .junk _
 | row t n A c e k es hb hn hc hA hρ =>
  simp only [Go.Proofs.YtaknepbdbappdaaGreat.asData,hb]
  split
  ·rename_i h
   exact .d _ _ (LU hi hb (.row t n A c e k es hb hn hc hA hρ) h)
  ·exact .junk _
 | fe a cs us hF' hcell hrep=>exact .fe a cs us (.inl hF') hcell (fun j d h=>(hrep j d h).mono hF (fun _ _=>rfl))
 | fn f xs ys ps qs hl hr hl2 hr2 ih ih2 =>
  refine .fn f xs ys _ _ (by rw [dI]; exact hl) (fun j x c h2 h3=>?_) (by rw [dI]; exact hl2) (fun j x c h2 h3=>?_)
  ·obtain ⟨d,h4,rfl⟩:=dJ b ps j c h3
   exact ih j x d h2 h4
  ·obtain ⟨d,h4,rfl⟩:=dJ b qs j c h3
   exact ih2 j x d h2 h4
end
end
section
def kK (ops:Array Oper) (o:Oper) (s:PS) : Option Bool :=
 match o.guard with
 | none=>some true
 | some (j,want)=>match (ops[j]?).bind (·.dst) with
  | some g=>match s.t g with
   | .tup []=>some false
   | p=>(asB p).map (· == want)
  | none=>none
def Lz (P:Program) (f:FuncId) (b:Nat→Option Box) (args:List PV) (r:PV) : Prop :=
 (cK args=true∧clean r=true∧PC P f (bO eb args) r)∨(flat r=true∧PC P f (bO b args) r)
def uX (o:Oper) : Option (Operand×List Operand) :=
 match o.op with
 | .call c=>match c.callee with
  | .value x=>some (x,c.args.toList)
  | _=>none
 | _=>none
abbrev BU:=List (Nat×Box)
def lkU:BU→Nat→Option Box
 | [],_=>none
 | (j,B)::l,i=>if i=j then some B else lkU l i
def dB (b:Nat→Option Box) (u:BU) : Nat→Option Box:=fun i=>match lkU u i with | some B=>some B | none=>b i
def PS.updL (s:PS) (dst:Option Nat) (r:PV) (u:BU) : PS:=⟨xi s.t dst r,dB s.b u⟩
theorem Bu (b:Nat→Option Box) (u:Option (Nat×Box)) : dB b u.toList=dc b u:=by
 funext i
 cases u with
 | none=>rfl
 | some x =>
  obtain ⟨j,B⟩:=x
  simp only [Option.toList,dB,lkU,dc]
  by_cases h:i=j
  ·simp [h]
  ·simp [h]
theorem DU (s:PS) (dst:Option Nat) (r:PV) (u:Option (Nat×Box)) : s.updL dst r u.toList=s.upd dst r u:=by
 unfold PS.updL PS.upd
 rw [Bu]
mutual
def bk:PV→List Nat
 | .ptr t _=>[t]
 | .row t _=>[t]
 | .re t _ _ _=>[t]
 | .vw t _ _ _=>[t]
 | .ag cs=>bK cs
 | .tup cs=>bK cs
 | .fn _ ps qs=>bK ps++bK qs
 | _=>[]
def bK:List PV→List Nat
 | []=>[]
 | c::cs=>bk c++bK cs
end
def Z9 (P:Program) (b:Nat→Option Box) (f:FuncId) (args:List PV) (r:PV) (u:BU) : Prop :=
 d9 P f=true∧∃ bi:BU,(∀ t B,lkU bi t=some B→(∃ B',lkU u t=some B')∧b t=some B)∧(∀ t B,lkU u t=some B→lkU bi t=none→b t=none) ∧
  ∀ (w0:WM) (F0:Nat→Prop) (ρ : Nat→Value) (b:Nat→Option Box) (w:World) (F:Nat→Prop) (vs:Array Value),(∀ t B,lkU bi t=some B→b t=some B)→(∀ t B,lkU u t=some B→lkU bi t=none→b t=none)→Inv w0 F0 ρ b w F→cG ρ b w F vs.toList args →
   Calls P f vs w fun e w'=>∃ v ρ' F',e = .returned v∧Inv w0 F0 ρ' (dB b u) w' F'∧Stp ρ b w F ρ' (dB b u) w' F'∧aR ρ' (dB b u) w' F' v r
def CR (P:Program) (b:Nat→Option Box) (p:PV) (args:List PV) (r:PV) (u:BU) : Prop:=match p with
 | .fn f ps qs=>(u = []∧Lz P f b (ps++args++qs) r)∨Z9 P b f (ps++args++qs) r u
 | _=>False
def Lx (P:Program) (o:Oper) (s:PS) (r:PV) (u:BU) : Prop :=
 match uX o with
 | some (x,xs)=>CR P s.b (ev s x) (xs.map (ev s)) r u
 | none=>∃ u0,eff P o s=some (r,u0)∧u=u0.toList
def Eff (P:Program) (ops:Array Oper) (o:Oper) (s:PS) (r:PV) (u:BU) : Prop :=
 match kK ops o s with
 | some true=>Lx P o s r u
 | some false=>r = .tup []∧u = []
 | none=>False
section
variable {P:Program} {ρ ρ':Nat→Value} {b b':Nat→Option Box} {w w':World} {w0:WM} {F F' F0:Nat→Prop} {n:Nat} {ops:Array Oper} {Q:Exit→Act→World→Prop}
theorem ow.put {s:PS} {a:Act} {dst:Option Nat} {v:Value} {r:PV} {u:BU} (h1:a.tmps.size=n) (h2:a.defers = []) (hev:∀ i,aR ρ s.b w F (a.tmps.getD i undef) (s.t i)) (hd:∀ d,dst=some d→d < n)
  (hi:Inv w0 F0 ρ' (dB s.b u) w' F') (hs:Stp ρ s.b w F ρ' (dB s.b u) w' F') (hv:aR ρ' (dB s.b u) w' F' v r) : ow n w0 F0 (s.updL dst r u) (a.put dst v) w':=by
 cases dst with
 | none =>
  refine ⟨h1,h2,ρ',F',hi,fun i=>?_⟩
  have:=(hev i).mono hs
  simpa [PS.updL,xi,Act.put] using this
 | some d =>
  refine ⟨by simpa [Act.put] using h1,h2,ρ',F',hi,fun i=>?_⟩
  by_cases h:i=d
  ·subst h
   have hlt:=hd i rfl
   simp only [PS.updL,xi,Act.put,if_true]
   have:(a.tmps.setIfInBounds i v).getD i undef=v:=by simp [h1,hlt]
   rw [this]
   exact hv
  ·have h' : ¬ (some d=some i):=fun e=>h (by injection e with e; exact e.symm)
   simp only [PS.updL,xi,Act.put,if_neg h']
   have:(a.tmps.setIfInBounds d v).getD i undef=a.tmps.getD i undef:=by simp [Array.getElem?_setIfInBounds,Ne.symm h]
   rw [this]
   exact (hev i).mono hs
theorem ZE {f:FuncId} {vs:Array Value} {args:List PV} {r:PV} (hi:Inv w0 F0 ρ b w F) (hr:cG ρ b w F vs.toList args) (h:Lz P f b args r) :
  d9 P f=true∧Calls P f vs w fun e w'=>∃ v F',e = .returned v∧Inv w0 F0 ρ b w' F'∧Stp ρ b w F ρ b w' F'∧aR ρ b w' F' v r:=by
 have inv:∀ {w':World} {F':Nat→Prop},Ext w w'→(∀ g,F g→F' g)→(∀ g,F' g→g < w'.heap.size)→(∀ g,F' g→F g∨w.heap.size≤g)→Inv w0 F0 ρ b w' F'∧Stp ρ b w F ρ b w' F':=by
  intro w' F' hx hF hlt hnew
  have hs:Stp ρ b w F ρ b w' F':=⟨hF,fun g hg=>hx.block g (hi.flt g hg),fun t ty cs h=>⟨⟨ty,cs,h⟩,rfl⟩,fun t e k es h=>⟨e,es,h,Nat.le_refl _,fun _=>rfl⟩⟩
  refine ⟨⟨hi.ext.trans hx,fun g hg=>hF g (hi.f0 g hg),hlt,fun g hg=>?_,fun t B h=>?_,hi.dist,hi.reg⟩,hs⟩
  ·rcases hnew g hg with h | h
   ·exact hi.fnew g h
   ·exact .inr (.inl (Nat.le_trans hi.ext.size h))
  ·have hb:=hi.box t B h
   refine hb.mono hs rfl (fun g hg=>hx.block g (hb.lt hg).1) (fun g hg hF'=>?_)
   rcases hnew g hF' with h | h
   ·exact (hb.lt hg).2.2 h
   ·have:=(hb.lt hg).1; omega
 rcases h with ⟨hc,hcr,hp⟩ | ⟨hfl,hp⟩
 ·refine ⟨hp.1,(hp.2 w F vs hi.flt ⟨by rw [dI]; exact hr.len,fun j x c h1 h2=>?_⟩).mono ?_⟩
  ·obtain ⟨d,h3,rfl⟩:=dJ eb args j c h2
   exact (hr.rep j x d h1 h3).cleanData (fU hc h3)
  rintro e w' ⟨v,F',rfl,hx,h1,h2,h3,h4⟩
  obtain ⟨k1,k2⟩:=inv hx h1 h2 h3
  exact ⟨v,F',rfl,k1,k2,h4.clean hcr⟩
 ·refine ⟨hp.1,(hp.2 w (UI ρ b F) vs ?_ ⟨by rw [dI]; exact hr.len,fun j x c h1 h2=>?_⟩).mono ?_⟩
  ·rintro g (hg | ⟨t,B,hb,hg⟩)
   ·exact hi.flt g hg
   ·exact ((hi.box t B hb).lt hg).1
  ·obtain ⟨d,h3,rfl⟩:=dJ b args j c h2
   exact (hr.rep j x d h1 h3).asData hi
  ·rintro e w' ⟨v,F',rfl,hx,h1,h2,h3,h4⟩
   obtain ⟨k1,k2⟩:=inv hx (fun g hg=>hg) (fun g hg=>Nat.lt_of_lt_of_le (hi.flt g hg) hx.size) (fun g hg=>.inl hg)
   exact ⟨v,F,rfl,k1,k2,h4.flat hfl⟩
theorem Xr {s:PS} {a:Act} (hev:∀ x,aR ρ s.b w F (a.eval x) (ev s x)) (xs:Array Operand) : cG ρ s.b w F (xs.map a.eval).toList (xs.toList.map (ev s)) :=
 ⟨by simp,fun j x c h1 h2=>by
  rw [Array.toList_map,List.getElem?_map] at h1
  rw [List.getElem?_map] at h2
  cases hj:xs.toList[j]? with
  | none=>rw [hj] at h1; cases h1
  | some y =>
   rw [hj] at h1 h2
   injection h1 with h1
   injection h2 with h2
   subst h1 h2
   exact hev y⟩
theorem XL {xv:Value} {p:PV} {vs:Array Value} {args:List PV} {r:PV} {u:BU} (hi:Inv w0 F0 ρ b w F) (hx:aR ρ b w F xv p) (hr:cG ρ b w F vs.toList args) (h:CR P b p args r u) :
  ∃ f us ws,xv = .func (.func f) us ws∧d9 P f=true∧Calls P f (us++vs++ws) w fun e w'=>∃ v ρ' F',e = .returned v∧Inv w0 F0 ρ' (dB b u) w' F'∧Stp ρ b w F ρ' (dB b u) w' F'∧aR ρ' (dB b u) w' F' v r:=by
 unfold CR at h
 split at h
 ·rename_i f ps qs
  cases hx with
  | fn _ us ws _ _ hl h1 hl2 h2 =>
   have r1:cG ρ b w F us.toList ps:=⟨by simpa using hl,fun j x c k1 k2=>h1 j x c (by simpa using k1) k2⟩
   have r2:cG ρ b w F ws.toList qs:=⟨by simpa using hl2,fun j x c k1 k2=>h2 j x c (by simpa using k1) k2⟩
   have r3:cG ρ b w F (us++vs++ws).toList (ps++args++qs):=by
    rw [Array.toList_append,Array.toList_append]
    exact (r1.append hr).append r2
   rcases h with ⟨rfl,h⟩ | ⟨hcb,bi,hb1,hb2,h⟩
   ·obtain ⟨k1,k2⟩:=ZE (P:=P) hi r3 h
    refine ⟨f,us,ws,rfl,k1,k2.mono ?_⟩
    rintro e w' ⟨v,F',rfl,m1,m2,m3⟩
    exact ⟨v,ρ,F',rfl,m1,m2,m3⟩
   ·exact ⟨f,us,ws,rfl,hcb,h w0 F0 ρ b w F _ (fun t B ht=>(hb1 t B ht).2) hb2 hi r3⟩
 ·exact h.elim
theorem MD {o:Oper} {s:PS} {a:Act} {t:Bool} (hev:∀ i,aR ρ s.b w F (a.tmps.getD i undef) (s.t i)) (h:kK ops o s=some t) : Region.wanted o (yielded ops a.tmps)=t:=by
 unfold kK at h
 unfold Region.wanted
 split at h
 ·rename_i hg
  injection h with h
  simp [hg,← h]
 ·rename_i j want hg
  rw [hg]
  split at h
  ·rename_i g hgd
   have hgv:=hev g
   split at h
   ·rename_i hgt
    injection h with h
    subst h
    rw [hgt] at hgv
    have hu:a.tmps.getD g undef = .tuple #[]:=by
     generalize a.tmps.getD g undef=vq at hgv
     cases hgv with
     | tup xs _ hl _ =>
      have:xs = #[]:=by apply Array.ext' ; simpa using hl
      rw [this]
    have hy:yielded ops a.tmps j=none:=by
     cases ho:ops[j]? with
     | none=>simp [ho] at hgd
     | some oj =>
      simp only [ho,zb] at hgd
      unfold yielded
      simp only [ho,zb,hgd]
      cases hx:a.tmps[g]? with
      | none=>rfl
      | some y =>
       have:a.tmps.getD g undef=y:=by simp [hx]
       rw [this] at hu
       rw [hu]
    simp only [hy]
    cases want <;> rfl
   ·rw [zm] at h
    obtain ⟨v,h1,rfl⟩:=h
    have h2:=sH hgv h1
    have h3:a.tmps[g]? = some (.bool v):=by
     cases hx:a.tmps[g]? with
     | none=>simp [hx,undef] at h2
     | some y=>simp [hx] at h2; rw [h2]
    have hy:yielded ops a.tmps j=some v:=by
     cases ho:ops[j]? with
     | none=>simp [ho] at hgd
     | some oj =>
      simp only [ho,zb] at hgd
      simp [yielded,ho,hgd,h3]
    simp only [hy]
    cases v <;> cases want <;> rfl
  ·cases h
theorem WF {f:Nat} {s:PS} {a:Act} {o:Oper} {r:PV} {u:BU} {K:Act→World→Prop} (h:ow n w0 F0 s a w) (he:Eff P ops o s r u) (hd:∀ d,o.dst=some d→d < n∧d < 1000000)
  (hK:∀ a' w',ow n w0 F0 (s.updL o.dst r u) a' w'→K a' w') : if Region.wanted o (yielded ops a.tmps)=true then o.wp P a w K Q else K (a.put o.dst undef) w:=by
 obtain ⟨h1,h2,ρ,F,hi,hev⟩:=h
 have hev':=Xs hev
 unfold Eff at he
 split at he
 ·rename_i hg
  rw [MD hev hg,if_pos rfl]
  unfold Lx at he
  split at he
  ·rename_i x xs hc
   have hcall:=he
   unfold uX at hc
   split at hc
   ·rename_i c ho
    split at hc
    ·rename_i x' hf
     injection hc with hc
     injection hc with e1 e2
     subst e1 e2
     obtain ⟨f',us,vs,hxv,hcb,hcalls⟩:=XL (P:=P) hi (hev' x') (Xr hev' c.args) hcall
     unfold Oper.wp
     have:(execOp a.eval o).run P w=(callFunc f' (us++c.args.map a.eval++vs)).run P w:=by
      unfold execOp
      simp only [ho,resolve,hf,hxv,Deferred.ofValue,Sem.run_bind,Sem.run_pure,Result.andThen_ok,invoke]
     rw [this]
     unfold d9 at hcb
     cases hfn:P.funcs[f']? with
     | none=>simp [hfn] at hcb
     | some fn =>
      simp only [hfn,Bool.and_eq_true,Bool.not_eq_true'] at hcb
      obtain ⟨hb1,hb2⟩:=hcb
      have hnone : ¬ fn.body=none:=by cases hx:fn.body <;> simp [hx] at hb1 ⊢
      have hname : ¬ fn.name = "runtime.NumGoroutine" := by simpa using hb2
      have hrun:(callFunc f' (us++c.args.map a.eval++vs)).run P w = .ok (.enter f' (us++c.args.map a.eval++vs)) w:=by
       simp [callFunc,hfn,hname,hnone]
      rw [hrun]
      refine hcalls.mono ?_
      rintro e w' ⟨v,ρ',F',rfl,k1,k2,k3⟩
      exact hK _ _ (ow.put h1 h2 hev (fun d h=>(hd d h).1) k1 k2 k3)
    ·cases hc
   ·cases hc
  ·rename_i hc
   obtain ⟨u0,he,rfl⟩:=he
   obtain ⟨v,w',ρ',F',hrun,k1,k2,k3⟩:=aaI (fun d h=>(hd d h).2) hi hev' he
   rw [← Bu] at k1 k2 k3
   unfold Oper.wp
   rcases hrun with hrun | ⟨hrun,rfl⟩
   ·rw [hrun]
    exact hK _ _ (ow.put h1 h2 hev (fun d h=>(hd d h).1) k1 k2 k3)
   ·rw [hrun]
    exact hK _ _ (ow.put h1 h2 hev (fun d h=>(hd d h).1) k1 k2 k3)
 ·rename_i hg
  obtain ⟨rfl,rfl⟩:=he
  rw [MD hev hg,if_neg (by simp)]
  exact hK _ _ (ow.put h1 h2 hev (fun d h=>(hd d h).1) hi (Stp.refl _ _ _ _) (.tup #[] [] rfl (fun j x c h _=>by simp at h)))
 ·exact he.elim
def IP (n:Nat) (l:List Oper) : Bool:=l.all fun o=>match o.dst with | some d=>decide (d < n∧d < 1000000) | none=>true
theorem PZ {o:Oper} {l:List Oper} (h:IP n (o::l)=true) : (∀ d,o.dst=some d→d < n∧d < 1000000)∧IP n l=true:=by
 simp only [IP,List.all_cons,Bool.and_eq_true] at h
 refine ⟨fun d hd=>?_,h.2⟩
 have:=h.1
 rw [hd] at this
 simpa using this
def PWP (P:Program) (n:Nat) (c:Code) (Qs:Exit→PS→Prop) (s:PS) : Prop :=
 ∀ w0 F0 a w,ow n w0 F0 s a w→c.wp P (fun e a' w'=>∃ s',Qs e s'∧ow n w0 F0 s' a' w') a w
variable {Qs:Exit→PS→Prop} {s:PS}
theorem Wo (h:Qs .normal s) : PWP P n .skip Qs s:=fun _ _ _ _ hc=>wp_skip ⟨s,h,hc⟩
theorem TP {l:Nat} (h:Qs .normal s) : PWP P n (.label l) Qs s:=fun _ _ _ _ hc=>wp_label ⟨s,h,hc⟩
theorem Wp {id:Nat} (h:Qs (.exit id) s) : PWP P n (.exit id) Qs s:=fun _ _ _ _ hc=>wp_exit ⟨s,h,hc⟩
theorem YV (h:Qs .ret s) : PWP P n .ret Qs s:=fun _ _ _ _ hc=>wp_ret ⟨s,h,hc⟩
def ZS (K:PS→Prop) (Qs:Exit→PS→Prop) : Exit→PS→Prop
 | .normal,s=>K s
 | e,s=>Qs e s
theorem YU {x y:Code} (h:PWP P n x (ZS (PWP P n y Qs) Qs) s) : PWP P n (.seq x y) Qs s :=
 fun w0 F0 a w hc=>wp_seq (wp_mono (h w0 F0 a w hc) fun e a' w' ⟨s',h1,h2⟩=>by
  cases e <;> first | exact h1 w0 F0 a' w' h2 | exact ⟨s',h1,h2⟩)
theorem L3 {c:Operand} {x y:Code} (t:Bool) (ht:asB (ev s c)=some t) (h:PWP P n (if t then x else y) Qs s) : PWP P n (.cond c x y) Qs s :=
 fun w0 F0 a w hc=>by
  obtain ⟨_,_,ρ,F,hi,hev⟩:=id hc
  exact wp_cond (sH (Xs hev c) ht) (h w0 F0 a w hc)
def EP (id:Nat) (Qs:Exit→PS→Prop) : Exit→PS→Prop
 | .exit id',s=>if id' = id then Qs .normal s else Qs (.exit id') s
 | e,s=>Qs e s
theorem TR {id:Nat} {c:Code} (h:PWP P n c (EP id Qs) s) : PWP P n (.block id c) Qs s :=
 fun w0 F0 a w hc=>wp_block (wp_mono (h w0 F0 a w hc) fun e a' w' ⟨s',h1,h2⟩=>by
  cases e with
  | exit id' =>
   simp only [EP] at h1
   simp only [Exit.inBlock]
   split at h1
   ·rename_i hid; rw [if_pos hid]; exact ⟨s',h1,h2⟩
   ·rename_i hid; rw [if_neg hid]; exact ⟨s',h1,h2⟩
  | _=>exact ⟨s',h1,h2⟩)
end
end
section
def pU (o:Oper) (s:PS) : List Nat:=match o.op with
 | .load _ x=>bk (ev s x)
 | .store _ x _=>bk (ev s x)
 | .indexAddr _ x _=>bk (ev s x)
 | .slice _ x _ _ _=>bk (ev s x)
 | .convert _ _ x=>bk (ev s x)
 | .call c=>(match c.callee with
  | .value f=>bk (ev s f)++bK (c.args.toList.map (ev s))
  | _=>bK (c.args.toList.map (ev s)))
 | _=>[]
section
variable {P:Program} {b b':Nat→Option Box} {ops:Array Oper}
mutual
theorem KC:∀ (p:PV),(∀ x∈bk p,b' x=b x)→asData b' p=asData b p
 | .junk,_=>rfl
 | .d _,_=>rfl
 | .fe _,_=>rfl
 | .ptr _ _,_=>rfl
 | .re _ _ _ _,_=>rfl
 | .vw _ _ _ _,_=>rfl
 | .row t n,h=>by simp only [asData]; rw [h t (by simp [bk])]
 | .ag cs,h=>by simp only [asData]; rw [iW cs (fun x hx=>h x (by simpa [bk] using hx))]
 | .tup cs,h=>by simp only [asData]; rw [iW cs (fun x hx=>h x (by simpa [bk] using hx))]
 | .fn f ps qs,h=>by
  simp only [asData]
  rw [iW ps (fun x hx=>h x (by simp [bk,hx])),iW qs (fun x hx=>h x (by simp [bk,hx]))]
theorem iW:∀ (cs:List PV),(∀ x∈bK cs,b' x=b x)→bO b' cs=bO b cs
 | [],_=>rfl
 | c::cs,h=>by
  simp only [bO]
  rw [KC c (fun x hx=>h x (by simp [bK,hx])),iW cs (fun x hx=>h x (by simp [bK,hx]))]
end
theorem xr:∀ (l m:List PV),bK (l++m)=bK l++bK m
 | [],m=>rfl
 | c::l,m=>by simp only [List.cons_append,bK,xr l m,List.append_assoc]
theorem tz (p:PV) (h:∀ x∈bk p,b' x=b x) : lc b' p=lc b p:=by
 cases p with
 | row t n=>simp only [lc]; rw [h t (by simp [bk])]
 | vw t n lo hi=>simp only [lc]; rw [h t (by simp [bk])]
 | d y=>cases y with
  | v y=>cases y with
   | slice a n c=>cases a <;> rfl
   | _=>rfl
  | sl es=>rfl
 | _=>rfl
theorem Nr (p:PV) (h:∀ x∈bk p,b' x=b x) : u4 b' p=u4 b p:=by
 cases p with
 | ptr t o=>simp only [u4]; rw [h t (by simp [bk])]
 | re t n i o=>simp only [u4]; rw [h t (by simp [bk])]
 | _=>rfl
theorem Fh {t:TypeId} {p q:PV} {u:Nat×Box} (h:∀ x∈bk p,b' x=b x) (he:lH P b t p q=some u) : lH P b' t p q=some u:=by
 unfold lH at he ⊢
 cases p with
 | ptr t o=>dsimp only at he ⊢; rw [h t (by simp [bk])]; exact he
 | re t n j o=>dsimp only at he ⊢; rw [h t (by simp [bk])]; exact he
 | _=>exact he
theorem xL {t:TypeId} {p q:PV} (h:∀ x∈bk p,b' x=b x) : ek P b' t p q=ek P b t p q:=by
 unfold ek
 cases p with
 | row t n=>dsimp only; rw [h t (by simp [bk])]
 | d y=>cases y <;> rfl
 | _=>rfl
theorem Fi {t:TypeId} {p:PV} {lo hi:Option PV} (h:∀ x∈bk p,b' x=b x) : eG P b' t p lo hi=eG P b t p lo hi:=by
 unfold eG
 rw [tz p h]
 generalize P.underlying t=U
 cases U with
 | none=>rfl
 | some d =>
  cases d with
  | slice e =>
   dsimp only
   generalize mw P e=T
   cases T with
   | none=>rfl
   | some i =>
    cases p with
    | row t n=>dsimp only; rw [h t (by simp [bk])]
    | _=>rfl
  | _=>rfl
theorem Fu {src dst:TypeId} {p:PV} (h:∀ x∈bk p,b' x=b x) : iz P b' src dst p=iz P b src dst p:=by
 unfold iz
 rw [tz p h]
theorem C0 {dst:Option Nat} {t:TypeId} {p q:PV} {r:PV} {u:Option (Nat×Box)} (h1:∀ x∈bk p,b' x=b x) (h2:∀ x∈bk q,b' x=b x) (h3:∀ x B,u=some (x,B)→b' x=b x) (he:jG P b dst t p q=some (r,u)) : jG P b' dst t p q=some (r,u):=by
 unfold jG at he ⊢
 rw [tz q h2]
 split at he
 ·rename_i e es2 hu hq
  try simp only [hu,hq]
  split at he
  ·rename_i i hti
   try simp only [hti]
   split at he
   ·rename_i hc
    rw [if_pos hc]
    split at he
    ·rename_i x n
     try simp only
     rw [h1 x (by simp [bk])]
     exact he
    ·rename_i n c
     try simp only
     split at he
     ·rename_i hnc
      rw [if_pos hnc]
      split at he
      ·rename_i d
       try simp only
       split at he
       ·rename_i hbd
        split at he
        ·rename_i hs
         injection he with he
         injection he with e1 e2
         subst e1 e2
         rw [h3 d _ rfl,hbd]
         simp only [if_pos hs]
        ·cases he
       ·cases he
      ·cases he
     ·cases he
    ·cases he
   ·cases he
  ·cases he
 ·cases he
theorem Pk {p:PV} {x n lo hi:Nat} (h:Sm p=some (x,n,lo,hi)) : x∈bk p:=by
 cases p with
 | row t m=>injection h with h; injection h with h; subst h; simp [bk]
 | vw t m l k=>injection h with h; injection h with h; subst h; simp [bk]
 | _=>cases h
theorem Ha {t:TypeId} {p q:PV} (h1:∀ x∈bk p,b' x=b x) (h2:∀ x∈bk q,b' x=b x) : qV P b' t p q=qV P b t p q:=by
 unfold qV
 rw [tz q h2]
 cases hp:Sm p with
 | none =>
  generalize lc b q=Y
  generalize P.underlying t=U
  cases U with
  | none=>rfl
  | some d=>cases d <;> first | rfl | (cases Y <;> rfl)
 | some y =>
  obtain ⟨x,n,lo,hi⟩:=y
  have:=h1 x (Pk hp)
  generalize lc b q=Y
  generalize P.underlying t=U
  cases U with
  | none=>rfl
  | some d=>cases d <;> first | rfl | (cases Y <;> first | rfl | (dsimp only; rw [this]))
def qG (o:Oper) (s s':PS) : Prop:=∀ x∈o.op.operands,ev s' x=ev s x
theorem IG {o:Oper} {s s':PS} (h:∀ t∈o.looksAt ops,s'.t t=s.t t) : qG o s s':=by
 intro x hx
 cases x with
 | tmp t =>
  refine h t ?_
  unfold Oper.looksAt
  refine List.mem_append_left _ ?_
  rw [List.mem_filterMap]
  exact ⟨.tmp t,by simpa using hx,rfl⟩
 | _=>rfl
theorem qG.symm {o:Oper} {s s':PS} (h:qG o s s') : qG o s' s:=fun x hx=>(h x hx).symm
theorem Ce {o:Oper} {s s':PS} (h:∀ t∈o.looksAt ops,s'.t t=s.t t) : kK ops o s' = kK ops o s:=by
 unfold kK
 split
 ·rfl
 ·rename_i j want hg
  split
  ·rename_i g hgd
   rw [h g (by unfold Oper.looksAt; refine List.mem_append_right _ ?_; rw [hg]; simp [hgd])]
  ·rfl
theorem Ej {o:Oper} {s s':PS} {t:TypeId} {ps:Array (Nat×Operand)} (ho:o.op = .build t ps∨∃ m,o.op = .buildSlice t m ps) (he:qG o s s') : (ps.toList.map fun (i,x)=>(i,ev s' x))=(ps.toList.map fun (i,x)=>(i,ev s x)):=by
 apply List.map_congr_left
 rintro ⟨i,x⟩ hx
 have:x∈o.op.operands:=by
  rcases ho with ho | ⟨m,ho⟩ <;> (rw [ho]; simp only [Op.operands,List.mem_toArray,List.mem_map]; exact ⟨(i,x),hx,rfl⟩)
 simp only [he x this]
theorem Mj {o:Oper} {s s':PS} {l:Array Operand} (h:∀ x∈l.toList,x∈o.op.operands) (he:qG o s s') : l.toList.map (ev s')=l.toList.map (ev s):=List.map_congr_left fun x hx=>he x (h x hx)
theorem I7 {o:Oper} {s s':PS} {c:Call} (ho:o.op = .call c) (he:qG o s s') : c.args.toList.map (ev s')=c.args.toList.map (ev s):=by
 apply List.map_congr_left
 intro x hx
 refine he x ?_
 rw [ho]
 simp only [Op.operands,Call.operands]
 exact Array.mem_append_right _ (by simpa using hx)
theorem Mi {o:Oper} {s s':PS} {x:Option Operand} (h:∀ y,x=some y→y∈o.op.operands) (he:qG o s s') : x.map (ev s')=x.map (ev s):=by
 cases x with
 | none=>rfl
 | some y=>simp [he y (h y rfl)]
theorem E6 {o:Oper} {s s':PS} (he:qG o s s') : pU o s' = pU o s:=by
 unfold pU
 split <;> rename_i ho
 all_goals try rw [he _ (by rw [ho]; simp [Op.operands])]
 ·rw [I7 ho he]
  split
  ·rename_i f hf
   rw [he f (by rw [ho]; simp only [Op.operands,Call.operands,hf]; exact Array.mem_append_left _ (by simp))]
  ·rfl
 ·rfl
theorem Uq {o:Oper} {s s':PS} {r:PV} {u:Option (Nat×Box)} (he:qG o s s') (h1:∀ x∈pU o s,s'.b x=s.b x) (h2:∀ x B,u=some (x,B)→s'.b x=s.b x) (h:eff P o s=some (r,u)) : eff P o s' = some (r,u):=by
 unfold eff at h ⊢
 unfold pU at h1
 split at h <;> rename_i ho <;> simp only [ho] at h1 ⊢
 case h_1=>rw [he _ (by rw [ho]; simp [Op.operands])]; exact h
 case h_2=>rw [he _ (by rw [ho]; simp [Op.operands])]; exact h
 case h_3=>rw [he _ (by rw [ho]; simp [Op.operands]),he _ (by rw [ho]; simp [Op.operands]),he _ (by rw [ho]; simp [Op.operands])]; exact h
 case h_4 =>
  unfold uU at h ⊢
  split at h
  ·rename_i t i hd hi
   try simp only [hd,hi]
   split at h
   ·rename_i hb
    injection h with h
    injection h with e1 e2
    subst e1 e2
    rw [h2 t _ rfl,hb]
   ·cases h
  ·cases h
 case h_5 =>
  rw [he _ (by rw [ho]; simp [Op.operands])]
  unfold Fw at h ⊢
  split at h
  ·rename_i t cs hd hi
   try simp only [hd,hi]
   split at h
   ·rename_i hb
    injection h with h
    injection h with e1 e2
    subst e1 e2
    rw [h2 t _ rfl,hb]
   ·cases h
  ·cases h
 case h_6=>rw [Ej (.inl ho) he]; exact h
 case h_7 =>
  rw [Ej (.inr ⟨_,ho⟩) he]
  unfold iU at h ⊢
  split at h
  ·rename_i d e hd hu
   try simp only [hd,hu]
   split at h
   ·rename_i i hti hb
    split at h
    ·rename_i hc
     split at h
     ·rename_i cs hcs
      split at h
      ·rename_i ds hds
       injection h with h
       injection h with e1 e2
       subst e1 e2
       rw [h2 d _ rfl,hb]
       simp only [hti,if_pos hc,hcs,hds]
      ·cases h
     ·cases h
    ·cases h
   ·cases h
  ·cases h
 case h_8 =>
  rw [he _ (by rw [ho]; simp [Op.operands])]
  rw [zm] at h ⊢
  obtain ⟨r',h3,h4⟩:=h
  refine ⟨r',?_,h4⟩
  unfold qU at h3 ⊢
  rw [Nr _ h1]
  exact h3
 case h_9 =>
  rw [he _ (by rw [ho]; simp [Op.operands]),he _ (by rw [ho]; simp [Op.operands])]
  rw [zm] at h ⊢
  obtain ⟨r',h3,h4⟩:=h
  exact ⟨r',Fh h1 h3,h4⟩
 case h_10=>rw [he _ (by rw [ho]; simp [Op.operands]),he _ (by rw [ho]; simp [Op.operands])]; exact h
 case h_11=>rw [he _ (by rw [ho]; simp [Op.operands])]; exact h
 case h_12=>rw [he _ (by rw [ho]; simp [Op.operands]),Fu h1]; exact h
 case h_13 =>
  rename_i t x lo hi
  rw [he x (by rw [ho]; simp [Op.operands]),Fi h1,Mi (x:=lo) (fun y hy=>by rw [ho,hy]; simp [Op.operands]) he,Mi (x:=hi) (fun y hy=>by rw [ho,hy]; simp [Op.operands]) he]
  exact h
 case h_14=>rw [he _ (by rw [ho]; simp [Op.operands])]; exact h
 case h_15=>rw [he _ (by rw [ho]; simp [Op.operands])]; exact h
 case h_16=>rw [he _ (by rw [ho]; simp [Op.operands]),he _ (by rw [ho]; simp [Op.operands]),xL h1]; exact h
 case h_17=>rw [he _ (by rw [ho]; simp [Op.operands])]; exact h
 case h_18=>rw [he _ (by rw [ho]; simp [Op.operands]),he _ (by rw [ho]; simp [Op.operands])]; exact h
 case h_19 =>
  rename_i c
  rw [I7 ho he]
  split at h
  ·rename_i f hf
   simp only [hf] at h1 ⊢
   unfold tq at h ⊢
   split at h
   ·exact h
   ·split at h
    ·rename_i x y t t' hx ht
     try simp only [hx,ht]
     split at h
     ·rename_i htt
      rw [if_pos htt]
      rw [hx] at h1
      exact C0 (fun z hz=>h1 z (by simp [bK,hz])) (fun z hz=>h1 z (by simp [bK,hz])) h2 h
     ·cases h
    ·cases h
   ·exact h
   ·exact h
   ·split at h
    ·rename_i x y t t' hx ht
     try simp only [hx,ht]
     rw [hx] at h1
     rw [Ha (fun z hz=>h1 z (by simp [bK,hz])) (fun z hz=>h1 z (by simp [bK,hz]))]
     exact h
    ·cases h
   ·cases h
  ·cases h
 case h_20 =>
  rename_i f ps qs
  rw [Mj (l:=ps) (fun x hx=>by rw [ho]; simp only [Op.operands]; exact Array.mem_append_left _ (by simpa using hx)) he,Mj (l:=qs) (fun x hx=>by rw [ho]; simp only [Op.operands]; exact Array.mem_append_right _ (by simpa using hx)) he]
  exact h
 case h_21 =>
  rw [he _ (by rw [ho]; simp [Op.operands]),he _ (by rw [ho]; simp [Op.operands])]
  unfold vN at h ⊢
  split at h
  ·rename_i d e k1 n k2 m hd hu hn hm
   try simp only [hd,hu,hn,hm]
   split at h
   ·rename_i i hti hb
    split at h
    ·rename_i hc
     injection h with h
     injection h with e1 e2
     subst e1 e2
     rw [h2 d _ rfl,hb]
     simp only [hti,if_pos hc]
    ·cases h
   ·cases h
  ·cases h
 case h_22=>rw [he _ (by rw [ho]; simp [Op.operands])]; exact h
 case h_23=>cases h
theorem P4 {o:Oper} {f:Operand} {xs:List Operand} (h:uX o=some (f,xs)) : (∀ x∈xs,x∈o.op.operands)∧f∈o.op.operands∧∀ s,pU o s=bk (ev s f)++bK (xs.map (ev s)):=by
 unfold uX at h
 split at h
 ·rename_i c ho
  split at h
  ·rename_i f' hf
   injection h with h
   injection h with e1 e2
   subst e1 e2
   refine ⟨fun x hx=>?_,?_,fun s=>?_⟩
   ·rw [ho]
    simp only [Op.operands,Call.operands]
    exact Array.mem_append_right _ (by simpa using hx)
   ·rw [ho]
    simp only [Op.operands,Call.operands,hf]
    exact Array.mem_append_left _ (by simp)
   ·unfold pU
    simp only [ho,hf]
  ·cases h
 ·cases h
theorem Nk {p:PV} {args:List PV} {r:PV} {u:BU} (h1:∀ x∈bk p++bK args,b' x=b x) (h2:∀ x B,lkU u x=some B→b' x=b x) (h:CR P b p args r u) : CR P b' p args r u:=by
 unfold CR at h ⊢
 split at h
 ·rename_i f ps qs
  have hr:∀ x∈bK (ps++args++qs),b' x=b x:=fun x hx=>h1 x (by
   rw [xr,xr] at hx
   simp only [bk,List.mem_append] at hx ⊢
   rcases hx with (h | h) | h <;> simp [h])
  rcases h with ⟨h3,h4⟩ | ⟨h3,bi,h4,h5,h6⟩
  ·refine .inl ⟨h3,?_⟩
   unfold Lz at h4 ⊢
   rw [iW _ hr]
   exact h4
  ·refine .inr ⟨h3,bi,fun t B ht=>⟨(h4 t B ht).1,?_⟩,fun t B ht hn=>?_,h6⟩
   ·obtain ⟨⟨B',hB'⟩,h7⟩:=h4 t B ht
    rw [h2 t B' hB']; exact h7
   ·rw [h2 t B ht]; exact h5 t B ht hn
 ·exact h.elim
theorem Fg {o:Oper} {s s':PS} {r:PV} {u:BU} (he:qG o s s') (h1:∀ x∈pU o s,s'.b x=s.b x) (h2:∀ x B,lkU u x=some B→s'.b x=s.b x) (h:Lx P o s r u) : Lx P o s' r u:=by
 unfold Lx at h ⊢
 split at h
 ·rename_i f xs hc
  obtain ⟨k1,k2,k3⟩:=P4 hc
  rw [k3 s] at h1
  have e1:xs.map (ev s')=xs.map (ev s):=List.map_congr_left fun x h=>he x (k1 x h)
  rw [e1,he f k2]
  exact Nk h1 h2 h
 ·obtain ⟨u0,h3,rfl⟩:=h
  refine ⟨u0,Uq he h1 (fun x B hu=>h2 x B ?_) h3,rfl⟩
  subst hu
  simp [Option.toList,lkU]
end
end
section
section
variable {P:Program} {ρ ρ':Nat→Value} {b b':Nat→Option Box} {w w':World} {w0:WM} {F F' F0:Nat→Prop} {n:Nat} {ops:Array Oper} {Q:Exit→Act→World→Prop}
theorem V2 {s:PS} {d:Option Nat} {r:PV} {u:BU} {t:Nat} (h:d≠some t) : (s.updL d r u).t t=s.t t:=by
 simp [PS.updL,xi,h]
theorem V3 {s:PS} {d:Option Nat} {r:PV} {u:BU} {x:Nat} (h:lkU u x=none) : (s.updL d r u).b x=s.b x:=by
 simp [PS.updL,dB,h]
theorem Ts {s:PS} {d d':Option Nat} {r r':PV} {u u':BU} (hd:∀ x,d=some x→d'≠some x) (hu:∀ x B B',lkU u x=some B→lkU u' x≠some B') : (s.updL d r u).updL d' r' u' = (s.updL d' r' u').updL d r u:=by
 unfold PS.updL
 congr 1
 ·funext i
  show (if d' = some i then r' else if d=some i then r else s.t i)=(if d=some i then r else if d' = some i then r' else s.t i)
  by_cases h:d=some i
  ·rw [if_neg (hd i h),if_pos h,if_pos h]
  ·rw [if_neg h,if_neg h]
 ·funext i
  show (match lkU u' i with | some B=>some B | none=>match lkU u i with | some B=>some B | none=>s.b i)=(match lkU u i with | some B=>some B | none=>match lkU u' i with | some B=>some B | none=>s.b i)
  cases h:lkU u i with
  | none=>rfl
  | some B =>
   cases h':lkU u' i with
   | none=>rfl
   | some B'=>exact absurd h' (hu i B B' h)
abbrev Bd:=List Nat×List Nat
def fL (ops:Array Oper) (o:Oper) (s:PS) (u:BU) (B:Bd) : Prop:=(kK ops o s=some true→∀ x∈pU o s,memL B.1 x=true)∧∀ x Bx,lkU u x=some Bx→memL B.2 x=true
 where memL:List Nat→Nat→Bool
 | [],_=>false
 | j::l,i=>match Nat.beq i j with | true=>true | false=>memL l i
def IR:List Nat→List Nat→Bool
 | [],_=>true
 | a::l,m=>match fL.memL m a with | true=>false | false=>IR l m
theorem A4 (j:Nat) (l:List Nat) (i:Nat) : fL.memL (j::l) i=(decide (i=j)||fL.memL l i):=by
 simp only [fL.memL]
 by_cases h:i=j
 ·subst h; simp
 ·have:Nat.beq i j=false:=by rw [← Bool.not_eq_true,Nat.beq_eq]; exact h
  simp [this,h]
theorem pZ:∀ {a m:List Nat},IR a m=true→∀ x,fL.memL a x=true→fL.memL m x=false
 | [],m,_,x,hx=>by cases hx
 | y::a,m,h,x,hx=>by
  simp only [IR] at h
  split at h
  ·cases h
  ·rename_i hy
   rw [A4,Bool.or_eq_true] at hx
   rcases hx with hx | hx
   ·have:=zd hx
    subst this
    exact hy
   ·exact pZ h x hx
def EO (x y:Bd) : Bool:=IR x.2 y.1&&(IR x.2 y.2&&IR y.2 x.1)
theorem aaW {k i:Oper} {s:PS} {rk ri:PV} {uk ui:BU} {Bk Bi:Bd} (hap:k.apart ops i=true) (hin:EO Bk Bi=true) (h1:Eff P ops k s rk uk) (f1:fL ops k s uk Bk) (h2:Eff P ops i (s.updL k.dst rk uk) ri ui) (f2:fL ops i (s.updL k.dst rk uk) ui Bi) :
  Eff P ops i s ri ui∧fL ops i s ui Bi∧Eff P ops k (s.updL i.dst ri ui) rk uk∧fL ops k (s.updL i.dst ri ui) uk Bk∧(s.updL k.dst rk uk).updL i.dst ri ui=(s.updL i.dst ri ui).updL k.dst rk uk:=by
 obtain ⟨a1,a2,a3⟩:=Oper.apart_spec hap
 simp only [EO,Bool.and_eq_true] at hin
 obtain ⟨d1,d2,d3⟩:=hin
 have ti:∀ t∈i.looksAt ops,(s.updL k.dst rk uk).t t=s.t t:=fun t ht=>V2 (fun e=>a1 t e ht)
 have tk:∀ t∈k.looksAt ops,(s.updL i.dst ri ui).t t=s.t t:=fun t ht=>V2 (fun e=>a3 t e ht)
 have gi:=Ce (s:=s) (s':=s.updL k.dst rk uk) ti
 have gk:=Ce (s:=s) (s':=s.updL i.dst ri ui) tk
 have evi:=IG (s:=s) (s':=s.updL k.dst rk uk) ti
 have evk:=IG (s:=s) (s':=s.updL i.dst ri ui) tk
 have offk:∀ x,fL.memL Bk.2 x=false→(s.updL k.dst rk uk).b x=s.b x:=fun x hx=>by
  refine V3 ?_
  cases h:lkU uk x with
  | none=>rfl
  | some B=>rw [f1.2 x B h] at hx; cases hx
 have offi:∀ x,fL.memL Bi.2 x=false→(s.updL i.dst ri ui).b x=s.b x:=fun x hx=>by
  refine V3 ?_
  cases h:lkU ui x with
  | none=>rfl
  | some B=>rw [f2.2 x B h] at hx; cases hx
 have nik:∀ x,fL.memL Bi.1 x=true∨fL.memL Bi.2 x=true→fL.memL Bk.2 x=false:=fun x hx=>by
  cases h:fL.memL Bk.2 x with
  | false=>rfl
  | true =>
   rcases hx with hx | hx
   ·rw [pZ d1 x h] at hx; cases hx
   ·rw [pZ d2 x h] at hx; cases hx
 have nki:∀ x,fL.memL Bk.1 x=true∨fL.memL Bk.2 x=true→fL.memL Bi.2 x=false:=fun x hx=>by
  cases h:fL.memL Bi.2 x with
  | false=>rfl
  | true =>
   rcases hx with hx | hx
   ·rw [pZ d3 x h] at hx; cases hx
   ·rw [pZ d2 x hx] at h; cases h
 have fi:pU i (s.updL k.dst rk uk)=pU i s:=E6 evi
 have fk:pU k (s.updL i.dst ri ui)=pU k s:=E6 evk
 refine ⟨?_,⟨fun hg x hx=>f2.1 (by rw [gi]; exact hg) x (by rw [fi]; exact hx),f2.2⟩,?_,⟨fun hg x hx=>f1.1 (by rw [← gk]; exact hg) x (by rw [← fk]; exact hx),f1.2⟩,Ts a2 fun x B B' e1 e2=>?_⟩
 ·unfold Eff at h2 ⊢
  rw [gi] at h2
  split at h2
  ·rename_i hg
   refine Fg (s:=s.updL k.dst rk uk) (s':=s) evi.symm (fun x hx=>?_) (fun x B hx=>?_) h2
   ·exact (offk x (nik x (.inl (f2.1 (by rw [gi]; exact hg) x hx)))).symm
   ·exact (offk x (nik x (.inr (f2.2 x B hx)))).symm
  ·exact h2
  ·exact h2
 ·unfold Eff at h1 ⊢
  rw [gk]
  split at h1
  ·rename_i hg
   refine Fg (s:=s) (s':=s.updL i.dst ri ui) evk (fun x hx=>?_) (fun x B hx=>?_) h1
   ·exact offi x (nki x (.inl (f1.1 hg x hx)))
   ·exact offi x (nki x (.inr (f1.2 x B hx)))
  ·exact h1
  ·exact h1
 ·have:=f1.2 x B e1
  rw [nik x (.inr (f2.2 x B' e2))] at this
  cases this
def FW (P:Program) (ops:Array Oper) (bd:Nat→Bd) : List Nat→PS→(PS→Prop)→Prop
 | [],s,K=>K s
 | i::l,s,K=>∃ o r u,ops[i]? = some o∧Eff P ops o s r u∧fL ops o s u (bd i)∧FW P ops bd l (s.updL o.dst r u) K
theorem H7 {bd:Nat→Bd} {K K':PS→Prop} : ∀ {l:List Nat} {s:PS},FW P ops bd l s K→(∀ s,K s→K' s)→FW P ops bd l s K'
 | [],s,h,hk=>hk s h
 | i::l,s,⟨o,r,u,h1,h2,h3,h4⟩,hk=>⟨o,r,u,h1,h2,h3,H7 h4 hk⟩
def yT (ops:Array Oper) : Nat→Nat→Nat→Bool
 | 0,_,_=>false
 | f + 1,i,k=>match ops[i]? with
  | none=>false
  | some o=>o.after.any fun e=>Region.binds .any e&&(e.on==k||yT ops f e.on k)
def RX (ops:Array Oper) (listed:Array Bool) : Prop:=∀ j,listed.getD j false=true→∀ o,ops[j]? = some o→∀ e∈o.after,Region.binds .any e=true→listed.getD e.on false=true
theorem xF {ops:Array Oper} {listed:Array Bool} (hc:RX ops listed) : ∀ (f i k:Nat),yT ops f i k=true→(∀ o,ops[i]? = some o→∀ e∈o.after,Region.binds .any e=true→listed.getD e.on false=true)→listed.getD k false=true
 | 0,_,_,h,_=>by cases h
 | f + 1,i,k,h,hi=>by
  unfold yT at h
  split at h
  ·cases h
  ·rename_i o ho
   rw [← Array.any_toList,List.any_eq_true] at h
   obtain ⟨e,he,h⟩:=h
   simp only [Bool.and_eq_true,Bool.or_eq_true,beq_iff_eq] at h
   have hd:=hi o ho e (by simpa using he) h.1
   rcases h.2 with h2 | h2
   ·rw [← h2]; exact hd
   ·exact xF hc f e.on k h2 (fun o' ho'=>hc e.on hd o' ho')
def Fz (bd:Nat→Bd) (n:Nat) (ops:Array Oper) : Bool :=
 (List.range ops.size).all fun i=>match ops[i]? with
  | none=>true
  | some o=>(match o.dst with | some d=>decide (d < n∧d < 1000000) | none=>true)&&(o.after.all fun e=>!Region.binds .any e||decide (e.on < i)) &&
    (List.range i).all fun k=>match ops[k]? with
     | none=>true
     | some x=>(x.apart ops o&&EO (bd k) (bd i))||yT ops 4 i k
theorem mZ {bd:Nat→Bd} {n:Nat} {ops:Array Oper} (h:Fz bd n ops=true) {i:Nat} {o:Oper} (hi:ops[i]? = some o) :
  (∀ d,o.dst=some d→d < n∧d < 1000000)∧(∀ e∈o.after,Region.binds .any e=true→e.on < i)∧∀ k x,k < i→ops[k]? = some x→yT ops 4 i k=true∨(x.apart ops o=true∧EO (bd k) (bd i)=true):=by
 unfold Fz at h
 rw [List.all_eq_true] at h
 have h:=h i (List.mem_range.2 (Array.getElem?_eq_some_iff.1 hi).1)
 rw [hi] at h
 simp only [Bool.and_eq_true,List.all_eq_true] at h
 obtain ⟨⟨h1,h2⟩,h3⟩:=h
 refine ⟨fun d hd=>by rw [hd] at h1; simpa using h1,fun e he hb=>?_,fun k x hk hx=>?_⟩
 ·have:=(Array.all_eq_true_iff_forall_mem.1 h2) e he
  rw [hb] at this
  simpa using this
 ·have:=h3 k (List.mem_range.2 hk)
  rw [hx] at this
  simp only [Bool.or_eq_true,Bool.and_eq_true] at this
  exact this.symm
theorem xz {bd:Nat→Bd} {K:PS→Prop} {i:Nat} {oi:Oper} (hoi:ops[i]? = some oi) : ∀ (l1 l2:List Nat) (s:PS),(∀ k∈l1,∀ ok,ops[k]? = some ok→ok.apart ops oi=true∧EO (bd k) (bd i)=true)→FW P ops bd (l1++i::l2) s K→FW P ops bd (i::(l1++l2)) s K
 | [],l2,s,_,h=>h
 | k::l1,l2,s,hk,h=>by
  obtain ⟨ok,rk,uk,hok,h1,f1,h2⟩:=h
  obtain ⟨o',ri,ui,ho',h3,f3,h4⟩:=xz hoi l1 l2 _ (fun j hj=>hk j (by simp [hj])) h2
  rw [hoi] at ho'
  injection ho' with ho'
  subst ho'
  obtain ⟨p1,p2⟩:=hk k (by simp) ok hok
  obtain ⟨e1,e2,e3,e4,e5⟩:=aaW p1 p2 h1 f1 h3 f3
  exact ⟨oi,ri,ui,hoi,e1,e2,ok,rk,uk,hok,e3,e4,by rw [← e5]; exact h4⟩
theorem XW {bd:Nat→Bd} {Qs:Exit→PS→Prop} (hQ:∀ e s a w,Qs e s→ow n w0 F0 s a w→Q e a w) (hB:Fz bd n ops=true) : ∀ (m:Nat) (l:List Nat) (listed:Array Bool) (s:PS) (a:Act) (w:World),l.length=m→l.Pairwise (· < ·)→(∀ j,j∈l↔(j < ops.size∧listed.getD j true=false))→listed.size=ops.size→RX ops listed →
  FW P ops bd l s (Qs .normal)→ow n w0 F0 s a w→wpAny P .any ops Q m listed a w
 | 0,l,listed,s,a,w,hl,_,hm,hls,_,h,hc=>by
  have:l = []:=List.eq_nil_of_length_eq_zero hl
  subst this
  refine ⟨?_,hQ _ s a w h hc⟩
  rw [List.eq_nil_iff_forall_not_mem]
  intro j hj
  obtain ⟨h1,o,h2,_⟩:=mem_ready.1 hj
  have:=(hm j).2 ⟨(Array.getElem?_eq_some_iff.1 h2).1,h1⟩
  simp at this
 | m + 1,l,listed,s,a,w,hl,hs,hm,hls,hcl,h,hc=>by
  refine ⟨fun h0=>?_,fun i hi=>?_⟩
  ·exfalso
   cases l with
   | nil=>simp at hl
   | cons k l =>
    have hk:=(hm k).1 (by simp)
    have hok:ops[k]? = some ops[k]:=Array.getElem?_eq_getElem hk.1
    have:k∈Region.ready .any ops listed:=by
     refine mem_ready.2 ⟨hk.2,_,hok,fun e he hb=>?_⟩
     have hlt:=(mZ hB hok).2.1 e he hb
     cases hx:listed.getD e.on false with
     | true=>rfl
     | false =>
      exfalso
      have hsz:e.on < listed.size:=by rw [hls]; omega
      have h2:listed.getD e.on true=false:=by
       simp [hsz] at hx ⊢; exact hx
      have:=(hm e.on).2 ⟨by omega,h2⟩
      rcases List.mem_cons.1 this with h | h
      ·omega
      ·have:=(List.pairwise_cons.1 hs).1 _ h
       omega
    rw [h0] at this
    cases this
  ·obtain ⟨hun,oi,hoi,hall⟩:=mem_ready.1 hi
   have hin:i∈l:=(hm i).2 ⟨(Array.getElem?_eq_some_iff.1 hoi).1,hun⟩
   obtain ⟨l1,l2,rfl⟩:=List.append_of_mem hin
   have hpw:=List.pairwise_append.1 hs
   have hfront:=xz (P:=P) (bd:=bd) (K:=Qs .normal) hoi l1 l2 s (fun k hk ok hok=>by
    have hlt:k < i:=hpw.2.2 k hk i (by simp)
    rcases (mZ hB hoi).2.2 k ok hlt hok with hh | h
    ·exfalso
     have h1:=xF hcl 4 i k hh (fun o' ho' e he hb=>by rw [hoi] at ho'; cases ho'; exact hall e he hb)
     have h2:=((hm k).1 (by simp [hk])).2
     have hsz:k < listed.size:=by
      rw [hls]; exact ((hm k).1 (by simp [hk])).1
     simp [hsz] at h1 h2
     rw [h1] at h2
     cases h2
    ·exact h) h
   obtain ⟨o',r,u,ho',h1,_,h2⟩:=hfront
   rw [hoi] at ho'
   injection ho' with ho'
   subst ho'
   have hstep:=WF (f:=0) (Q:=Q) (K:=wpAny P .any ops Q m (listed.setIfInBounds i true)) hc h1 (mZ hB hoi).1 (fun a' w' hc'=>by
    have hmono:∀ j,listed.getD j false=true→(listed.setIfInBounds i true).getD j false=true:=fun j hj=>by
     by_cases hji:j=i
     ·subst hji
      have hsz:j < listed.size:=by rw [hls]; exact (Array.getElem?_eq_some_iff.1 hoi).1
      simp [hsz]
     ·rw [getD_set_ne false (Ne.symm hji)]; exact hj
    refine XW hQ hB m (l1++l2) _ _ a' w' (by simp at hl ⊢; omega) ?_ (fun j=>?_) (by simpa using hls) (fun j hj o ho e he hb=>?_) h2 hc'
    rotate_right
    ·by_cases hji:j=i
     ·subst hji
      rw [hoi] at ho
      cases ho
      exact hmono _ (hall e he hb)
     ·rw [getD_set_ne false (Ne.symm hji)] at hj
      exact hmono _ (hcl j hj o ho e he hb)
    ·have h3:=List.pairwise_cons.1 hpw.2.1
     exact List.pairwise_append.2 ⟨hpw.1,h3.2,fun x hx y hy=>hpw.2.2 x hx y (by simp [hy])⟩
    ·by_cases hji:j=i
     ·subst hji
      have hsz:j < listed.size:=by rw [hls]; exact (Array.getElem?_eq_some_iff.1 hoi).1
      refine ⟨fun hmem=>?_,fun ⟨_,hx⟩=>?_⟩
      ·exfalso
       rcases List.mem_append.1 hmem with h | h
       ·have:=hpw.2.2 j h j (by simp); omega
       ·have:=(List.pairwise_cons.1 hpw.2.1).1 j h; omega
      ·simp [hsz] at hx
     ·rw [getD_set_ne true (Ne.symm hji),← hm j]
      simp [hji])
   unfold wpOp
   rw [hoi]
   simp only
   split
   ·rename_i hw
    rw [if_pos hw] at hstep
    exact .inl hstep
   ·rename_i hw
    rw [if_neg hw] at hstep
    exact hstep
theorem ow.drew {s:PS} {a:Act} (h:ow n w0 F0 s a w) (d:Nat) : ow n w0 F0 s a { w with drawn:=d } := by
 obtain ⟨h1,h2,ρ,F,hi,hev⟩:=h
 have hs:Stp ρ s.b w F ρ s.b { w with drawn:=d } F:=⟨fun _ h=>h,fun _ _=>rfl,fun _ ty cs h=>⟨⟨ty,cs,h⟩,rfl⟩,fun _ e _ es h=>⟨e,es,h,Nat.le_refl _,fun _=>rfl⟩⟩
 refine ⟨h1,h2,ρ,F,⟨?_,hi.f0,hi.flt,hi.fnew,fun t B hb=>(hi.box t B hb).mono hs rfl (fun _ _=>rfl) (fun g hg=>((hi.box t B hb).lt hg).2.2),hi.dist,hi.reg⟩,fun i=>(hev i).mono hs⟩
 exact ⟨hi.ext.os,hi.ext.tape,hi.ext.output,hi.ext.size,hi.ext.block⟩
theorem Wq (bd:Nat→Bd) {Qs:Exit→PS→Prop} {s:PS} {id:Nat} {l:List Oper} (hm:P.follows .mixedOrders=true) (hB:Fz bd n l.toArray=true) (h:FW P l.toArray bd (List.range' 0 l.length) s (Qs .normal)) : PWP P n (.region id l.toArray true) Qs s:=by
 intro w0 F0 a w hc
 refine wp_region_any hm ?_
 refine XW (Qs:=Qs) (fun _ s' _ _ h1 h2=>⟨s',h1,h2⟩) hB l.toArray.size (List.range' 0 l.length) _ s a _ (by simp) List.pairwise_lt_range' (fun j=>?_) (by simp) (fun j hj=>by exfalso; simp only [Array.getD_eq_getD_getElem?,Array.getElem?_replicate] at hj; split at hj <;> cases hj) h (hc.drew _)
 simp only [List.mem_range'_1,Nat.zero_le,true_and,Nat.zero_add,List.size_toArray]
 refine ⟨fun h=>⟨h,by simp [h]⟩,fun h=>h.1⟩
end
end
section
def CS (P:Program) (s:PS) : ResultVar→Option PV
 | .tmp t=>some (s.t t)
 | .cell t ty=>qU P s.b ty (s.t t)
def rp (P:Program) (fn:Func) (s:PS) : Option PV :=
 match fn.results.toList.mapM (CS P s) with
 | some [p]=>some p
 | some ps=>some (.tup ps)
 | none=>none
def abR (P:Program) (fn:Func) (r:PV) (e:Exit) (s:PS) : Prop :=
 (match e with | .normal=>True | .ret=>True | _=>False)∧∃ p,rp P fn s=some p∧asData s.b p=r
def mD (args:List PV) : Nat→PV:=fun i=>(args[i]?).getD .junk
section
variable {P:Program} {ρ ρ':Nat→Value} {b b':Nat→Option Box} {w w':World} {w0:WM} {F F' F0:Nat→Prop} {n:Nat}
theorem YP {s:PS} {a:Act} (hi:Inv w0 F0 ρ s.b w F) (hev:∀ i,aR ρ s.b w F (a.tmps.getD i undef) (s.t i)) {x:ResultVar} {p:PV} (h:CS P s x=some p) :
  ∃ v,((match x with | .tmp t=>pure (a.tmps.getD t undef) | .cell i t=>do loadVar t (← asAddr (a.tmps.getD i undef)) : Sem Value)).run P w = .ok v w∧aR ρ s.b w F v p:=by
 cases x with
 | tmp t =>
  simp only [CS] at h
  injection h with h
  subst h
  exact ⟨_,rfl,hev t⟩
 | cell t ty =>
  simp only [CS] at h
  have h0:=h
  unfold qU at h0
  split at h0
  ·rename_i i cl hti hcl
   obtain ⟨ad,hx,_⟩:=Cp hi (hev t) hcl
   obtain ⟨v,h1,h2⟩:=Fp hi (hev t) h
   refine ⟨v,?_,h1⟩
   show (do loadVar ty (← asAddr (a.tmps.getD t undef)) : Sem Value).run P w = .ok v w
   rw [hx] at h2 ⊢
   simpa [Instr.loadAt,Instr.sureAddr,asAddr] using h2
  ·cases h0
theorem Sf {s:PS} {a:Act} (hi:Inv w0 F0 ρ s.b w F) (hev:∀ i,aR ρ s.b w F (a.tmps.getD i undef) (s.t i)) : ∀ (l:List ResultVar) (ps:List PV),l.mapM (CS P s)=some ps →
  ∃ vs:List Value,(l.mapM (fun x=>(match x with | .tmp t=>pure (a.tmps.getD t undef) | .cell i t=>do loadVar t (← asAddr (a.tmps.getD i undef)) : Sem Value))).run P w = .ok vs w∧cG ρ s.b w F vs ps
 | [],ps,h=>by simp at h; subst h; exact ⟨[],by simp,.nil⟩
 | x::l,ps,h=>by
  simp only [List.mapM_cons,Option.bind_eq_bind,Option.pure_def] at h
  cases hx:CS P s x with
  | none=>simp [hx] at h
  | some p =>
   cases hl:l.mapM (CS P s) with
   | none=>simp [hx,hl] at h
   | some ps' =>
    simp [hx,hl] at h
    subst h
    obtain ⟨v,h1,h2⟩:=YP hi hev hx
    obtain ⟨vs,h3,h4⟩:=Sf hi hev l ps' hl
    refine ⟨v::vs,?_,.cons h2 h4⟩
    rw [List.mapM_cons]
    simp only [Sem.run_bind,h1,Result.andThen_ok,h3,Sem.run_pure]
theorem Eb {fn:Func} {s:PS} {a:Act} {p:PV} (hi:Inv w0 F0 ρ s.b w F) (hev:∀ i,aR ρ s.b w F (a.tmps.getD i undef) (s.t i)) (h:rp P fn s=some p) : ∃ v,(results fn a.tmps).run P w = .ok v w∧aR ρ s.b w F v p:=by
 unfold rp at h
 have key:∀ ps,fn.results.toList.mapM (CS P s)=some ps→∃ vs:List Value,(fn.results.mapM (fun x=>(match x with | .tmp t=>pure (a.tmps.getD t undef) | .cell i t=>do loadVar t (← asAddr (a.tmps.getD i undef)) : Sem Value))).run P w = .ok vs.toArray w∧cG ρ s.b w F vs ps:=by
  intro ps hps
  obtain ⟨vs,h1,h2⟩:=Sf hi hev _ ps hps
  refine ⟨vs,?_,h2⟩
  rw [Array.mapM_eq_mapM_toList]
  rw [show ∀ (m:Sem (List Value)),(Functor.map List.toArray m)=(do let l ← m; pure l.toArray) from fun m=>rfl]
  rw [Sem.run_bind,h1]
  rfl
 split at h
 ·rename_i q hq
  injection h with h
  subst h
  obtain ⟨vs,h1,h2⟩:=key _ hq
  have hl:=h2.len
  match vs,hl with
  | [v],_ =>
   refine ⟨v,?_,h2.rep 0 v q rfl rfl⟩
   unfold results
   rw [Sem.run_bind]
   erw [h1]
   simp
 ·rename_i ps hne hq
  injection h with h
  subst h
  obtain ⟨vs,h1,h2⟩:=key _ hq
  have hsz : ¬ vs.length=1:=by
   rw [h2.len]
   intro h
   match ps,h with
   | [q],_=>exact hne q rfl
  refine ⟨.tuple vs.toArray,?_,.tup _ _ (by simpa using h2.len) (fun j x c h3 h4=>h2.rep j x c (by simpa using h3) h4)⟩
  unfold results
  rw [Sem.run_bind]
  erw [h1]
  simp [hsz]
 ·cases h
theorem Wv {f:FuncId} {fn:Func} {c:Code} {args:List PV} {r:PV} (hf:P.funcs[f]? = some fn) (hb:fn.body=some c) (hcb:d9 P f=true) (hlen:args.length≤fn.ntmps)
  (h:PWP P fn.ntmps c (abR P fn r) ⟨mD args,eb⟩) : PC P f args r:=by
 refine ⟨hcb,fun w F vs hF hr=>?_⟩
 refine calls_of_wp hf hb ?_
 have hl:vs.size=args.length:=by have:=hr.len; simpa using this
 have hc:ow fn.ntmps ⟨w,fun _=>False,fun _=>none⟩ F ⟨mD args,eb⟩ { tmps:=vs++Array.replicate (fn.ntmps - vs.size) undef,defers:=[] } w:=by
  refine ⟨by simp; omega,rfl,ρNone,F,⟨.of w rfl,fun _ h=>h,hF,fun _ h=>.inl h,(fun t B h=>by cases h),(fun t t' B B' g h=>by cases h),(fun t q h=>by cases h)⟩,fun i=>?_⟩
  by_cases hi:i < vs.size
  ·have e1:(vs++Array.replicate (fn.ntmps - vs.size) undef).getD i undef=vs[i]:=by simp [Array.getElem?_append,hi]
   show aR ρNone eb w F _ (mD args i)
   rw [e1]
   have hia:i < args.length:=by omega
   unfold mD
   rw [zq hia]
   exact hr.rep i _ _ (by simp [hi]) (zq hia)
  ·show aR ρNone eb w F _ (mD args i)
   unfold mD
   rw [List.getElem?_eq_none (by omega)]
   exact .junk _
 refine wp_mono (h ⟨w,fun _=>False,fun _=>none⟩ F _ w hc) fun e a' w' ⟨s',⟨hex,p,h1,h2⟩,_,hd,ρ,F',hi,hev⟩=>?_
 obtain ⟨v,hv1,hv2⟩:=Eb (P:=P) hi hev h1
 have fin:a'.defers = []∧∃ v,(results fn a'.tmps).run P w' = .ok v w'∧∃ v' F'',Ending.returned v = .returned v'∧Ext w w'∧(∀ g,F g→F'' g)∧(∀ g,F'' g→g < w'.heap.size)∧(∀ g,F'' g→F g∨w.heap.size≤g)∧aR ρNone eb w' F'' v' r:=by
  refine ⟨hd,v,hv1,v,UI ρ s'.b F',rfl,⟨hi.ext.os,hi.ext.tape,hi.ext.output,hi.ext.size,fun g hg=>hi.ext.block g hg id⟩,fun g hg=>.inl (hi.f0 g hg),?_,?_,?_⟩
  ·rintro g (hg | ⟨t,B,hb,hg⟩)
   ·exact hi.flt g hg
   ·exact ((hi.box t B hb).lt hg).1
  ·rintro g (hg | ⟨t,B,hb,hg⟩)
   ·exact (hi.fnew g hg).imp_right fun h=>h.resolve_right id
   ·exact .inr (((hi.box t B hb).lt hg).2.1.resolve_right id)
  ·rw [← h2]
   exact hv2.asData hi
 cases e with
 | normal=>exact fin
 | ret=>exact fin
 | exit _=>exact hex.elim
 | goto _=>exact hex.elim
 | panic _=>exact hex.elim
 | outgrown=>exact hex.elim
end
end
section
section
variable {P:Program} {ρ ρ':Nat→Value} {b b':Nat→Option Box} {w w':World} {w0:WM} {F F' F0:Nat→Prop} {n:Nat} {Qs:Exit→PS→Prop} {c:Code}
variable {s:PS}
theorem TO {ks bs:List Nat} {x:Code} (I:PS→Nat→Prop) (m0:Nat) (h0:I s m0) (round:∀ s m,I s m→PWP P n x (ZS (fun s'=>∃ s'',(∀ n w0 F0 a w,ow n w0 F0 s' a w→ow n w0 F0 s'' a w)∧∃ m',I s'' m'∧m' < m) Qs) s) : PWP P n (.loop x) Qs s:=by
 intro w0 F0 a w hc
 refine wp_loop_ghost (fun m a' w'=>∃ s',I s' m∧ow n w0 F0 s' a' w') m0 ⟨s,h0,hc⟩ (fun m a' w' ⟨s',h1,h2⟩=>?_)
 refine wp_mono (round s' m h1 w0 F0 a' w' h2) fun e a2 w2 ⟨s2,h3,h4⟩=>?_
 cases e with
 | normal =>
  obtain ⟨s3,h5,m',h6,h7⟩:=h3
  exact ⟨m',h7,s3,h6,h5 _ _ _ _ _ h4⟩
 | _=>exact ⟨s2,h3,h4⟩
end
mutual
def frz (t:Nat) (es:List (List D)) : PV→PV
 | .row t' m=>if t' = t then (if m=es.length then .d (.sl es) else .junk) else .row t' m
 | .re t' m i o=>if t' = t then .junk else .re t' m i o
 | .vw t' m i o=>if t' = t then .junk else .vw t' m i o
 | .ag cs=>.ag (EZ t es cs)
 | .tup cs=>.tup (EZ t es cs)
 | .fn f ps qs=>.fn f (EZ t es ps) (EZ t es qs)
 | p=>p
def EZ (t:Nat) (es:List (List D)) : List PV→List PV
 | []=>[]
 | c::cs=>frz t es c::EZ t es cs
end
def Bf (t:Nat) (es:List (List D)) : Box→Box
 | .st ty cs=>.st ty (EZ t es cs)
 | B=>B
section
variable {P:Program} {ρ ρ':Nat→Value} {b b':Nat→Option Box} {w w':World} {w0:WM} {F F' F0:Nat→Prop} {n:Nat} {Qs:Exit→PS→Prop} {c:Code}
theorem iu (t:Nat) (es:List (List D)) : ∀ cs:List PV,(EZ t es cs).length=cs.length
 | []=>rfl
 | c::cs=>by simp [EZ,iu t es cs]
theorem iw (t:Nat) (es:List (List D)) : ∀ (cs:List PV) (j:Nat) (c:PV),(EZ t es cs)[j]? = some c→∃ d,cs[j]? = some d∧c=frz t es d
 | [],j,c,h=>by simp [EZ] at h
 | d::cs,j,c,h=>by
  simp only [EZ] at h
  cases j with
  | zero=>simp at h; exact ⟨d,rfl,h.symm⟩
  | succ j=>simp at h; simpa using iw t es cs j c h
theorem aR.frz {x:Value} {p:PV} {t e k:Nat} {es:List (List D)} (hi:Inv w0 F0 ρ b w F) (hb:b t=some (.rw e k es)) (hb':∀ i,b' i=if i=t then none else (b i).map (Bf t es)) (h:aR ρ b w F x p) :
  aR ρ b' w (fun g=>F g∨blk (ρ t)=some g) x (Go.Proofs.YtaknepbdbappdaaGreat.frz t es p):=by
 have hF:∀ g,F g→(F g∨blk (ρ t)=some g):=fun g h=>.inl h
 induction h with
 | junk x=>exact .junk x
 | d x d h=>exact .d x d (h.mono hF (fun _ _=>rfl))
 | ag xs cs hl h1 hr ih =>
  refine .ag xs _ (by rw [iu]; exact hl) h1 (fun j x c h2 h3=>?_)
  obtain ⟨d,h4,rfl⟩:=iw t es cs j c h3
  exact ih j x d h2 h4
 | tup xs cs hl hr ih =>
  refine .tup xs _ (by rw [iu]; exact hl) (fun j x c h2 h3=>?_)
  obtain ⟨d,h4,rfl⟩:=iw t es cs j c h3
  exact ih j x d h2 h4
 | ptr t' off g ty cs hb2 hρ =>
  have:t'≠t:=fun e=>by rw [e,hb] at hb2; cases hb2
  exact .ptr t' off g ty _ (by rw [hb',if_neg this,hb2]; rfl) hρ
 | row t' m A cc e' k' es' hb2 hn hc hA hρ =>
  simp only [Go.Proofs.YtaknepbdbappdaaGreat.frz]
  by_cases ht:t' = t
  ·subst ht
   rw [if_pos rfl]
   rw [hb] at hb2
   injection hb2 with hb2
   injection hb2 with e1 e2 e3
   subst e1 e2 e3
   split
   ·rename_i hm
    have:=LU hi hb (.row t' m A cc e k es hb hn hc hA hρ) hm.symm
    refine .d _ _ ?_
    have hr:=kO hi (.row t' m A cc e k es hb hn hc hA hρ) (show lc b (.row t' m)=some es by simp [lc,hb,hm])
    obtain ⟨A2,c2,k2,e4,hc2,hm2,hk2,hA2,hcell2⟩:=hr
    injection e4 with e5 e6 e7
    subst e5 e7
    cases A with
    | none =>
     obtain ⟨rfl,rfl⟩:=hA2 rfl
     simp at hm
     subst hm
     exact .sl none 0 0 0 [] (fun _=>undef) rfl (Nat.le_refl _) (by simp [maxLen]) (by simp) (by omega) (fun _=>rfl) (by simp) (by simp)
    | some a =>
     have hcell2:=hcell2 a rfl
     refine .sl (some a) m cc k2 es (fun j=>(w.cell? (a.add j)).getD undef) hm hc hm2 hk2 (fun _=>⟨a,rfl,.inr (by rw [hρ hm.symm]; rfl)⟩) (fun h=>by cases h) (fun a' j d ha' hj=>?_) (fun j d hj=>?_)
     ·injection ha' with ha'
      subst ha'
      obtain ⟨u,h1,_⟩:=hcell2 j d hj
      rw [h1]; rfl
     ·obtain ⟨u,h1,h2⟩:=hcell2 j d hj
      rw [h1]
      exact h2.mono hF (fun _ _=>rfl)
   ·exact .junk _
  ·rw [if_neg ht]
   exact .row t' m A cc e' k' es' (by rw [hb',if_neg ht,hb2]; rfl) hn hc hA hρ
 | re t' m i o a e' k' es' hb2 hn hi' hρ =>
  simp only [Go.Proofs.YtaknepbdbappdaaGreat.frz]
  by_cases ht:t' = t
  ·rw [if_pos ht]; exact .junk _
  ·rw [if_neg ht]
   exact .re t' m i o a e' k' es' (by rw [hb',if_neg ht,hb2]; rfl) hn hi' hρ
 | vw t' m lo hi' A mm cc e' k' es' hb2 hn hl hh hm hρ =>
  simp only [Go.Proofs.YtaknepbdbappdaaGreat.frz]
  by_cases ht:t' = t
  ·rw [if_pos ht]; exact .junk _
  ·rw [if_neg ht]
   exact .vw t' m lo hi' A mm cc e' k' es' (by rw [hb',if_neg ht,hb2]; rfl) hn hl hh hm hρ
 | fe a cs us hF' hcell hrep=>exact .fe a cs us (.inl hF') hcell (fun j d h=>(hrep j d h).mono hF (fun _ _=>rfl))
 | fn f xs ys ps qs hl hr hl2 hr2 ih ih2 =>
  refine .fn f xs ys _ _ (by rw [iu]; exact hl) (fun j x c h2 h3=>?_) (by rw [iu]; exact hl2) (fun j x c h2 h3=>?_)
  ·obtain ⟨d,h4,rfl⟩:=iw t es ps j c h3
   exact ih j x d h2 h4
  ·obtain ⟨d,h4,rfl⟩:=iw t es qs j c h3
   exact ih2 j x d h2 h4
theorem Inv.reg_frz {t:Nat} {es:List (List D)} (hi:Inv w0 F0 ρ b w F) (hb':∀ i,b' i=if i=t then none else (b i).map (Bf t es)) : ∀ i q,w0.R i=some q→1000000≤i∧p6 ρ b' i q:=by
 intro i q h
 obtain ⟨h1,h2⟩:=hi.reg i q h
 refine ⟨h1,?_⟩
 by_cases hit:i=t
 ·exact h2.less (.inl (by rw [hb',if_pos hit]))
 ·refine h2.mono (fun e=>by rw [hb',if_neg hit,e]; rfl) (fun ty cs e=>⟨⟨ty,_,by rw [hb',if_neg hit,e]; rfl⟩,rfl⟩) (fun e k es' he=>⟨e,es',by rw [hb',if_neg hit,he]; rfl,Nat.le_refl _,fun _=>rfl⟩)
theorem aR.dd {x:Value} {d:D} (h:aR ρ b w F x (.d d)) : d7 w F x d:=by
 cases h with
 | d _ _ h=>exact h
end
end
theorem Tryz.mixed:prog.follows .mixedOrders=true:=by kernel_rfl
theorem nU {x:Int} (h1 : -9223372036854775808≤x) (h2:x≤9223372036854775807) : i64.wrap x=x:=by
 exact IntWalk.i64_in x ⟨h1,h2⟩
theorem aaZ (k:Nat) (h:k + 1≤9223372036854775807) : i64.wrap ((k:Int) + 1)=((k + 1:Nat) : Int):=nU (by omega) (by omega)
section
section
variable {α β σ τ : Type}
def aw (l:List α) (i:Int) : Option α:=if 0≤i then l[i.toNat]? else none
def aX (l m:List α) : Option (List α):=if l.length + m.length≤1000000 then some (l++m) else none
def hiO (l:List α) (k:Int) : Option (List α):=if 0≤k∧k.toNat≤l.length then some (l.take k.toNat) else none
def loO (l:List α) (k:Int) : Option (List α):=if 0≤k∧k.toNat≤l.length then some (l.drop k.toNat) else none
def lu (s:ByteArray) (i:Int) : Option Int:=if 0≤i then (s.data.toList[i.toNat]?).map (fun c=>(c.toNat:Int)) else none
def Pa (s:ByteArray) (k:Int) : Option ByteArray:=if 0≤k∧k.toNat≤s.size then some (s.extract 0 k.toNat) else none
def TB (s:ByteArray) (k:Int) : Option ByteArray:=if 0≤k∧k.toNat≤s.size then some (s.extract k.toNat s.size) else none
def JG (s:ByteArray) (a b:Int) : Option ByteArray:=if 0≤a∧0≤b∧a.toNat≤b.toNat∧b.toNat≤s.size then some (s.extract a.toNat b.toNat) else none
def mA (s t:ByteArray) : Option ByteArray:=if s.size + t.size≤9223372036854775807 then some (s++t) else none
def YM (l:List Int) : Option ByteArray:=if l = [] then none else some (l.foldl (fun r n=>r.push (UInt8.ofNat n.toNat)) ByteArray.empty)
def CU (x y:Int) : Option Int:=if y=0 then none else some (x.tmod y)
def ah (f : σ→Option (σ⊕τ)) : Nat→σ→Option τ
 | 0,_=>none
 | n + 1,s=>match f s with
  | none=>none
  | some (.inl s')=>ah f n s'
  | some (.inr r)=>some r
def ab:Nat:=1000000000
theorem bv {o:Option α} {k : α→Option β} {r : β} (h:o.bind k=some r) : ∃ x,o=some x∧k x=some r:=by
 cases o with
 | none=>cases h
 | some x=>exact ⟨x,rfl,h⟩
end
end
def iD (n:Int) : List D:=[.v (.int .i64 n)]
def sD (s:ByteArray) : List D:=[.v (.string s)]
structure au where
 bg:Int
 aI:Int
def au.zero:au:=⟨0,0⟩
def au.d (x:au) : List D:=[.v (.int .i64 x.bg),.v (.int .i64 x.aI)]
structure aV where
 bD:Int
 aA:Int
 cH:au
 g9:Int
 bM:Int
 fu:Int
 jb:Int
def aV.zero:aV:=⟨0,0,au.zero,0,0,0,0⟩
def aV.d (x:aV) : List D:=[.v (.int .i64 x.bD),.v (.int .i64 x.aA),.v (.int .i64 x.cH.bg),.v (.int .i64 x.cH.aI),.v (.int .i64 x.g9),.v (.int .i64 x.bM),.v (.int .i64 x.fu),.v (.int .i64 x.jb)]
structure aC where
 fId:Int
 dG:Int
 bQ:ByteArray
 de:Int
 bD:Int
 bI:au
 bN:(List aV)
 cM:Int
 cn:Int
 cf:(List Int)
 fQ:(List Int)
 oT:(List Int)
 pX:(List Int)
def aC.zero:aC:=⟨0,0,⟨#[]⟩,0,0,au.zero,[],0,0,[],[],[],[]⟩
def aC.d (x:aC) : List D:=[.v (.int .i64 x.fId),.v (.int .i64 x.dG),.v (.string x.bQ),.v (.int .i64 x.de),.v (.int .i64 x.bD),.v (.int .i64 x.bI.bg),.v (.int .i64 x.bI.aI),.sl (x.bN.map aV.d),.v (.int .i64 x.cM),.v (.int .i64 x.cn),.sl (x.cf.map iD),.sl (x.fQ.map iD),.sl (x.oT.map iD),.sl (x.pX.map iD)]
structure eE where
 kM:Int
 sy:Int
def eE.d (x:eE) : List D:=[.v (.int .i64 x.kM),.v (.int .i64 x.sy)]
structure aE where
 aO:ByteArray
 bt:(List eE)
 de:Int
def aE.zero:aE:=⟨⟨#[]⟩,[],0⟩
def aE.d (x:aE) : List D:=[.v (.string x.aO),.sl (x.bt.map eE.d),.v (.int .i64 x.de)]
structure ay where
 aj:(List ByteArray)
 ae:(List aE)
def ay.d (x:ay) : List D:=[.sl (x.aj.map sD),.sl (x.ae.map aE.d)]
structure an where
 fId:Int
 bC:Int
 bM:Int
 cH:au
 bD:Int
 aA:Int
 bI:Bool
 jF:Int
def an.zero:an:=⟨0,0,0,au.zero,0,0,false,0⟩
def an.d (x:an) : List D:=[.v (.int .i64 x.fId),.v (.int .i64 x.bC),.v (.int .i64 x.bM),.v (.int .i64 x.cH.bg),.v (.int .i64 x.cH.aI),.v (.int .i64 x.bD),.v (.int .i64 x.aA),.v (.bool x.bI),.v (.int .i64 x.jF)]
structure aW where
 fId:Int
 aA:Int
 fu:Int
 jq:au
 cM:Int
 cn:Int
 fUp:Bool
def aW.zero:aW:=⟨0,0,0,au.zero,0,0,false⟩
def aW.d (x:aW) : List D:=[.v (.int .i64 x.fId),.v (.int .i64 x.aA),.v (.int .i64 x.fu),.v (.int .i64 x.jq.bg),.v (.int .i64 x.jq.aI),.v (.int .i64 x.cM),.v (.int .i64 x.cn),.v (.bool x.fUp)]
structure ai where
 fId:Int
 aA:Int
 aB:Int
 aP:Int
 a8:au
def ai.zero:ai:=⟨0,0,0,0,au.zero⟩
def ai.d (x:ai) : List D:=[.v (.int .i64 x.fId),.v (.int .i64 x.aA),.v (.int .i64 x.aB),.v (.int .i64 x.aP),.v (.int .i64 x.a8.bg),.v (.int .i64 x.a8.aI)]
structure aN where
 iy:Int
 fId:Int
 cn:Int
 fN:Int
 MQ:ByteArray
 bM:aW
 bC:aC
 bN:(List aV)
 gm:(List Int)
 pW:ai
def aN.d (x:aN) : List D:=[.v (.int .i64 x.iy),.v (.int .i64 x.fId),.v (.int .i64 x.cn),.v (.int .i64 x.fN),.v (.string x.MQ),.v (.int .i64 x.bM.fId),.v (.int .i64 x.bM.aA),.v (.int .i64 x.bM.fu),.v (.int .i64 x.bM.jq.bg),.v (.int .i64 x.bM.jq.aI),.v (.int .i64 x.bM.cM),.v (.int .i64 x.bM.cn),.v (.bool x.bM.fUp),.v (.int .i64 x.bC.fId),.v (.int .i64 x.bC.dG),.v (.string x.bC.bQ),.v (.int .i64 x.bC.de),.v (.int .i64 x.bC.bD),.v (.int .i64 x.bC.bI.bg),.v (.int .i64 x.bC.bI.aI),.sl (x.bC.bN.map aV.d),.v (.int .i64 x.bC.cM),.v (.int .i64 x.bC.cn),.sl (x.bC.cf.map iD),.sl (x.bC.fQ.map iD),.sl (x.bC.oT.map iD),.sl (x.bC.pX.map iD),.sl (x.bN.map aV.d),.sl (x.gm.map iD),.v (.int .i64 x.pW.fId),.v (.int .i64 x.pW.aA),.v (.int .i64 x.pW.aB),.v (.int .i64 x.pW.aP),.v (.int .i64 x.pW.a8.bg),.v (.int .i64 x.pW.a8.aI)]
structure bz where
 aaE:Int
 ac:(List an)
 gm:(List Int)
 Z1:(List Int)
 fN:Int
def bz.d (x:bz) : List D:=[.v (.int .i64 x.aaE),.sl (x.ac.map an.d),.sl (x.gm.map iD),.sl (x.Z1.map iD),.v (.int .i64 x.fN)]
structure bA where
 bM:Int
 bC:Int
 bD:Int
def bA.d (x:bA) : List D:=[.v (.int .i64 x.bM),.v (.int .i64 x.bC),.v (.int .i64 x.bD)]
structure aa where
 bG:ay
 aD:(List aW)
 ar:(List aC)
 ac:(List an)
 aZ:(List bA)
 al:(List ai)
 cx:Int
 pY:Int
 sw:Int
def aa.d (x:aa) : List D:=[.sl (x.bG.aj.map sD),.sl (x.bG.ae.map aE.d),.sl (x.aD.map aW.d),.sl (x.ar.map aC.d),.sl (x.ac.map an.d),.sl (x.aZ.map bA.d),.sl (x.al.map ai.d),.v (.int .i64 x.cx),.v (.int .i64 x.pY),.v (.int .i64 x.sw)]
structure aY where
 iy:Int
 fA:Int
 fB:Int
 fC:Int
 fD:Int
def aY.d (x:aY) : List D:=[.v (.int .i64 x.iy),.v (.int .i64 x.fA),.v (.int .i64 x.fB),.v (.int .i64 x.fC),.v (.int .i64 x.fD)]
structure aK where
 J8:Int
 fNs:(List Int)
 mC:(List aY)
def aK.d (x:aK) : List D:=[.v (.int .i64 x.J8),.sl (x.fNs.map iD),.sl (x.mC.map aY.d)]
structure bh where
 fA:Int
 fP:Int
def bh.d (x:bh) : List D:=[.v (.int .i64 x.fA),.v (.int .i64 x.fP)]
structure ak where
 aO:ByteArray
 bg:Int
def ak.d (x:ak) : List D:=[.v (.string x.aO),.v (.int .i64 x.bg)]
end Go.Proofs.YtaknepbdbappdaaGreat
