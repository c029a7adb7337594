/- My texts, in one. -/
import Derived.Test.YtaknepbdbappdaaGreatRows
import Derived.WalkKit
import Derived.Handy
import Derived.StillTail
import Derived.OrdersHeld
import Derived.Laws.AppendOwn
import Derived.Maps.AppendAt
import Derived.Deep.AppendSrc
import Derived.OwnWalk
import Derived.Below
import Derived.Laws.OwnMore
import Derived.Deep.AppendLies
import Derived.ProofKit
import Derived.Lib.Hide
import Derived.Laws.BytesArg
import Derived.Laws.IdiomStrings
import Derived.Laws.Slices
import Derived.Carry
import Derived.ChangeSlices
import Derived.OpenShut
import Derived.ChangeOld
import Derived.ChangeSame
import Derived.Deep.Slices
import Derived.IntWalk
import Derived.Outline
import Derived.Deep.QuietTactic
import Derived.BigQuiet
import Derived.WalkSmall
import Derived.Laws.Cells
import Derived.Laws.Rows
import Derived.Laws.StructEq
import Derived.Great.BuildSlice
import Derived.Laws.CopyOwn
import Derived.Laws.BytesString
import Derived.Deep.LoopGhost
import Derived.Orders
import Derived.Laws.MakeOwn
import Derived.Laws.AppendOwnNone
import Derived.RangeFuncNested
import Derived.Lib.SliceRun
import Derived.Shelf.Small.Bits
import Derived.Shelf.Strconv.Itoa0
import Derived.Shelf.LaysM
import Derived.Shelf.Strconv.Clone
import Derived.Shelf.Sort.Plain
import Derived.Ground.Names2Prog
import Derived.Shelf.Slices.Clone
import Derived.Shelf.Slices.SearchI
import Derived.Shelf.Slices.In.SortNone
import Derived.Ground.SlgnProg
import Derived.Shelf.SlicesE.Clone
import Derived.Test.YtaknepbdbappdaaGreatProg
import Derived.Test.YtaknepbdbappdaaGreatChecked
import Derived.KernelRfl
import Derived.Lib.Bytealg
import Derived.Lib.FieldsP
import Derived.Lib.ConvBytes
import Derived.Deep.CutRange
import Derived.Laws.Cover1
import Derived.Deep.Strs
import Derived.JoinedOf
import Derived.ChangeMaps
import Derived.JoinedAt
import Derived.RowKit3
import Derived.Lib.SmallJoins
set_option linter.all false
set_option maxRecDepth 100000
set_option maxHeartbeats 4000000
namespace Go.Proofs.YtaknepbdbappdaaGreat
open Go.RowKit
open IntKind (i64)
open Go.Proofs.Tryz (prog)
theorem zb {α β : Type} (a : α) (f : α → Option β) : (some a).bind f = f a := rfl
theorem zg {α : Type} {l : List α} {i : Nat} {a : α} : l[i]? = some a ↔ ∃ h : i < l.length, l[i] = a := List.getElem?_eq_some_iff
theorem zq {α : Type} {l : List α} {i : Nat} (h : i < l.length) : l[i]? = some l[i] := List.getElem?_eq_getElem h
theorem zf : (false = true) = False := by simp
theorem zt (n : Nat) : (n : Int).toNat = n := Int.toNat_natCast n
theorem zm {α β : Type} {f : α → β} {b : β} {x : Option α} : x.map f = some b ↔ ∃ a, x = some a ∧ f a = b := Option.map_eq_some_iff
theorem zd {p : Prop} [Decidable p] (h : decide p = true) : p := of_decide_eq_true h
section
def Ext (w w':World) : Prop:=Below w.heap.size w w'
theorem Ext.refl (w:World) : Ext w w:=Below.refl _ _
theorem Ext.trans {a b c:World} (h:Ext a b) (k:Ext b c) : Ext a c:=Below.trans h (Below.mono k (Below.size h))
theorem Ext.drew (w:World) : Ext w w.drew:=(Below.refl _ _).drew
theorem Ext.size {a b:World} (h:Ext a b) : a.heap.size≤b.heap.size:=Below.size h
theorem Ext.cell {a b:World} (h:Ext a b) {k o:Nat} {v:Value} (hc:a.cell? ⟨k,o,none⟩=some v) : b.cell? ⟨k,o,none⟩=some v:=by
 rw [Below.cell h (p:=⟨k,o,none⟩) (World.block_lt_of_cell? a _ hc)]; exact hc
section
variable {P:Program} {ops:Array Oper} {Q:Exit→Act→World→Prop} {md:Region.Mode}
def OkX (P:Program) (v:Value) (w:World) : Result Next→Prop
 | .ok (.value u) w'=>u=v∧Ext w w'
 | .ok (.enter f args) w'=>Ext w w'∧Calls P f args w' fun e w''=>e = .returned v∧Ext w' w''
 | _=>False
theorem OkX.val {v:Value} {w:World} : OkX P v w (.ok (.value v) w):=⟨rfl,Ext.refl _⟩
end
end
section
def Ke (w w':World) (v:Value) (n:Nat) : Prop :=
 ∀ (base:Nat) (e:TypeId) (u:Value) (k:Nat) (ys:List Value),w.ownsRow base e 1 u k ys→(u.ownBlock=v.ownBlock→k≤n)→w'.ownsRow base e 1 u k ys
theorem KQ {w w':World} {base:Nat} {e:TypeId} {u:Value} {k:Nat} {ys:List Value} (h:w.ownsRow base e 1 u k ys) (hb:∀ g,u.ownBlock=some g→w'.heap[g]? = w.heap[g]?) : w'.ownsRow base e 1 u k ys:=by
 refine ⟨h.1,?_⟩
 rcases h.2 with hn | ⟨g,cap,cur,rfl,hbg,hg,hr⟩
 ·exact .inl hn
 ·exact .inr ⟨g,cap,cur,rfl,hbg,(hb g rfl).trans hg,hr⟩
section
variable {P:Program} (w:World)
theorem Iy (t tx ty e:TypeId) (i:TypeInfo) (ht:P.underlying t=some (.slice e)) (hi:P.info? e=some i) (hs1:i.size=1)
  (g sLen sCap:Nat) (cur:Array Value) (hg:w.heap[g]? = some (.cells cur e (0,0))) (x:Value) (n:Nat) (news:List Value) (hs:Src P 1 tx x n news w)
  (hroom:sLen + n≤sCap) (hfit:sLen + n≤cur.size) :
  (Builtin.append_ #[t,tx] ty #[.slice (some ⟨g,0,none⟩) sLen sCap,x]).run P w =
   .ok (.slice (some ⟨g,0,none⟩) (sLen + n) sCap) (w.setRow g (cur.toList.take sLen++news++cur.toList.drop (sLen + n)).toArray):=by
 have hl:=hs.newsLen
 have hst:=run_storeCells_at P g sLen e news 0 cur w hg (by omega) hs.one
 have e1:news.length=n:=by omega
 simp only [Nat.add_zero,e1] at hst
 have hc:=hs.cells
 rcases hs.kind with ⟨e',hk⟩ | hk <;> simp [Builtin.append_,run_underlying ht,run_underlying hk,sizeOf,typeInfo,hi,hs1,hs.len,hroom,hc,Addr.add_lit,hst]
theorem KA (base:Nat) (t tx ty e:TypeId) (i:TypeInfo) (z:Value) (bytes:Nat) (ht:P.underlying t=some (.slice e)) (hi:P.info? e=some i) (hz:i.zero=some z)
  (hsize:i.size=1) (hby:i.bytes=bytes) (hzs:z.cells.size=1)
  (v:Value) (n:Nat) (xs:List Value) (hown:w.ownsRow base e 1 v n xs) (x:Value) (m:Nat) (news:List Value) (hs:Src P 1 tx x m news w)
  (h63:n + m≤maxLen) (hbytes:(n + m) * bytes≤140737488355328) (hbase:base≤w.heap.size) :
  ∃ v' w',(Builtin.append_ #[t,tx] ty #[v,x]).run P w = .ok v' w'∧w'.ownsRow base e 1 v' (n + m) (xs++news)∧w.grownBy w' v.ownBlock ∧
   (v'.ownBlock=v.ownBlock∨v'.ownBlock=some w.heap.size)∧Ke w w' v n:=by
 subst hby
 have hl:news.length=m:=by have:=hs.newsLen; omega
 have hsmall:n + m≤9223372036854775807:=by simp only [maxLen] at h63; omega
 have hlen:(xs++news).length=(n + m) * 1:=by rw [List.length_append,hown.1,hl]; omega
 have grown:∀ (old:Nat),old < n + m→∀ (row:Option Nat),
   (w.drew.alloc (.cells ((xs++news).toArray++Builtin.zeroCells z.cells (grownCap w (n + m) old e - (n + m))) e)).ownsRow base e 1
    (.slice (some ⟨w.heap.size,0,none⟩) (n + m) (grownCap w (n + m) old e)) (n + m) (xs++news) ∧
   w.grownBy (w.drew.alloc (.cells ((xs++news).toArray++Builtin.zeroCells z.cells (grownCap w (n + m) old e - (n + m))) e)) row ∧
   Ke w (w.drew.alloc (.cells ((xs++news).toArray++Builtin.zeroCells z.cells (grownCap w (n + m) old e - (n + m))) e)) v n:=by
  intro old ho row
  have hge:=grownCap_ge w (n + m) old e
  have hcm:grownCap w (n + m) old e≤maxLen:=grownCap_le_maxLen w (n + m) old e h63
  refine ⟨⟨hlen,.inr ⟨w.heap.size,_,_,rfl,hbase,heap_alloc_new w.drew _,hge,hcm,?_,?_⟩⟩,⟨rfl,rfl,rfl,by simp,fun k hk _=>heap_alloc_old w.drew _ hk⟩,?_⟩
  ·simp only [Array.size_append,List.size_toArray,size_zeroCells,hzs,hlen]
   omega
  ·simp only [Array.toList_append]
   rw [← hlen]
   exact List.take_left
  ·intro b' e' u k ys hu _
   exact KQ hu fun g hg=>heap_alloc_old w.drew _ (hu.lt g hg).2
 rcases hown.2 with ⟨rfl,rfl⟩ | ⟨g,cap,cur,rfl,hbg,hg,hnc,hcm,hcs,htake⟩
 ·have hx:xs = []:=List.eq_nil_of_length_eq_zero (by simpa using hown.1)
  subst hx
  by_cases hm:m=0
  ·subst hm
   have hn:news = []:=List.eq_nil_of_length_eq_zero hl
   subst hn
   refine ⟨.slice none 0 0,w,?_,World.ownsRow_nil w base e 1,World.grownBy.refl w _,.inl rfl,fun _ _ _ _ _ hu _=>hu⟩
   have hc:=hs.cells
   rcases hs.kind with ⟨e',hk⟩ | hk <;> simp [Builtin.append_,run_underlying ht,run_underlying hk,sizeOf,typeInfo,hi,hsize,hs.len,hc]
  ·have hr:=run_append_grow_src (P:=P) w t tx ty e i z ht hi hz none 0 0 [] (by simpa using run_firstCells_none w.drew i.size 0 0 0) x m news (by rw [hsize]; exact hs) (by omega) (by omega) (by
    have hb:=hbytes; rw [Nat.zero_add] at hb ⊢; rw [nextslicecap_zero (by omega)]; omega)
   have hgr:=grown 0 (by omega) (Value.ownBlock (.slice none 0 0))
   exact ⟨_,_,hr,hgr.1,hgr.2.1,.inr rfl,hgr.2.2⟩
 ·by_cases hroom:n + m≤cap
  ·have hfit:n + m≤cur.size:=by omega
   have hr:=Iy (P:=P) w t tx ty e i ht hi hsize g n cap cur hg x m news hs hroom hfit
   have e1:n * 1=n:=by omega
   rw [e1] at htake
   refine ⟨_,_,hr,⟨hlen,.inr ⟨g,cap,_,rfl,hbg,setRow_heap w g cur _ e _ hg,hroom,hcm,?_,?_⟩⟩,⟨rfl,rfl,rfl,by simp,fun k _ hk=>setRow_other w g k _ (fun e=>hk (by simp [Value.ownBlock,e]))⟩,.inl rfl,?_⟩
   ·simp only [List.size_toArray,List.length_append,List.length_take,List.length_drop,Array.length_toList]
    omega
   ·rw [htake,← hlen]
    exact List.take_left
   ·intro b' e' u k ys hu hk
    by_cases hug:u.ownBlock=some g
    ·have hkn:k≤n:=hk hug
     refine ⟨hu.1,?_⟩
     rcases hu.2 with h0 | ⟨g',cap',cur',rfl,hb',hg',hk',hm',hcs',ht'⟩
     ·exact .inl h0
     ·have:g' = g:=by simpa [Value.ownBlock] using hug
      subst this
      rw [hg] at hg'
      injection hg' with hg'
      injection hg' with h1 h2
      subst h1 h2
      refine .inr ⟨g',cap',_,rfl,hb',setRow_heap w g' cur _ e _ hg,hk',hm',?_,?_⟩
      ·simp only [List.size_toArray,List.length_append,List.length_take,List.length_drop,Array.length_toList]
       omega
      ·rw [← ht']
       simp only [Nat.mul_one]
       rw [List.append_assoc,List.take_append_of_le_length (by simp; omega),List.take_take,Nat.min_eq_left hkn]
    ·exact KQ hu fun g' hg'=>setRow_other w g g' _ (fun e=>hug (by rw [hg',e]))
  ·have holds:∀ j u,xs[j]? = some u→w.cell? ((⟨g,0,none⟩ : Addr).add j)=some u:=hown.cells (g:=g) rfl
   have hr:=run_append_grow_src (P:=P) w t tx ty e i z ht hi hz (some ⟨g,0,none⟩) n cap xs (run_firstCells_some w.drew i.size n ⟨g,0,none⟩ n cap xs (by rw [hsize]; exact hown.1) (by simpa using holds)) x m news (by rw [hsize]; exact hs) (by omega) (by omega) (growslice_fits (by omega) hbytes)
   have hgr:=grown cap (by omega) (Value.ownBlock (.slice (some ⟨g,0,none⟩) n cap))
   exact ⟨_,_,hr,hgr.1,hgr.2.1,.inr rfl,hgr.2.2⟩
theorem M2 {o:Oper} {a:Act} {K:Act→World→Prop} {Q:Exit→Act→World→Prop} (s y:Operand) (t tx:TypeId)
  (ho:o.op = .call { callee:=.builtin .append,args:=#[s,y],argTypes:=#[t,tx] })
  (base:Nat) (e:TypeId) (i:TypeInfo) (z:Value) (bytes:Nat) (ht:P.underlying t=some (.slice e)) (hi:P.info? e=some i) (hz:i.zero=some z)
  (hsize:i.size=1) (hby:i.bytes=bytes) (hzs:z.cells.size=1)
  (v:Value) (n:Nat) (xs:List Value) (hs:a.eval s=v) (hown:w.ownsRow base e 1 v n xs) (x:Value) (m:Nat) (news:List Value) (hx:a.eval y=x) (hr:Src P 1 tx x m news w)
  (h63:n + m≤maxLen) (hbytes:(n + m) * bytes≤140737488355328) (hbase:base≤w.heap.size)
  (h:∀ v' w',w'.ownsRow base e 1 v' (n + m) (xs++news)→w.grownBy w' v.ownBlock→(v'.ownBlock=v.ownBlock∨v'.ownBlock=some w.heap.size)→Ke w w' v n→K (a.put o.dst v') w') : o.wp P a w K Q:=by
 obtain ⟨v',w',hrun,h2,h3,h4,h5⟩:=KA (P:=P) w base t tx o.type e i z bytes ht hi hz hsize hby hzs v n xs hown x m news hr h63 hbytes hbase
 unfold Oper.wp execOp
 simp only [ho,resolve,invoke,builtin,Sem.run_bind,Sem.run_pure,Result.andThen_ok,List.map_toArray,List.map_cons,List.map_nil,hs,hx,hrun]
 exact h v' w' h2 h3 h4 h5
theorem CX {ops:Array Oper} {rest:List Oper} {o:Oper} {a:Act} {Q:Exit→Act→World→Prop} (hgd:o.guard=none) (s y:Operand) (t tx:TypeId)
  (ho:o.op = .call { callee:=.builtin .append,args:=#[s,y],argTypes:=#[t,tx] })
  (base:Nat) (e:TypeId) (i:TypeInfo) (z:Value) (bytes:Nat) (ht:P.underlying t=some (.slice e)) (hi:P.info? e=some i) (hz:i.zero=some z)
  (hsize:i.size=1) (hby:i.bytes=bytes) (hzs:z.cells.size=1)
  (v:Value) (n:Nat) (xs:List Value) (hs:a.eval s=v) (hown:w.ownsRow base e 1 v n xs) (x:Value) (m:Nat) (news:List Value) (hx:a.eval y=x) (hr:Src P 1 tx x m news w)
  (h63:n + m≤maxLen) (hbytes:(n + m) * bytes≤140737488355328) (hbase:base≤w.heap.size)
  (h:∀ v' w',w'.ownsRow base e 1 v' (n + m) (xs++news)→w.grownBy w' v.ownBlock→(v'.ownBlock=v.ownBlock∨v'.ownBlock=some w.heap.size)→Ke w w' v n→wpList P ops Q rest (a.put o.dst v') w') :
  wpList P ops Q (o::rest) a w :=
 wpList_plain hgd fun _ hK=>M2 w s y t tx ho base e i z bytes ht hi hz hsize hby hzs v n xs hs hown x m news hx hr h63 hbytes hbase fun v' w' h2 h3 h4 h5=>hK _ _ (h v' w' h2 h3 h4 h5)
end
end
def Rd (w:World) (v:Value) (xs:List Value) : Prop :=
 ∃ A c,v = .slice A xs.length c∧xs.length≤c∧c≤maxLen∧(0 < xs.length→∃ a,A=some a∧a.block < w.heap.size∧∀ j u,xs[j]? = some u→w.cell? (a.add j)=some u)
theorem db (a:Addr) (n:Nat) : (a.add n).block=a.block:=by unfold Addr.add; split <;> rfl
theorem Rd.ext {w w':World} {v:Value} {xs:List Value} (h:Rd w v xs) (k:Ext w w') : Rd w' v xs:=by
 obtain ⟨A,c,rfl,h1,h2,h3⟩:=h
 refine ⟨A,c,rfl,h1,h2,fun hn=>?_⟩
 obtain ⟨a,rfl,hb,hc⟩:=h3 hn
 exact ⟨a,rfl,Nat.lt_of_lt_of_le hb k.size,fun j u hu=>(Below.cell k (p:=a.add j) (by rw [db]; exact hb)).trans (hc j u hu)⟩
theorem Ext.trans' {w a b:World} (h:Ext w a) (k:Below w.heap.size a b) : Ext w b:=Below.trans h k
theorem cE {w w':World} {r:Option Nat} (h:w.grownBy w' r) {B:Nat} (hB:B≤w.heap.size) (hr:∀ k,r=some k→B≤k) : Below B w w' :=
 ⟨h.os,h.tape,h.output,h.size,fun k hk=>h.block k (by omega) (fun e=>by have:=hr k e.symm; omega)⟩
theorem Rd.src {P:Program} {w:World} {x:Value} {news:List Value} (h:Rd w x news) (h1:∀ u∈news,u.oneCell' = true) {tx e':TypeId} (hk:P.underlying tx=some (.slice e')) : Src P 1 tx x news.length news w:=by
 obtain ⟨A,c,rfl,hc1,hc2,hcell⟩:=h
 by_cases h0:news.length=0
 ·have hn:news = []:=List.eq_nil_of_length_eq_zero h0
  subst hn
  cases A with
  | some a=>exact Src.ofSlice w hk a 0 c [] rfl (by simp) h1
  | none=>exact Src.ofNil w hk c
 ·obtain ⟨a,rfl,_,hcs⟩:=hcell (by omega)
  exact Src.ofSlice w hk a news.length c news (by simp) hcs h1
theorem Rd.one (w:World) (x:Value) (t:TypeId) (n c:Nat) (hn:n=1) (hc:c=1) : Rd (w.alloc (.cells #[x] t)) (.slice (some ⟨w.heap.size,0,none⟩) n c) [x]:=by
 subst hn hc
 exact ⟨_,_,rfl,Nat.le_refl _,by simp [maxLen],fun _=>⟨_,rfl,by simp,cell_one_new w x t⟩⟩
theorem Vh {P:Program} {code:Code} {Q:Exit→Act→World→Prop} {a:Act} {w:World} (h:∀ W0,W0=w→code.wp P Q a W0) : code.wp P Q a w:=h w rfl
theorem Lv {a n:Int} (hn : 0 < n) (h:a.tmod n < 0) : a % n=a.tmod n + n:=by
 have h2:=@Int.tmod_eq_emod a n
 have h0 : ¬ 0≤a:=fun h0=>by have:=Int.tmod_nonneg n h0; omega
 rw [h2]; rw [h2] at h
 split at h
 ·have:=Int.emod_nonneg a (show n≠0 by omega); omega
 ·rw [if_neg (by assumption)]; omega
theorem Lu {a n:Int} (hn : 0 < n) (h : ¬ a.tmod n < 0) : a % n=a.tmod n:=by
 have h2:=@Int.tmod_eq_emod a n
 rw [h2]; rw [h2] at h
 split at h
 ·rw [if_pos (by assumption)]; omega
 ·have:=Int.emod_lt_of_pos a hn; omega
section
theorem Ext.cell' {a b:World} (h:Ext a b) {p:Addr} {v:Value} (hc:a.cell? p=some v) : b.cell? p=some v:=by
 rw [Below.cell h (p:=p) (World.block_lt_of_cell? a _ hc)]; exact hc
section
variable {P:Program} {T e:TypeId} {A:Option Addr} {n c:Nat}
end
theorem G2 {w:World} {v:Value} {l:List Int} (h:Rd w v (l.map (Value.int .i64))) : ∃ A N c,v = .slice A N c∧N=l.length∧N≤c∧c≤9223372036854775807 ∧
  (0 < N→∃ a,A=some a∧a.block < w.heap.size∧∀ k (hk:k < l.length),w.cell? (a.add k)=some (.int .i64 l[k])):=by
 obtain ⟨A,c,rfl,h1,h2,h3⟩:=h
 rw [List.length_map] at *
 unfold maxLen at h2
 refine ⟨A,_,c,rfl,rfl,h1,by omega,fun hn=>?_⟩
 obtain ⟨a,rfl,hb,hc⟩:=h3 hn
 exact ⟨a,rfl,hb,fun k hk=>hc k (.int .i64 l[k]) (by simp [hk])⟩
end
section
open Go.ChangeShapes Go.WideShapes Go.ChangeAt Go.RowKit
section
variable {H:Type} {enc:TypeId×Value→H} {P:Program} {w:World} {base:Nat} {spare:Nat→Bool} {held:Bool} {r:Reach} {b0:Nat}
end
end
section
open Go.ChangeShapes Go.WideShapes Go.ChangeAt Go.RowKit Go.Deep
section
variable {H:Type} {enc:TypeId×Value→H} {P:Program} {w:World} {base:Nat} {spare:Nat→Bool} {held:Bool} {r:Reach} {b0:Nat}
end
end
theorem aP (w:World) (o:Obj) : Ext w (w.alloc o):=(Below.refl _ _).alloc (Nat.le_refl _) o
theorem yl {w w':World} {b o:Nat} (h:Ext w w') (hb:w.heap.size≤b) (v:Value) : Ext w (w'.setCell ⟨b,o,none⟩ v):=Below.setCell h (p:=⟨b,o,none⟩) hb v
inductive D where
 | v (x:Value)
 | sl (es:List (List D))
inductive ew (w:World) (F:Nat→Prop) : Value→D→Prop
 | v (x:Value) (h1:x.oneCell' = true) : ew w F x (.v x)
 | sl (A:Option Addr) (n c k:Nat) (es:List (List D)) (us:Nat→Value) (hn:n=es.length) (hc:n≤c) (hm:c≤maxLen) (hk:∀ e∈es,e.length=k)
   (hA : 0 < n→∃ a,A=some a∧F a.block) (hA0:A=none→c=0) (hcell:∀ a j d,A=some a→es.flatten[j]? = some d→w.cell? (a.add j)=some (us j))
   (hrep:∀ j d,es.flatten[j]? = some d→ew w F (us j) d) : ew w F (.slice A n c) (.sl es)
theorem ew.mono {w w':World} {F F':Nat→Prop} {x:Value} {d:D} (h:ew w F x d) (hF:∀ g,F g→F' g) (hw:∀ g,F g→w'.heap[g]? = w.heap[g]?) : ew w' F' x d:=by
 induction h with
 | v x h1=>exact .v x h1
 | sl A n c k es us hn hc hm hk hA hA0 hcell hrep ih =>
  refine .sl A n c k es us hn hc hm hk (fun h=>(hA h).imp fun a ha=>⟨ha.1,hF _ ha.2⟩) hA0 (fun a j d ha hj=>?_) ih
  have h0 : 0 < n:=by
   rw [hn]
   rcases es with _ | ⟨e,es⟩
   ·simp at hj
   ·simp
  obtain ⟨a',ha',hFa⟩:=hA h0
  rw [ha] at ha'
  injection ha' with ha'
  subst ha'
  exact (World.cell?_of_block (w:=w) (w':=w') (a:=a.add j) (by rw [db]; exact hw _ hFa)).trans (hcell a j d ha hj)
theorem ew.one {w:World} {F:Nat→Prop} {x:Value} {d:D} (h:ew w F x d) : x.oneCell' = true:=by
 cases h with
 | v x h1=>exact h1
 | sl=>rfl
def nrm:D→D
 | .v (.slice none 0 0)=>.sl []
 | d=>d
theorem ew.nrm {w:World} {F:Nat→Prop} {x:Value} {d:D} (h:ew w F x d) : ew w F x (nrm d):=by
 unfold Go.Proofs.YtaknepbdbappdaaGreat.nrm
 split
 ·cases h with
  | v _ h1=>exact .sl none 0 0 0 [] (fun _=>undef) rfl (Nat.le_refl _) (by simp [maxLen]) (by simp) (by omega) (fun _=>rfl) (by simp) (by simp)
 ·exact h
inductive PV where
 | junk
 | d (x:D)
 | ag (cs:List PV)
 | tup (vs:List PV)
 | ptr (t off:Nat)
 | row (t n:Nat)
 | re (t n i off:Nat)
 | vw (t n lo hi:Nat)
 | fe (cs:List D)
 | fn (f:FuncId) (ps qs:List PV)
inductive Box where
 | st (ty:TypeId) (cs:List PV)
 | rw (e k:Nat) (es:List (List D))
inductive aL (ρ : Nat→Value) (b:Nat→Option Box) (w:World) (F:Nat→Prop) : Value→PV→Prop
 | junk (x:Value) : aL ρ b w F x .junk
 | d (x:Value) (d:D) (h:ew w F x d) : aL ρ b w F x (.d d)
 | ag (xs:Array Value) (cs:List PV) (hl:xs.size=cs.length) (h1:∀ x∈xs,x.oneCell' = true) (hr:∀ (j:Nat) x c,xs[j]? = some x→cs[j]? = some c→aL ρ b w F x c) : aL ρ b w F (.agg xs) (.ag cs)
 | tup (xs:Array Value) (cs:List PV) (hl:xs.size=cs.length) (hr:∀ (j:Nat) x c,xs[j]? = some x→cs[j]? = some c→aL ρ b w F x c) : aL ρ b w F (.tuple xs) (.tup cs)
 | ptr (t off g:Nat) (ty:TypeId) (cs:List PV) (hb:b t=some (.st ty cs)) (hρ : ρ t = .pointer (some ⟨g,0,none⟩)) : aL ρ b w F (.pointer (some ⟨g,off,none⟩)) (.ptr t off)
 | row (t n:Nat) (A:Option Addr) (c e k:Nat) (es:List (List D)) (hb:b t=some (.rw e k es)) (hn:n≤es.length) (hc:n≤c) (hA : 0 < n→∃ a,A=some a) (hρ : es.length=n→ρ t = .slice A n c) : aL ρ b w F (.slice A n c) (.row t n)
 | re (t n i off:Nat) (a:Addr) (e k:Nat) (es:List (List D)) (hb:b t=some (.rw e k es)) (hn:n≤es.length) (hi:i < n) (hρ : es.length=n→∃ g c,ρ t = .slice (some ⟨g,0,none⟩) n c∧a=⟨g,i * k + off,none⟩) : aL ρ b w F (.pointer (some a)) (.re t n i off)
 | vw (t n lo hi:Nat) (A:Option Addr) (m c e k:Nat) (es:List (List D)) (hb:b t=some (.rw e k es)) (hn:n≤es.length) (hl:lo≤hi) (hh:hi≤n) (hm:m=hi - lo) (hρ : es.length=n→∃ A' c',ρ t = .slice A' n c'∧Value.slice A m c=sliced A' lo hi c' k) : aL ρ b w F (.slice A m c) (.vw t n lo hi)
 | fe (a:Addr) (cs:List D) (us:Nat→Value) (hF:F a.block) (hcell:∀ (j:Nat) d,cs[j]? = some d→w.cell? (a.add j)=some (us j)) (hrep:∀ (j:Nat) d,cs[j]? = some d→ew w F (us j) d) : aL ρ b w F (.pointer (some a)) (.fe cs)
 | fn (f:FuncId) (xs ys:Array Value) (ps qs:List PV) (hl:xs.size=ps.length) (hr:∀ (j:Nat) x c,xs[j]? = some x→ps[j]? = some c→aL ρ b w F x c) (hl2:ys.size=qs.length) (hr2:∀ (j:Nat) x c,ys[j]? = some x→qs[j]? = some c→aL ρ b w F x c) : aL ρ b w F (.func (.func f) xs ys) (.fn f ps qs)
structure Stp (ρ : Nat→Value) (b:Nat→Option Box) (w:World) (F:Nat→Prop) (ρ':Nat→Value) (b':Nat→Option Box) (w':World) (F':Nat→Prop) : Prop where
 hF:∀ g,F g→F' g
 hw:∀ g,F g→w'.heap[g]? = w.heap[g]?
 hst:∀ t ty cs,b t=some (.st ty cs)→(∃ ty' cs',b' t=some (.st ty' cs'))∧ρ' t = ρ t
 hrw:∀ t e k es,b t=some (.rw e k es)→∃ e' es',b' t=some (.rw e' k es')∧es.length≤es'.length∧(es'.length=es.length→ρ' t = ρ t)
theorem Stp.refl (ρ : Nat→Value) (b:Nat→Option Box) (w:World) (F:Nat→Prop) : Stp ρ b w F ρ b w F :=
 ⟨fun _ h=>h,fun _ _=>rfl,fun _ ty cs h=>⟨⟨ty,cs,h⟩,rfl⟩,fun _ e _ es h=>⟨e,es,h,Nat.le_refl _,fun _=>rfl⟩⟩
theorem aL.mono {ρ ρ':Nat→Value} {b b':Nat→Option Box} {w w':World} {F F':Nat→Prop} {x:Value} {p:PV} (h:aL ρ b w F x p) (s:Stp ρ b w F ρ' b' w' F') : aL ρ' b' w' F' x p:=by
 induction h with
 | junk x=>exact .junk x
 | d x d h=>exact .d x d (h.mono s.hF s.hw)
 | ag xs cs hl h1 hr ih=>exact .ag xs cs hl h1 ih
 | tup xs cs hl hr ih=>exact .tup xs cs hl ih
 | ptr t off g ty cs hb hρ =>
  obtain ⟨⟨ty',cs',hb'⟩,e⟩:=s.hst t ty cs hb
  exact .ptr t off g ty' cs' hb' (e.trans hρ)
 | row t n A c e k es hb hn hc hA hρ =>
  obtain ⟨e',es',hb',hle,hq⟩:=s.hrw t e k es hb
  exact .row t n A c e' k es' hb' (by omega) hc hA (fun h=>by rw [hq (by omega)]; exact hρ (by omega))
 | re t n i off a e k es hb hn hi hρ =>
  obtain ⟨e',es',hb',hle,hq⟩:=s.hrw t e k es hb
  exact .re t n i off a e' k es' hb' (by omega) hi (fun h=>by rw [hq (by omega)]; exact hρ (by omega))
 | vw t n lo hi A m c e k es hb hn hl hh hm hρ =>
  obtain ⟨e',es',hb',hle,hq⟩:=s.hrw t e k es hb
  exact .vw t n lo hi A m c e' k es' hb' (by omega) hl hh hm (fun h=>by rw [hq (by omega)]; exact hρ (by omega))
 | fn f xs ys ps qs hl hr hl2 hr2 ih ih2=>exact .fn f xs ys ps qs hl ih hl2 ih2
 | fe a cs us hF hcell hrep =>
  refine .fe a cs us (s.hF _ hF) (fun j d hj=>?_) (fun j d hj=>(hrep j d hj).mono s.hF s.hw)
  exact (World.cell?_of_block (w:=w) (w':=w') (a:=a.add j) (by rw [db]; exact s.hw _ hF)).trans (hcell j d hj)
def blk:Value→Option Nat
 | .pointer (some a)=>some a.block
 | .slice (some a) _ _=>some a.block
 | _=>none
structure WM where
 w:World
 M:Nat→Prop
 R:Nat→Option (Value×Option (Nat×Nat))
def WM.own (w0:WM) (g:Nat) : Prop:=w0.w.heap.size≤g∨w0.M g
structure FR (w0:WM) (w:World) : Prop where
 os:w.os=w0.w.os
 tape:w.tape=w0.w.tape
 output:w.output=w0.w.output
 size:w0.w.heap.size≤w.heap.size
 block:∀ g,g < w0.w.heap.size→¬ w0.M g→w.heap[g]? = w0.w.heap[g]?
theorem FR.of {w0:WM} (w:World) (h:w0.w=w) : FR w0 w:=by subst h; exact ⟨rfl,rfl,rfl,Nat.le_refl _,fun _ _ _=>rfl⟩
theorem FR.step {w0:WM} {w w':World} (h:FR w0 w) (h1:w'.os=w.os) (h2:w'.tape=w.tape) (h3:w'.output=w.output) (h4:w.heap.size≤w'.heap.size) (h5:∀ g,g < w0.w.heap.size→¬ w0.M g→w'.heap[g]? = w.heap[g]?) : FR w0 w' :=
 ⟨h1.trans h.os,h2.trans h.tape,h3.trans h.output,Nat.le_trans h.size h4,fun g hg hM=>(h5 g hg hM).trans (h.block g hg hM)⟩
theorem FR.trans {w0:WM} {w w':World} (h:FR w0 w) (k:Ext w w') : FR w0 w':=h.step k.os k.tape k.output k.size fun g hg _=>k.block g (Nat.lt_of_lt_of_le hg h.size)
theorem xY {w0:WM} {g:Nat} (hg:g < w0.w.heap.size) (hM : ¬ w0.M g) : ¬ w0.own g:=fun h=>h.elim (fun h=>by omega) hM
inductive jt (ρ : Nat→Value) (b:Nat→Option Box) (own:Nat→Prop) (w:World) (F:Nat→Prop) (t:Nat) : Box→Prop
 | st (ty:TypeId) (cs:List PV) (g:Nat) (xs:Array Value) (hρ : ρ t = .pointer (some ⟨g,0,none⟩)) (hg:own g) (hF : ¬ F g) (hh:w.heap[g]? = some (.cells xs ty (0,0))) (hl:xs.size=cs.length)
   (h1:∀ x∈xs,x.oneCell' = true) (hr:∀ (j:Nat) x c,xs[j]? = some x→cs[j]? = some c→aL ρ b w F x c) : jt ρ b own w F t (.st ty cs)
 | rw (e k:Nat) (es:List (List D)) (xs:List Value) (hk0 : 0 < k) (ho:w.ownsRow 0 e k (ρ t) es.length xs) (hF:∀ g,blk (ρ t)=some g→¬ F g) (hk:∀ x∈es,x.length=k) (hl:xs.length=es.flatten.length)
   (hr:∀ (j:Nat) x d,xs[j]? = some x→es.flatten[j]? = some d→ew w F x d) (hown:∀ g,blk (ρ t)=some g→own g) : jt ρ b own w F t (.rw e k es)
 | gn (e k:Nat) (es:List (List D)) (hρ : ρ t = .tuple #[]) : jt ρ b own w F t (.rw e k es)
def pA (ρ : Nat→Value) (b:Nat→Option Box) (t:Nat) : Value×Option (Nat×Nat)→Prop
 | (x,none)=>b t=none∨((∃ ty cs,b t=some (.st ty cs))∧ρ t=x)
 | (x,some (k,n0))=>b t=none∨∃ e es,b t=some (.rw e k es)∧n0≤es.length∧(es.length=n0→ρ t=x)
theorem pA.mono {ρ ρ':Nat→Value} {b b':Nat→Option Box} {t:Nat} {q:Value×Option (Nat×Nat)} (h:pA ρ b t q) (h0:b t=none→b' t=none) (h1:∀ ty cs,b t=some (.st ty cs)→(∃ ty' cs',b' t=some (.st ty' cs'))∧ρ' t = ρ t)
  (h2:∀ e k es,b t=some (.rw e k es)→∃ e' es',b' t=some (.rw e' k es')∧es.length≤es'.length∧(es'.length=es.length→ρ' t = ρ t)) : pA ρ' b' t q:=by
 obtain ⟨x,q⟩:=q
 cases q with
 | none =>
  rcases h with h | ⟨⟨ty,cs,h⟩,hx⟩
  ·exact .inl (h0 h)
  ·obtain ⟨m1,m2⟩:=h1 ty cs h
   exact .inr ⟨m1,m2.trans hx⟩
 | some q =>
  obtain ⟨k,n0⟩:=q
  rcases h with h | ⟨e,es,h,hn,hx⟩
  ·exact .inl (h0 h)
  ·obtain ⟨e',es',m1,m2,m3⟩:=h2 e k es h
   exact .inr ⟨e',es',m1,by omega,fun he=>by rw [m3 (by omega)]; exact hx (by omega)⟩
theorem pA.same {ρ ρ':Nat→Value} {b b':Nat→Option Box} {t:Nat} {q:Value×Option (Nat×Nat)} (h:pA ρ b t q) (h0:b' t=b t) (h1 : ρ' t = ρ t) : pA ρ' b' t q :=
 h.mono (fun e=>h0.trans e) (fun ty cs e=>⟨⟨ty,cs,h0.trans e⟩,h1⟩) (fun e k es he=>⟨e,es,h0.trans he,Nat.le_refl _,fun _=>h1⟩)
theorem pA.less {ρ : Nat→Value} {b b':Nat→Option Box} {t:Nat} {q:Value×Option (Nat×Nat)} (h:pA ρ b t q) (h0:b' t=none∨b' t=b t) : pA ρ b' t q:=by
 rcases h0 with h0 | h0
 ·obtain ⟨x,q⟩:=q
  cases q with
  | none=>exact .inl h0
  | some q=>exact .inl h0
 ·exact h.same h0 rfl
structure Inv (w0:WM) (F0:Nat→Prop) (ρ : Nat→Value) (b:Nat→Option Box) (w:World) (F:Nat→Prop) : Prop where
 ext:FR w0 w
 f0:∀ g,F0 g→F g
 flt:∀ g,F g→g < w.heap.size
 fnew:∀ g,F g→F0 g∨w0.own g
 box:∀ t B,b t=some B→jt ρ b w0.own w F t B
 dist:∀ t t' B B' g,b t=some B→b t' = some B'→t≠t'→blk (ρ t)=some g→blk (ρ t')≠some g
 reg:∀ t q,w0.R t=some q→1000000≤t∧pA ρ b t q
theorem Inv.reg_stp {w0:WM} {F0:Nat→Prop} {ρ ρ':Nat→Value} {b b':Nat→Option Box} {w w':World} {F F':Nat→Prop} (hi:Inv w0 F0 ρ b w F) (hs:Stp ρ b w F ρ' b' w' F') (hn:∀ t,1000000≤t→b t=none→b' t=none) : ∀ t q,w0.R t=some q→1000000≤t∧pA ρ' b' t q:=by
 intro t q h
 obtain ⟨h1,h2⟩:=hi.reg t q h
 exact ⟨h1,h2.mono (hn t h1) (hs.hst t) (hs.hrw t)⟩
structure PS where
 t:Nat→PV
 b:Nat→Option Box
def dn (b:Nat→Option Box) (u:Option (Nat×Box)) : Nat→Option Box:=fun i=>match u with | some (j,B)=>if i=j then some B else b i | none=>b i
def wA (t:Nat→PV) (dst:Option Nat) (r:PV) : Nat→PV:=fun i=>if dst=some i then r else t i
def PS.upd (s:PS) (dst:Option Nat) (r:PV) (u:Option (Nat×Box)) : PS:=⟨wA s.t dst r,dn s.b u⟩
def n6 (n:Nat) (w0:WM) (F0:Nat→Prop) (s:PS) (a:Act) (w:World) : Prop :=
 a.tmps.size=n∧a.defers = []∧∃ ρ F,Inv w0 F0 ρ s.b w F∧∀ i,aL ρ s.b w F (a.tmps.getD i undef) (s.t i)
def Out (w0:WM) (F0:Nat→Prop) (ρ : Nat→Value) (b:Nat→Option Box) (w:World) (F:Nat→Prop) (res:Result Next) (r:PV) (u:Option (Nat×Box)) : Prop :=
 ∃ v w' ρ' F',(res = .ok (.value v) w'∨(res = .ok .skip w'∧v=undef))∧Inv w0 F0 ρ' (dn b u) w' F'∧Stp ρ b w F ρ' (dn b u) w' F'∧aL ρ' (dn b u) w' F' v r
theorem Out.pure {w0:WM} {F0:Nat→Prop} {ρ : Nat→Value} {b:Nat→Option Box} {w:World} {F:Nat→Prop} {res:Result Next} {r:PV} {v:Value} (hi:Inv w0 F0 ρ b w F) (h:res = .ok (.value v) w) (hr:aL ρ b w F v r) : Out w0 F0 ρ b w F res r none :=
 ⟨v,w,ρ,F,.inl h,hi,Stp.refl _ _ _ _,hr⟩
section
section
variable {ρ ρ':Nat→Value} {b b':Nat→Option Box} {w w':World} {w0:WM} {F F' F0:Nat→Prop}
structure cz (ρ : Nat→Value) (b:Nat→Option Box) (w:World) (F:Nat→Prop) (xs:List Value) (cs:List PV) : Prop where
 len:xs.length=cs.length
 rep:∀ (j:Nat) x c,xs[j]? = some x→cs[j]? = some c→aL ρ b w F x c
theorem cz.nil:cz ρ b w F [] []:=⟨rfl,fun j x c h=>by simp at h⟩
theorem cz.cons {x:Value} {c:PV} {xs:List Value} {cs:List PV} (h:aL ρ b w F x c) (hs:cz ρ b w F xs cs) : cz ρ b w F (x::xs) (c::cs) :=
 ⟨by simp [hs.len],fun j x' c' h1 h2=>by
  cases j with
  | zero=>simp at h1 h2; subst h1 h2; exact h
  | succ j=>simp at h1 h2; exact hs.rep j _ _ h1 h2⟩
theorem cz.mono {xs:List Value} {cs:List PV} (h:cz ρ b w F xs cs) (s:Stp ρ b w F ρ' b' w' F') : cz ρ' b' w' F' xs cs:=⟨h.len,fun j x c h1 h2=>(h.rep j x c h1 h2).mono s⟩
theorem cz.drop {xs:List Value} {cs:List PV} (h:cz ρ b w F xs cs) (n:Nat) : cz ρ b w F (xs.drop n) (cs.drop n) :=
 ⟨by simp [h.len],fun j x c h1 h2=>by rw [List.getElem?_drop] at h1 h2; exact h.rep _ _ _ h1 h2⟩
theorem cz.take {xs:List Value} {cs:List PV} (h:cz ρ b w F xs cs) (n:Nat) : cz ρ b w F (xs.take n) (cs.take n) :=
 ⟨by simp [h.len],fun j x c h1 h2=>by
  rw [List.getElem?_take] at h1 h2
  split at h1
  ·rename_i hj
   rw [if_pos hj] at h2
   exact h.rep _ _ _ h1 h2
  ·cases h1⟩
theorem cz.append {xs ys:List Value} {cs ds:List PV} (h:cz ρ b w F xs cs) (k:cz ρ b w F ys ds) : cz ρ b w F (xs++ys) (cs++ds) :=
 ⟨by simp [h.len,k.len],fun j x c h1 h2=>by
  rw [List.getElem?_append] at h1 h2
  rw [h.len] at h1
  split at h1
  ·rename_i hj
   rw [if_pos hj] at h2
   exact h.rep _ _ _ h1 h2
  ·rename_i hj
   rw [if_neg hj] at h2
   exact k.rep _ _ _ h1 h2⟩
def splice {α : Type} (cs:List α) (off:Nat) (ns:List α) : List α:=cs.take off++ns++cs.drop (off + ns.length)
theorem cz.splice {xs ys:List Value} {cs ds:List PV} (h:cz ρ b w F xs cs) (k:cz ρ b w F ys ds) (off:Nat) : cz ρ b w F (splice xs off ys) (splice cs off ds):=by
 unfold Go.Proofs.YtaknepbdbappdaaGreat.splice
 rw [k.len]
 exact ((h.take off).append k).append (h.drop _)
theorem mz {α : Type} {cs ns:List α} {off:Nat} (h:off + ns.length≤cs.length) : (splice cs off ns).length=cs.length:=by
 simp [splice]; omega
theorem Dx {xs ys:List Value} (hx:∀ x∈xs,x.oneCell' = true) (hy:∀ x∈ys,x.oneCell' = true) (off:Nat) : ∀ x∈splice xs off ys,x.oneCell' = true:=by
 intro x h
 simp only [Go.Proofs.YtaknepbdbappdaaGreat.splice,List.mem_append] at h
 rcases h with (h | h) | h
 ·exact hx x (List.mem_of_mem_take h)
 ·exact hy x h
 ·exact hx x (List.mem_of_mem_drop h)
def AF:PV→Option (List PV)
 | .ag cs=>some cs
 | .junk=>none
 | .tup _=>none
 | p=>some [p]
theorem qr {x:Value} {p:PV} {ns:List PV} (h:aL ρ b w F x p) (hp:AF p=some ns) : cz ρ b w F x.cells.toList ns∧∀ y∈x.cells.toList,y.oneCell' = true:=by
 have one:∀ {x:Value} {p:PV},aL ρ b w F x p→x.oneCell' = true→x.cells = #[x]→cz ρ b w F x.cells.toList [p]∧∀ y∈x.cells.toList,y.oneCell' = true:=by
  intro x p h h1 hc
  rw [hc]
  exact ⟨.cons h .nil,fun y hy=>by simp at hy; rw [hy]; exact h1⟩
 cases h with
 | junk=>cases hp
 | tup=>cases hp
 | ag xs cs hl h1 hr =>
  injection hp with hp
  subst hp
  exact ⟨⟨by simpa [Value.cells] using hl,fun j x c h2 h3=>hr j x c (by simpa [Value.cells] using h2) h3⟩,fun y hy=>h1 y (by simpa [Value.cells] using hy)⟩
 | d _ dd h =>
  injection hp with hp
  subst hp
  refine one (.d x dd h) h.one ?_
  have:=h.one
  cases x <;> first | rfl | (simp [Value.oneCell'] at this)
 | ptr t off g ty cs hb hρ =>
  injection hp with hp
  subst hp
  exact one (.ptr t off g ty cs hb hρ) rfl rfl
 | row t n A c e k es hb hn hc hA hρ =>
  injection hp with hp
  subst hp
  exact one (.row t n A c e k es hb hn hc hA hρ) rfl rfl
 | re t n i off a e k es hb hn hi hρ =>
  injection hp with hp
  subst hp
  exact one (.re t n i off a e k es hb hn hi hρ) rfl rfl
 | vw t n lo hi A m c e k es hb hn hl hh hm hρ =>
  injection hp with hp
  subst hp
  exact one (.vw t n lo hi A m c e k es hb hn hl hh hm hρ) rfl rfl
 | fe a cs us hF hcell hrep =>
  injection hp with hp
  subst hp
  exact one (.fe a cs us hF hcell hrep) rfl rfl
 | fn f xs ys ps qs hl hr hl2 hr2 =>
  injection hp with hp
  subst hp
  exact one (.fn f xs ys ps qs hl hr hl2 hr2) rfl rfl
theorem nF {n j i:Nat} (h:(List.range n)[j]? = some i) : i=j∧j < n:=by
 rw [zg] at h
 obtain ⟨h1,h2⟩:=h
 rw [List.getElem_range] at h2
 exact ⟨h2.symm,by simpa using h1⟩
theorem qG (g off j:Nat) : (⟨g,off,none⟩ : Addr).add j=⟨g,off + j,none⟩:=by unfold Addr.add; split <;> simp_all
def Ze (ρ : Nat→Value) (b:Nat→Option Box) (w:World) (F:Nat→Prop) (a:Addr) (cl:List PV) : Prop :=
 ∃ us:List Value,cz ρ b w F us cl∧(∀ (j:Nat) u,us[j]? = some u→w.cell? (a.add j)=some u)∧∀ u∈us,u.oneCell' = true
def uj (b:Nat→Option Box) : PV→Option (List PV)
 | .ptr t off=>match b t with | some (.st _ cs)=>some (cs.drop off) | _=>none
 | .fe cs=>some (cs.map .d)
 | .re t n i off=>match b t with
  | some (.rw _ _ es)=>if es.length=n then match es[i]? with | some e=>some ((e.drop off).map .d) | none=>none else none
  | _=>none
 | _=>none
theorem yj {α : Type} (k:Nat) : ∀ (es:List (List α)) (_:∀ e∈es,e.length=k) (i:Nat) (e:List α),es[i]? = some e→∀ j,j < k→es.flatten[i * k + j]? = e[j]?
 | [],_,i,e,h,_,_=>by simp at h
 | x::es,hk,0,e,h,j,hj=>by
  simp at h
  subst h
  have:=hk x (by simp)
  rw [List.flatten_cons,Nat.zero_mul,Nat.zero_add,List.getElem?_append_left (by omega)]
 | x::es,hk,i + 1,e,h,j,hj=>by
  simp at h
  have hx:=hk x (by simp)
  have ih:=yj k es (fun e he=>hk e (by simp [he])) i e h j hj
  rw [List.flatten_cons,List.getElem?_append_right (by rw [hx,Nat.succ_mul]; omega),hx,Nat.succ_mul,show i * k + k + j - k=i * k + j by omega]
  exact ih
theorem cF {α : Type} (k:Nat) : ∀ (es:List (List α)) (_:∀ e∈es,e.length=k),es.flatten.length=es.length * k
 | [],_=>by simp
 | x::es,hk=>by
  have hx:=hk x (by simp)
  rw [List.flatten_cons,List.length_append,cF k es (fun e he=>hk e (by simp [he])),hx,List.length_cons,Nat.succ_mul]
  omega
theorem va {α : Type} (k:Nat) : ∀ (l:Nat) (es:List (List α)) (_:∀ e∈es,e.length=k),l≤es.length→(es.drop l).flatten=es.flatten.drop (l * k)
 | 0,es,_,_=>by simp
 | l + 1,[],_,h=>by simp at h
 | l + 1,e::es,hk,h=>by
  have he:=hk e (by simp)
  rw [List.drop_succ_cons,va k l es (fun x hx=>hk x (by simp [hx])) (by simpa using h),List.flatten_cons,Nat.succ_mul,Nat.add_comm (l * k) k,← he]
  rw [← List.drop_drop,List.drop_left]
theorem zQ {α : Type} (es:List (List α)) (m:Nat) (j:Nat) (d : α) (h:(es.take m).flatten[j]? = some d) : es.flatten[j]? = some d:=by
 have e:es.flatten=(es.take m).flatten++(es.drop m).flatten:=by rw [← List.flatten_append,List.take_append_drop]
 rw [e,List.getElem?_append_left (zg.1 h).1]
 exact h
theorem Dh {own:Nat→Prop} {t e k:Nat} {es:List (List D)} {g n c:Nat} (h:jt ρ b own w F t (.rw e k es)) (hρ : ρ t = .slice (some ⟨g,0,none⟩) n c) :
  n=es.length∧(∀ x∈es,x.length=k)∧∀ j d,es.flatten[j]? = some d→∃ u,w.cell? ⟨g,j,none⟩=some u∧ew w F u d:=by
 cases h with
 | gn _ _ _ hg=>rw [hρ] at hg; cases hg
 | rw _ _ _ xs hk0 ho hF hk hl hr =>
  rw [hρ] at ho
  have hn:n=es.length:=by
   rcases ho.2 with ⟨h,_⟩ | ⟨g',cap,cur,h,_⟩
   ·cases h
   ·injection h
  subst hn
  refine ⟨rfl,hk,fun j d hj=>?_⟩
  have hlt:j < es.flatten.length:=(zg.1 hj).1
  have hx:xs[j]? = some (xs[j]'(by omega)):=by simp [hl,hlt]
  refine ⟨_,?_,hr j _ d hx hj⟩
  rw [ho.cellAt (g:=g) j (by rw [cF k es hk] at hlt; exact hlt)]
  exact hx
theorem xO {own:Nat→Prop} {t e k:Nat} {es:List (List D)} {A:Option Addr} {n c:Nat} (h:jt ρ b own w F t (.rw e k es)) (hρ : ρ t = .slice A n c) :
  n=es.length∧n≤c∧c≤maxLen∧(∀ x∈es,x.length=k)∧0 < k∧((A=none∧es = []∧c=0)∨∃ g,A=some ⟨g,0,none⟩):=by
 cases h with
 | gn _ _ _ hg=>rw [hρ] at hg; cases hg
 | rw _ _ _ xs hk0 ho hF hk hl hr =>
  rw [hρ] at ho
  rcases ho.2 with ⟨h,h0⟩ | ⟨g',cap,cur,h,_,_,h1,h2,_⟩
  ·injection h with e1 e2 e3
   subst e1 e2 e3
   exact ⟨h0.symm,Nat.le_refl _,by simp [maxLen],hk,hk0,.inl ⟨rfl,List.eq_nil_of_length_eq_zero h0,rfl⟩⟩
  ·injection h with e1 e2 e3
   subst e1 e2 e3
   exact ⟨rfl,h1,h2,hk,hk0,.inr ⟨g',rfl⟩⟩
theorem Kk {own:Nat→Prop} {t e k:Nat} {es:List (List D)} {A:Option Addr} {n c lo hi:Nat} (h:jt ρ b own w F t (.rw e k es)) (hρ : ρ t = .slice A n c) (hl:lo≤hi) (hh:hi≤n) :
  ∃ A2 c2,sliced A lo hi c k = .slice A2 (hi - lo) c2∧hi - lo≤c2∧c2≤maxLen∧(A2=none→hi - lo=0∧c2=0)∧(lo < hi→∃ g,A=some ⟨g,0,none⟩∧A2=some ⟨g,lo * k,none⟩) ∧
   ∀ a,A2=some a→∀ (j:Nat) d,((es.drop lo).take (hi - lo)).flatten[j]? = some d→∃ u,w.cell? (a.add j)=some u∧ew w F u d:=by
 obtain ⟨rfl,hc,hm,hk,hk0,hA⟩:=xO h hρ
 unfold sliced
 refine ⟨_,_,rfl,by omega,by omega,fun hn=>?_,fun hlt=>?_,fun a ha j d hj=>?_⟩
 ·rcases hA with ⟨rfl,rfl,rfl⟩ | ⟨g,rfl⟩
  ·simp at hh; omega
  ·split at hn <;> cases hn
 ·rcases hA with ⟨rfl,rfl,rfl⟩ | ⟨g,rfl⟩
  ·simp at hh; omega
  ·refine ⟨g,rfl,?_⟩
   rw [if_neg (by omega)]
   simp [qG]
 ·have hlen:((es.drop lo).take (hi - lo)).length=hi - lo:=by simp; omega
  have h1:=zQ _ _ _ _ hj
  have hlt0:=(zg.1 hj).1
  rw [cF k _ (fun e he=>hk e (List.mem_of_mem_drop (List.mem_of_mem_take he))),hlen] at hlt0
  have hlt:lo < hi:=by
   rcases Nat.lt_or_ge lo hi with h | h'
   ·exact h
   ·rw [show hi - lo=0 by omega,Nat.zero_mul] at hlt0; omega
  rw [va k lo es hk (by omega),List.getElem?_drop] at h1
  rcases hA with ⟨rfl,rfl,rfl⟩ | ⟨g,rfl⟩
  ·simp at hh; omega
  ·rw [if_neg (by omega)] at ha
   injection ha with ha
   subst ha
   obtain ⟨_,_,hcell⟩:=Dh h hρ
   obtain ⟨u,h2,h3⟩:=hcell _ d h1
   exact ⟨u,by show w.cell? (((⟨g,0,none⟩ : Addr).add (lo * k)).add j)=some u; rw [qG,qG,Nat.zero_add]; exact h2,h3⟩
theorem BI {x:Value} {p:PV} {cl:List PV} (hi:Inv w0 F0 ρ b w F) (h:aL ρ b w F x p) (hp:uj b p=some cl) : ∃ a,x = .pointer (some a)∧Ze ρ b w F a cl:=by
 cases h with
 | junk=>cases hp
 | d=>cases hp
 | ag=>cases hp
 | tup=>cases hp
 | row=>cases hp
 | vw=>cases hp
 | fn=>cases hp
 | ptr t off g ty cs hb hρ =>
  simp only [uj,hb] at hp
  injection hp with hp
  subst hp
  refine ⟨_,rfl,?_⟩
  cases hi.box t _ hb with
  | st _ _ g' xs hρ' hg hF hh hl h1 hr =>
   rw [hρ] at hρ'
   injection hρ' with e
   injection e with e
   injection e with e
   subst e
   have R:cz ρ b w F xs.toList cs:=⟨by simpa using hl,fun j x c h2 h3=>hr j x c (by simpa using h2) h3⟩
   refine ⟨xs.toList.drop off,R.drop off,fun j u hu=>?_,fun u hu=>h1 u (by simpa using List.mem_of_mem_drop hu)⟩
   rw [qG,cell_of_row w g (off + j) xs ty (0,0) hh,← Array.getElem?_toList,← List.getElem?_drop]
   exact hu
 | fe a cs us hF hcell hrep =>
  injection hp with hp
  subst hp
  refine ⟨a,rfl,(List.range cs.length).map us,⟨by simp,fun j x c h1 h2=>?_⟩,fun j u hu=>?_,fun u hu=>?_⟩
  ·simp only [List.getElem?_map,zm] at h1 h2
   obtain ⟨j',hj',rfl⟩:=h1
   obtain ⟨rfl,hj⟩:=nF hj'
   obtain ⟨d,hd,rfl⟩:=h2
   exact .d _ _ (hrep _ _ hd)
  ·simp only [List.getElem?_map,zm] at hu
   obtain ⟨j',hj',rfl⟩:=hu
   obtain ⟨rfl,hj⟩:=nF hj'
   exact hcell _ _ (zq hj)
  ·simp at hu
   obtain ⟨j,hj,rfl⟩:=hu
   exact (hrep j _ (zq hj)).one
 | re t n i off a e k es hb hn hi' hρ =>
  simp only [uj,hb] at hp
  split at hp
  ·rename_i hle
   split at hp
   ·rename_i el hel
    injection hp with hp
    subst hp
    obtain ⟨g,c,hr,rfl⟩:=hρ hle
    obtain ⟨_,hk,hcell⟩:=Dh (hi.box t _ hb) hr
    have hel':el.length=k:=hk el (List.mem_of_getElem? hel)
    have key:∀ j d,(el.drop off)[j]? = some d→∃ u,w.cell? ⟨g,i * k + off + j,none⟩=some u∧ew w F u d:=by
     intro j d hd
     rw [List.getElem?_drop] at hd
     have hlt:=(zg.1 hd).1
     have:=yj k es hk i el hel (off + j) (by omega)
     rw [hd] at this
     obtain ⟨u,h1,h2⟩:=hcell _ _ this
     exact ⟨u,by rw [Nat.add_assoc]; exact h1,h2⟩
    refine ⟨_,rfl,(List.range (el.drop off).length).map (fun j=>(w.cell? ⟨g,i * k + off + j,none⟩).getD undef),⟨by simp,fun j x c h1 h2=>?_⟩,fun j u hu=>?_,fun u hu=>?_⟩
    ·simp only [List.getElem?_map,zm] at h1 h2
     obtain ⟨j',hj',rfl⟩:=h1
     obtain ⟨d,hd,rfl⟩:=h2
     obtain ⟨rfl,hj⟩:=nF hj'
     obtain ⟨u,h1,h2⟩:=key _ _ hd
     rw [h1]
     exact .d _ _ h2
    ·simp only [List.getElem?_map,zm] at hu
     obtain ⟨j',hj',rfl⟩:=hu
     obtain ⟨rfl,hj⟩:=nF hj'
     obtain ⟨u,h1,_⟩:=key _ _ (zq hj)
     rw [qG,h1]
     rfl
    ·rw [List.mem_map] at hu
     obtain ⟨j,hj,rfl⟩:=hu
     obtain ⟨u,h1,h2⟩:=key _ _ (zq (List.mem_range.1 hj))
     rw [h1]
     exact h2.one
   ·cases hp
  ·cases hp
end
end
section
section
variable {ρ ρ':Nat→Value} {b b':Nat→Option Box} {w w':World} {w0:WM} {F F' F0:Nat→Prop}
theorem jt.lt {own:Nat→Prop} {t:Nat} {B:Box} (h:jt ρ b own w F t B) {g:Nat} (hg:blk (ρ t)=some g) : g < w.heap.size∧own g∧¬ F g:=by
 cases h with
 | st ty cs g' xs hρ hb hF hh hl h1 hr =>
  rw [hρ] at hg
  injection hg with hg
  subst hg
  exact ⟨(Array.getElem?_eq_some_iff.1 hh).1,hb,hF⟩
 | gn e k es hρ=>rw [hρ] at hg; cases hg
 | rw e k es xs hk0 ho hF hk hl hr hown =>
  refine ⟨?_,hown g hg,hF g hg⟩
  ·rcases ho.2 with ⟨h,_⟩ | ⟨g',cap,cur,h,hb,hh,_⟩
   ·rw [h] at hg; cases hg
   ·rw [h] at hg; injection hg with hg; subst hg; exact (Array.getElem?_eq_some_iff.1 hh).1
theorem RA {w w':World} {base e k n:Nat} {v:Value} {xs:List Value} (h:w.ownsRow base e k v n xs) (hb:∀ g,blk v=some g→w'.heap[g]? = w.heap[g]?) : w'.ownsRow base e k v n xs:=by
 refine ⟨h.1,?_⟩
 rcases h.2 with hn | ⟨g,cap,cur,rfl,hg,hh,hr⟩
 ·exact .inl hn
 ·exact .inr ⟨g,cap,cur,rfl,hg,(hb g rfl).trans hh,hr⟩
theorem jt.mono {own:Nat→Prop} {t:Nat} {B:Box} (h:jt ρ b own w F t B) (s:Stp ρ b w F ρ' b' w' F') (hρ : ρ' t = ρ t) (hw:∀ g,blk (ρ t)=some g→w'.heap[g]? = w.heap[g]?) (hF:∀ g,blk (ρ t)=some g→¬ F' g) : jt ρ' b' own w' F' t B:=by
 cases h with
 | st ty cs g xs hr0 hg hF0 hh hl h1 hr =>
  exact .st ty cs g xs (hρ.trans hr0) hg (hF g (by rw [hr0]; rfl)) ((hw g (by rw [hr0]; rfl)).trans hh) hl h1 (fun j x c h2 h3=>(hr j x c h2 h3).mono s)
 | gn e k es hr0=>exact .gn e k es (hρ.trans hr0)
 | rw e k es xs hk0 ho hF0 hk hl hr hown =>
  refine .rw e k es xs hk0 ?_ (fun g hg=>hF g (by rw [← hρ]; exact hg)) hk hl (fun j x d h2 h3=>(hr j x d h2 h3).mono s.hF s.hw) (fun g hg=>hown g (by rw [← hρ]; exact hg))
  rw [hρ]
  exact RA ho hw
def vC (ρ : Nat→Value) (t:Nat) (v:Value) : Nat→Value:=fun i=>if i=t then v else ρ i
theorem dj (ρ : Nat→Value) (t:Nat) (v:Value) : vC ρ t v t=v:=by simp [vC]
theorem j7 (ρ : Nat→Value) {t i:Nat} (v:Value) (h:i≠t) : vC ρ t v i = ρ i:=by simp [vC,h]
theorem dm (b:Nat→Option Box) (t:Nat) (B:Box) : dn b (some (t,B)) t=some B:=by simp [dn]
theorem cy (b:Nat→Option Box) {t i:Nat} (B:Box) (h:i≠t) : dn b (some (t,B)) i=b i:=by simp [dn,h]
theorem Inv.new {t:Nat} {B:Box} {v:Value} {w':World} (hi:Inv w0 F0 ρ b w F) (ht:t < 1000000) (hb:b t=none) (hx:Ext w w') (hv:∀ g,blk v=some g→w.heap.size≤g)
  (hB:Stp ρ b w F (vC ρ t v) (dn b (some (t,B))) w' F→jt (vC ρ t v) (dn b (some (t,B))) w0.own w' F t B) :
  Inv w0 F0 (vC ρ t v) (dn b (some (t,B))) w' F∧Stp ρ b w F (vC ρ t v) (dn b (some (t,B))) w' F:=by
 have hw:∀ g,g < w.heap.size→w'.heap[g]? = w.heap[g]? := fun g hg=>hx.block g hg
 have hne:∀ t',b t'≠none→t'≠t:=fun t' h e=>h (by rw [e]; exact hb)
 have hs:Stp ρ b w F (vC ρ t v) (dn b (some (t,B))) w' F:=by
  refine ⟨fun _ h=>h,fun g hg=>hw g (hi.flt g hg),fun t' ty cs h=>?_,fun t' e k es h=>?_⟩
  ·have:=hne t' (by rw [h]; simp)
   rw [j7 _ _ this,cy _ _ this]
   exact ⟨⟨ty,cs,h⟩,rfl⟩
  ·have:=hne t' (by rw [h]; simp)
   rw [j7 _ _ this,cy _ _ this]
   exact ⟨e,es,h,Nat.le_refl _,fun _=>rfl⟩
 refine ⟨⟨hi.ext.trans hx,hi.f0,fun g hg=>Nat.lt_of_lt_of_le (hi.flt g hg) hx.size,hi.fnew,fun t' B' h=>?_,fun t1 t2 B1 B2 g h1 h2 hn hg=>?_,hi.reg_stp hs fun t' h' hn=>by rw [cy _ _ (by omega)]; exact hn⟩,hs⟩
 ·by_cases h':t' = t
  ·subst h'
   rw [dm] at h
   injection h with h
   subst h
   exact hB hs
  ·rw [cy _ _ h'] at h
   have hbx:=hi.box t' B' h
   exact hbx.mono hs (j7 _ _ h') (fun g hg=>hw g (hbx.lt hg).1) (fun g hg=>(hbx.lt hg).2.2)
 ·by_cases h1':t1=t
  ·subst h1'
   have h2':t2≠t1:=Ne.symm hn
   rw [cy _ _ h2'] at h2
   rw [dj] at hg
   rw [j7 _ _ h2']
   intro e
   have:=((hi.box t2 B2 h2).lt e).1
   have:=hv g hg
   omega
  ·rw [cy _ _ h1'] at h1
   rw [j7 _ _ h1'] at hg
   by_cases h2':t2=t
   ·subst h2'
    rw [dj]
    intro e
    have:=((hi.box t1 B1 h1).lt hg).1
    have:=hv g e
    omega
   ·rw [cy _ _ h2'] at h2
    rw [j7 _ _ h2']
    exact hi.dist t1 t2 B1 B2 g h1 h2 hn hg
theorem Inv.turn {t:Nat} {B B':Box} {v:Value} (hi:Inv w0 F0 ρ b w F) (hb:b t=some B) (hs:Stp ρ b w F (vC ρ t v) (dn b (some (t,B'))) w' F)
  (hx:FR w0 w') (hsz:w.heap.size≤w'.heap.size) (hw:∀ g,g < w.heap.size→blk (ρ t)≠some g→w'.heap[g]? = w.heap[g]?) (hv:∀ g,blk v=some g→blk (ρ t)=some g∨w.heap.size≤g)
  (hB:jt (vC ρ t v) (dn b (some (t,B'))) w0.own w' F t B') : Inv w0 F0 (vC ρ t v) (dn b (some (t,B'))) w' F:=by
 refine ⟨hx,hi.f0,fun g hg=>Nat.lt_of_lt_of_le (hi.flt g hg) hsz,hi.fnew,fun t' B2 h=>?_,fun t1 t2 B1 B2 g h1 h2 hn hg=>?_,hi.reg_stp hs fun t' h' hn=>by rw [cy _ _ (fun e=>by rw [e,hb] at hn; cases hn)]; exact hn⟩
 ·by_cases h':t' = t
  ·subst h'
   rw [dm] at h
   injection h with h
   subst h
   exact hB
  ·rw [cy _ _ h'] at h
   have hbx:=hi.box t' B2 h
   exact hbx.mono hs (j7 _ _ h') (fun g hg=>hw g (hbx.lt hg).1 (fun e=>hi.dist t' t B2 B g h hb h' hg e)) (fun g hg=>(hbx.lt hg).2.2)
 ·by_cases h1':t1=t
  ·subst h1'
   have h2':t2≠t1:=Ne.symm hn
   rw [cy _ _ h2'] at h2
   rw [dj] at hg
   rw [j7 _ _ h2']
   rcases hv g hg with h | h
   ·exact hi.dist t1 t2 B B2 g hb h2 hn h
   ·intro e
    have:=((hi.box t2 B2 h2).lt e).1
    omega
  ·rw [cy _ _ h1'] at h1
   rw [j7 _ _ h1'] at hg
   by_cases h2':t2=t
   ·subst h2'
    rw [dj]
    intro e
    rcases hv g e with h | h
    ·exact hi.dist t1 t2 B1 B g h1 hb hn hg h
    ·have:=((hi.box t1 B1 h1).lt hg).1
     omega
   ·rw [cy _ _ h2'] at h2
    rw [j7 _ _ h2']
    exact hi.dist t1 t2 B1 B2 g h1 h2 hn hg
theorem da (ρ : Nat→Value) (t:Nat) : vC ρ t (ρ t) = ρ:=by
 funext i
 unfold vC
 split
 ·rename_i h; rw [h]
 ·rfl
theorem Inv.write {t off:Nat} {ty:TypeId} {cs ns:List PV} {g:Nat} {xs:Array Value} {vs:List Value} (hi:Inv w0 F0 ρ b w F) (hb:b t=some (.st ty cs)) (hρ : ρ t = .pointer (some ⟨g,0,none⟩))
  (hh:w.heap[g]? = some (.cells xs ty (0,0))) (hl:xs.size=cs.length) (h1:∀ x∈xs,x.oneCell' = true) (hr:cz ρ b w F xs.toList cs) (hv:cz ρ b w F vs ns) (hv1:∀ x∈vs,x.oneCell' = true) (hfit:off + ns.length≤cs.length) :
  Inv w0 F0 ρ (dn b (some (t,.st ty (splice cs off ns)))) (w.setRow g (splice xs.toList off vs).toArray) F∧Stp ρ b w F ρ (dn b (some (t,.st ty (splice cs off ns)))) (w.setRow g (splice xs.toList off vs).toArray) F:=by
 have hbx:=hi.box t _ hb
 have hg:=hbx.lt (g:=g) (by rw [hρ]; rfl)
 have hs:Stp ρ b w F ρ (dn b (some (t,.st ty (splice cs off ns)))) (w.setRow g (splice xs.toList off vs).toArray) F:=by
  refine ⟨fun _ h=>h,fun k hk=>setRow_other w g k _ (fun e=>hg.2.2 (e ▸ hk)),fun t' ty' cs' h=>?_,fun t' e k es h=>?_⟩
  ·refine ⟨?_,rfl⟩
   by_cases h':t' = t
   ·subst h'; rw [dm]; exact ⟨_,_,rfl⟩
   ·rw [cy _ _ h']; exact ⟨_,_,h⟩
  ·have h':t'≠t:=fun e=>by rw [e,hb] at h; cases h
   rw [cy _ _ h']
   exact ⟨e,es,h,Nat.le_refl _,fun _=>rfl⟩
 refine ⟨?_,hs⟩
 have hs2:=hs
 rw [← da ρ t] at hs
 have:=Inv.turn (v:=ρ t) (B':=.st ty (splice cs off ns)) (w':=w.setRow g (splice xs.toList off vs).toArray) hi hb (by rw [da] at hs ⊢; exact hs2)
  (hi.ext.step rfl rfl rfl (by simp) fun k hk hM=>setRow_other w g k _ (fun e=>xY hk hM (e ▸ hg.2.1))) (by simp) (fun k _ hk=>setRow_other w g k _ (fun e=>hk (by rw [hρ,e]; rfl))) (fun k hk=>.inl hk) ?_
 ·rw [da] at this; exact this
 ·rw [da]
  have hsp:=(hr.splice hv off).mono hs2
  refine .st ty _ g _ hρ hg.2.1 hg.2.2 (setRow_heap w g xs _ ty _ hh) (by have:=hsp.len; simpa using this) (fun x hx=>?_) (fun j x c h2 h3=>hsp.rep j x c (by simpa using h2) h3)
  exact Dx (xs:=xs.toList) (fun y hy=>h1 y (by simpa using hy)) hv1 off x (by simpa using hx)
end
end
section
structure TI where
 size:Nat
 bytes:Nat
 agg:Bool
 zero:List Value
def iP (P:Program) (t:TypeId) : Bool:=match P.underlying t with | some (.struct _) | some (.array _ _)=>true | _=>false
def tV (P:Program) (f:Field) : Option (Nat×Nat×Bool):=match P.info? f.type with | some i=>if (P.underlying f.type).isSome then some (f.offset,i.size,iP P f.type) else none | none=>none
def Lh (P:Program) (t:TypeId) : Option (List (Nat×Nat×Bool)):=match P.underlying t with | some (.struct fs)=>fs.toList.mapM (tV P) | _=>none
def Ar (P:Program) (t:TypeId) : List (Nat×Nat×Bool):=(Lh P t).getD []
def mh (P:Program) (t:TypeId) : Option TI :=
 match P.info? t with
 | none=>none
 | some i=>match i.zero with
  | none=>none
  | some z=>if (P.underlying t).isSome&&z.cells.size==i.size&&z.cells.all (·.oneCell') then some ⟨i.size,i.bytes,iP P t,z.cells.toList⟩ else none
theorem di {P:Program} {t:TypeId} {i:TI} (h:mh P t=some i) : ∃ j z u,P.info? t=some j∧j.zero=some z∧P.underlying t=some u∧z.cells.size=i.size∧j.size=i.size∧j.bytes=i.bytes∧i.agg=iP P t∧i.zero=z.cells.toList∧∀ x∈i.zero,x.oneCell' = true:=by
 unfold mh at h
 split at h
 ·cases h
 ·rename_i j hj
  split at h
  ·cases h
  ·rename_i z hz
   split at h
   ·rename_i hc
    simp only [Bool.and_eq_true,Option.isSome_iff_exists,beq_iff_eq] at hc
    obtain ⟨⟨⟨u,hu⟩,hs⟩,h1⟩:=hc
    injection h with h
    subst h
    exact ⟨j,z,u,hj,hz,hu,hs,rfl,rfl,rfl,rfl,fun x hx=>(Array.all_eq_true_iff_forall_mem.1 h1) x (by simpa using hx)⟩
   ·cases h
def DC:Value→PV
 | .agg xs=>if xs.all (·.oneCell') then .ag (xs.toList.map fun x=>.d (.v x)) else .junk
 | .tuple _=>.junk
 | v=>.d (.v v)
def ev (s:PS) : Operand→PV
 | .tmp i=>s.t i
 | .const v=>DC v
 | .func f=>.fn f [] []
 | _=>.junk
def kU (b:Nat→Option Box) : PV→Option (List (List D))
 | .d (.sl es)=>some es
 | .d (.v (.slice none n c))=>if n=0∧c=0 then some [] else none
 | .row t n=>match b t with
  | some (.rw _ _ es)=>if es.length=n then some es else none
  | _=>none
 | .vw t n lo hi=>match b t with
  | some (.rw _ _ es)=>if es.length=n then some ((es.drop lo).take (hi - lo)) else none
  | _=>none
 | _=>none
def NA:PV→Option Nat
 | .d (.sl es)=>some es.length
 | .d (.v (.slice _ n _))=>some n
 | .row _ n=>some n
 | .vw _ _ lo hi=>some (hi - lo)
 | _=>none
def Bp (size:Nat) (agg:Bool) (cl:List PV) : Option PV :=
 if agg then (if size≤cl.length then some (.ag (cl.take size)) else none) else cl.head?
section
variable {P:Program} {ρ ρ':Nat→Value} {b b':Nat→Option Box} {w w':World} {w0:WM} {F F' F0:Nat→Prop}
theorem RB (v:Value) : aL ρ b w F v (DC v):=by
 cases v with
 | agg xs =>
  simp only [DC]
  split
  ·rename_i h
   rw [Array.all_eq_true_iff_forall_mem] at h
   refine .ag xs _ (by simp) h (fun j x c h1 h2=>?_)
   rw [List.getElem?_map,Array.getElem?_toList,h1] at h2
   injection h2 with h2
   subst h2
   exact .d x _ (.v x (h x (Array.mem_of_getElem? h1)))
  ·exact .junk _
 | tuple xs=>exact .junk _
 | _=>exact .d _ _ (.v _ rfl)
theorem UO {s:PS} {a:Act} (h:∀ i,aL ρ s.b w F (a.tmps.getD i undef) (s.t i)) (x:Operand) : aL ρ s.b w F (a.eval x) (ev s x):=by
 cases x with
 | tmp i=>exact h i
 | const v=>exact RB v
 | global g=>exact .junk _
 | func f=>exact .fn f #[] #[] [] [] rfl (fun j x c h _=>by simp at h) rfl (fun j x c h _=>by simp at h)
theorem aL.int {x:Value} {k:IntKind} {n:Int} (h:aL ρ b w F x (.d (.v (.int k n)))) : x = .int k n:=by
 cases h with
 | d _ _ h=>cases h; rfl
theorem aL.vv {x v:Value} (h:aL ρ b w F x (.d (.v v))) : x=v∧v.oneCell' = true:=by
 cases h with
 | d _ _ h=>cases h with | v _ h1=>exact ⟨rfl,h1⟩
theorem aL.lit {v:Value} (h1:v.oneCell' = true) : aL ρ b w F v (.d (.v v)):=.d _ _ (.v _ h1)
theorem kD {x:Value} {p:PV} {es:List (List D)} (hi:Inv w0 F0 ρ b w F) (h:aL ρ b w F x p) (hp:kU b p=some es) :
  ∃ A c k,x = .slice A es.length c∧es.length≤c∧c≤maxLen∧(∀ e∈es,e.length=k)∧(A=none→es = []∧c=0) ∧
   ∀ a,A=some a→∀ (j:Nat) d,es.flatten[j]? = some d→∃ u,w.cell? (a.add j)=some u∧ew w F u d:=by
 cases h with
 | junk=>cases hp
 | ag=>cases hp
 | tup=>cases hp
 | ptr=>cases hp
 | re=>cases hp
 | fe=>cases hp
 | fn=>cases hp
 | d _ dd h =>
  cases h with
  | v _ h1 =>
   unfold kU at hp
   split at hp
   ·rename_i e; cases e
   ·rename_i e
    injection e with e
    injection e with e
    subst e
    split at hp
    ·rename_i hn
     obtain ⟨rfl,rfl⟩:=hn
     injection hp with hp
     subst hp
     exact ⟨none,0,0,rfl,Nat.le_refl _,by simp [maxLen],fun _ h=>by simp at h,fun _=>⟨rfl,rfl⟩,fun a ha=>by cases ha⟩
    ·cases hp
   ·rename_i e; cases e
   ·rename_i e; cases e
   ·cases hp
  | sl A n c k es' us hn hc hm hk hA hAc hcell hrep =>
   injection hp with hp
   subst hp
   refine ⟨A,c,k,by rw [hn],by omega,hm,hk,fun hA0=>⟨?_,hAc hA0⟩,fun a ha j d hj=>⟨us j,hcell a j d ha hj,hrep j d hj⟩⟩
   rcases es' with _ | ⟨e,es'⟩
   ·rfl
   ·obtain ⟨a,ha,_⟩:=hA (by rw [hn]; simp)
    rw [hA0] at ha
    cases ha
 | row t n A c e k es' hb hn hc _ hρ =>
  simp only [kU,hb] at hp
  split at hp
  ·rename_i hl
   injection hp with hp
   subst hp
   have hbx:=hi.box t _ hb
   have hr:=hρ hl
   cases hbx with
   | gn _ _ _ hg=>rw [hr] at hg; cases hg
   | rw _ _ _ xs hk0 ho hF hk hl' hrep =>
    rw [hr] at ho
    rcases ho.2 with ⟨h,h0⟩ | ⟨g,cap,cur,h,hb2,hh,hc2,hm,_⟩
    ·injection h with hA hn' hc'
     subst hA hc'
     rw [hl,hn']
     have:es' = []:=List.eq_nil_of_length_eq_zero h0
     subst this
     exact ⟨none,0,k,rfl,Nat.le_refl _,by simp [maxLen],fun _ h=>by simp at h,fun _=>⟨rfl,rfl⟩,fun a ha=>by cases ha⟩
    ·injection h with hA hn' hc'
     subst hA hc'
     have hz:jt ρ b w0.own w F t (.rw e k es'):=hi.box t _ hb
     obtain ⟨_,_,hcell⟩:=Dh hz hr
     refine ⟨_,c,k,by rw [hl],by omega,hm,hk,(fun h=>by cases h),fun a ha j d hj=>?_⟩
     injection ha with ha
     subst ha
     obtain ⟨u,h1,h2⟩:=hcell j d hj
     exact ⟨u,by rw [qG,Nat.zero_add]; exact h1,h2⟩
  ·cases hp
 | vw t n lo hi' A m c e k es' hb hn hl hh hm hρ =>
  simp only [kU,hb] at hp
  split at hp
  ·rename_i hln
   injection hp with hp
   subst hp
   obtain ⟨A',c',hr,hs⟩:=hρ hln
   have hbx:=hi.box t _ hb
   obtain ⟨A2,c2,e1,h1,h2,h3,_,h5⟩:=Kk hbx hr hl hh
   rw [e1] at hs
   injection hs with q1 q2 q3
   subst q1 q2 q3
   have hlen:((es'.drop lo).take (hi' - lo)).length=hi' - lo:=by simp; omega
   refine ⟨A,c,k,by rw [hlen,hm],by rw [hlen]; omega,h2,fun e he=>(xO hbx hr).2.2.2.1 e (List.mem_of_mem_drop (List.mem_of_mem_take he)),fun hA=>⟨List.eq_nil_of_length_eq_zero (by rw [hlen]; exact (h3 hA).1),(h3 hA).2⟩,h5⟩
  ·cases hp
theorem RH {x:Value} {p:PV} {n:Nat} (h:aL ρ b w F x p) (hp:NA p=some n) : ∃ A c,x = .slice A n c:=by
 cases h with
 | junk=>cases hp
 | ag=>cases hp
 | tup=>cases hp
 | ptr=>cases hp
 | re=>cases hp
 | fe=>cases hp
 | fn=>cases hp
 | row t n' A c e k es' hb hn hc _ hρ=>injection hp with hp; subst hp; exact ⟨A,c,rfl⟩
 | vw t n' lo hi A m c e k es' hb hn hl hh hm hρ=>injection hp with hp; subst hp; exact ⟨A,c,by rw [hm]⟩
 | d _ dd h =>
  cases h with
  | v _ h1 =>
   unfold NA at hp
   split at hp
   ·rename_i e; cases e
   ·rename_i e
    injection e with e
    injection e with e
    subst e
    injection hp with hp
    subst hp
    exact ⟨_,_,rfl⟩
   ·rename_i e; cases e
   ·rename_i e; cases e
   ·cases hp
  | sl A n' c k es' us hn hc hm hk hA _ hcell hrep =>
   injection hp with hp
   subst hp
   exact ⟨A,c,by rw [hn]⟩
end
end
section
def Aw:Nat→PV→PV→Option Bool
 | 0,.d (.v (.int k a)),.d (.v (.int k' b))=>if k=k' then some (a==b) else none
 | 1,.d (.v (.bool a)),.d (.v (.bool b))=>some (a==b)
 | 2,.d (.v (.string a)),.d (.v (.string b))=>some (a.toList==b.toList)
 | _,_,_=>none
def jU:List Nat→List PV→List PV→Option Bool
 | [],[],[]=>some true
 | k::ks,x::xs,y::ys=>match Aw k x y with
  | some a=>match jU ks xs ys with
   | some r=>some (a&&r)
   | none=>none
  | none=>none
 | _,_,_=>none
def DR (lf:TypeId→Option (List Nat)) (P:Program) : List Field→Nat→Option (List Nat)
 | [],_=>some []
 | f::fs,off=>match P.info? f.type,lf f.type with
  | some i,some l=>if f.name ≠ "_" ∧ f.offset=off∧l.length=i.size∧0 < i.size∧(P.underlying f.type).isSome=true then (DR lf P fs (off + i.size)).map (l ++ ·) else none
  | _,_=>none
def DQ (P:Program) : Nat→TypeId→Option (List Nat)
 | 0,_=>none
 | d + 1,t=>match P.underlying t with
  | some (.int _)=>some [0]
  | some .bool=>some [1]
  | some .string=>some [2]
  | some (.struct fs)=>if P.stoodInHeld t then none else DR (DQ P d) P fs.toList 0
  | _=>none
def Yk (P:Program) (t:TypeId) : Option (List Nat):=if iP P t && !P.eqGuardType P.depth t then DQ P 6 t else none
section
variable {P:Program} {ρ : Nat→Value} {b:Nat→Option Box} {w:World} {F:Nat→Prop}
theorem Eh:∀ (k1 k2:List Nat) {xs ys:List PV} {r:Bool},jU (k1++k2) xs ys=some r→∃ a c,jU k1 (xs.take k1.length) (ys.take k1.length)=some a∧jU k2 (xs.drop k1.length) (ys.drop k1.length)=some c∧r=(a&&c)
 | [],k2,xs,ys,r,h=>⟨true,r,rfl,h,by simp⟩
 | k::k1,k2,xs,ys,r,h=>by
  match xs,ys,h with
  | x::xs,y::ys,h =>
   simp only [List.cons_append,jU] at h
   split at h
   ·rename_i a ha
    split at h
    ·rename_i r' hr
     injection h with h
     obtain ⟨a',c,h1,h2,h3⟩:=Eh k1 k2 hr
     exact ⟨a&&a',c,by simp [jU,ha,h1],by simpa using h2,by rw [← h,h3,Bool.and_assoc]⟩
    ·cases h
   ·cases h
  | [],[],h=>simp [jU] at h
  | [],_ :: _,h=>simp [jU] at h
  | _ :: _,[],h=>simp [jU] at h
def xE (P:Program) (t:TypeId) (xs:List Value) : Value:=if iP P t then .agg xs.toArray else xs.headD undef
theorem Du {t:TypeId} {u:TypeDesc} {i:TypeInfo} (hu:P.underlying t=some u) (hi:P.info? t=some i) (xs:Array Value) (off:Nat) (hfit:off + i.size≤xs.size) (h1:iP P t=false→i.size=1) : (part t xs off).run P w = .ok (xE P t ((xs.toList.drop off).take i.size)) w:=by
 have ha:(isAgg t).run P w = .ok (iP P t) w:=by
  unfold isAgg
  rw [Sem.run_bind,run_underlying hu w]
  unfold iP
  rw [hu]
  cases u <;> rfl
 unfold xE
 cases hb:iP P t with
 | true =>
  have e:(xs.extract off (off + i.size))=((xs.toList.drop off).take i.size).toArray:=by
   apply Array.ext'
   simp [Array.toList_extract,List.extract]
  simp [part,ha,hb,sizeOf,typeInfo,hi,e]
 | false =>
  have hs:=h1 hb
  have hlt:off < xs.size:=by omega
  have e:((xs.toList.drop off).take i.size).headD undef=xs[off]:=by
   rw [hs,List.drop_eq_getElem_cons (by simpa using hlt)]
   simp
  simp only [zf,if_false]
  rw [e]
  simp [part,ha,hb,hlt]
theorem K3:∀ (d D:Nat) (t:TypeId) (l:List Nat) (xs ys:List Value) (cs ds:List PV) (r:Bool),DQ P d t=some l→cz ρ b w F xs cs→cz ρ b w F ys ds→jU l cs ds=some r→(iP P t=false→xs.length=1) →
  (Op.equalIn (D + d) t (xE P t xs) (xE P t ys)).run P w = .ok r w
 | 0,_,_,_,_,_,_,_,_,h,_,_,_,_=>by cases h
 | d + 1,D,t,l,xs,ys,cs,ds,r,h,hx,hy,he,_=>by
  have one:∀ (k:Nat),l = [k]→∃ x y c e a,cs = [c]∧ds = [e]∧xs = [x]∧ys = [y]∧Aw k c e=some a∧r=a∧aL ρ b w F x c∧aL ρ b w F y e:=by
   rintro k rfl
   match cs,ds,he with
   | [],[],he=>simp [jU] at he
   | [],_ :: _,he=>simp [jU] at he
   | _ :: _,[],he=>simp [jU] at he
   | c::cs,e::ds,he =>
    simp only [jU] at he
    split at he
    ·rename_i a ha
     match cs,ds,he with
     | [],[],he =>
      simp [jU] at he
      have l1:=hx.len
      have l2:=hy.len
      match xs,ys,l1,l2 with
      | [x],[y],_,_=>exact ⟨x,y,c,e,a,rfl,rfl,rfl,rfl,ha,he.symm,hx.rep 0 x c rfl rfl,hy.rep 0 y e rfl rfl⟩
     | [],_ :: _,he=>simp [jU] at he
     | _ :: _,[],he=>simp [jU] at he
     | _ :: _,_ :: _,he=>simp [jU] at he
    ·cases he
  unfold DQ at h
  split at h
  ·rename_i k hu
   injection h with h
   obtain ⟨x,y,c,e,a,rfl,rfl,rfl,rfl,h1,rfl,h2,h3⟩:=one 0 h.symm
   have ha:iP P t=false:=by simp [iP,hu]
   unfold Aw at h1
   split at h1 <;> first
    | (split at h1
       ·rename_i hk; subst hk; injection h1 with h1; subst h1
        obtain rfl:=h2.vv.1
        obtain rfl:=h3.vv.1
        simp only [xE,ha]
        exact run_equalIn_int w (D + d) t _ k _ _ hu
       ·cases h1)
    | (exfalso; omega)
    | cases h1
  ·rename_i hu
   injection h with h
   obtain ⟨x,y,c,e,a,rfl,rfl,rfl,rfl,h1,rfl,h2,h3⟩:=one 1 h.symm
   have ha:iP P t=false:=by simp [iP,hu]
   unfold Aw at h1
   split at h1 <;> first
    | (injection h1 with h1; subst h1
       obtain rfl:=h2.vv.1
       obtain rfl:=h3.vv.1
       simp only [xE,ha]
       exact run_equalIn_bool' w (D + d) t _ _ hu)
    | (exfalso; omega)
    | cases h1
  ·rename_i hu
   injection h with h
   obtain ⟨x,y,c,e,a,rfl,rfl,rfl,rfl,h1,rfl,h2,h3⟩:=one 2 h.symm
   have ha:iP P t=false:=by simp [iP,hu]
   unfold Aw at h1
   split at h1 <;> first
    | (injection h1 with h1; subst h1
       obtain rfl:=h2.vv.1
       obtain rfl:=h3.vv.1
       simp only [xE,ha]
       exact run_equalIn_string w (D + d) t _ _ hu)
    | (exfalso; omega)
    | cases h1
  ·rename_i fs hu
   split at h
   ·cases h
   ·rename_i hst
    have ha:iP P t=true:=by simp [iP,hu]
    have hfo:P.fieldsOf t=fs:=by simp [Program.fieldsOf,hu]
    simp only [xE,ha,if_true]
    rw [show D + (d + 1)=(D + d) + 1 by omega,run_equalIn_agg w (D + d) t _ _ (by rw [hfo]; exact hu) (by simpa using hst),hfo]
    have key:∀ (fl:List Field) (off:Nat) (l:List Nat) (r:Bool),DR (DQ P d) P fl off=some l→jU l (cs.drop off) (ds.drop off)=some r→(Op.eqFields (D + d) xs.toArray ys.toArray fl).run P w = .ok r w:=by
     intro fl
     induction fl with
     | nil =>
      intro off l r h he
      simp only [DR] at h
      injection h with h
      subst h
      match cs.drop off,ds.drop off,he with
      | [],[],he=>simp [jU] at he; subst he; rfl
      | [],_ :: _,he=>simp [jU] at he
      | _ :: _,_,he=>simp [jU] at he
     | cons f fl ih =>
      intro off l r h he
      simp only [DR] at h
      split at h
      ·rename_i i lf hi hlf
       split at h
       ·rename_i hc
        obtain ⟨hn,hoff,hlen,hpos,hu2⟩:=hc
        rw [zm] at h
        obtain ⟨l2,h3,rfl⟩:=h
        obtain ⟨a,c,h4,h5,rfl⟩:=Eh lf l2 he
        obtain ⟨u,hu2⟩:=Option.isSome_iff_exists.1 hu2
        have e1:(cs.drop off).take lf.length=(cs.drop off).take i.size:=by rw [hlen]
        have hcl:∀ {k:List Nat} {x y:List PV} {a:Bool},jU k x y=some a→x.length=k.length∧y.length=k.length:=by
         intro k
         induction k with
         | nil =>
          intro x y a h
          match x,y,h with
          | [],[],_=>exact ⟨rfl,rfl⟩
          | [],_ :: _,h=>simp [jU] at h
          | _ :: _,_,h=>simp [jU] at h
         | cons k ks ihk =>
          intro x y a h
          match x,y,h with
          | x::xs,y::ys,h =>
           simp only [jU] at h
           split at h
           ·split at h
            ·rename_i h2
             have:=ihk h2
             simp [this.1,this.2]
            ·cases h
           ·cases h
          | [],_,h=>simp [jU] at h
          | _ :: _,[],h=>simp [jU] at h
        obtain ⟨c1,c2⟩:=hcl h4
        have hxl:=hx.len
        have hyl:=hy.len
        have s1:iP P f.type=false→i.size=1:=by
         intro hag
         rw [← hlen]
         cases d with
         | zero=>simp [DQ] at hlf
         | succ d' =>
          simp only [DQ,hu2] at hlf
          unfold iP at hag
          rw [hu2] at hag
          cases u <;> simp at hlf hag <;> first | (rw [← hlf]; rfl) | skip
        have p1:=Du (w:=w) hu2 hi xs.toArray off (by rw [List.length_take,List.length_drop] at c1 c2; simp; omega) s1
        have p2:=Du (w:=w) hu2 hi ys.toArray off (by rw [List.length_take,List.length_drop] at c1 c2; simp; omega) s1
        have ihd:=K3 d D f.type lf ((xs.drop off).take i.size) ((ys.drop off).take i.size) ((cs.drop off).take i.size) ((ds.drop off).take i.size) a hlf ((hx.drop off).take _) ((hy.drop off).take _) (by rw [hlen] at h4; exact h4) (fun hag=>by
         have:=s1 hag
         simp at c1 c2 ⊢
         omega)
        have ihr:=ih (off + i.size) l2 c h3 (by rw [hlen,List.drop_drop,List.drop_drop] at h5; exact h5)
        simp only [Op.eqFields]
        rw [if_pos hn,hoff]
        simp only [Sem.run_bind,p1,p2,Result.andThen_ok]
        rw [show (xs.toArray.toList.drop off).take i.size=(xs.drop off).take i.size by simp,show (ys.toArray.toList.drop off).take i.size=(ys.drop off).take i.size by simp,ihd]
        cases a
        ·simp
        ·simpa using ihr
       ·cases h
      ·cases h
    exact key fs.toList 0 l r h (by simpa using he)
  ·cases h
end
end
section
def asI:PV→Option (IntKind×Int) | .d (.v (.int k n))=>some (k,n) | _=>none
def asB:PV→Option Bool | .d (.v (.bool t))=>some t | _=>none
def asS:PV→Option ByteArray | .d (.v (.string t))=>some t | _=>none
def yw (op:BinOp) (k:IntKind) (x y:Int) : Option PV :=
 match op with
 | .add=>some (.d (.v (.int k (k.wrap (x + y)))))
 | .sub=>some (.d (.v (.int k (k.wrap (x - y)))))
 | .mul=>some (.d (.v (.int k (k.wrap (x * y)))))
 | .quo=>if y=0 then none else some (.d (.v (.int k (k.wrap (x.tdiv y)))))
 | .rem=>if y=0 then none else some (.d (.v (.int k (x.tmod y))))
 | .eql=>some (.d (.v (.bool (x==y))))
 | .neq=>some (.d (.v (.bool (x != y))))
 | .lss=>some (.d (.v (.bool (decide (x < y)))))
 | .leq=>some (.d (.v (.bool (decide (x≤y)))))
 | .gtr=>some (.d (.v (.bool (decide (x > y)))))
 | .geq=>some (.d (.v (.bool (decide (x≥y)))))
 | .and=>some (.d (.v (.int k (bits .and k x y))))
 | .or=>some (.d (.v (.int k (bits .or k x y))))
 | .xor=>some (.d (.v (.int k (bits .xor k x y))))
 | _=>none
def rX (op:BinOp) (k:IntKind) (x y:Int) : Option PV :=
 if y < 0 then none else match op with
 | .shl=>some (.d (.v (.int k (k.wrap (x * 2 ^ (min y.toNat k.bits))))))
 | .shr=>some (.d (.v (.int k (x.fdiv (2 ^ (min y.toNat k.bits))))))
 | _=>none
def IX:BinOp→Bool | .shl=>true | .shr=>true | _=>false
def Kt (op:BinOp) (x y:ByteArray) : Option PV :=
 match op with
 | .add=>if x.size + y.size≤9223372036854775807 then some (.d (.v (.string (x++y)))) else none
 | .eql=>some (.d (.v (.bool (x.toList==y.toList))))
 | .neq=>some (.d (.v (.bool (!(x.toList==y.toList)))))
 | .lss=>some (.d (.v (.bool (Op.bytesLess x.toList y.toList))))
 | .leq=>some (.d (.v (.bool (Op.bytesLess x.toList y.toList||x.toList==y.toList))))
 | .gtr=>some (.d (.v (.bool (!(Op.bytesLess x.toList y.toList||x.toList==y.toList)))))
 | .geq=>some (.d (.v (.bool (!Op.bytesLess x.toList y.toList))))
 | _=>none
def qC (op:BinOp) (x y:Bool) : Option PV :=
 match op with
 | .eql=>some (.d (.v (.bool (x==y))))
 | .neq=>some (.d (.v (.bool (!(x==y)))))
 | _=>none
def I6 (P:Program) (op:BinOp) (t:TypeId) (p q:PV) : Option PV :=
 match p,q,Yk P t with
 | .ag xs,.ag ys,some l=>match jU l xs ys with
  | some r=>qC op r true
  | none=>none
 | _,_,_=>none
def su (P:Program) (op:BinOp) (t:TypeId) (p q:PV) : Option PV :=
 match asI p,asI q with
 | some (k,x),some (k',y)=>if IX op then rX op k x y else if k=k' then yw op k x y else none
 | _,_=>match asS p,asS q with
  | some x,some y=>Kt op x y
  | _,_=>match asB p,asB q,P.underlying t with
   | some x,some y,some .bool=>qC op x y
   | _,_,_=>I6 P op t p q
def QM (op:UnOp) (p:PV) : Option PV :=
 match op with
 | .not=>(asB p).map fun x=>.d (.v (.bool (!x)))
 | .neg=>(asI p).map fun (k,x)=>.d (.v (.int k (k.wrap (0 - x))))
 | _=>none
def sr (P:Program) (src dst:TypeId) (p:PV) : Option PV :=
 match P.underlying src,P.underlying dst with
 | some _,some (.int k)=>(asI p).map fun (_,x)=>.d (.v (.int k (k.wrap x)))
 | some _,some .string=>(asS p).map fun x=>.d (.v (.string x))
 | _,_=>none
def gR (P:Program) (t:TypeId) (p:PV) (f:Nat) : Option PV :=
 match (Ar P t)[f]? with
 | some (off,size,_)=>if size=0 then none else match p with
  | .ptr t o=>some (.ptr t (o + off))
  | .fe cs=>some (.fe (cs.drop off))
  | .re t n i o=>some (.re t n i (o + off))
  | _=>none
 | none=>none
def ua (P:Program) (t:TypeId) (p:PV) (f:Nat) : Option PV :=
 match (Ar P t)[f]?,p with
 | some (off,size,agg),.ag cs=>Bp size agg (cs.drop off)
 | _,_=>none
def qp (P:Program) (b:Nat→Option Box) (t:TypeId) (p:PV) : Option PV :=
 match mh P t,uj b p with
 | some i,some cl=>Bp i.size i.agg cl
 | _,_=>none
def eg (P:Program) (b:Nat→Option Box) (t:TypeId) (p q:PV) : Option PV :=
 match P.underlying t,asI q with
 | some (.slice e),some (_,i)=>match mh P e with
  | some ie=>if 0≤i then match p with
   | .d (.sl es)=>match es[i.toNat]? with
    | some el=>if el.length=ie.size then some (.fe el) else none
    | none=>none
   | .row t n=>match b t with
    | some (.rw _ k _)=>if k=ie.size∧i.toNat < n then some (.re t n i.toNat 0) else none
    | _=>none
   | _=>none
   else none
  | none=>none
 | _,_=>none
def sp (p:PV) (i:Nat) : Option PV:=match p with | .tup vs=>vs[i]? | _=>none
def tZ (P:Program) (t:TypeId) (p:PV) : Option PV :=
 match P.underlying t with
 | some (.slice _)=>(NA p).map fun (n:Nat)=>.d (.v (.int .i64 (n:Int)))
 | some .string=>(asS p).map fun x=>.d (.v (.int .i64 x.size))
 | _=>none
section
variable {P:Program} {ρ ρ':Nat→Value} {b b':Nat→Option Box} {w w':World} {w0:WM} {F F' F0:Nat→Prop}
theorem d5 {x:Value} {p:PV} {k:IntKind} {n:Int} (h:aL ρ b w F x p) (hp:asI p=some (k,n)) : x = .int k n:=by
 unfold asI at hp
 split at hp
 ·injection hp with hp; injection hp with h1 h2; subst h1 h2; exact h.int
 ·cases hp
theorem rz {x:Value} {p:PV} {t:Bool} (h:aL ρ b w F x p) (hp:asB p=some t) : x = .bool t:=by
 unfold asB at hp
 split at hp
 ·injection hp with hp; subst hp; exact h.vv.1
 ·cases hp
theorem ry {x:Value} {p:PV} {t:ByteArray} (h:aL ρ b w F x p) (hp:asS p=some t) : x = .string t:=by
 unfold asS at hp
 split at hp
 ·injection hp with hp; subst hp; exact h.vv.1
 ·cases hp
theorem BB (op:BinOp) (t:TypeId) (x y:Operand) (k k':IntKind) (m n:Int) (w:World) : (eqGuard op t x y (.int k m) (.int k' n)).run P w = .ok () w:=by
 unfold eqGuard; cases op <;> rfl
theorem Ln (op:BinOp) (t:TypeId) (x y:Operand) (m n:ByteArray) (w:World) : (eqGuard op t x y (.string m) (.string n)).run P w = .ok () w:=by
 unfold eqGuard; cases op <;> rfl
theorem I3 (op:BinOp) (t:TypeId) (x y:Operand) (m n:Bool) (w:World) : (eqGuard op t x y (.bool m) (.bool n)).run P w = .ok () w:=by
 unfold eqGuard; cases op <;> rfl
theorem Rl {op:BinOp} {t:TypeId} {k:IntKind} {x y:Int} {r:PV} (h:yw op k x y=some r) : ∃ v,r = .d (.v v)∧v.oneCell' = true∧(binOp op t (.int k x) (.int k y)).run P w = .ok v w:=by
 cases op <;> simp only [yw] at h <;> first
  | (cases h; done)
  | (injection h with h; subst h; refine ⟨_,rfl,rfl,?_⟩; simp [binOp,Op.intArith,Op.intCmp]; done)
  | (injection h with h; subst h; refine ⟨_,rfl,rfl,?_⟩; simp [binOp,intBits_and,intBits_or,intBits_xor]; done)
  | (split at h
     ·cases h
     ·rename_i hy; injection h with h; subst h; refine ⟨_,rfl,rfl,?_⟩; simp [binOp,Op.intDiv,hy]; done)
theorem Rj {op:BinOp} {t:TypeId} {k k':IntKind} {x y:Int} {r:PV} (h:rX op k x y=some r) : ∃ v,r = .d (.v v)∧v.oneCell' = true∧(binOp op t (.int k x) (.int k' y)).run P w = .ok v w:=by
 unfold rX at h
 split at h
 ·cases h
 ·rename_i hy
  cases op <;> simp only at h <;> first
   | (cases h; done)
   | (injection h with h; subst h; refine ⟨_,rfl,rfl,?_⟩; simp [binOp,Op.shift,hy])
theorem Ri {op:BinOp} {t:TypeId} {x y:ByteArray} {r:PV} (h:Kt op x y=some r) : ∃ v,r = .d (.v v)∧v.oneCell' = true∧(binOp op t (.string x) (.string y)).run P w = .ok v w:=by
 cases op <;> simp only [Kt] at h <;> first
  | (cases h; done)
  | (injection h with h; subst h; refine ⟨_,rfl,rfl,?_⟩; simp [binOp,Op.stringOp]; done)
  | (split at h
     ·rename_i hs
      injection h with h; subst h; refine ⟨_,rfl,rfl,?_⟩
      have e:IntKind.i64.max=9223372036854775807:=by decide
      have:(x.size:Int) + (y.size:Int)≤9223372036854775807:=by omega
      simp [binOp,Op.stringOp,e,this]
     ·cases h)
theorem Nj {op:BinOp} {t:TypeId} (ht:P.underlying t=some .bool) {x y:Bool} {r:PV} (h:qC op x y=some r) : ∃ v,r = .d (.v v)∧v.oneCell' = true∧(binOp op t (.bool x) (.bool y)).run P w = .ok v w:=by
 cases op <;> simp only [qC] at h <;> first
  | (cases h; done)
  | (injection h with h; subst h; refine ⟨_,rfl,rfl,?_⟩; simp [binOp,run_equal_bool w t x y ht]; done)
theorem R6 {op:BinOp} {t:TypeId} {xv yv:Value} {p q r:PV} (hx:aL ρ b w F xv p) (hy:aL ρ b w F yv q) (h:I6 P op t p q=some r) :
  ∃ v xs ys,xv = .agg xs∧yv = .agg ys∧r = .d (.v v)∧v.oneCell' = true∧(binOp op t (.agg xs) (.agg ys)).run P w = .ok v w∧P.eqGuardType P.depth t=false:=by
 unfold I6 at h
 split at h
 ·rename_i cs ds l hl
  split at h
  ·rename_i e he
   cases hx with
   | ag xs _ hlx h1x hrx =>
    cases hy with
    | ag ys _ hly h1y hry =>
     unfold Yk at hl
     split at hl
     ·rename_i hc
      simp only [Bool.and_eq_true,Bool.not_eq_true'] at hc
      have hX:cz ρ b w F xs.toList cs:=⟨by simpa using hlx,fun j x c h2 h3=>hrx j x c (by simpa using h2) h3⟩
      have hY:cz ρ b w F ys.toList ds:=⟨by simpa using hly,fun j x c h2 h3=>hry j x c (by simpa using h2) h3⟩
      have hk:=K3 6 9994 t l xs.toList ys.toList cs ds e hl hX hY he (fun h=>by rw [hc.1] at h; cases h)
      simp only [xE,hc.1,if_true,Array.toArray_toList] at hk
      have heq:(Op.equal t (.agg xs) (.agg ys)).run P w = .ok e w:=hk
      cases op <;> simp only [qC] at h <;> first
       | (cases h; done)
       | (injection h with h; subst h; refine ⟨_,xs,ys,rfl,rfl,rfl,rfl,?_,hc.2⟩; simp [binOp,heq]; done)
     ·cases hl
  ·cases h
 ·cases h
theorem R8 {op:BinOp} {t:TypeId} {x y:Operand} {xv yv:Value} {p q r:PV} (hx:aL ρ b w F xv p) (hy:aL ρ b w F yv q) (h:su P op t p q=some r) :
  ∃ v,aL ρ b w F v r∧(do eqGuard op t x y xv yv; binOp op t xv yv:Sem Value).run P w = .ok v w:=by
 have fin:∀ {v:Value},r = .d (.v v)→v.oneCell' = true→(eqGuard op t x y xv yv).run P w = .ok () w→(binOp op t xv yv).run P w = .ok v w→∃ v,aL ρ b w F v r∧(do eqGuard op t x y xv yv; binOp op t xv yv:Sem Value).run P w = .ok v w:=by
  rintro v rfl h1 h2 h3
  exact ⟨v,.lit h1,by simp [Sem.run_bind,h2,h3]⟩
 unfold su at h
 split at h
 ·rename_i k m k' n h1 h2
  split at h
  ·obtain rfl:=d5 hx h1
   obtain rfl:=d5 hy h2
   obtain ⟨v,h3,h4,h5⟩:=Rj (P:=P) (w:=w) (t:=t) (k':=k') h
   exact fin h3 h4 (BB _ _ _ _ _ _ _ _ _) h5
  split at h
  ·rename_i hk
   subst hk
   obtain rfl:=d5 hx h1
   obtain rfl:=d5 hy h2
   obtain ⟨v,h3,h4,h5⟩:=Rl (P:=P) (w:=w) (t:=t) h
   exact fin h3 h4 (BB _ _ _ _ _ _ _ _ _) h5
  ·cases h
 ·split at h
  ·rename_i m n h1 h2
   obtain rfl:=ry hx h1
   obtain rfl:=ry hy h2
   obtain ⟨v,h3,h4,h5⟩:=Ri (P:=P) (w:=w) (t:=t) h
   exact fin h3 h4 (Ln _ _ _ _ _ _ _) h5
  ·split at h
   ·rename_i m n h1 h2 h3
    obtain rfl:=rz hx h1
    obtain rfl:=rz hy h2
    obtain ⟨v,h3,h4,h5⟩:=Nj (P:=P) (w:=w) h3 h
    exact fin h3 h4 (I3 _ _ _ _ _ _ _) h5
   ·obtain ⟨v,xs,ys,rfl,rfl,h3,h4,h5,h6⟩:=R6 (w:=w) hx hy h
    exact fin h3 h4 (run_eqGuard_agg w op t x y xs ys h6) h5
theorem UT {op:UnOp} {xv:Value} {p r:PV} (hx:aL ρ b w F xv p) (h:QM op p=some r) : ∃ v,aL ρ b w F v r∧(Op.unary op xv).run P w = .ok v w:=by
 unfold QM at h
 split at h
 ·rw [zm] at h
  obtain ⟨t,h1,rfl⟩:=h
  obtain rfl:=rz hx h1
  exact ⟨_,.lit rfl,by simp [Op.unary]⟩
 ·rw [zm] at h
  obtain ⟨⟨k,n⟩,h1,rfl⟩:=h
  obtain rfl:=d5 hx h1
  exact ⟨_,.lit rfl,by simp [Op.unary,Op.intArith]⟩
 ·cases h
theorem NT {src dst:TypeId} {xv:Value} {p r:PV} (hx:aL ρ b w F xv p) (h:sr P src dst p=some r) : ∃ v,aL ρ b w F v r∧(convert src dst xv).run P w = .ok v w:=by
 unfold sr at h
 split at h
 ·rename_i u k hu hk
  rw [zm] at h
  obtain ⟨⟨k',n⟩,h1,rfl⟩:=h
  obtain rfl:=d5 hx h1
  refine ⟨_,.lit rfl,?_⟩
  simp [convert,run_underlying hu,run_underlying hk,Conv.intToInt]
 ·rename_i u hu hk
  rw [zm] at h
  obtain ⟨n,h1,rfl⟩:=h
  obtain rfl:=ry hx h1
  refine ⟨_,.lit rfl,?_⟩
  simp [convert,run_underlying hu,run_underlying hk]
 ·cases h
theorem Bz {t:TypeId} {f off size:Nat} {agg:Bool} (h:(Ar P t)[f]? = some (off,size,agg)) : ∃ fs fd j,P.underlying t=some (.struct fs)∧fs[f]? = some fd∧fd.offset=off∧P.info? fd.type=some j∧j.size=size∧iP P fd.type=agg∧∃ u,P.underlying fd.type=some u:=by
 unfold Ar Lh at h
 split at h
 ·rename_i fs hu
  refine ⟨fs,?_⟩
  cases hm:fs.toList.mapM (tV P) with
  | none=>simp [hm] at h
  | some l =>
   rw [hm] at h
   simp only [Option.getD_some] at h
   have key:∀ (l1:List Field) (l2:List (Nat×Nat×Bool)),l1.mapM (tV P)=some l2→∀ (f:Nat) (x:Nat×Nat×Bool),l2[f]? = some x→∃ fd,l1[f]? = some fd∧tV P fd=some x:=by
    intro l1
    induction l1 with
    | nil=>intro l2 h f x hx; simp at h; subst h; simp at hx
    | cons a l1 ih =>
     intro l2 h f x hx
     simp only [List.mapM_cons,Option.bind_eq_bind,Option.pure_def] at h
     cases ha:tV P a with
     | none=>simp [ha] at h
     | some y =>
      cases hr:l1.mapM (tV P) with
      | none=>simp [ha,hr] at h
      | some rest =>
       simp [ha,hr] at h
       subst h
       cases f with
       | zero=>simp at hx; subst hx; exact ⟨a,rfl,ha⟩
       | succ f=>simp at hx; simpa using ih rest hr f x hx
   obtain ⟨fd,h1,h2⟩:=key _ _ hm f _ h
   unfold tV at h2
   cases hj:P.info? fd.type with
   | none=>simp [hj] at h2
   | some j =>
    simp only [hj] at h2
    split at h2
    ·rename_i hu2
     simp only [Option.some.injEq,Prod.mk.injEq] at h2
     exact ⟨fd,j,hu,by rw [← Array.getElem?_toList]; exact h1,h2.1,hj,h2.2.1,h2.2.2,Option.isSome_iff_exists.1 hu2⟩
    ·cases h2
 ·simp at h
theorem Cb {t:TypeId} {f:Nat} {xv:Value} {p r:PV} (hx:aL ρ b w F xv p) (h:gR P t p f=some r) : ∃ v,aL ρ b w F v r∧(Instr.fieldAt t xv f).run P w = .ok v w:=by
 unfold gR at h
 split at h
 ·rename_i off size agg hf
  obtain ⟨fs,fd,j,hu,hfd,rfl,hj,rfl,_,_⟩:=Bz hf
  split at h
  ·cases h
  ·rename_i hs
   have run:∀ a:Addr,(Instr.fieldAt t (.pointer (some a)) f).run P w = .ok (.pointer (some (a.add fd.offset))) w:=by
    intro a
    simp [Instr.fieldAt,run_underlying hu,hfd,Instr.sureAddr,fieldPlace,sizeOf,typeInfo,hj,hs]
   split at h
   ·injection h with h
    subst h
    cases hx with
    | ptr _ _ g ty cs hb hρ =>
     exact ⟨_,.ptr _ _ g ty cs hb hρ,by rw [run,qG]⟩
   ·injection h with h
    subst h
    cases hx with
    | fe a cs us hF hcell hrep =>
     refine ⟨_,.fe (a.add fd.offset) _ (fun j=>us (fd.offset + j)) (by rw [db]; exact hF) (fun j d hj=>?_) (fun j d hj=>?_),by rw [run]⟩
     ·rw [List.getElem?_drop] at hj
      rw [Go.Deep.add_add]
      exact hcell _ d hj
     ·rw [List.getElem?_drop] at hj
      exact hrep _ d hj
   ·injection h with h
    subst h
    cases hx with
    | re _ _ _ _ a e k es hb hn hi hρ =>
     refine ⟨_,.re _ _ _ _ (a.add fd.offset) e k es hb hn hi (fun h=>?_),by rw [run]⟩
     obtain ⟨g,c,h1,h2⟩:=hρ h
     exact ⟨g,c,h1,by rw [h2,qG,Nat.add_assoc]⟩
   ·cases h
 ·cases h
theorem oW {t:TypeId} {u:TypeDesc} (hu:P.underlying t=some u) : (isAgg t).run P w = .ok (iP P t) w:=by
 unfold isAgg
 rw [Sem.run_bind,run_underlying hu w]
 unfold iP
 rw [hu]
 cases u <;> rfl
theorem z8 {size:Nat} {agg:Bool} {xs:List Value} {cl:List PV} {r:PV} (hr:cz ρ b w F xs cl) (h1:∀ x∈xs,x.oneCell' = true) (h:Bp size agg cl=some r) :
  (agg=true∧size≤xs.length∧aL ρ b w F (.agg (xs.take size).toArray) r)∨(agg=false∧∃ x,xs[0]? = some x∧aL ρ b w F x r):=by
 unfold Bp at h
 split at h
 ·rename_i ha
  split at h
  ·rename_i hs
   injection h with h
   subst h
   have ht:=hr.take size
   refine .inl ⟨ha,by rw [hr.len]; exact hs,.ag _ _ (by simpa using ht.len) (fun x hx=>h1 x (List.mem_of_mem_take (by simpa using hx))) (fun j x c h2 h3=>ht.rep j x c (by simpa using h2) h3)⟩
  ·cases h
 ·rename_i ha
  cases cl with
  | nil=>cases h
  | cons c cl =>
   injection h with h
   subst h
   cases xs with
   | nil=>have:=hr.len; simp at this
   | cons x xs=>exact .inr ⟨by simpa using ha,x,rfl,hr.rep 0 x c rfl rfl⟩
theorem Ly {t:TypeId} {f:Nat} {xv:Value} {p r:PV} (hx:aL ρ b w F xv p) (h:ua P t p f=some r) : ∃ v,aL ρ b w F v r∧(Instr.field t xv f).run P w = .ok v w:=by
 unfold ua at h
 split at h
 ·rename_i off size agg cs hf
  obtain ⟨fs,fd,j,hu,hfd,rfl,hj,rfl,ha,u,hu2⟩:=Bz hf
  cases hx with
  | ag xs _ hl h1 hr =>
   have R:cz ρ b w F xs.toList cs:=⟨by simpa using hl,fun j x c h2 h3=>hr j x c (by simpa using h2) h3⟩
   have hp:=z8 (R.drop fd.offset) (fun x hx=>h1 x (by simpa using List.mem_of_mem_drop hx)) h
   have key:∀ u,P.underlying fd.type=some u→∃ v,aL ρ b w F v r∧(Instr.field t (.agg xs) f).run P w = .ok v w:=by
    intro u hu2
    rcases hp with ⟨h2,h3,h4⟩ | ⟨h2,x,h3,h4⟩
    ·refine ⟨_,h4,?_⟩
     have e:(xs.extract fd.offset (fd.offset + j.size))=((xs.toList.drop fd.offset).take j.size).toArray:=by
      apply Array.ext'
      simp [Array.toList_extract,List.extract]
     simp [Instr.field,run_underlying hu,hfd,asAgg,part,oW hu2,ha,h2,sizeOf,typeInfo,hj,e]
    ·refine ⟨x,h4,?_⟩
     rw [List.getElem?_drop,Nat.add_zero,Array.getElem?_toList] at h3
     simp [Instr.field,run_underlying hu,hfd,asAgg,part,oW hu2,ha,h2,h3]
   exact key u hu2
 ·cases h
theorem Es {t:TypeId} {xv:Value} {p r:PV} (hi:Inv w0 F0 ρ b w F) (hx:aL ρ b w F xv p) (h:qp P b t p=some r) : ∃ v,aL ρ b w F v r∧(Instr.loadAt t xv).run P w = .ok v w:=by
 unfold qp at h
 split at h
 ·rename_i i cl hi' hcl
  obtain ⟨j,z,u,hj,hz,hu,hzs,hs,hby,ha,_,_⟩:=di hi'
  obtain ⟨a,rfl,us,hR,hc,h1⟩:=BI hi hx hcl
  rcases z8 hR h1 h with ⟨h2,h3,h4⟩ | ⟨h2,x,h3,h4⟩
  ·refine ⟨_,h4,?_⟩
   have hl:=run_loadCells_list (P:=P) w a (us.take i.size) (fun j v hv=>by
    rw [List.getElem?_take] at hv
    split at hv
    ·exact hc j v hv
    ·cases hv)
   rw [List.length_take,Nat.min_eq_left h3] at hl
   simp [Instr.loadAt,Instr.sureAddr,loadVar,oW hu,← ha,h2,sizeOf,typeInfo,hj,hs,hl]
  ·refine ⟨x,h4,?_⟩
   have:=hc 0 x h3
   have e:a.add 0=a:=by simp [Addr.add]
   rw [e] at this
   simp [Instr.loadAt,Instr.sureAddr,loadVar,oW hu,← ha,h2,load,Sem.run,this]
 ·cases h
theorem yn {t e:TypeId} (h:P.underlying t=some (.slice e)) : P.elem t=e:=by unfold Program.elem; simp [h]
theorem Ca {t:TypeId} {xv yv:Value} {p q r:PV} (hi:Inv w0 F0 ρ b w F) (hx:aL ρ b w F xv p) (hy:aL ρ b w F yv q) (h:eg P b t p q=some r) : ∃ v,aL ρ b w F v r∧(Instr.indexAt t xv yv).run P w = .ok v w:=by
 unfold eg at h
 split at h
 ·rename_i e k i hu hq
  obtain rfl:=d5 hy hq
  split at h
  ·rename_i ie hie
   obtain ⟨j,z,u,hj,hz,hu2,hzs,hs,hby,ha,_,_⟩:=di hie
   split at h
   ·rename_i h0
    have run:∀ (a:Addr) (n c:Nat),i.toNat < n→(Instr.indexAt t (.slice (some a) n c) (.int k i)).run P w = .ok (.pointer (some (a.add (i.toNat * ie.size)))) w:=by
     intro a n c hlt
     rw [run_indexAt_slice w t a n c k i (by rw [yn hu]; exact hu),if_pos ⟨h0,by omega⟩,yn hu]
     simp [sizeOf,typeInfo,hj,hs,Result.andThen]
    split at h
    ·rename_i es
     split at h
     ·rename_i el hel
      split at h
      ·rename_i hlen
       injection h with h
       subst h
       cases hx with
       | d _ _ hd =>
        cases hd with
        | sl A n c k' _ us hn hc hm hk hA _ hcell hrep =>
         have hlt:i.toNat < n:=by rw [hn]; exact (zg.1 hel).1
         obtain ⟨a,rfl,hFa⟩:=hA (by omega)
         have hk':k' = ie.size:=by rw [← hlen]; exact (hk el (List.mem_of_getElem? hel)).symm
         refine ⟨_,.fe (a.add (i.toNat * ie.size)) el (fun j=>us (i.toNat * ie.size + j)) (by rw [db]; exact hFa) (fun j d hd=>?_) (fun j d hd=>?_),run a n c hlt⟩
         all_goals
          have hj':j < ie.size:=by have:=(zg.1 hd).1; omega
          have hfl:=yj ie.size es (fun e he=>by rw [hk e he,hk']) i.toNat el hel j hj'
          rw [hd] at hfl
         ·rw [Go.Deep.add_add]
          exact hcell a _ d rfl hfl
         ·exact hrep _ d hfl
      ·cases h
     ·cases h
    ·rename_i t' n
     split at h
     ·rename_i e' k' es' hbx
      split at h
      ·rename_i hc
       obtain ⟨rfl,hlt⟩:=hc
       injection h with h
       subst h
       cases hx with
       | row _ _ A c e2 k2 es2 hb hn hc hA hρ =>
        rw [hbx] at hb
        injection hb with hb
        injection hb with e1 e2 e3
        subst e1 e2 e3
        obtain ⟨a,rfl⟩:=hA (by omega)
        refine ⟨_,.re _ _ _ _ (a.add (i.toNat * ie.size)) _ _ _ hbx hn hlt (fun hl=>?_),run a n c hlt⟩
        have hr:=hρ hl
        cases hi.box _ _ hbx with
        | gn _ _ _ hg=>rw [hr] at hg; cases hg
        | rw _ _ _ xs hk0 ho hF hk hl' hrep =>
         rw [hr] at ho
         rcases ho.2 with ⟨h,_⟩ | ⟨g,cap,cur,h,_⟩
         ·cases h
         ·injection h with h _ _
          injection h with h
          subst h
          exact ⟨g,c,hr,by rw [qG,Nat.zero_add,Nat.add_zero]⟩
      ·cases h
     ·cases h
    ·cases h
   ·cases h
  ·cases h
 ·cases h
theorem F5 {i:Nat} {xv:Value} {p r:PV} (hx:aL ρ b w F xv p) (h:sp p i=some r) : ∃ v,aL ρ b w F v r∧(Instr.extract xv i).run P w = .ok v w:=by
 unfold sp at h
 split at h
 ·rename_i vs
  cases hx with
  | tup xs _ hl hr =>
   have hlt:i < xs.size:=by rw [hl]; exact (zg.1 h).1
   exact ⟨xs[i],hr i _ _ (by simp [hlt]) h,by simp [Instr.extract,hlt]⟩
 ·cases h
theorem R4 {t ty:TypeId} {xv:Value} {p r:PV} (hx:aL ρ b w F xv p) (h:tZ P t p=some r) : ∃ v,aL ρ b w F v r∧(Builtin.len_ #[t] ty #[xv]).run P w = .ok v w:=by
 unfold tZ at h
 split at h
 ·rename_i e hu
  rw [zm] at h
  obtain ⟨n,h1,rfl⟩:=h
  obtain ⟨A,c,rfl⟩:=RH hx h1
  exact ⟨_,.lit rfl,by simp [Builtin.len_,run_underlying hu,goInt]⟩
 ·rename_i hu
  rw [zm] at h
  obtain ⟨n,h1,rfl⟩:=h
  obtain rfl:=ry hx h1
  exact ⟨_,.lit rfl,by simp [Builtin.len_,run_underlying hu,goInt]⟩
 ·cases h
end
end
section
def wS (k:Nat) (es:List (List D)) : Prop:=∀ e∈es,e.length=k
instance (k:Nat) (es:List (List D)) : Decidable (wS k es):=inferInstanceAs (Decidable (∀ e∈es,e.length=k))
def small (n b:Nat) : Prop:=n * b≤140737488355328
instance (n b:Nat) : Decidable (small n b):=inferInstanceAs (Decidable (n * b≤140737488355328))
def toD:PV→Option D | .d x=>some (nrm x) | _=>none
def rt (k:Nat) : Nat→List D→List (List D)
 | 0,_=>[]
 | n + 1,l=>l.take k::rt k n (l.drop k)
def Ef (place:Nat→Option (Nat×Nat)) : List PV→List (Nat×PV)→Option (List PV)
 | cs,[]=>some cs
 | cs,(i,p)::rest=>match place i,AF p with
  | some (off,size),some ns=>if ns.length=size∧off + ns.length≤cs.length then Ef place (splice cs off ns) rest else none
  | _,_=>none
def pa (i:TI) : List PV:=i.zero.map fun x=>.d (.v x)
def ub (P:Program) (b:Nat→Option Box) (dst:Option Nat) (e:TypeId) : Option (PV×Option (Nat×Box)) :=
 match dst,mh P e with
 | some t,some i=>match b t with
  | none=>some (.ptr t 0,some (t,.st e (pa i)))
  | some _=>none
 | _,_=>none
def Ex (b:Nat→Option Box) (dst:Option Nat) (e:TypeId) (p:PV) : Option (PV×Option (Nat×Box)) :=
 match dst,AF p with
 | some t,some cs=>match b t with
  | none=>some (.ptr t 0,some (t,.st e cs))
  | some _=>none
 | _,_=>none
def XW (P:Program) (t:TypeId) : Option (Nat→Option (Nat×Nat)):=match P.underlying t with
 | some (.array _ e)=>(mh P e).map fun i j=>some (j * i.size,i.size)
 | _=>(Lh P t).map fun fl j=>(fl[j]?).map fun x=>(x.1,x.2.1)
def yo (P:Program) (t:TypeId) (parts:List (Nat×PV)) : Option PV :=
 match mh P t,XW P t with
 | some i,some pl=>(Ef pl (pa i) parts).map .ag
 | _,_=>none
def iC (P:Program) (b:Nat→Option Box) (dst:Option Nat) (t:TypeId) (len:Nat) (parts:List (Nat×PV)) : Option (PV×Option (Nat×Box)) :=
 match dst,P.underlying t with
 | some d,some (.slice e)=>match mh P e,b d with
  | some i,none=>if 0 < i.size∧len≤1000∧len * i.size≤16777216 then
    match Ef (fun j=>some (j * i.size,i.size)) (List.replicate len (pa i)).flatten parts with
    | some cs=>match cs.mapM toD with
     | some ds=>some (.row d len,some (d,.rw e i.size (rt i.size len ds)))
     | none=>none
    | none=>none
   else none
  | _,_=>none
 | _,_=>none
def lw (P:Program) (b:Nat→Option Box) (t:TypeId) (p q:PV) : Option (Nat×Box) :=
 match mh P t,AF q with
 | some i,some ns=>match p with
  | .ptr x off=>match b x with
   | some (.st ty cs)=>if ns.length=i.size∧off + ns.length≤cs.length then some (x,.st ty (splice cs off ns)) else none
   | _=>none
  | .re x n j off=>match b x,ns.mapM toD with
   | some (.rw e k es),some ds=>match es[j]? with
    | some el=>if es.length=n∧ds.length=i.size∧off + ds.length≤el.length then some (x,.rw e k (es.set j (splice el off ds))) else none
    | none=>none
   | _,_=>none
  | _=>none
 | _,_=>none
def jx (P:Program) (b:Nat→Option Box) (dst:Option Nat) (t:TypeId) (p q:PV) : Option (PV×Option (Nat×Box)) :=
 match P.underlying t,kU b q with
 | some (.slice e),some es2=>match mh P e with
  | some i=>if 0 < i.size∧0 < i.bytes∧wS i.size es2 then
    match p with
    | .row x n=>match b x with
     | some (.rw e' k es)=>if es.length=n∧e' = e∧k=i.size∧small (n + es2.length) i.bytes then some (.row x (n + es2.length),some (x,.rw e k (es++es2))) else none
     | _=>none
    | .d (.v (.slice none n c))=>if n=0∧c=0 then (match dst with
      | some d=>match b d with
       | none=>if small es2.length i.bytes then some (.row d es2.length,some (d,.rw e i.size es2)) else none
       | some _=>none
      | none=>none) else none
    | _=>none
   else none
  | none=>none
 | _,_=>none
section
variable {P:Program} {ρ ρ':Nat→Value} {b b':Nat→Option Box} {w w':World} {w0:WM} {F F' F0:Nat→Prop}
def Got (P:Program) (w0:WM) (F0:Nat→Prop) (ρ : Nat→Value) (b:Nat→Option Box) (w:World) (F:Nat→Prop) (res:Result Value) (r:PV) (u:Option (Nat×Box)) : Prop :=
 ∃ v w' ρ',res = .ok v w'∧Inv w0 F0 ρ' (dn b u) w' F∧Stp ρ b w F ρ' (dn b u) w' F∧aL ρ' (dn b u) w' F v r
theorem Got.pure (hi:Inv w0 F0 ρ b w F) {res:Result Value} {r:PV} (h:∃ v,aL ρ b w F v r∧res = .ok v w) : Got P w0 F0 ρ b w F res r none:=by
 obtain ⟨v,h1,h2⟩:=h
 exact ⟨v,w,ρ,h2,hi,Stp.refl _ _ _ _,h1⟩
theorem Xr {t e:Nat} {xs:Array Value} {cs:List PV} (hi:Inv w0 F0 ρ b w F) (ht:t < 1000000) (hb:b t=none) (hr:cz ρ b w F xs.toList cs) (h1:∀ x∈xs,x.oneCell' = true) :
  Got P w0 F0 ρ b w F (.ok (.pointer (some ⟨w.heap.size,0,none⟩)) (w.alloc (.cells xs e))) (.ptr t 0) (some (t,.st e cs)):=by
 have:=Inv.new (t:=t) (B:=.st e cs) (v:=.pointer (some ⟨w.heap.size,0,none⟩)) (w':=w.alloc (.cells xs e)) hi ht hb (aP _ _) (fun g hg=>by simp [blk] at hg; omega) (fun s=>by
  have hrs:=hr.mono s
  exact .st e cs w.heap.size xs (dj _ _ _) (.inl hi.ext.size) (fun h=>by have:=hi.flt _ h; omega) (heap_alloc_new w _) (by simpa using hr.len) h1 (fun j x c h2 h3=>hrs.rep j x c (by simpa using h2) h3))
 exact ⟨_,_,_,rfl,this.1,this.2,.ptr t 0 w.heap.size e cs (dm _ _ _) (dj _ _ _)⟩
theorem tu {i:TI} {z:Value} (hz:i.zero=z.cells.toList) (h1:∀ x∈i.zero,x.oneCell' = true) : cz ρ b w F z.cells.toList (pa i):=by
 refine ⟨by rw [pa,hz]; simp,fun j x c h2 h3=>?_⟩
 rw [pa,hz,List.getElem?_map,h2] at h3
 injection h3 with h3
 subst h3
 exact .d _ _ (.v x (h1 x (by rw [hz]; exact List.mem_of_getElem? h2)))
theorem LB {dst:Option Nat} {e:TypeId} {r:PV} {u:Option (Nat×Box)} (hd:∀ d,dst=some d→d < 1000000) (hi:Inv w0 F0 ρ b w F) (h:ub P b dst e=some (r,u)) : Got P w0 F0 ρ b w F ((Instr.alloc e true (.tuple #[])).run P w) r u:=by
 unfold ub at h
 split at h
 ·rename_i t i hti
  obtain ⟨j,z,uu,hj,hz,hu,hzs,hs,hby,ha,hzz,h1⟩:=di hti
  split at h
  ·rename_i hb
   injection h with h
   injection h with e1 e2
   subst e1 e2
   have:=Xr (P:=P) (e:=e) hi (hd _ rfl) hb (tu (w:=w) (F:=F) hzz h1) (fun x hx=>h1 x (by rw [hzz]; simpa using hx))
   have hrun:(Instr.alloc e true (.tuple #[])).run P w = .ok (.pointer (some ⟨w.heap.size,0,none⟩)) (w.alloc (.cells z.cells e)):=by
    simp [Instr.alloc,zeroValue,typeInfo,hj,hz,newVar,newRow]
   rw [hrun]
   exact this
  ·cases h
 ·cases h
theorem R7 {dst:Option Nat} {e:TypeId} {xv:Value} {p r:PV} {u:Option (Nat×Box)} (hd:∀ d,dst=some d→d < 1000000) (hi:Inv w0 F0 ρ b w F) (hx:aL ρ b w F xv p) (h:Ex b dst e p=some (r,u)) : Got P w0 F0 ρ b w F ((Instr.box e xv).run P w) r u:=by
 unfold Ex at h
 split at h
 ·rename_i t cs hcs
  obtain ⟨hr,h1⟩:=qr hx hcs
  split at h
  ·rename_i hb
   injection h with h
   injection h with e1 e2
   subst e1 e2
   have:=Xr (P:=P) (e:=e) hi (hd _ rfl) hb hr (fun x hx=>h1 x (by simpa using hx))
   have hrun:(Instr.box e xv).run P w = .ok (.pointer (some ⟨w.heap.size,0,none⟩)) (w.alloc (.cells xv.cells e)):=by
    simp [Instr.box,newVar,newRow]
   rw [hrun]
   exact this
  ·cases h
 ·cases h
theorem Bw:∀ (l:List Value) (off i:Nat) (cells:Array Value),off + i + l.length≤cells.size→(l.zipIdx i).foldl (fun cs (c,j)=>cs.setIfInBounds (off + j) c) cells=(splice cells.toList (off + i) l).toArray
 | [],off,i,cells,_=>by simp [splice]
 | v::l,off,i,cells,h=>by
  simp only [List.length_cons] at h
  rw [List.zipIdx_cons,List.foldl_cons,Bw l off (i + 1) _ (by simp; omega)]
  congr 1
  have e:=list_seg_step cells.toList (off + i) v l (by simp; omega)
  unfold splice
  rw [Array.toList_setIfInBounds,← Nat.add_assoc]
  exact e
theorem IZ (place:Nat→Option (Nat×Nat)) : ∀ (vs:List (Nat×Value)) (ps:List (Nat×PV)) (cells:Array Value) (cs cs':List PV),vs.length=ps.length →
  (∀ (j:Nat) v p,vs[j]? = some v→ps[j]? = some p→v.1=p.1∧aL ρ b w F v.2 p.2)→cz ρ b w F cells.toList cs→(∀ x∈cells,x.oneCell' = true)→Ef place cs ps=some cs' →
  ∃ cells',Instr.fill place cells vs=some cells'∧cz ρ b w F cells'.toList cs'∧(∀ x∈cells',x.oneCell' = true)∧cells'.size=cells.size
 | [],[],cells,cs,cs',_,_,hr,h1,h=>by
  injection h with h
  subst h
  exact ⟨cells,rfl,hr,h1,rfl⟩
 | [],_ :: _,_,_,_,hl,_,_,_,_=>by simp at hl
 | _ :: _,[],_,_,_,hl,_,_,_,_=>by simp at hl
 | (i,v)::vs,(i',p)::ps,cells,cs,cs',hl,hp,hr,h1,h=>by
  obtain ⟨e,hv⟩:=hp 0 _ _ rfl rfl
  simp only at e hv
  subst e
  simp only [Ef] at h
  split at h
  ·rename_i off size ns hpl hns
   split at h
   ·rename_i hc
    obtain ⟨hc1,hc2⟩:=hc
    obtain ⟨hrn,h1n⟩:=qr hv hns
    have hsz:v.cells.size=size:=by have:=hrn.len; simp at this; omega
    have hcs:cs.length=cells.size:=by have:=hr.len; simp at this; omega
    have hfit : ¬ (v.cells.size≠size∨off + v.cells.size > cells.size):=by omega
    have hfold:v.cells.zipIdx.foldl (fun cs (c,j)=>cs.setIfInBounds (off + j) c) cells=(splice cells.toList off v.cells.toList).toArray:=by
     have:=Bw v.cells.toList off 0 cells (by simp; omega)
     rw [Nat.add_zero] at this
     rw [← this,← Array.foldl_toList]
     simp
    obtain ⟨cells',h2,h3,h4,h5⟩:=IZ place vs ps (splice cells.toList off v.cells.toList).toArray (splice cs off ns) cs' (by simpa using hl) (fun j v p h2 h3=>hp (j + 1) v p (by simpa using h2) (by simpa using h3)) (by simpa using hr.splice hrn off)
     (fun x hx=>Dx (xs:=cells.toList) (fun y hy=>h1 y (by simpa using hy)) h1n off x (by simpa using hx)) h
    refine ⟨cells',?_,h3,h4,?_⟩
    ·simp only [Instr.fill,hpl]
     rw [if_neg (by simpa using hfit),hfold]
     exact h2
    ·rw [h5]
     have:=mz (cs:=cells.toList) (ns:=v.cells.toList) (off:=off) (by simp; omega)
     simpa using this
   ·cases h
  ·cases h
theorem GR {a:Act} {s:PS} (h:∀ x,aL ρ s.b w F (a.eval x) (ev s x)) (parts:Array (Nat×Operand)) : (parts.map fun (i,x)=>(i,a.eval x)).toList.length=(parts.toList.map fun (i,x)=>(i,ev s x)).length ∧
  ∀ (j:Nat) v p,(parts.map fun (i,x)=>(i,a.eval x)).toList[j]? = some v→(parts.toList.map fun (i,x)=>(i,ev s x))[j]? = some p→v.1=p.1∧aL ρ s.b w F v.2 p.2:=by
 refine ⟨by simp,fun j v p h1 h2=>?_⟩
 rw [Array.toList_map,List.getElem?_map] at h1
 rw [List.getElem?_map] at h2
 cases hj:parts.toList[j]? with
 | none=>rw [hj] at h1; cases h1
 | some y =>
  rw [hj] at h1 h2
  injection h1 with h1
  injection h2 with h2
  subst h1 h2
  exact ⟨rfl,h _⟩
theorem Ry {t:TypeId} {fl:List (Nat×Nat×Bool)} (h:Lh P t=some fl) : ∃ fs,P.underlying t=some (.struct fs)∧fs.toList.mapM (fun f=>(P.info? f.type).map fun i=>(f.offset,i.size))=some (fl.map fun x=>(x.1,x.2.1)):=by
 unfold Lh at h
 split at h
 ·rename_i fs hu
  refine ⟨fs,hu,?_⟩
  have key:∀ (l1:List Field) (l2:List (Nat×Nat×Bool)),l1.mapM (tV P)=some l2→l1.mapM (fun f=>(P.info? f.type).map fun i=>(f.offset,i.size))=some (l2.map fun x=>(x.1,x.2.1)):=by
   intro l1
   induction l1 with
   | nil=>intro l2 h; simp at h; subst h; simp
   | cons a l1 ih =>
    intro l2 h
    simp only [List.mapM_cons,Option.bind_eq_bind,Option.pure_def] at h
    cases ha:tV P a with
    | none=>simp [ha] at h
    | some y =>
     cases hr:l1.mapM (tV P) with
     | none=>simp [ha,hr] at h
     | some rest =>
      simp [ha,hr] at h
      subst h
      have hy:(P.info? a.type).map (fun i=>(a.offset,i.size))=some (y.1,y.2.1):=by
       unfold tV at ha
       cases hj:P.info? a.type with
       | none=>simp [hj] at ha
       | some j =>
        simp only [hj] at ha
        split at ha
        ·injection ha with ha
         subst ha
         rfl
        ·cases ha
      simp only [List.mapM_cons,Option.bind_eq_bind,Option.pure_def,hy,ih rest hr,zb,List.map_cons]
  exact key _ _ h
 ·cases h
theorem LA {t:TypeId} {vs:Array (Nat×Value)} {ps:List (Nat×PV)} {r:PV} (hl:vs.toList.length=ps.length) (hp:∀ (j:Nat) v p,vs.toList[j]? = some v→ps[j]? = some p→v.1=p.1∧aL ρ b w F v.2 p.2)
  (h:yo P t ps=some r) : ∃ v,aL ρ b w F v r∧(Instr.build t vs).run P w = .ok v w:=by
 unfold yo at h
 split at h
 ·rename_i i pl hti hpl
  obtain ⟨j,z,uu,hj,hz,hu,hzs,hs,hby,ha,hzz,h1⟩:=di hti
  rw [zm] at h
  obtain ⟨cs',h2,rfl⟩:=h
  obtain ⟨cells',h3,h4,h5,_⟩:=IZ _ vs.toList ps z.cells (pa i) cs' hl hp (tu hzz h1) (fun x hx=>h1 x (by rw [hzz]; simpa using hx)) h2
  refine ⟨.agg cells',.ag _ _ (by simpa using h4.len) h5 (fun j x c h6 h7=>h4.rep j x c (by simpa using h6) h7),run_build w t vs cells' ?_⟩
  unfold XW at hpl
  split at hpl
  ·rename_i m e hue
   rw [zm] at hpl
   obtain ⟨ie,hie,rfl⟩:=hpl
   obtain ⟨je,ze,ue,hje,_,_,_,hse,_⟩:=di hie
   unfold Program.built
   simp only [hj,hue,hz,hje,hse]
   exact h3
  ·rw [zm] at hpl
   obtain ⟨fl,hfl,rfl⟩:=hpl
   obtain ⟨fs,hfs,hpl⟩:=Ry hfl
   unfold Program.built
   simp only [hj,hfs,hz,hpl]
   have e:(fun (x:Nat)=>(fl.map fun (x:Nat×Nat×Bool)=>(x.1,x.2.1)).toArray[x]?)=fun (j:Nat)=>(fl[j]?).map fun (x:Nat×Nat×Bool)=>(x.1,x.2.1):=by
    funext j; simp
   rw [e]
   exact h3
 ·cases h
end
end
section
def vE:Option PV→Nat→Option Nat
 | none,n=>some n
 | some p,_=>match asI p with
  | some (_,i)=>if 0≤i then some i.toNat else none
  | none=>none
def ez (P:Program) (b:Nat→Option Box) (t:TypeId) (p:PV) (lo hi:Option PV) : Option PV :=
 match P.underlying t with
 | some (.slice e)=>match mh P e,p with
  | some i,.d _=>match kU b p with
   | some es=>match vE lo 0,vE hi es.length with
    | some l,some h=>if l≤h∧h≤es.length∧wS i.size es then some (.d (.sl ((es.drop l).take (h - l)))) else none
    | _,_=>none
   | none=>none
  | some i,.row t n=>match b t with
   | some (.rw _ k es)=>match vE lo 0,vE hi n with
    | some l,some h=>if es.length=n∧k=i.size∧l≤h∧h≤n then some (.vw t n l h) else none
    | _,_=>none
   | _=>none
  | _,_=>none
 | some .string=>match asS p with
  | some s=>match vE lo 0,vE hi s.size with
   | some l,some h=>if l≤h∧h≤s.size then some (.d (.v (.string (s.extract l h)))) else none
   | _,_=>none
  | none=>none
 | _=>none
def Eo (p q:PV) : Option PV:=match asI p,asI q with
 | some (k,x),some (_,y)=>some (.d (.v (.int k (if y < x then y else x))))
 | _,_=>none
def Er (p q:PV) : Option PV:=match asI p,asI q with
 | some (k,x),some (_,y)=>some (.d (.v (.int k (if y > x then y else x))))
 | _,_=>none
def sn:PV→List PV→Option PV
 | p,[]=>some p
 | p,q::qs=>match Eo p q with
  | some r=>sn r qs
  | none=>none
def so:PV→List PV→Option PV
 | p,[]=>some p
 | p,q::qs=>match Er p q with
  | some r=>so r qs
  | none=>none
section
variable {P:Program} {ρ ρ':Nat→Value} {b b':Nat→Option Box} {w w':World} {w0:WM} {F F' F0:Nat→Prop}
theorem AD (k:Nat) : ∀ (n:Nat) (l:List D),(rt k n l).length=n
 | 0,_=>rfl
 | n + 1,l=>by simp [rt,AD k n]
theorem EK (k:Nat) : ∀ (n:Nat) (l:List D),l.length=n * k→∀ x∈rt k n l,x.length=k
 | 0,_,_,x,h=>by simp [rt] at h
 | n + 1,l,hl,x,h=>by
  rw [Nat.succ_mul] at hl
  simp only [rt,List.mem_cons] at h
  rcases h with rfl | h
  ·simp; omega
  ·exact EK k n (l.drop k) (by simp; omega) x h
theorem xc (k:Nat) : ∀ (n:Nat) (l:List D),l.length=n * k→(rt k n l).flatten=l
 | 0,l,h=>by
  have:l = []:=List.eq_nil_of_length_eq_zero (by omega)
  subst this; rfl
 | n + 1,l,h=>by
  rw [Nat.succ_mul] at h
  simp only [rt,List.flatten_cons]
  rw [xc k n (l.drop k) (by simp; omega),List.take_append_drop]
theorem yc:∀ (cs:List PV) (ds:List D),cs.mapM toD=some ds→cs.length=ds.length∧∀ (j:Nat) d,ds[j]? = some d→∃ x,cs[j]? = some (.d x)∧d=nrm x
 | [],ds,h=>by simp at h; subst h; exact ⟨rfl,fun j d h=>by simp at h⟩
 | c::cs,ds,h=>by
  simp only [List.mapM_cons,Option.bind_eq_bind,Option.pure_def] at h
  cases hc:toD c with
  | none=>simp [hc] at h
  | some x =>
   cases hr:cs.mapM toD with
   | none=>simp [hc,hr] at h
   | some rest =>
    simp [hc,hr] at h
    subst h
    obtain ⟨h1,h2⟩:=yc cs rest hr
    unfold toD at hc
    split at hc
    ·rename_i y
     injection hc with hc
     subst hc
     refine ⟨by simp [h1],fun j d hj=>?_⟩
     cases j with
     | zero=>simp at hj; subst hj; exact ⟨y,rfl,rfl⟩
     | succ j=>simp at hj; simpa using h2 j d hj
    ·cases hc
theorem wu {z:Array Value} {k n:Nat} (hz:z.size=k) : ((Array.range (n * k)).map (z[· % z.size]!)).toList=(List.replicate n z.toList).flatten:=by
 apply List.ext_getElem?
 intro j
 have hf:(List.replicate n z.toList).flatten.length=n * k:=by
  rw [cF k _ (fun e he=>by rw [List.eq_of_mem_replicate he]; simpa using hz)]; simp
 by_cases hj:j < n * k
 ·have hk : 0 < k:=by
   rcases Nat.eq_zero_or_pos k with h | h
   ·rw [h] at hj; omega
   ·exact h
  have h1:j / k < n:=by rw [Nat.div_lt_iff_lt_mul hk]; exact hj
  have h2:=yj k (List.replicate n z.toList) (fun e he=>by rw [List.eq_of_mem_replicate he]; simpa using hz) (j / k) z.toList (by rw [List.getElem?_replicate,if_pos h1]) (j % k) (Nat.mod_lt _ hk)
  rw [show j / k * k + j % k=j by rw [Nat.mul_comm]; exact Nat.div_add_mod j k] at h2
  rw [h2]
  have h3:j % z.size < z.size:=by rw [hz]; exact Nat.mod_lt _ hk
  have h4:(Array.range (n * k))[j]? = some j:=by simp [hj]
  rw [← Array.getElem?_toList] at h4
  rw [Array.toList_map,List.getElem?_map,h4,← hz]
  simp [h3]
 ·rw [List.getElem?_eq_none (by simp; omega),List.getElem?_eq_none (by omega)]
theorem cz.flat {xs:List Value} {cs:List PV} (h:cz ρ b w F xs cs) : ∀ n,cz ρ b w F (List.replicate n xs).flatten (List.replicate n cs).flatten
 | 0=>.nil
 | n + 1=>by simp only [List.replicate_succ,List.flatten_cons]; exact h.append (cz.flat h n)
theorem DG {t e k:Nat} {es:List (List D)} {xs:List Value} {v:Value} {w':World} (hi:Inv w0 F0 ρ b w F) (ht:t < 1000000) (hb:b t=none) (hk0 : 0 < k) (hx:Ext w w') (hv:∀ g,blk v=some g→w.heap.size≤g)
  (ho:w'.ownsRow 0 e k v es.length xs) (hk:∀ x∈es,x.length=k) (hl:xs.length=es.flatten.length) (hr:∀ (j:Nat) x d,xs[j]? = some x→es.flatten[j]? = some d→ew w F x d) :
  Got P w0 F0 ρ b w F (.ok v w') (.row t es.length) (some (t,.rw e k es)):=by
 have:=Inv.new (t:=t) (B:=.rw e k es) (v:=v) (w':=w') hi ht hb hx hv (fun s=>by
  refine .rw e k es xs hk0 (by rw [dj]; exact ho) (fun g hg=>?_) hk hl (fun j x d h1 h2=>(hr j x d h1 h2).mono s.hF s.hw) (fun g hg=>.inl (Nat.le_trans hi.ext.size (hv g (by rw [dj] at hg; exact hg))))
  rw [dj] at hg
  intro h
  have:=hi.flt g h
  have:=hv g hg
  omega)
 refine ⟨v,w',_,rfl,this.1,this.2,?_⟩
 rcases ho.2 with ⟨rfl,h0⟩ | ⟨g,cap,cur,rfl,_,_,hc,_⟩
 ·rw [h0]
  exact .row t 0 none 0 e k es (dm _ _ _) (by omega) (Nat.le_refl _) (fun h=>by omega) (fun _=>dj _ _ _)
 ·exact .row t es.length _ cap e k es (dm _ _ _) (Nat.le_refl _) hc (fun _=>⟨_,rfl⟩) (fun _=>dj _ _ _)
theorem AA {dst:Option Nat} {t:TypeId} {len:Nat} {vs:Array (Nat×Value)} {ps:List (Nat×PV)} {r:PV} {u:Option (Nat×Box)} (hd:∀ d,dst=some d→d < 1000000) (hi:Inv w0 F0 ρ b w F) (hl:vs.toList.length=ps.length) (hp:∀ (j:Nat) v p,vs.toList[j]? = some v→ps[j]? = some p→v.1=p.1∧aL ρ b w F v.2 p.2)
  (h:iC P b dst t len ps=some (r,u)) : Got P w0 F0 ρ b w F ((Instr.buildSlice t len vs).run P w) r u:=by
 unfold iC at h
 split at h
 ·rename_i d e hu
  split at h
  ·rename_i i hti hb
   obtain ⟨j,z,uu,hj,hz,hu2,hzs,hs,hby,ha,hzz,h1⟩:=di hti
   split at h
   ·rename_i hc
    obtain ⟨hk0,hlen,hsm⟩:=hc
    split at h
    ·rename_i cs hfill
     split at h
     ·rename_i ds hds
      injection h with h
      injection h with e1 e2
      subst e1 e2
      have hzl:∀ x∈z.cells,x.oneCell' = true:=fun x hx=>h1 x (by rw [hzz]; simpa using hx)
      obtain ⟨cells',h3,h4,h5,h6⟩:=IZ (ρ:=ρ) (b:=b) (w:=w) (F:=F) (fun j=>some (j * i.size,i.size)) vs.toList ps ((Array.range (len * i.size)).map (z.cells[· % z.cells.size]!)) (List.replicate len (pa i)).flatten cs hl hp
       (by rw [wu hzs]; exact (tu hzz h1).flat len) (fun x hx=>by
        have hx2:x∈(List.replicate len z.cells.toList).flatten:=by rw [← wu hzs]; simpa using hx
        rw [List.mem_flatten] at hx2
        obtain ⟨l,hl1,hl2⟩:=hx2
        rw [List.eq_of_mem_replicate hl1] at hl2
        exact hzl x (by simpa using hl2)) hfill
      have hcs:=yc cs ds hds
      have hsz:cells'.size=len * i.size:=by rw [h6]; simp
      have hdl:ds.length=len * i.size:=by have:=h4.len; rw [hcs.1] at this; simp at this; omega
      have hrun:(Instr.buildSlice t len vs).run P w = .ok (.slice (some ⟨w.heap.size,0,none⟩) len len) (w.alloc (.cells cells' e)):=by
       by_cases h0:len * i.size=0
       ·have hf:Instr.fill (fun i_1=>some (i_1 * i.size,i.size)) #[] vs.toList=some cells':=by
         have:(Array.range (len * i.size)).map (z.cells[· % z.cells.size]!) = #[]:=by rw [h0]; simp
         rw [this] at h3
         exact h3
        have hl0:len=0:=by
         rcases Nat.eq_zero_or_pos len with h | h
         ·exact h
         ·have:=Nat.mul_pos h hk0; omega
        subst hl0
        have hr0:Array.range 0 = #[]:=by apply Array.ext' ; simp
        simp [Instr.buildSlice,run_underlying hu,sizeOf,typeInfo,hj,hs,hf,newRow,hr0]
       ·exact run_buildSlice w t e len vs cells' j z hu hj hz (by rw [hs]; omega) (by rw [hs]; exact h0) (by rw [hs]; exact h3)
      rw [hrun]
      have hcl:=AD i.size len ds
      have hown:(w.alloc (.cells cells' e)).ownsRow 0 e i.size (.slice (some ⟨w.heap.size,0,none⟩) len len) len cells'.toList:=World.ownsRow_lit w cells' len (Nat.zero_le _) (by simp [maxLen]; omega) hsz
      have:=DG (P:=P) (t:=d) (e:=e) (k:=i.size) (es:=rt i.size len ds) (xs:=cells'.toList) (v:=.slice (some ⟨w.heap.size,0,none⟩) len len) (w':=w.alloc (.cells cells' e)) hi (hd _ rfl) hb hk0 (aP _ _) (fun g hg=>by simp [blk] at hg; omega)
       (by rw [hcl]; exact hown) (EK _ _ _ hdl) (by rw [xc _ _ _ hdl]; simp; omega) (fun j x dd h7 h8=>by
        rw [xc _ _ _ hdl] at h8
        obtain ⟨y,h9,rfl⟩:=hcs.2 j dd h8
        have:=h4.rep j x (.d y) h7 h9
        cases this with
        | d _ _ h=>exact h.nrm)
      rw [hcl] at this
      exact this
     ·cases h
    ·cases h
   ·cases h
  ·cases h
 ·cases h
theorem wD {α β : Type} (f : α→β) (cs ns:List α) (off:Nat) : (splice cs off ns).map f=splice (cs.map f) off (ns.map f):=by
 simp [splice,List.map_take,List.map_drop]
theorem Be {α : Type} (c v:List α) (o n:Nat) (h:o + v.length≤n) (hc:n≤c.length) : (splice c o v).take n=splice (c.take n) o v:=by
 unfold splice
 have e1:(c.take o++v).length=o + v.length:=by simp; omega
 rw [List.take_append,List.take_of_length_le (by omega),e1,List.drop_take,List.take_take,Nat.min_eq_left (by omega)]
theorem Iu {α : Type} (x F ds:List α) (o:Nat) : splice (x++F) (x.length + o) ds=x++splice F o ds:=by
 unfold splice
 rw [List.take_append,List.drop_append,List.take_of_length_le (by omega),List.drop_eq_nil_of_le (by omega),Nat.add_sub_cancel_left,show x.length + o + ds.length - x.length=o + ds.length by omega]
 simp [List.append_assoc]
theorem Kx {α : Type} (x F ds:List α) (o:Nat) (h:o + ds.length≤x.length) : splice (x++F) o ds=splice x o ds++F:=by
 unfold splice
 rw [List.take_append_of_le_length (by omega),List.drop_append_of_le_length (by omega)]
 simp [List.append_assoc]
theorem Li {α : Type} (k:Nat) : ∀ (es:List (List α)) (_:∀ e∈es,e.length=k) (j off:Nat) (el ds:List α),es[j]? = some el→off + ds.length≤k→(es.set j (splice el off ds)).flatten=splice es.flatten (j * k + off) ds
 | [],_,j,off,el,ds,h,_=>by simp at h
 | x::es,hk,0,off,el,ds,h,hd=>by
  simp at h
  subst h
  have hx:=hk x (by simp)
  rw [List.set_cons_zero,List.flatten_cons,List.flatten_cons,Nat.zero_mul,Nat.zero_add,Kx _ _ _ _ (by omega)]
 | x::es,hk,j + 1,off,el,ds,h,hd=>by
  simp at h
  have hx:=hk x (by simp)
  have ih:=Li k es (fun e he=>hk e (by simp [he])) j off el ds h hd
  rw [List.set_cons_succ,List.flatten_cons,List.flatten_cons,ih,show (j + 1) * k + off=x.length + (j * k + off) by rw [Nat.succ_mul,hx]; omega,Iu]
theorem Nb {t:TypeId} {x n j off e k:Nat} {es:List (List D)} {el ds:List D} {i:TI} {xv yv:Value} {ns:List PV} {q:PV} (hti:mh P t=some i) (hi:Inv w0 F0 ρ b w F) (hx:aL ρ b w F xv (.re x n j off)) (hy:aL ρ b w F yv q) (hns:AF q=some ns)
  (hb:b x=some (.rw e k es)) (hds:ns.mapM toD=some ds) (hel:es[j]? = some el) (hlen:es.length=n) (hsz:ds.length=i.size) (hfit:off + ds.length≤el.length) :
  ∃ w',(Instr.storeAt t xv yv).run P w = .ok () w'∧Inv w0 F0 ρ (dn b (some (x,.rw e k (es.set j (splice el off ds))))) w' F∧Stp ρ b w F ρ (dn b (some (x,.rw e k (es.set j (splice el off ds))))) w' F:=by
 obtain ⟨jj,z,uu,hj,hz,hu,hzs,hs,hby,ha,hzz,h1⟩:=di hti
 obtain ⟨hr,h1y⟩:=qr hy hns
 obtain ⟨hml,hmd⟩:=yc ns ds hds
 cases hx with
 | re _ _ _ _ a e1 k1 es1 hb1 hn1 hi1 hρ1 =>
  rw [hb] at hb1
  injection hb1 with hb1
  injection hb1 with q1 q2 q3
  subst q1 q2 q3
  obtain ⟨g,c,hρ,rfl⟩:=hρ1 hlen
  have hbx:=hi.box x _ hb
  cases hbx with
  | gn _ _ _ hg=>rw [hρ] at hg; cases hg
  | rw _ _ _ xs hk0 ho hF hk hl hrx hown =>
   have hFg : ¬ F g:=hF g (by rw [hρ]; rfl)
   have hown0:w0.own g:=hown g (by rw [hρ]; rfl)
   have ho':=ho
   rw [hρ] at ho'
   rcases ho'.2 with ⟨h',_⟩ | ⟨g',cap',cur,h',hbase,hg,hnc,hcm,hcs,htake⟩
   ·cases h'
   ·injection h' with h2 h3 h4
    injection h2 with h2
    injection h2 with h2
    subst h2 h4
    have hek:el.length=k:=hk el (List.mem_of_getElem? hel)
    have hvl:yv.cells.toList.length=ds.length:=by rw [hr.len,hml]
    have hjk:j * k + k≤es.length * k:=by
     have:(j + 1) * k≤es.length * k:=Nat.mul_le_mul_right _ (by omega)
     rw [Nat.succ_mul] at this; exact this
    have hck:es.length * k≤cur.size:=by rw [hcs]; exact Nat.mul_le_mul_right _ hnc
    have hfl:es.flatten.length=es.length * k:=cF k es hk
    have hst:=run_storeCells_at P g (j * k + off) e yv.cells.toList 0 cur w hg (by omega) h1y
    have e0:(List.take (j * k + off + 0) cur.toList++yv.cells.toList++List.drop (j * k + off + 0 + yv.cells.toList.length) cur.toList)=splice cur.toList (j * k + off) yv.cells.toList:=by simp [splice]
    rw [e0] at hst
    have hsz2:yv.cells.size=i.size:=by have:=hvl; simp at this; omega
    have hR:cz ρ b w F xs (es.flatten.map .d):=⟨by rw [List.length_map]; exact hl,fun p u d h5 h6=>by
     rw [List.getElem?_map,zm] at h6
     obtain ⟨d',h6,rfl⟩:=h6
     exact .d _ _ (hrx p u d' h5 h6)⟩
    have hV:cz ρ b w F yv.cells.toList (ds.map .d):=⟨by rw [List.length_map]; exact hvl,fun p u d h5 h6=>by
     rw [List.getElem?_map,zm] at h6
     obtain ⟨d',h6,rfl⟩:=h6
     obtain ⟨x',h7,rfl⟩:=hmd p d' h6
     have h8:=hr.rep p u _ h5 h7
     cases h8 with
     | d _ _ h9=>exact .d _ _ h9.nrm⟩
    have hSp:=hR.splice hV (j * k + off)
    rw [← wD,← Li k es hk j off el ds hel (by omega)] at hSp
    have hkk:∀ y∈es.set j (splice el off ds),y.length=k:=fun y hy=>by
     rcases List.mem_or_eq_of_mem_set hy with h | rfl
     ·exact hk y h
     ·rw [mz (by omega)]; exact hek
    have hstp:Stp ρ b w F ρ (dn b (some (x,.rw e k (es.set j (splice el off ds))))) (w.setRow g (splice cur.toList (j * k + off) yv.cells.toList).toArray) F:=by
     refine ⟨fun _ h=>h,fun p hp=>setRow_other w g p _ (fun h=>hFg (h ▸ hp)),fun t' ty' cs' h=>?_,fun t' e' k' es' h=>?_⟩
     ·have h':t'≠x:=fun h'=>by rw [h',hb] at h; cases h
      rw [cy _ _ h']; exact ⟨⟨_,_,h⟩,rfl⟩
     ·by_cases h':t' = x
      ·subst h'
       rw [hb] at h
       injection h with h
       injection h with q1 q2 q3
       subst q1 q2 q3
       rw [dm]
       exact ⟨_,_,rfl,by simp,fun _=>rfl⟩
      ·rw [cy _ _ h']; exact ⟨e',es',h,Nat.le_refl _,fun _=>rfl⟩
    refine ⟨w.setRow g (splice cur.toList (j * k + off) yv.cells.toList).toArray,?_,?_,hstp⟩
    ·simp [Instr.storeAt,Instr.sureAddr,storeVar,sizeOf,typeInfo,hj,hs,hsz2,hst]
    ·have hs2:=hstp
     rw [← da ρ x] at hstp
     have:=Inv.turn (v:=ρ x) (B':=.rw e k (es.set j (splice el off ds))) (w':=w.setRow g (splice cur.toList (j * k + off) yv.cells.toList).toArray) hi hb (by rw [da] at hstp ⊢; exact hs2)
      (hi.ext.step rfl rfl rfl (by simp) fun p hp hM=>setRow_other w g p _ (fun h=>xY hp hM (h ▸ hown0))) (by simp) (fun p _ hp=>setRow_other w g p _ (fun h=>hp (by rw [hρ,h]; rfl))) (fun p hp=>.inl hp) ?_
     ·rw [da] at this; exact this
     ·rw [da]
      have hsp:=hSp.mono hs2
      refine .rw e k _ (splice xs (j * k + off) yv.cells.toList) hk0 ?_ hF hkk ?_ (fun p u d h5 h6=>?_) hown
      ·rw [hρ]
       refine ⟨by rw [mz (by rw [hl]; omega),List.length_set]; exact ho.1,.inr ⟨g,c,(splice cur.toList (j * k + off) yv.cells.toList).toArray,by rw [List.length_set,hlen],hbase,setRow_heap w g cur _ e _ hg,by rw [List.length_set]; exact hnc,hcm,?_,?_⟩⟩
       ·rw [List.size_toArray,mz (by simp; omega)]; simpa using hcs
       ·rw [List.length_set,Be _ _ _ _ (by omega) (by simpa using hck),htake]
      ·have:=hsp.len; rw [List.length_map] at this; exact this
      ·have:=hsp.rep p u (.d d) h5 (by rw [List.getElem?_map,h6]; rfl)
       cases this with
       | d _ _ h9=>exact h9
theorem Lw {t:TypeId} {xv yv:Value} {p q:PV} {u:Nat×Box} (hi:Inv w0 F0 ρ b w F) (hx:aL ρ b w F xv p) (hy:aL ρ b w F yv q) (h:lw P b t p q=some u) :
  ∃ w',(Instr.storeAt t xv yv).run P w = .ok () w'∧Inv w0 F0 ρ (dn b (some u)) w' F∧Stp ρ b w F ρ (dn b (some u)) w' F:=by
 unfold lw at h
 split at h
 ·rename_i i ns hti hns
  split at h
  rotate_left
  ·rename_i x n jj off
   split at h
   ·rename_i e k es ds hbx hds
    split at h
    ·rename_i el hel
     split at h
     ·rename_i hc
      injection h with h
      subst h
      exact Nb hti hi hx hy hns hbx hds hel hc.1 hc.2.1 hc.2.2
     ·cases h
    ·cases h
   ·cases h
  ·cases h
  rename_i x off
  obtain ⟨j,z,uu,hj,hz,hu,hzs,hs,hby,ha,hzz,h1⟩:=di hti
  obtain ⟨hr,h1y⟩:=qr hy hns
  split at h
  ·rename_i ty cs hb
   split at h
   ·rename_i hc
    obtain ⟨hc1,hc2⟩:=hc
    injection h with h
    subst h
    cases hx with
    | ptr _ _ g ty' cs' hb' hρ =>
     cases hi.box x _ hb with
     | st _ _ g' xs hρ' hg hF hh hl h1x hrx =>
      rw [hρ] at hρ'
      injection hρ' with e
      injection e with e
      injection e with e
      subst e
      have R:cz ρ b w F xs.toList cs:=⟨by simpa using hl,fun j x c h2 h3=>hrx j x c (by simpa using h2) h3⟩
      have hw:=Inv.write (off:=off) hi hb hρ hh hl h1x R hr h1y hc2
      refine ⟨_,?_,hw.1,hw.2⟩
      have hsz:yv.cells.size=i.size:=by have:=hr.len; simp at this; omega
      have hst:=run_storeCells_at P g off ty yv.cells.toList 0 xs w hh (by simp; omega) h1y
      have e:(List.take (off + 0) xs.toList++yv.cells.toList++List.drop (off + 0 + yv.cells.toList.length) xs.toList)=splice xs.toList off yv.cells.toList:=by
       simp [splice]
      rw [e] at hst
      simp [Instr.storeAt,Instr.sureAddr,storeVar,sizeOf,typeInfo,hj,hs,hsz,hst]
   ·cases h
  ·cases h
 ·cases h
end
end
section
section
variable {P:Program} {ρ ρ':Nat→Value} {b b':Nat→Option Box} {w w':World} {w0:WM} {F F' F0:Nat→Prop}
theorem BH {t ty e:TypeId} {j:TypeInfo} {A A2:Option Addr} {n c c2:Nat} (hu:P.underlying t=some (.slice e)) (hj:P.info? e=some j) (hc:n≤c) :
  (Builtin.append_ #[t,t] ty #[.slice A n c,.slice A2 0 c2]).run P w = .ok (.slice A n c) w:=by
 cases A <;> cases A2 <;> simp [Builtin.append_,run_underlying hu,sizeOf,typeInfo,hj,Builtin.lenOf,Builtin.firstCells,hc,storeCells,loadCells,loadCellsFrom]
theorem oB {base e k n:Nat} {v:Value} {xs:List Value} (h:w.ownsRow base e k v n xs) : blk v=v.ownBlock:=by
 rcases h.2 with ⟨rfl,_⟩ | ⟨g,cap,cur,rfl,_⟩ <;> rfl
theorem HH {x:Value} {p:PV} {es:List (List D)} (hi:Inv w0 F0 ρ b w F) (h:aL ρ b w F x p) (hp:kU b p=some es) (hne:es≠[]) :
  ∃ (a:Addr) (c:Nat) (us:List Value),x = .slice (some a) es.length c∧us.length=es.flatten.length∧(∀ (j:Nat) u,us[j]? = some u→w.cell? (a.add j)=some u)∧∀ (j:Nat) u d,us[j]? = some u→es.flatten[j]? = some d→ew w F u d:=by
 obtain ⟨A,c,k,rfl,hc,hm,hk,hA,hcell⟩:=kD hi h hp
 cases A with
 | none=>exact absurd (hA rfl).1 hne
 | some a =>
  have hcell:=hcell a rfl
  refine ⟨a,c,(List.range es.flatten.length).map (fun j=>(w.cell? (a.add j)).getD undef),rfl,by simp,fun j u hu=>?_,fun j u d hu hd=>?_⟩
  ·simp only [List.getElem?_map,zm] at hu
   obtain ⟨j',hj',rfl⟩:=hu
   obtain ⟨rfl,hj⟩:=nF hj'
   obtain ⟨u,h1,_⟩:=hcell _ _ (zq hj)
   rw [h1]; rfl
  ·simp only [List.getElem?_map,zm] at hu
   obtain ⟨j',hj',rfl⟩:=hu
   obtain ⟨rfl,hj⟩:=nF hj'
   obtain ⟨u,h1,h2⟩:=hcell _ _ hd
   rw [h1]; exact h2
theorem LV {x:Value} {p:PV} (hi:Inv w0 F0 ρ b w F) (h:aL ρ b w F x p) (hp:kU b p=some []) : ∃ A c,x = .slice A 0 c:=by
 obtain ⟨A,c,k,rfl,_⟩:=kD hi h hp
 exact ⟨A,c,rfl⟩
theorem I7 {dst:Option Nat} {t ty:TypeId} {xv yv:Value} {p q r:PV} {u:Option (Nat×Box)} (hd:∀ d,dst=some d→d < 1000000) (hi:Inv w0 F0 ρ b w F) (hx:aL ρ b w F xv p) (hy:aL ρ b w F yv q) (h:jx P b dst t p q=some (r,u)) :
  Got P w0 F0 ρ b w F ((Builtin.append_ #[t,t] ty #[xv,yv]).run P w) r u:=by
 unfold jx at h
 split at h
 ·rename_i e es2 hu hq
  split at h
  ·rename_i i hti
   obtain ⟨j,z,uu,hj,hz,hu2,hzs,hs,hby,ha,hzz,h1⟩:=di hti
   split at h
   ·rename_i hc
    obtain ⟨hk0,hb0,hk2⟩:=hc
    split at h
    ·rename_i x n
     split at h
     ·rename_i e' k es hbx
      cases hx with
      | row _ _ A c e3 k3 es3 hb3 hn hcc hA hρ =>
       by_cases hnil:es2 = []
       ·split at h
        ·rename_i hc
         obtain ⟨hl,rfl,rfl,hbytes⟩:=hc
         injection h with h
         injection h with e1 e2
         subst e1 e2 hnil
         obtain ⟨A2,c2,rfl⟩:=LV hi hy hq
         have hsame:dn b (some (x,.rw e' i.size (es ++ [])))=b:=by
          funext t'
          by_cases ht:t' = x
          ·subst ht; rw [dm,List.append_nil]; exact hbx.symm
          ·rw [cy _ _ ht]
         refine ⟨_,w,ρ,BH hu hj hcc,?_,?_,?_⟩
         ·rw [hsame]; exact hi
         ·rw [hsame]; exact Stp.refl _ _ _ _
         ·rw [hsame]; exact .row _ _ A c e3 k3 es3 hb3 hn hcc hA hρ
        ·cases h
       ·have hne:=hnil
        split at h
        ·rename_i hc
         obtain ⟨hl,rfl,rfl,hbytes⟩:=hc
         injection h with h
         injection h with e1 e2
         subst e1 e2
         rw [hbx] at hb3
         injection hb3 with hb3
         injection hb3 with e1 e2 e3
         subst e1 e2 e3
         have hρ:=hρ hl
         subst hl
         obtain ⟨a,c2,us,rfl,hul,hcell,hrep⟩:=HH hi hy hq hne
         have hfl:=cF i.size es2 hk2
         have h1u:∀ u∈us,u.oneCell' = true:=fun u hu=>by
          obtain ⟨jj,hjj⟩:=List.getElem?_of_mem hu
          have hlt:=(zg.1 hjj).1
          exact (hrep jj u _ hjj (zq (by omega))).one
         have hbx0:=hi.box _ _ hbx
         cases hbx0 with
         | gn _ _ _ hg=>rw [hρ] at hg; cases hg
         | rw _ _ _ xs hk0' ho hFg hk hl' hr hown0 =>
          have h63:es.length + es2.length≤maxLen:=by
           have hbytes:=hbytes
           unfold small at hbytes
           have:(es.length + es2.length) * 1≤(es.length + es2.length) * i.bytes:=Nat.mul_le_mul_left _ hb0
           simp only [maxLen]; omega
          rw [← hρ]
          obtain ⟨v',w',hrun,hown,hgrow,hnilv,hat⟩:=run_append_own_at (P:=P) w 0 t ty _ j z i.size i.bytes hu hj hz hs hby hzs hk0 (ρ x) es.length xs ho a es2.length c2 us (by rw [hul,hfl]) hcell h1u h63 hbytes (Nat.zero_le _)
          have hne2 : 0 < es2.length:=by cases es2 with | nil=>exact absurd rfl hne | cons _ _=>simp
          have hFb:∀ g,F g→some g≠(ρ x).ownBlock:=fun g hg e=>hFg g (by rw [oB ho]; exact e.symm) hg
          have hstp:Stp ρ b w F (vC ρ x v') (dn b (some (x,.rw e' i.size (es++es2)))) w' F:=by
           refine ⟨fun _ h=>h,fun g hg=>hgrow.block g (hi.flt g hg) (hFb g hg),fun t' ty' cs' h=>?_,fun t' e2 k2 es3 h=>?_⟩
           ·have h':t'≠x:=fun e=>by rw [e,hbx] at h; cases h
            rw [j7 _ _ h',cy _ _ h']
            exact ⟨⟨_,_,h⟩,rfl⟩
           ·by_cases h':t' = x
            ·subst h'
             rw [hbx] at h
             injection h with h
             injection h with e1 e2 e3
             subst e1 e2 e3
             rw [dm]
             exact ⟨_,_,rfl,by simp,fun h=>by simp at h; exact absurd h hne⟩
            ·rw [j7 _ _ h',cy _ _ h']
             exact ⟨e2,es3,h,Nat.le_refl _,fun _=>rfl⟩
          have hext:FR w0 w':=hi.ext.step hgrow.os hgrow.tape hgrow.output hgrow.size fun g hg hM=>hgrow.block g (Nat.lt_of_lt_of_le hg hi.ext.size) fun e=>xY hg hM (hown0 g (by rw [oB ho]; exact e.symm))
          have hlen2:(es++es2).length=es.length + es2.length:=by simp
          have hbox:jt (vC ρ x v') (dn b (some (x,.rw e' i.size (es++es2)))) w0.own w' F x (.rw e' i.size (es++es2)):=by
           refine .rw e' i.size (es++es2) (xs++us) hk0 (by rw [dj,hlen2]; exact hown) (fun g hg=>?_) (fun y hy=>?_) (by simp [hl',hul]) (fun jj x' d h2 h3=>?_) (fun g hg=>?_)
           ·rw [dj,oB hown] at hg
            rcases hat with h | h
            ·rw [h] at hg
             exact fun hF=>hFb g hF hg.symm
            ·rw [h] at hg
             injection hg with hg
             intro hF
             have:=hi.flt g hF
             omega
           ·rcases List.mem_append.1 hy with h | h
            ·exact hk y h
            ·exact hk2 y h
           ·rw [List.flatten_append] at h3
            rw [List.getElem?_append] at h2 h3
            rw [← hl'] at h3
            split at h2
            ·rename_i hlt
             rw [if_pos hlt] at h3
             exact (hr jj x' d h2 h3).mono hstp.hF hstp.hw
            ·rename_i hlt
             rw [if_neg hlt] at h3
             exact (hrep _ x' d h2 h3).mono hstp.hF hstp.hw
           ·rw [dj,oB hown] at hg
            rcases hat with h | h
            ·rw [h] at hg; exact hown0 g (by rw [oB ho]; exact hg)
            ·rw [h] at hg; injection hg with hg; exact .inl (by have:=hi.ext.size; omega)
          have hinv:=Inv.turn (w':=w') hi hbx hstp hext hgrow.size (fun g hg hne=>hgrow.block g hg (fun e=>hne (by rw [oB ho]; exact e.symm))) (fun g hg=>by
           rw [oB hown] at hg
           rcases hat with h | h
           ·rw [h] at hg; exact .inl (by rw [oB ho]; exact hg)
           ·rw [h] at hg; injection hg with hg; exact .inr (by omega)) hbox
          refine ⟨v',w',_,hrun,hinv,hstp,?_⟩
          rcases hown.2 with ⟨_,h0⟩ | ⟨g,cap,cur,rfl,_,_,hcap,_⟩
          ·omega
          ·exact .row _ _ _ cap _ _ _ (dm _ _ _) (by rw [hlen2]; exact Nat.le_refl _) hcap (fun _=>⟨_,rfl⟩) (fun _=>dj _ _ _)
        ·cases h
     ·cases h
    ·rename_i n c
     split at h
     ·rename_i hnc
      obtain ⟨rfl,rfl⟩:=hnc
      obtain ⟨rfl,_⟩:=hx.vv
      by_cases hnil:es2 = []
      ·split at h
       ·rename_i d
        split at h
        ·rename_i hbd
         split at h
         ·injection h with h
          injection h with e1 e2
          subst e1 e2 hnil
          obtain ⟨A2,c2,rfl⟩:=LV hi hy hq
          rw [BH hu hj (Nat.le_refl _)]
          exact DG (P:=P) (t:=d) (e:=e) (k:=i.size) (es:=[]) (xs:=[]) hi (hd _ rfl) hbd hk0 (Ext.refl w) (fun g hg=>by cases hg) (World.ownsRow_nil w _ e i.size) (by simp) rfl (by simp)
         ·cases h
        ·cases h
       ·cases h
      ·have hne:=hnil
       split at h
       ·rename_i d
        split at h
        ·rename_i hbd
         split at h
         ·rename_i hbytes
          injection h with h
          injection h with e1 e2
          subst e1 e2
          obtain ⟨a,c2,us,rfl,hul,hcell,hrep⟩:=HH hi hy hq hne
          have hfl:=cF i.size es2 hk2
          have h1u:∀ u∈us,u.oneCell' = true:=fun u hu=>by
           obtain ⟨jj,hjj⟩:=List.getElem?_of_mem hu
           have hlt:=(zg.1 hjj).1
           exact (hrep jj u _ hjj (zq (by omega))).one
          have h63 : 0 + es2.length≤maxLen:=by
           have hbytes:=hbytes
           unfold small at hbytes
           have:es2.length * 1≤es2.length * i.bytes:=Nat.mul_le_mul_left _ hb0
           simp only [maxLen]; omega
          obtain ⟨v',w',hrun,hown,hgrow,hnilv,hat⟩:=run_append_own_at (P:=P) w 0 t ty e j z i.size i.bytes hu hj hz hs hby hzs hk0 (.slice none 0 0) 0 [] (World.ownsRow_nil w _ e i.size) a es2.length c2 us (by rw [hul,hfl]) hcell h1u h63 (by rw [Nat.zero_add]; exact hbytes) (Nat.zero_le _)
          rw [Nat.zero_add,List.nil_append] at hown
          have hx2:Ext w w':=⟨hgrow.os,hgrow.tape,hgrow.output,hgrow.size,fun k hk=>hgrow.block k hk (by simp [Value.ownBlock])⟩
          have hv:∀ g,blk v' = some g→w.heap.size≤g:=fun g hg=>by
           rw [oB hown] at hg
           rcases hat with h | h
           ·rw [h] at hg; cases hg
           ·rw [h] at hg; injection hg with hg; omega
          have:=DG (P:=P) (t:=d) (e:=e) (k:=i.size) (es:=es2) (xs:=us) hi (hd _ rfl) hbd hk0 hx2 hv hown hk2 hul hrep
          rw [hrun]
          exact this
         ·cases h
        ·cases h
       ·cases h
     ·cases h
    ·cases h
   ·cases h
  ·cases h
 ·cases h
theorem R2 {ty1:Array TypeId} {ty:TypeId} {xv yv:Value} {p q r:PV} (hx:aL ρ b w F xv p) (hy:aL ρ b w F yv q) (h:Eo p q=some r) : ∃ v,aL ρ b w F v r∧(Builtin.min_ ty1 ty #[xv,yv]).run P w = .ok v w:=by
 unfold Eo at h
 split at h
 ·rename_i k m k' n h1 h2
  injection h with h
  subst h
  obtain rfl:=d5 hx h1
  obtain rfl:=d5 hy h2
  exact ⟨_,.lit rfl,by simp [Builtin.min_,Builtin.min2]⟩
 ·cases h
theorem R3 {ty1:Array TypeId} {ty:TypeId} {xv yv:Value} {p q r:PV} (hx:aL ρ b w F xv p) (hy:aL ρ b w F yv q) (h:Er p q=some r) : ∃ v,aL ρ b w F v r∧(Builtin.max_ ty1 ty #[xv,yv]).run P w = .ok v w:=by
 unfold Er at h
 split at h
 ·rename_i k m k' n h1 h2
  injection h with h
  subst h
  obtain rfl:=d5 hx h1
  obtain rfl:=d5 hy h2
  exact ⟨_,.lit rfl,by simp [Builtin.max_,Builtin.max2]⟩
 ·cases h
theorem En:∀ (qs:List PV) (ys:List Value) (p:PV) (x:Value) (r:PV),aL ρ b w F x p→cz ρ b w F ys qs→sn p qs=some r→∃ v,aL ρ b w F v r∧(ys.foldlM Builtin.min2 x).run P w = .ok v w
 | [],ys,p,x,r,hx,hr,h=>by
  have:ys = []:=List.eq_nil_of_length_eq_zero (by simpa using hr.len)
  subst this
  injection h with h
  subst h
  exact ⟨x,hx,rfl⟩
 | q::qs,ys,p,x,r,hx,hr,h=>by
  cases ys with
  | nil=>have:=hr.len; simp at this
  | cons y ys =>
   simp only [sn] at h
   cases hm:Eo p q with
   | none=>rw [hm] at h; cases h
   | some r1 =>
    rw [hm] at h
    have hy:=hr.rep 0 y q rfl rfl
    have hr2:cz ρ b w F ys qs:=⟨by have:=hr.len; simpa using this,fun j v c h1 h2=>hr.rep (j + 1) v c (by simpa using h1) (by simpa using h2)⟩
    obtain ⟨v,h3,h4⟩:=R2 (P:=P) (ty1:=#[]) (ty:=0) hx hy hm
    obtain ⟨v2,h5,h6⟩:=En qs ys r1 v r h3 hr2 h
    refine ⟨v2,h5,?_⟩
    have e:(Builtin.min2 x y).run P w = .ok v w:=by simpa [Builtin.min_] using h4
    rw [List.foldlM_cons,Sem.run_bind,e]
    exact h6
theorem Ep:∀ (qs:List PV) (ys:List Value) (p:PV) (x:Value) (r:PV),aL ρ b w F x p→cz ρ b w F ys qs→so p qs=some r→∃ v,aL ρ b w F v r∧(ys.foldlM Builtin.max2 x).run P w = .ok v w
 | [],ys,p,x,r,hx,hr,h=>by
  have:ys = []:=List.eq_nil_of_length_eq_zero (by simpa using hr.len)
  subst this
  injection h with h
  subst h
  exact ⟨x,hx,rfl⟩
 | q::qs,ys,p,x,r,hx,hr,h=>by
  cases ys with
  | nil=>have:=hr.len; simp at this
  | cons y ys =>
   simp only [so] at h
   cases hm:Er p q with
   | none=>rw [hm] at h; cases h
   | some r1 =>
    rw [hm] at h
    have hy:=hr.rep 0 y q rfl rfl
    have hr2:cz ρ b w F ys qs:=⟨by have:=hr.len; simpa using this,fun j v c h1 h2=>hr.rep (j + 1) v c (by simpa using h1) (by simpa using h2)⟩
    obtain ⟨v,h3,h4⟩:=R3 (P:=P) (ty1:=#[]) (ty:=0) hx hy hm
    obtain ⟨v2,h5,h6⟩:=Ep qs ys r1 v r h3 hr2 h
    refine ⟨v2,h5,?_⟩
    have e:(Builtin.max2 x y).run P w = .ok v w:=by simpa [Builtin.max_] using h4
    rw [List.foldlM_cons,Sem.run_bind,e]
    exact h6
end
end
section
def Qb:PV→Option (Nat×Nat×Nat×Nat)
 | .row t n=>some (t,n,0,n)
 | .vw t n lo hi=>some (t,n,lo,hi)
 | _=>none
def nG {α : Type} (es:List α) (lo:Nat) (ys:List α) : List α:=es.take lo++ys++es.drop (lo + ys.length)
def qq (P:Program) (b:Nat→Option Box) (t:TypeId) (p q:PV) : Option (PV×(Nat×Box)) :=
 match P.underlying t,kU b q,Qb p with
 | some (.slice e),some ys,some (x,n,lo,hi)=>match mh P e,b x with
  | some i,some (.rw e' k es)=>if es.length=n∧k=i.size∧wS i.size ys∧lo≤hi∧hi≤n then
    some (.d (.v (.int .i64 (min ys.length (hi - lo) : Nat))),(x,.rw e' k (nG es lo (ys.take (hi - lo))))) else none
  | _,_=>none
 | _,_,_=>none
def u9 (P:Program) (b:Nat→Option Box) (dst:Option Nat) (t:TypeId) (p q:PV) : Option (PV×Option (Nat×Box)) :=
 match dst,P.underlying t,asI p,asI q with
 | some d,some (.slice e),some (_,n),some (_,m)=>match mh P e,b d with
  | some i,none=>if n=m∧0≤n∧n≤1000000∧0 < i.size∧i.bytes≤1000000 then
    some (.row d n.toNat,some (d,.rw e i.size (List.replicate n.toNat (i.zero.map fun z=>nrm (.v z))))) else none
  | _,_=>none
 | _,_,_,_=>none
section
variable {P:Program} {ρ ρ':Nat→Value} {b b':Nat→Option Box} {w w':World} {w0:WM} {F F' F0:Nat→Prop}
theorem Rk (w:World) (dT sT ty elem:TypeId) (K g o dLen dCap m:Nat) (a:Addr) (sLen sCap:Nat) (cur:Array Value) (t:TypeId) (cs:List Value)
  (hu:P.underlying dT=some (.slice elem)) (hs:(P.info? elem).map (·.size)=some K)
  (hg:w.heap[g]? = some (.cells cur t (0,0))) (hm:Nat.min sLen dLen=m) (hn:cs.length=m * K)
  (hsrc:∀ j v,cs[j]? = some v→w.cell? (a.add j)=some v) (hfit:o + cs.length≤cur.size) (h1:∀ v∈cs,v.oneCell' = true) :
  (Builtin.copy_ #[dT,sT] ty #[.slice (some ⟨g,o,none⟩) dLen dCap,.slice (some a) sLen sCap]).run P w =
   .ok (goInt m) (w.setRow g (splice cur.toList o cs).toArray):=by
 have hl:=run_loadCells_list (P:=P) w a cs hsrc
 have hst:=run_storeCells_at P g o t cs 0 cur w hg (by simpa using hfit) h1
 rw [hn] at hl
 cases hq:P.info? elem with
 | none=>simp [hq] at hs
 | some i =>
  have hi:i.size=K:=by simpa [hq] using hs
  simp [Builtin.copy_,run_underlying hu,Builtin.lenOf,Builtin.firstCells,sizeOf,typeInfo,hq,hi,hm,hl,hst,splice]
theorem Di (w:World) (dT sT ty elem:TypeId) (K:Nat) (d a:Option Addr) (dLen dCap sLen sCap:Nat) (hu:P.underlying dT=some (.slice elem)) (hs:(P.info? elem).map (·.size)=some K) (hn:Nat.min sLen dLen=0) :
  (Builtin.copy_ #[dT,sT] ty #[.slice d dLen dCap,.slice a sLen sCap]).run P w = .ok (goInt 0) w:=by
 cases hq:P.info? elem with
 | none=>simp [hq] at hs
 | some i =>
  have hl:∀ (x:Addr),(loadCells x 0).run P w = .ok #[] w:=fun x=>by simpa using run_loadCells_list (P:=P) w x [] (by simp)
  cases d <;> cases a <;> simp [Builtin.copy_,run_underlying hu,Builtin.lenOf,Builtin.firstCells,sizeOf,typeInfo,hq,hn,storeCells,hl]
theorem Iv {x e k g c o:Nat} {es es':List (List D)} {vs:List Value} {ds:List D} (hi:Inv w0 F0 ρ b w F) (hb:b x=some (.rw e k es)) (hρ : ρ x = .slice (some ⟨g,0,none⟩) es.length c)
  (hvl:vs.length=ds.length) (h1y:∀ y∈vs,y.oneCell' = true) (hrv:∀ (j:Nat) u d,vs[j]? = some u→ds[j]? = some d→ew w F u d) (hfit:o + ds.length≤es.length * k)
  (hfl':es'.flatten=splice es.flatten o ds) (hkk:∀ y∈es',y.length=k) (hl':es'.length=es.length) :
  ∃ cur,w.heap[g]? = some (.cells cur e (0,0))∧o + vs.length≤cur.size∧Inv w0 F0 ρ (dn b (some (x,.rw e k es'))) (w.setRow g (splice cur.toList o vs).toArray) F∧Stp ρ b w F ρ (dn b (some (x,.rw e k es'))) (w.setRow g (splice cur.toList o vs).toArray) F:=by
 have hbx:=hi.box x _ hb
 cases hbx with
 | gn _ _ _ hg=>rw [hρ] at hg; cases hg
 | rw _ _ _ xs hk0 ho hF hk hl hrx hown =>
  have hFg : ¬ F g:=hF g (by rw [hρ]; rfl)
  have hown0:w0.own g:=hown g (by rw [hρ]; rfl)
  have ho':=ho
  rw [hρ] at ho'
  rcases ho'.2 with ⟨h',_⟩ | ⟨g',cap',cur,h',hbase,hg,hnc,hcm,hcs,htake⟩
  ·cases h'
  ·injection h' with h2 h3 h4
   injection h2 with h2
   injection h2 with h2
   subst h2 h4
   have hck:es.length * k≤cur.size:=by rw [hcs]; exact Nat.mul_le_mul_right _ hnc
   have hfl:es.flatten.length=es.length * k:=cF k es hk
   have hR:cz ρ b w F xs (es.flatten.map .d):=⟨by rw [List.length_map]; exact hl,fun p u d h5 h6=>by
    rw [List.getElem?_map,zm] at h6
    obtain ⟨d',h6,rfl⟩:=h6
    exact .d _ _ (hrx p u d' h5 h6)⟩
   have hV:cz ρ b w F vs (ds.map .d):=⟨by rw [List.length_map]; exact hvl,fun p u d h5 h6=>by
    rw [List.getElem?_map,zm] at h6
    obtain ⟨d',h6,rfl⟩:=h6
    exact .d _ _ (hrv p u d' h5 h6)⟩
   have hSp:=hR.splice hV o
   rw [← wD,← hfl'] at hSp
   have hstp:Stp ρ b w F ρ (dn b (some (x,.rw e k es'))) (w.setRow g (splice cur.toList o vs).toArray) F:=by
    refine ⟨fun _ h=>h,fun p hp=>setRow_other w g p _ (fun h=>hFg (h ▸ hp)),fun t' ty' cs' h=>?_,fun t' e' k' es2 h=>?_⟩
    ·have h':t'≠x:=fun h'=>by rw [h',hb] at h; cases h
     rw [cy _ _ h']; exact ⟨⟨_,_,h⟩,rfl⟩
    ·by_cases h':t' = x
     ·subst h'
      rw [hb] at h
      injection h with h
      injection h with q1 q2 q3
      subst q1 q2 q3
      rw [dm]
      exact ⟨_,_,rfl,by omega,fun _=>rfl⟩
     ·rw [cy _ _ h']; exact ⟨e',es2,h,Nat.le_refl _,fun _=>rfl⟩
   refine ⟨cur,hg,by rw [hvl]; omega,?_,hstp⟩
   have hs2:=hstp
   rw [← da ρ x] at hstp
   have:=Inv.turn (v:=ρ x) (B':=.rw e k es') (w':=w.setRow g (splice cur.toList o vs).toArray) hi hb (by rw [da] at hstp ⊢; exact hs2)
    (hi.ext.step rfl rfl rfl (by simp) fun p hp hM=>setRow_other w g p _ (fun h=>xY hp hM (h ▸ hown0))) (by simp) (fun p _ hp=>setRow_other w g p _ (fun h=>hp (by rw [hρ,h]; rfl))) (fun p hp=>.inl hp) ?_
   ·rw [da] at this; exact this
   ·rw [da]
    have hsp:=hSp.mono hs2
    refine .rw e k _ (splice xs o vs) hk0 ?_ hF hkk ?_ (fun p u d h5 h6=>?_) hown
    ·rw [hρ]
     refine ⟨by rw [mz (by rw [hl]; omega),hl']; exact ho.1,.inr ⟨g,c,(splice cur.toList o vs).toArray,by rw [hl'],hbase,setRow_heap w g cur _ e _ hg,by rw [hl']; exact hnc,hcm,?_,?_⟩⟩
     ·rw [List.size_toArray,mz (by simp; omega)]; simpa using hcs
     ·rw [hl',Be _ _ _ _ (by omega) (by simpa using hck),htake]
    ·have:=hsp.len; rw [List.length_map] at this; exact this
    ·have:=hsp.rep p u (.d d) h5 (by rw [List.getElem?_map,h6]; rfl)
     cases this with
     | d _ _ h9=>exact h9
theorem GQ {α : Type} {es ys:List α} {lo:Nat} (h:lo + ys.length≤es.length) : (nG es lo ys).length=es.length:=by
 simp [nG]; omega
theorem Np {α : Type} (k:Nat) {es ys:List (List α)} (hk:∀ e∈es,e.length=k) (hy:∀ e∈ys,e.length=k) {lo:Nat} (h:lo + ys.length≤es.length) : (nG es lo ys).flatten=splice es.flatten (lo * k) ys.flatten:=by
 have e1:(es.take lo).flatten=es.flatten.take (lo * k):=by
  have hl:(es.take lo).flatten.length=lo * k:=by rw [cF k _ (fun e he=>hk e (List.mem_of_mem_take he))]; simp; rw [Nat.min_eq_left (by omega)]
  have:es.flatten=(es.take lo).flatten++(es.drop lo).flatten:=by rw [← List.flatten_append,List.take_append_drop]
  rw [this,List.take_left' hl]
 unfold nG splice
 rw [List.flatten_append,List.flatten_append,e1,va k _ es hk h,cF k ys hy,Nat.add_mul]
theorem Rv {α : Type} {es ys:List α} {lo:Nat} {y : α} (h:y∈nG es lo ys) : y∈es∨y∈ys:=by
 simp only [nG,List.mem_append] at h
 rcases h with (h | h) | h
 ·exact .inl (List.mem_of_mem_take h)
 ·exact .inr h
 ·exact .inl (List.mem_of_mem_drop h)
theorem NS {t sT ty:TypeId} {xv yv:Value} {p q r:PV} {u:Nat×Box} (hi:Inv w0 F0 ρ b w F) (hx:aL ρ b w F xv p) (hy:aL ρ b w F yv q) (h:qq P b t p q=some (r,u)) :
  Got P w0 F0 ρ b w F ((Builtin.copy_ #[t,sT] ty #[xv,yv]).run P w) r (some u):=by
 unfold qq at h
 split at h
 ·rename_i e ys x n lo hi' hu hq hp
  split at h
  ·rename_i i e' k es hti hb
   obtain ⟨j,z,uu,hj,hz,hu2,hzs,hs,hby,ha,hzz,h1⟩:=di hti
   split at h
   ·rename_i hc
    obtain ⟨hl,hk,hall,hlo,hhi⟩:=hc
    injection h with h
    injection h with e1 e2
    subst e1 e2 hk
    have hsz:(P.info? e).map (·.size)=some i.size:=by rw [hj]; simp [hs]
    have hd:∃ A c A2 c2,ρ x = .slice A n c∧xv = .slice A2 (hi' - lo) c2∧(lo < hi'→∃ g,A=some ⟨g,0,none⟩∧A2=some ⟨g,lo * i.size,none⟩):=by
     cases hx with
     | row _ _ A c e3 k3 es3 hb3 hn hcc hA hρ =>
      injection hp with hp
      injection hp with q1 q2
      injection q2 with q2 q3
      injection q3 with q3 q4
      subst q1 q2 q3 q4
      rw [hb] at hb3
      injection hb3 with hb3
      injection hb3 with q1 q2 q3
      subst q1 q2 q3
      refine ⟨A,c,A,c,hρ hl,rfl,fun h0=>?_⟩
      obtain ⟨a,rfl⟩:=hA h0
      rcases (xO (hi.box _ _ hb) (hρ hl)).2.2.2.2.2 with ⟨h,_⟩ | ⟨g,h⟩
      ·cases h
      ·exact ⟨g,h,by rw [h,Nat.zero_mul]⟩
     | vw _ _ _ _ A m c e3 k3 es3 hb3 hn hl3 hh3 hm hρ =>
      injection hp with hp
      injection hp with q1 q2
      injection q2 with q2 q3
      injection q3 with q3 q4
      subst q1 q2 q3 q4
      rw [hb] at hb3
      injection hb3 with hb3
      injection hb3 with q1 q2 q3
      subst q1 q2 q3
      obtain ⟨A',c',h1,h2⟩:=hρ hl
      obtain ⟨A2,c2,e1,_,_,_,h5,_⟩:=Kk (hi.box _ _ hb) h1 hlo hhi
      rw [e1] at h2
      exact ⟨A',c',A2,c2,h1,h2,h5⟩
     | _=>cases hp
    obtain ⟨A,c,A2,c2,hρ,rfl,hpos⟩:=hd
    obtain ⟨B,cB,kB,rfl,_,_,_,hB,hcB⟩:=kD hi hy hq
    have hmin:(ys.take (hi' - lo)).length=min ys.length (hi' - lo):=by rw [List.length_take,Nat.min_comm]
    by_cases h0:min ys.length (hi' - lo)=0
    ·have hnil:ys.take (hi' - lo) = []:=List.eq_nil_of_length_eq_zero (by omega)
     have hsame:dn b (some (x,.rw e' i.size (nG es lo (ys.take (hi' - lo)))))=b:=by
      rw [hnil]
      funext t'
      by_cases ht:t' = x
      ·subst ht; rw [dm,hb]; simp [nG]
      ·rw [cy _ _ ht]
     refine ⟨_,w,ρ,Di w t sT ty e i.size A2 B (hi' - lo) c2 ys.length cB hu hsz h0,?_,?_,?_⟩
     ·rw [hsame]; exact hi
     ·rw [hsame]; exact Stp.refl _ _ _ _
     ·rw [h0]; exact .lit rfl
    ·obtain ⟨g,rfl,rfl⟩:=hpos (by omega)
     cases B with
     | none =>
      have:=(hB rfl).1
      subst this
      simp at h0
     | some a =>
      have hcB:=hcB a rfl
      have hml:(ys.take (hi' - lo)).flatten.length=min ys.length (hi' - lo) * i.size:=by rw [cF i.size _ (fun e he=>hall e (List.mem_of_mem_take he)),hmin]
      have hcell:∀ (j:Nat) d,(ys.take (hi' - lo)).flatten[j]? = some d→∃ u,w.cell? (a.add j)=some u∧ew w F u d:=fun j d hj=>hcB j d (zQ _ _ _ _ hj)
      have hsrc:∀ (j:Nat) v,((List.range (ys.take (hi' - lo)).flatten.length).map fun j=>(w.cell? (a.add j)).getD undef)[j]? = some v→j < (ys.take (hi' - lo)).flatten.length∧w.cell? (a.add j)=some v∧∀ d,(ys.take (hi' - lo)).flatten[j]? = some d→ew w F v d:=by
       intro j v hv
       rw [List.getElem?_map,zm] at hv
       obtain ⟨j',hj',rfl⟩:=hv
       obtain ⟨rfl,hlt⟩:=nF hj'
       obtain ⟨u,h3,h4⟩:=hcell _ _ (zq hlt)
       refine ⟨hlt,by rw [h3]; rfl,fun d hd=>?_⟩
       obtain ⟨u',h5,h6⟩:=hcell _ _ hd
       rw [h5]; exact h6
      have hone:∀ y∈((List.range (ys.take (hi' - lo)).flatten.length).map fun j=>(w.cell? (a.add j)).getD undef),y.oneCell' = true:=by
       intro y hy
       obtain ⟨j,hj⟩:=List.getElem?_of_mem hy
       obtain ⟨hlt,_,h5⟩:=hsrc j y hj
       exact (h5 _ (zq hlt)).one
      have hfit:lo + (ys.take (hi' - lo)).length≤es.length:=by rw [hmin]; omega
      have hk3:=(xO (hi.box _ _ hb) hρ).2.2.2.1
      subst hl
      obtain ⟨cur,k1,k2,k3,k4⟩:=Iv (o:=lo * i.size) (es':=nG es lo (ys.take (hi' - lo))) (vs:=(List.range (ys.take (hi' - lo)).flatten.length).map fun j=>(w.cell? (a.add j)).getD undef) (ds:=(ys.take (hi' - lo)).flatten) hi hb hρ (by simp) hone
       (fun j u d hu hd=>(hsrc j u hu).2.2 d hd) (by rw [hml,← Nat.add_mul,← hmin]; exact Nat.mul_le_mul_right _ hfit) (Np i.size hk3 (fun e he=>hall e (List.mem_of_mem_take he)) hfit)
       (fun y hy=>(Rv hy).elim (hk3 y) (fun h=>hall y (List.mem_of_mem_take h))) (GQ hfit)
      refine ⟨_,_,ρ,Rk w t sT ty e i.size g (lo * i.size) (hi' - lo) c2 (min ys.length (hi' - lo)) a ys.length cB cur e' _ hu hsz k1 rfl (by simpa using hml) (fun j v hv=>(hsrc j v hv).2.1) k2 hone,k3,k4,.lit rfl⟩
   ·cases h
  ·cases h
 ·cases h
theorem NQ {dst:Option Nat} {t:TypeId} {xv yv:Value} {p q r:PV} {u:Option (Nat×Box)} (hd:∀ d,dst=some d→d < 1000000) (hi:Inv w0 F0 ρ b w F) (hx:aL ρ b w F xv p) (hy:aL ρ b w F yv q) (h:u9 P b dst t p q=some (r,u)) :
  Got P w0 F0 ρ b w F ((Instr.makeSlice t xv yv).run P w) r u:=by
 unfold u9 at h
 split at h
 ·rename_i d e kn n km m hu hn hm
  split at h
  ·rename_i i hti hb
   obtain ⟨j,z,uu,hj,hz,hu2,hzs,hs,hby,ha,hzz,h1⟩:=di hti
   split at h
   ·rename_i hc
    obtain ⟨rfl,h0,hle,hk0,hbb⟩:=hc
    injection h with h
    injection h with e1 e2
    subst e1 e2
    obtain rfl:=d5 hx hn
    obtain rfl:=d5 hy hm
    have hnn:(n:Int)=((n.toNat:Nat) : Int):=(Int.toNat_of_nonneg h0).symm
    have hbm:j.bytes * n.toNat≤281474976710656:=by
     have h2:j.bytes≤1000000:=by rw [hby]; exact hbb
     have h3:n.toNat≤1000000:=by omega
     exact Nat.le_trans (Nat.mul_le_mul h2 h3) (by decide)
    obtain ⟨w',hrun,hown,hgrow⟩:=run_make_full (P:=P) w 0 t e j z i.size hu hj hz hs kn km n.toNat hbm (by simp [maxLen]; omega) (Nat.zero_le _)
    rw [← hnn] at hrun
    rw [hrun]
    have hx2:Ext w w':=⟨hgrow.os,hgrow.tape,hgrow.output,hgrow.size,fun k hk=>hgrow.block k hk (by simp)⟩
    have hzl:∀ y∈List.replicate n.toNat (i.zero.map fun z=>nrm (.v z)),y.length=i.size:=fun y hy=>by
     rw [List.eq_of_mem_replicate hy,List.length_map,hzz]; simpa using hzs
    have hmade:(madeCells z.cells (n.toNat * i.size)).toList=(List.replicate n.toNat z.cells.toList).flatten:=wu hzs
    have hfm:(List.replicate n.toNat (i.zero.map fun z=>nrm (.v z))).flatten=((List.replicate n.toNat z.cells.toList).flatten).map fun z=>nrm (.v z):=by
     rw [List.map_flatten,List.map_replicate,hzz]
    have:=DG (P:=P) (t:=d) (e:=e) (k:=i.size) (es:=List.replicate n.toNat (i.zero.map fun z=>nrm (.v z))) (xs:=(madeCells z.cells (n.toNat * i.size)).toList) (v:=.slice (some ⟨w.heap.size,0,none⟩) n.toNat n.toNat) (w':=w') hi (hd _ rfl) hb hk0 hx2
     (fun g hg=>by simp [blk] at hg; omega) (by rw [List.length_replicate]; exact hown) hzl (by rw [hmade,hfm,List.length_map]) (fun p x d' h7 h8=>by
      rw [hfm,List.getElem?_map] at h8
      rw [hmade] at h7
      rw [h7] at h8
      injection h8 with h8
      subst h8
      have hmem:=List.mem_of_getElem? h7
      rw [List.mem_flatten] at hmem
      obtain ⟨l,hl1,hl2⟩:=hmem
      rw [List.eq_of_mem_replicate hl1] at hl2
      exact (ew.v x (h1 x (by rw [hzz]; exact hl2))).nrm)
    rw [List.length_replicate] at this
    exact this
   ·cases h
  ·cases h
 ·cases h
end
end
section
def ss (P:Program) (b:Nat→Option Box) (dst:Option Nat) (f:Builtin) (args:List PV) (ts:List TypeId) : Option (PV×Option (Nat×Box)) :=
 match f with
 | .len=>match args,ts with | [x],[t]=>(tZ P t x).map fun r=>(r,none) | _,_=>none
 | .append=>match args,ts with | [x,y],[t,t']=>if t' = t then jx P b dst t x y else none | _,_=>none
 | .min=>match args with | x::xs=>(sn x xs).map fun r=>(r,none) | _=>none
 | .max=>match args with | x::xs=>(so x xs).map fun r=>(r,none) | _=>none
 | .copy=>match args,ts with | [x,y],[t,_]=>(qq P b t x y).map fun r=>(r.1,some r.2) | _,_=>none
 | _=>none
def CM (P:Program) (t:TypeId) (p q:PV) : Option PV:=match P.underlying t,asS p,asI q with
 | some .string,some s,some (_,i)=>if 0≤i then (match s.data.toList[i.toNat]? with
  | some c=>some (.d (.v (.int .u8 (c.toNat:Int))))
  | none=>none) else none
 | _,_,_=>none
theorem NR {P:Program} {ρ : Nat→Value} {b:Nat→Option Box} {w:World} {F:Nat→Prop} {t:TypeId} {xv iv:Value} {p q r:PV} (hx:aL ρ b w F xv p) (hq:aL ρ b w F iv q) (h:CM P t p q=some r) :
  ∃ v,aL ρ b w F v r∧(Instr.index t xv iv).run P w = .ok v w:=by
 unfold CM at h
 split at h
 ·rename_i s k i hu hs hi'
  have e1:=ry hx hs
  have e2:=d5 hq hi'
  subst e1 e2
  split at h
  ·rename_i h0
   split at h
   ·rename_i c hc
    injection h with h
    subst h
    have hlt:i.toNat < s.size:=by have:=(zg.1 hc).1; simpa using this
    have hv:s[i.toNat] = c:=by
     have:=(zg.1 hc).2
     have h2:s.data[i.toNat]'(by simpa using hlt)=c:=by simpa using this
     exact h2
    refine ⟨.int .u8 ((s[i.toNat]).toNat:Int),?_,?_⟩
    ·rw [hv]; exact .d _ _ (.v _ rfl)
    ·rw [run_index_string (w:=w) t s k i hu,dif_pos ⟨h0,by omega⟩]
   ·cases h
  ·cases h
 ·cases h
def Et (P:Program) (t:TypeId) (p q:PV) : Option PV:=match P.underlying t,p,asI q with
 | some (.array n e),.ag cs,some (_,i)=>match mh P e with
  | some ie=>if 0≤i∧i < n then Bp ie.size ie.agg (cs.drop (i.toNat * ie.size)) else none
  | none=>none
 | _,_,_=>CM P t p q
theorem R5 {P:Program} {ρ : Nat→Value} {b:Nat→Option Box} {w:World} {F:Nat→Prop} {t:TypeId} {xv iv:Value} {p q r:PV} (hx:aL ρ b w F xv p) (hq:aL ρ b w F iv q) (h:Et P t p q=some r) :
  ∃ v,aL ρ b w F v r∧(Instr.index t xv iv).run P w = .ok v w:=by
 unfold Et at h
 split at h
 ·rename_i n e cs k i hu hi'
  have e2:=d5 hq hi'
  subst e2
  split at h
  ·rename_i ie hie
   obtain ⟨j,z,u,hj,hz,hu2,hzs,hs,hby,ha,hzz,h1z⟩:=di hie
   split at h
   ·rename_i hb
    cases hx with
    | ag xs _ hl h1 hr =>
     have R:cz ρ b w F xs.toList cs:=⟨by simpa using hl,fun j x c h2 h3=>hr j x c (by simpa using h2) h3⟩
     have hp:=z8 (R.drop (i.toNat * ie.size)) (fun x hx=>h1 x (by simpa using List.mem_of_mem_drop hx)) h
     rcases hp with ⟨h2,h3,h4⟩ | ⟨h2,x,h3,h4⟩
     ·refine ⟨_,h4,?_⟩
      have e:(xs.extract (i.toNat * ie.size) (i.toNat * ie.size + ie.size))=((xs.toList.drop (i.toNat * ie.size)).take ie.size).toArray:=by
       apply Array.ext'
       simp [Array.toList_extract,List.extract]
      rw [ha] at h2
      simp [Instr.index,run_underlying hu,asIntOf,hb,part,oW hu2,h2,sizeOf,typeInfo,hj,hs,e]
     ·refine ⟨x,h4,?_⟩
      rw [List.getElem?_drop,Nat.add_zero,Array.getElem?_toList] at h3
      rw [ha] at h2
      simp [Instr.index,run_underlying hu,asIntOf,hb,part,oW hu2,h2,sizeOf,typeInfo,hj,hs,h3]
   ·cases h
  ·cases h
 ·exact NR hx hq h
def Jq:List D→Option Int
 | [.v (.int .u8 n)]=>some n
 | _=>none
def vb:List (List D)→ByteArray→Option ByteArray
 | [],acc=>some acc
 | e::es,acc=>match Jq e with
  | some n=>vb es (acc.push (UInt8.ofNat n.toNat))
  | none=>none
theorem LS {e:List D} {n:Int} (h:Jq e=some n) : e = [.v (.int .u8 n)]:=by
 unfold Jq at h
 split at h
 ·injection h with h; rw [h]
 ·cases h
def ia (P:Program) (b:Nat→Option Box) (src dst:TypeId) (p:PV) : Option PV :=
 match P.underlying src,P.underlying dst with
 | some (.slice e),some .string=>match P.underlying e,kU b p with
  | some (.int .u8),some (x::es)=>(vb (x::es) ByteArray.empty).map fun s=>.d (.v (.string s))
  | _,_=>none
 | _,_=>sr P src dst p
theorem yr:∀ (es:List (List D)) (acc s:ByteArray),vb es acc=some s→∃ ns:List Int,es=ns.map (fun n=>[.v (.int .u8 n)])∧s=ns.foldl (fun r n=>r.push (UInt8.ofNat n.toNat)) acc
 | [],acc,s,h=>by injection h with h; exact ⟨[],rfl,h.symm⟩
 | e::es,acc,s,h=>by
  simp only [vb] at h
  cases hb:Jq e with
  | none=>rw [hb] at h; cases h
  | some n =>
   rw [hb] at h
   obtain ⟨ns,h3,h4⟩:=yr _ _ s h
   exact ⟨n::ns,by rw [h3,LS hb]; rfl,h4⟩
theorem Lz {P:Program} {ρ : Nat→Value} {b:Nat→Option Box} {w:World} {w0:WM} {F F0:Nat→Prop} {src dst:TypeId} {xv:Value} {p r:PV} (hi:Inv w0 F0 ρ b w F) (hx:aL ρ b w F xv p) (h:ia P b src dst p=some r) : ∃ v,aL ρ b w F v r∧(convert src dst xv).run P w = .ok v w:=by
 unfold ia at h
 split at h
 ·rename_i e hs hd
  split at h
  ·rename_i y es he hes
   rw [zm] at h
   obtain ⟨s,h1,rfl⟩:=h
   obtain ⟨ns,h2,rfl⟩:=yr _ _ _ h1
   obtain ⟨A,c,k,rfl,hc,hm,hk,hA,hcell⟩:=kD hi hx hes
   cases A with
   | none=>exact absurd (hA rfl).1 (by simp)
   | some a =>
    have hcell:=hcell a rfl
    refine ⟨_,.d _ _ (.v _ rfl),?_⟩
    rw [run_convert_bytes_string w src dst e (some a) _ c hs he hd]
    have hl:(y::es).length=ns.length:=by rw [h2]; simp
    rw [hl]
    refine run_bytesToString w a ns.length c ns ?_
    have:=run_loadCells_list (P:=P) w a (ns.map (Value.int .u8)) (fun j v hv=>?_)
    ·rw [List.length_map] at this; exact this
    ·rw [List.getElem?_map,zm] at hv
     obtain ⟨n,hn,rfl⟩:=hv
     have hf:(y::es).flatten[j]? = some (.v (.int .u8 n)):=by
      rw [h2]
      have:∀ (ns:List Int) (j:Nat) (n:Int),ns[j]? = some n→((ns.map (fun n=>[D.v (.int .u8 n)])).flatten)[j]? = some (.v (.int .u8 n)):=by
       intro ns
       induction ns with
       | nil=>intro j n h; simp at h
       | cons m ns ih =>
        intro j n h
        cases j with
        | zero=>simp at h; subst h; rfl
        | succ j=>simp at h; simpa using ih j n h
      exact this ns j n hn
     obtain ⟨u,h4,h5⟩:=hcell j _ hf
     cases h5 with
     | v _ _=>exact h4
  ·cases h
 ·exact NT hx h
def w7 (p:PV) : Option PV:=match p with
 | .ptr t o=>some (.ptr t o)
 | .re t n i o=>some (.re t n i o)
 | .fe cs=>some (.fe cs)
 | _=>none
theorem RZ {ρ : Nat→Value} {b:Nat→Option Box} {w:World} {F:Nat→Prop} {xv:Value} {p r:PV} (hx:aL ρ b w F xv p) (h:w7 p=some r) : r=p∧∃ a,xv = .pointer (some a):=by
 unfold w7 at h
 split at h
 ·injection h with h
  cases hx with
  | ptr t off g ty cs hb hρ=>exact ⟨h.symm,_,rfl⟩
 ·injection h with h
  cases hx with
  | re t n i off a e k es hb hn hi hρ=>exact ⟨h.symm,_,rfl⟩
 ·injection h with h
  cases hx with
  | fe a cs us hF hcell hrep=>exact ⟨h.symm,_,rfl⟩
 ·cases h
def eff (P:Program) (o:Oper) (s:PS) : Option (PV×Option (Nat×Box)) :=
 match o.op with
 | .move x=>some (ev s x,none)
 | .assign x=>some (ev s x,none)
 | .pick c x y=>match asB (ev s c) with | some t=>some (if t then ev s x else ev s y,none) | none=>none
 | .alloc e=>ub P s.b o.dst e
 | .box e x=>Ex s.b o.dst e (ev s x)
 | .build t ps=>(yo P t (ps.toList.map fun (i,x)=>(i,ev s x))).map fun r=>(r,none)
 | .buildSlice t n ps=>iC P s.b o.dst t n (ps.toList.map fun (i,x)=>(i,ev s x))
 | .load t x=>(qp P s.b t (ev s x)).map fun r=>(r,none)
 | .store t x y=>(lw P s.b t (ev s x) (ev s y)).map fun u=>(.junk,some u)
 | .binOp op t x y _=>(su P op t (ev s x) (ev s y)).map fun r=>(r,none)
 | .unOp op _ x=>(QM op (ev s x)).map fun r=>(r,none)
 | .convert src dst x=>(ia P s.b src dst (ev s x)).map fun r=>(r,none)
 | .slice t x lo hi none=>(ez P s.b t (ev s x) (lo.map (ev s)) (hi.map (ev s))).map fun r=>(r,none)
 | .fieldAddr t x f=>(gR P t (ev s x) f).map fun r=>(r,none)
 | .field t x f=>(ua P t (ev s x) f).map fun r=>(r,none)
 | .indexAddr t x i=>(eg P s.b t (ev s x) (ev s i)).map fun r=>(r,none)
 | .extract x i=>(sp (ev s x) i).map fun r=>(r,none)
 | .index t x i=>(Et P t (ev s x) (ev s i)).map fun r=>(r,none)
 | .call c=>match c.callee with
  | .builtin f=>ss P s.b o.dst f (c.args.toList.map (ev s)) c.argTypes.toList
  | _=>none
 | .makeFunc (.func f) ps qs=>some (.fn f (ps.toList.map (ev s)) (qs.toList.map (ev s)),none)
 | .makeSlice t x y=>u9 P s.b o.dst t (ev s x) (ev s y)
 | .nilCheck x=>(w7 (ev s x)).map fun r=>(r,none)
 | _=>none
section
variable {P:Program} {ρ ρ':Nat→Value} {b b':Nat→Option Box} {w w':World} {w0:WM} {F F' F0:Nat→Prop}
theorem oV {ov:Option Value} {op:Option PV} {n l:Nat} (h:match ov,op with | some v,some p=>aL ρ b w F v p | none,none=>True | _,_=>False) (hp:vE op n=some l) :
  (ov=none∧op=none∧l=n)∨∃ k,ov=some (.int k (l:Int)):=by
 unfold vE at hp
 split at hp
 ·injection hp with hp
  cases ov with
  | none=>exact .inl ⟨rfl,rfl,hp.symm⟩
  | some v=>exact h.elim
 ·rename_i p
  cases ov with
  | none=>exact h.elim
  | some v =>
   split at hp
   ·rename_i k i hi
    split at hp
    ·rename_i h0
     injection hp with hp
     obtain rfl:=d5 h hi
     exact .inr ⟨k,by rw [← hp,Int.toNat_of_nonneg h0]⟩
    ·cases hp
   ·cases hp
theorem Iw {x:Value} {A:Option Addr} {c:Nat} {es:List (List D)} {k l h:Nat} (_:x = .slice A es.length c) (hc:es.length≤c) (hm:c≤maxLen) (hk:∀ e∈es,e.length=k) (hA:A=none→es = []∧c=0)
  (hcell:∀ a,A=some a→∀ (j:Nat) d,es.flatten[j]? = some d→∃ u,w.cell? (a.add j)=some u∧ew w F u d) (hF:∀ a,A=some a→0 < es.length→F a.block) (hl:l≤h) (hh:h≤es.length) :
  ew w F (sliced A l h c k) (.sl ((es.drop l).take (h - l))):=by
 have hlen:((es.drop l).take (h - l)).length=h - l:=by simp; omega
 unfold sliced
 cases A with
 | none =>
  obtain ⟨rfl,rfl⟩:=hA rfl
  have:l=0∧h=0:=by simp at hh; omega
  obtain ⟨rfl,rfl⟩:=this
  exact .sl none 0 0 0 [] (fun _=>undef) rfl (Nat.le_refl _) (by simp [maxLen]) (by simp) (by omega) (fun _=>rfl) (by simp) (by simp)
 | some a =>
  have hcell:=hcell a rfl
  refine .sl _ _ _ k _ (fun j=>(w.cell? (a.add (l * k + j))).getD undef) hlen.symm (by omega) (by omega) (fun e he=>hk e (List.mem_of_mem_drop (List.mem_of_mem_take he))) (fun h0=>?_) (fun h0=>?_) (fun a' j d ha' hj=>?_) (fun j d hj=>?_)
  ·have hF:=hF a rfl (by omega)
   split
   ·exact ⟨a,rfl,hF⟩
   ·exact ⟨_,rfl,by rw [db]; exact hF⟩
  ·split at h0 <;> cases h0
  all_goals
   have h1:=zQ _ _ _ _ hj
   have hlt0:=(zg.1 hj).1
   rw [cF k _ (fun e he=>hk e (List.mem_of_mem_drop (List.mem_of_mem_take he))),hlen] at hlt0
   have hlt:l < h:=by
    rcases Nat.lt_or_ge l h with h | h'
    ·exact h
    ·rw [show h - l=0 by omega,Nat.zero_mul] at hlt0; omega
   rw [va k l es hk (by omega),List.getElem?_drop] at h1
   obtain ⟨u,h2,h3⟩:=hcell _ d h1
  ·rw [if_neg (by omega)] at ha'
   injection ha' with ha'
   subst ha'
   rw [Go.Deep.add_add,h2]
   rfl
  ·rw [h2]
   exact h3
theorem LW {x:Value} {dd:D} {es:List (List D)} {A:Option Addr} {n c:Nat} {a:Addr} (h:aL ρ b w F x (.d dd)) (hp:kU b (.d dd)=some es) (hx:x = .slice A n c) (ha:A=some a) (h0 : 0 < es.length) : F a.block:=by
 cases h with
 | d _ _ h =>
  cases h with
  | v _ h1 =>
   subst hx ha
   simp [kU] at hp
  | sl A' n' c' k es' us hn hc hm hk hA hA0 hcell hrep =>
   injection hp with hp
   subst hp
   injection hx with e1 e2 e3
   subst e1
   obtain ⟨a',h1,h2⟩:=hA (by omega)
   rw [ha] at h1
   injection h1 with h1
   subst h1
   exact h2
theorem Lx {t:TypeId} {xv:Value} {p r:PV} {lo hi':Option Value} {plo phi:Option PV} (hi:Inv w0 F0 ρ b w F) (hx:aL ρ b w F xv p)
  (hlo:match lo,plo with | some v,some p=>aL ρ b w F v p | none,none=>True | _,_=>False) (hhi:match hi',phi with | some v,some p=>aL ρ b w F v p | none,none=>True | _,_=>False)
  (h:ez P b t p plo phi=some r) : ∃ v,aL ρ b w F v r∧(Instr.sliceAt t xv lo hi' none).run P w = .ok v w:=by
 unfold ez at h
 split at h
 ·rename_i e hu
  have hue:P.underlying t=some (.slice (P.elem t)):=by rw [yn hu]; exact hu
  split at h
  ·rename_i i dd hti
   obtain ⟨j,z,uu,hj,hz,hu2,hzs,hs,hby,ha,hzz,h1⟩:=di hti
   split at h
   ·rename_i es hes
    split at h
    ·rename_i l hh hl hhh
     split at h
     ·rename_i hc
      obtain ⟨hc1,hc2,hc3⟩:=hc
      injection h with h
      subst h
      obtain ⟨A,c,k,rfl,hcap,hm,hk,hA,hcell⟩:=kD hi hx hes
      have hsz:∀ w:World,(sizeOf (P.elem t)).run P w = .ok i.size w:=fun w=>by rw [yn hu]; simp [sizeOf,typeInfo,hj,hs]
      have hd:ew w F (sliced A l hh c i.size) (.sl ((es.drop l).take (hh - l))) :=
       Iw rfl hcap hm hc3 hA hcell (fun a ha h0=>LW hx hes rfl ha h0) hc1 hc2
      refine ⟨_,.d _ _ hd,?_⟩
      rw [run_sliceAt_slice w t _ _ _ _ hue]
      rcases oV hlo hl with ⟨rfl,_,rfl⟩ | ⟨k1,rfl⟩ <;> rcases oV hhi hhh with ⟨rfl,_,rfl⟩ | ⟨k2,rfl⟩
      ·rw [run_slice_all w t A es.length c hue,hsz]; rfl
      ·rw [run_slice_h w t A es.length c hue k2 hh (by omega) (by omega),hsz]; rfl
      ·rw [run_slice_l w t A es.length c hue k1 l (by omega) (by omega),hsz]; rfl
      ·rw [run_slice_lh w t A es.length c hue k1 k2 l hh (by omega) (by omega) (by omega),hsz]; rfl
     ·cases h
    ·cases h
   ·cases h
  ·rename_i i x n hti
   obtain ⟨j,z,uu,hj,hz,hu2,hzs,hs,hby,ha,hzz,h1⟩:=di hti
   split at h
   ·rename_i e' k es hb
    split at h
    ·rename_i l hh hl hhh
     split at h
     ·rename_i hc
      obtain ⟨hc0,hc1,hc2,hc3⟩:=hc
      injection h with h
      subst h hc1
      cases hx with
      | row x n A c e3 k3 es3 hb3 hn hcc hA hρ =>
       rw [hb] at hb3
       injection hb3 with hb3
       injection hb3 with q1 q2 q3
       subst q1 q2 q3
       have hsz:∀ w:World,(sizeOf (P.elem t)).run P w = .ok i.size w:=fun w=>by rw [yn hu]; simp [sizeOf,typeInfo,hj,hs]
       refine ⟨sliced A l hh c i.size,.vw x n l hh _ _ _ e' i.size es hb hn hc2 hc3 rfl (fun h=>⟨A,c,hρ h,rfl⟩),?_⟩
       rw [run_sliceAt_slice w t _ _ _ _ hue]
       rcases oV hlo hl with ⟨rfl,_,rfl⟩ | ⟨k1,rfl⟩ <;> rcases oV hhi hhh with ⟨rfl,_,rfl⟩ | ⟨k2,rfl⟩
       ·rw [run_slice_all w t A _ c hue,hsz]; rfl
       ·rw [run_slice_h w t A _ c hue k2 hh (by omega) (by omega),hsz]; rfl
       ·rw [run_slice_l w t A _ c hue k1 l (by omega) (by omega),hsz]; rfl
       ·rw [run_slice_lh w t A _ c hue k1 k2 l hh (by omega) (by omega) (by omega),hsz]; rfl
     ·cases h
    ·cases h
   ·cases h
  ·cases h
 ·rename_i hu
  split at h
  ·rename_i s hs
   obtain rfl:=ry hx hs
   split at h
   ·rename_i l hh hl hhh
    split at h
    ·rename_i hc
     obtain ⟨hc1,hc2⟩:=hc
     injection h with h
     subst h
     refine ⟨_,.lit rfl,?_⟩
     rw [run_sliceAt_string w t _ _ _ _ hu]
     rcases oV hlo hl with ⟨rfl,_,rfl⟩ | ⟨k1,rfl⟩ <;> rcases oV hhi hhh with ⟨rfl,_,rfl⟩ | ⟨k2,rfl⟩
     ·simp [Instr.slice,run_underlying hu,Instr.sliceBounds]
     ·have : ¬ (hh:Int) < 0:=by omega
      simp [Instr.slice,run_underlying hu,Instr.sliceBounds,Instr.sliceBound,asIntOf,hc2]
     ·simp [Instr.slice,run_underlying hu,Instr.sliceBounds,Instr.sliceBound,asIntOf,hc1]
     ·simp [Instr.slice,run_underlying hu,Instr.sliceBounds,Instr.sliceBound,asIntOf,hc1,hc2]
    ·cases h
   ·cases h
  ·cases h
 ·cases h
theorem Out.got {res:Result Value} {r:PV} {u:Option (Nat×Box)} (h:Got P w0 F0 ρ b w F res r u) : Out w0 F0 ρ b w F (res.andThen fun v w=>.ok (.value v) w) r u:=by
 obtain ⟨v,w',ρ',rfl,h1,h2,h3⟩:=h
 exact ⟨v,w',ρ',F,.inl rfl,h1,h2,h3⟩
theorem Out.one (hi:Inv w0 F0 ρ b w F) {res:Result Value} {r:PV} (h:∃ v,aL ρ b w F v r∧res = .ok v w) : Out w0 F0 ρ b w F (res.andThen fun v w=>.ok (.value v) w) r none :=
 Out.got (P:=default) (Got.pure hi h)
end
end
section
section
variable {P:Program} {ρ ρ':Nat→Value} {b b':Nat→Option Box} {w w':World} {w0:WM} {F F' F0:Nat→Prop}
theorem KY {α : Type} {l:Array α} {x : α} (h:l.toList = [x]) : l = #[x]:=by apply Array.ext'; simpa using h
theorem yd {α : Type} {l:Array α} {x y : α} (h:l.toList = [x,y]) : l = #[x,y]:=by apply Array.ext'; simpa using h
theorem Qk {α β : Type} {f : α→β} {l:List α} {y : β} (h:l.map f = [y]) : ∃ x,l = [x]∧f x=y:=by
 cases l with
 | nil=>cases h
 | cons a l=>cases l with
  | nil=>exact ⟨a,rfl,by injection h⟩
  | cons _ _=>simp at h
theorem Qj {α β : Type} {f : α→β} {l:List α} {y z : β} (h:l.map f = [y,z]) : ∃ x x',l = [x,x']∧f x=y∧f x' = z:=by
 cases l with
 | nil=>cases h
 | cons a l =>
  simp only [List.map_cons,List.cons.injEq] at h
  obtain ⟨x',h1,h2⟩:=Qk h.2
  exact ⟨a,x',by rw [h1],h.1,h2⟩
theorem Qd {s:PS} {a:Act} (hev:∀ x,aL ρ s.b w F (a.eval x) (ev s x)) (o:Option Operand) : match o.map a.eval,o.map (ev s) with | some v,some p=>aL ρ s.b w F v p | none,none=>True | _,_=>False:=by
 cases o with
 | none=>trivial
 | some x=>exact hev x
theorem z7 {s:PS} {a:Act} (hev:∀ x,aL ρ s.b w F (a.eval x) (ev s x)) (xs:Array Operand) : cz ρ s.b w F (xs.map a.eval).toList (xs.toList.map (ev s)) :=
 ⟨by simp,fun j x c h1 h2=>by
  rw [Array.toList_map,List.getElem?_map] at h1
  rw [List.getElem?_map] at h2
  cases hj:xs.toList[j]? with
  | none=>rw [hj] at h1; cases h1
  | some y =>
   rw [hj] at h1 h2
   injection h1 with h1
   injection h2 with h2
   subst h1 h2
   exact hev y⟩
theorem Ds {s:PS} {a:Act} (hev:∀ x,aL ρ s.b w F (a.eval x) (ev s x)) {xs:Array Operand} {l:List PV} (h:xs.toList.map (ev s)=l) : cz ρ s.b w F (xs.map a.eval).toList l:=by
 rw [← h]; exact z7 hev xs
theorem Yn {o:Oper} {s:PS} {a:Act} {r:PV} {u:Option (Nat×Box)} (hd:∀ d,o.dst=some d→d < 1000000) (hi:Inv w0 F0 ρ s.b w F) (hev:∀ x,aL ρ s.b w F (a.eval x) (ev s x)) (h:eff P o s=some (r,u)) :
  Out w0 F0 ρ s.b w F ((execOp a.eval o).run P w) r u:=by
 have vrun:∀ (m:Sem Value),((do pure (.value (← m)) : Sem Next)).run P w=(m.run P w).andThen fun v w=>.ok (.value v) w:=fun m=>by
  rw [Sem.run_bind]; rfl
 unfold eff at h
 unfold execOp
 split at h
 all_goals
  rename_i ho
  simp only [ho]
 ·injection h with h
  injection h with e1 e2
  subst e1 e2
  exact Out.pure hi rfl (hev _)
 ·injection h with h
  injection h with e1 e2
  subst e1 e2
  exact Out.pure hi rfl (hev _)
 ·split at h
  ·rename_i t ht
   injection h with h
   injection h with e1 e2
   subst e1 e2
   have hb:=rz (hev _) ht
   rw [hb]
   cases t
   ·exact Out.pure hi rfl (hev _)
   ·exact Out.pure hi rfl (hev _)
  ·cases h
 ·rw [vrun]; exact Out.got (LB hd hi h)
 ·rw [vrun]; exact Out.got (R7 hd hi (hev _) h)
 ·rw [zm] at h
  obtain ⟨r',h1,h2⟩:=h
  injection h2 with e1 e2
  subst e1 e2
  rw [vrun]
  have hp:=GR hev (by assumption)
  exact Out.one hi (LA hp.1 hp.2 h1)
 ·rw [vrun]
  have hp:=GR hev (by assumption)
  exact Out.got (AA hd hi hp.1 hp.2 h)
 ·rw [zm] at h
  obtain ⟨r',h1,h2⟩:=h
  injection h2 with e1 e2
  subst e1 e2
  rw [vrun]
  exact Out.one hi (Es hi (hev _) h1)
 ·rw [zm] at h
  obtain ⟨r',h1,h2⟩:=h
  injection h2 with e1 e2
  subst e1 e2
  obtain ⟨w',h3,h4,h5⟩:=Lw hi (hev _) (hev _) h1
  refine ⟨undef,w',ρ,F,.inr ⟨?_,rfl⟩,h4,h5,.junk _⟩
  rw [Sem.run_bind,h3]
  rfl
 ·rw [zm] at h
  obtain ⟨r',h1,h2⟩:=h
  injection h2 with e1 e2
  subst e1 e2
  rw [vrun]
  exact Out.one hi (R8 (hev _) (hev _) h1)
 ·rw [zm] at h
  obtain ⟨r',h1,h2⟩:=h
  injection h2 with e1 e2
  subst e1 e2
  rw [vrun]
  exact Out.one hi (UT (hev _) h1)
 ·rw [zm] at h
  obtain ⟨r',h1,h2⟩:=h
  injection h2 with e1 e2
  subst e1 e2
  rw [vrun]
  exact Out.one hi (Lz hi (hev _) h1)
 ·rw [zm] at h
  obtain ⟨r',h1,h2⟩:=h
  injection h2 with e1 e2
  subst e1 e2
  rw [vrun]
  exact Out.one hi (Lx hi (hev _) (Qd hev _) (Qd hev _) h1)
 ·rw [zm] at h
  obtain ⟨r',h1,h2⟩:=h
  injection h2 with e1 e2
  subst e1 e2
  rw [vrun]
  exact Out.one hi (Cb (hev _) h1)
 ·rw [zm] at h
  obtain ⟨r',h1,h2⟩:=h
  injection h2 with e1 e2
  subst e1 e2
  rw [vrun]
  exact Out.one hi (Ly (hev _) h1)
 ·rw [zm] at h
  obtain ⟨r',h1,h2⟩:=h
  injection h2 with e1 e2
  subst e1 e2
  rw [vrun]
  exact Out.one hi (Ca hi (hev _) (hev _) h1)
 ·rw [zm] at h
  obtain ⟨r',h1,h2⟩:=h
  injection h2 with e1 e2
  subst e1 e2
  rw [vrun]
  exact Out.one hi (F5 (hev _) h1)
 ·rw [zm] at h
  obtain ⟨r',h1,h2⟩:=h
  injection h2 with e1 e2
  subst e1 e2
  rw [vrun]
  exact Out.one hi (R5 (hev _) (hev _) h1)
 ·split at h
  ·rename_i c f hf
   simp only [resolve,hf,Sem.run_bind,Sem.run_pure,Result.andThen_ok,invoke,builtin]
   unfold ss at h
   split at h
   ·split at h
    ·rename_i x t hx ht
     rw [zm] at h
     obtain ⟨r',h1,h2⟩:=h
     injection h2 with e1 e2
     subst e1 e2
     obtain ⟨y,hy,rfl⟩:=Qk hx
     have ea:=KY hy
     have et:=KY ht
     rw [ea,et]
     simp only [List.map_toArray,List.map_cons,List.map_nil]
     rw [vrun]
     exact Out.one hi (R4 (hev _) h1)
    ·cases h
   ·split at h
    ·rename_i x y t t' hx ht
     split at h
     ·rename_i htt
      subst htt
      obtain ⟨z,z',hz,rfl,rfl⟩:=Qj hx
      have ea:=yd hz
      have et:=yd ht
      rw [ea,et]
      simp only [List.map_toArray,List.map_cons,List.map_nil]
      rw [vrun]
      exact Out.got (I7 hd hi (hev _) (hev _) h)
     ·cases h
    ·cases h
   ·split at h
    ·rename_i x xs hx
     rw [zm] at h
     obtain ⟨r',h1,h2⟩:=h
     injection h2 with e1 e2
     subst e1 e2
     rw [vrun]
     refine Out.one hi ?_
     have hR:=Ds hev hx
     unfold Builtin.min_
     revert hR
     generalize (Array.map a.eval _).toList=ll
     intro hR
     cases ll with
     | nil=>have:=hR.len; simp at this
     | cons v vs=>exact En xs vs x v r' (hR.rep 0 v x rfl rfl) ⟨by have:=hR.len; simpa using this,fun j u q h3 h4=>hR.rep (j + 1) u q (by simpa using h3) (by simpa using h4)⟩ h1
    ·cases h
   ·split at h
    ·rename_i x xs hx
     rw [zm] at h
     obtain ⟨r',h1,h2⟩:=h
     injection h2 with e1 e2
     subst e1 e2
     rw [vrun]
     refine Out.one hi ?_
     have hR:=Ds hev hx
     unfold Builtin.max_
     revert hR
     generalize (Array.map a.eval _).toList=ll
     intro hR
     cases ll with
     | nil=>have:=hR.len; simp at this
     | cons v vs=>exact Ep xs vs x v r' (hR.rep 0 v x rfl rfl) ⟨by have:=hR.len; simpa using this,fun j u q h3 h4=>hR.rep (j + 1) u q (by simpa using h3) (by simpa using h4)⟩ h1
    ·cases h
   ·split at h
    ·rename_i x y t t' hx ht
     rw [zm] at h
     obtain ⟨⟨r',u'⟩,h1,h2⟩:=h
     injection h2 with e1 e2
     subst e1 e2
     obtain ⟨z,z',hz,rfl,rfl⟩:=Qj hx
     have ea:=yd hz
     have et:=yd ht
     rw [ea,et]
     simp only [List.map_toArray,List.map_cons,List.map_nil]
     rw [vrun]
     exact Out.got (NS hi (hev _) (hev _) h1)
    ·cases h
   ·cases h
  ·cases h
 ·injection h with h
  injection h with e1 e2
  subst e1 e2
  rw [vrun]
  rename_i f ps qs
  have h1:=z7 hev ps
  have h2:=z7 hev qs
  exact Out.one hi ⟨_,.fn f (ps.map a.eval) (qs.map a.eval) _ _ (by simp) (fun j x c k1 k2=>h1.rep j x c (by simpa using k1) k2) (by simp) (fun j x c k1 k2=>h2.rep j x c (by simpa using k1) k2),rfl⟩
 ·rw [vrun]
  exact Out.got (NQ hd hi (hev _) (hev _) h)
 ·rename_i x
  rw [zm] at h
  obtain ⟨r',h1,h2⟩:=h
  injection h2 with e1 e2
  subst e1 e2
  obtain ⟨rfl,ad,had⟩:=RZ (hev x) h1
  have hx:=hev x
  rw [had] at hx ⊢
  exact Out.pure hi rfl hx
 ·cases h
def dZ:Nat→Option Box:=fun _=>none
def ρNone:Nat→Value:=fun _=>undef
def eB (P:Program) (f:FuncId) : Bool:=match P.funcs[f]? with | some fn=>fn.body.isSome && !(fn.name == "runtime.NumGoroutine") | none=>false
def PC (P:Program) (f:FuncId) (args:List PV) (r:PV) : Prop :=
 eB P f=true∧∀ (w:World) (F:Nat→Prop) (vs:Array Value),(∀ g,F g→g < w.heap.size)→cz ρNone dZ w F vs.toList args →
  Calls P f vs w fun e w'=>∃ v F',e = .returned v∧Ext w w'∧(∀ g,F g→F' g)∧(∀ g,F' g→g < w'.heap.size)∧(∀ g,F' g→F g∨w.heap.size≤g)∧aL ρNone dZ w' F' v r
mutual
def clean:PV→Bool
 | .junk=>true
 | .d _=>true
 | .ag cs=>cD cs
 | .tup cs=>cD cs
 | .fe _=>true
 | .fn _ ps qs=>cD ps&&cD qs
 | _=>false
def cD:List PV→Bool
 | []=>true
 | c::cs=>clean c&&cD cs
end
mutual
def asData (b:Nat→Option Box) : PV→PV
 | .row t n=>match b t with
  | some (.rw _ _ es)=>if es.length=n then .d (.sl es) else .junk
  | _=>.junk
 | .ag cs=>.ag (bG b cs)
 | .tup cs=>.tup (bG b cs)
 | .ptr _ _=>.junk
 | .re _ _ _ _=>.junk
 | .vw _ _ _ _=>.junk
 | .d x=>.d (nrm x)
 | .fn f ps qs=>.fn f (bG b ps) (bG b qs)
 | p=>p
def bG (b:Nat→Option Box) : List PV→List PV
 | []=>[]
 | c::cs=>asData b c::bG b cs
end
mutual
def flat:PV→Bool
 | .junk=>true
 | .d (.v _)=>true
 | .ag cs=>tW cs
 | .tup cs=>tW cs
 | _=>false
def tW:List PV→Bool
 | []=>true
 | c::cs=>flat c&&tW cs
end
theorem fG:∀ {cs:List PV} (_:cD cs=true) {j:Nat} {c:PV},cs[j]? = some c→clean c=true
 | [],_,j,c,h=>by simp at h
 | d::cs,h,j,c,hj=>by
  simp only [cD,Bool.and_eq_true] at h
  cases j with
  | zero=>simp at hj; subst hj; exact h.1
  | succ j=>simp at hj; exact fG h.2 hj
theorem Au:∀ {cs:List PV} (_:tW cs=true) {j:Nat} {c:PV},cs[j]? = some c→flat c=true
 | [],_,j,c,h=>by simp at h
 | d::cs,h,j,c,hj=>by
  simp only [tW,Bool.and_eq_true] at h
  cases j with
  | zero=>simp at hj; subst hj; exact h.1
  | succ j=>simp at hj; exact Au h.2 hj
theorem dB (b:Nat→Option Box) : ∀ (cs:List PV) (j:Nat) (c:PV),(bG b cs)[j]? = some c→∃ d,cs[j]? = some d∧c=asData b d
 | [],j,c,h=>by simp [bG] at h
 | d::cs,j,c,h=>by
  simp only [bG] at h
  cases j with
  | zero=>simp at h; exact ⟨d,rfl,h.symm⟩
  | succ j=>simp at h; simpa using dB b cs j c h
theorem dA (b:Nat→Option Box) : ∀ (cs:List PV),(bG b cs).length=cs.length
 | []=>rfl
 | d::cs=>by simp [bG,dA b cs]
theorem aL.clean {x:Value} {p:PV} (h:aL ρ b w F x p) : clean p=true→aL ρ' b' w F x p:=by
 induction h with
 | junk x=>exact fun _=>.junk x
 | d x d h=>exact fun _=>.d x d h
 | ag xs cs hl h1 hr ih=>exact fun hc=>.ag xs cs hl h1 (fun j x c h2 h3=>ih j x c h2 h3 (fG (by simpa [Go.Proofs.YtaknepbdbappdaaGreat.clean] using hc) h3))
 | tup xs cs hl hr ih=>exact fun hc=>.tup xs cs hl (fun j x c h2 h3=>ih j x c h2 h3 (fG (by simpa [Go.Proofs.YtaknepbdbappdaaGreat.clean] using hc) h3))
 | ptr=>exact fun hc=>by simp [Go.Proofs.YtaknepbdbappdaaGreat.clean] at hc
 | row=>exact fun hc=>by simp [Go.Proofs.YtaknepbdbappdaaGreat.clean] at hc
 | re=>exact fun hc=>by simp [Go.Proofs.YtaknepbdbappdaaGreat.clean] at hc
 | vw=>exact fun hc=>by simp [Go.Proofs.YtaknepbdbappdaaGreat.clean] at hc
 | fe a cs us hF hcell hrep=>exact fun _=>.fe a cs us hF hcell hrep
 | fn f xs ys ps qs hl hr hl2 hr2 ih ih2 =>
  intro hc
  simp only [Go.Proofs.YtaknepbdbappdaaGreat.clean,Bool.and_eq_true] at hc
  exact .fn f xs ys ps qs hl (fun j x c h2 h3=>ih j x c h2 h3 (fG hc.1 h3)) hl2 (fun j x c h2 h3=>ih2 j x c h2 h3 (fG hc.2 h3))
theorem aL.flat {x:Value} {p:PV} (h:aL ρ b w F x p) : flat p=true→aL ρ' b' w' F' x p:=by
 induction h with
 | junk x=>exact fun _=>.junk x
 | d x d h =>
  intro hc
  cases h with
  | v x h1=>exact .d x _ (.v x h1)
  | sl=>simp [Go.Proofs.YtaknepbdbappdaaGreat.flat] at hc
 | ag xs cs hl h1 hr ih=>exact fun hc=>.ag xs cs hl h1 (fun j x c h2 h3=>ih j x c h2 h3 (Au (by simpa [Go.Proofs.YtaknepbdbappdaaGreat.flat] using hc) h3))
 | tup xs cs hl hr ih=>exact fun hc=>.tup xs cs hl (fun j x c h2 h3=>ih j x c h2 h3 (Au (by simpa [Go.Proofs.YtaknepbdbappdaaGreat.flat] using hc) h3))
 | ptr=>exact fun hc=>by simp [Go.Proofs.YtaknepbdbappdaaGreat.flat] at hc
 | row=>exact fun hc=>by simp [Go.Proofs.YtaknepbdbappdaaGreat.flat] at hc
 | re=>exact fun hc=>by simp [Go.Proofs.YtaknepbdbappdaaGreat.flat] at hc
 | vw=>exact fun hc=>by simp [Go.Proofs.YtaknepbdbappdaaGreat.flat] at hc
 | fe=>exact fun hc=>by simp [Go.Proofs.YtaknepbdbappdaaGreat.flat] at hc
 | fn=>exact fun hc=>by simp [Go.Proofs.YtaknepbdbappdaaGreat.flat] at hc
def Se (ρ : Nat→Value) (b:Nat→Option Box) (F:Nat→Prop) : Nat→Prop:=fun g=>F g∨∃ t B,b t=some B∧blk (ρ t)=some g
theorem KB {t n:Nat} {e k:Nat} {es:List (List D)} {x:Value} (hi:Inv w0 F0 ρ b w F) (hb:b t=some (.rw e k es)) (h:aL ρ b w F x (.row t n)) (hn:es.length=n) : ew w (Se ρ b F) x (.sl es):=by
 have hF:∀ g,F g→Se ρ b F g:=fun g h=>.inl h
 have hr:=kD hi h (show kU b (.row t n)=some es by simp [kU,hb,hn])
 obtain ⟨A,c,k',rfl,hc,hm,hk,hA,hcell⟩:=hr
 have hu:∀ a,A=some a→∃ us:Nat→Value,∀ (j:Nat) d,es.flatten[j]? = some d→w.cell? (a.add j)=some (us j)∧ew w F (us j) d:=fun a ha=>by
  refine ⟨fun j=>(w.cell? (a.add j)).getD undef,fun j d hj=>?_⟩
  obtain ⟨u,h1,h2⟩:=hcell a ha j d hj
  simp only [h1,Option.getD_some]
  exact ⟨trivial,h2⟩
 cases A with
 | none =>
  obtain ⟨rfl,rfl⟩:=hA rfl
  exact .sl none 0 0 0 [] (fun _=>undef) rfl (Nat.le_refl _) (by simp [maxLen]) (by simp) (by omega) (fun _=>rfl) (by simp) (by simp)
 | some a =>
  obtain ⟨us,hus⟩:=hu a rfl
  refine .sl (some a) es.length c k' es us rfl hc hm hk (fun h0=>⟨a,rfl,.inr ⟨t,_,hb,?_⟩⟩) (fun h=>by cases h) (fun a' j d ha' hj=>by injection ha' with ha'; subst ha'; exact (hus j d hj).1) (fun j d hj=>(hus j d hj).2.mono hF (fun _ _=>rfl))
  cases h with
  | row _ _ _ _ e' k2 es2 hb2 _ _ _ hρ =>
   rw [hb] at hb2
   injection hb2 with hb2
   injection hb2 with e1 e2 e3
   subst e3
   rw [hρ hn]
   rfl
theorem aL.cleanData {x:Value} {p:PV} (h:aL ρ b w F x p) : Go.Proofs.YtaknepbdbappdaaGreat.clean p=true→aL ρNone dZ w F x (Go.Proofs.YtaknepbdbappdaaGreat.asData dZ p):=by
 induction h with
 | junk x=>exact fun _=>.junk x
 | d x d h=>exact fun _=>.d x _ h.nrm
 | ag xs cs hl h1 hr ih =>
  refine fun hc=>.ag xs _ (by rw [dA]; exact hl) h1 (fun j x c h2 h3=>?_)
  obtain ⟨d,h4,rfl⟩:=dB dZ cs j c h3
  exact ih j x d h2 h4 (fG (by simpa [Go.Proofs.YtaknepbdbappdaaGreat.clean] using hc) h4)
 | tup xs cs hl hr ih =>
  refine fun hc=>.tup xs _ (by rw [dA]; exact hl) (fun j x c h2 h3=>?_)
  obtain ⟨d,h4,rfl⟩:=dB dZ cs j c h3
  exact ih j x d h2 h4 (fG (by simpa [Go.Proofs.YtaknepbdbappdaaGreat.clean] using hc) h4)
 | ptr=>exact fun hc=>by simp [Go.Proofs.YtaknepbdbappdaaGreat.clean] at hc
 | row=>exact fun hc=>by simp [Go.Proofs.YtaknepbdbappdaaGreat.clean] at hc
 | re=>exact fun hc=>by simp [Go.Proofs.YtaknepbdbappdaaGreat.clean] at hc
 | vw=>exact fun hc=>by simp [Go.Proofs.YtaknepbdbappdaaGreat.clean] at hc
 | fe a cs us hF hcell hrep=>exact fun _=>.fe a cs us hF hcell hrep
 | fn f xs ys ps qs hl hr hl2 hr2 ih ih2 =>
  intro hc
  simp only [Go.Proofs.YtaknepbdbappdaaGreat.clean,Bool.and_eq_true] at hc
  refine .fn f xs ys _ _ (by rw [dA]; exact hl) (fun j x c h2 h3=>?_) (by rw [dA]; exact hl2) (fun j x c h2 h3=>?_)
  ·obtain ⟨d,h4,rfl⟩:=dB dZ ps j c h3
   exact ih j x d h2 h4 (fG hc.1 h4)
  ·obtain ⟨d,h4,rfl⟩:=dB dZ qs j c h3
   exact ih2 j x d h2 h4 (fG hc.2 h4)
theorem aL.asData {x:Value} {p:PV} (hi:Inv w0 F0 ρ b w F) (h:aL ρ b w F x p) : aL ρNone dZ w (Se ρ b F) x (asData b p):=by
 have hF:∀ g,F g→Se ρ b F g:=fun g h=>.inl h
 induction h with
 | junk x=>exact .junk x
 | d x d h=>exact .d x _ (h.nrm.mono hF (fun _ _=>rfl))
 | ag xs cs hl h1 hr ih =>
  refine .ag xs _ (by rw [dA]; exact hl) h1 (fun j x c h2 h3=>?_)
  obtain ⟨d,h4,rfl⟩:=dB b cs j c h3
  exact ih j x d h2 h4
 | tup xs cs hl hr ih =>
  refine .tup xs _ (by rw [dA]; exact hl) (fun j x c h2 h3=>?_)
  obtain ⟨d,h4,rfl⟩:=dB b cs j c h3
  exact ih j x d h2 h4
 | ptr=>exact .junk _
 | re=>exact .junk _
 | vw=>exact .junk _
 | row t n A c e k es hb hn hc hA hρ =>
  simp only [Go.Proofs.YtaknepbdbappdaaGreat.asData,hb]
  split
  ·rename_i h
   exact .d _ _ (KB hi hb (.row t n A c e k es hb hn hc hA hρ) h)
  ·exact .junk _
 | fe a cs us hF' hcell hrep=>exact .fe a cs us (.inl hF') hcell (fun j d h=>(hrep j d h).mono hF (fun _ _=>rfl))
 | fn f xs ys ps qs hl hr hl2 hr2 ih ih2 =>
  refine .fn f xs ys _ _ (by rw [dA]; exact hl) (fun j x c h2 h3=>?_) (by rw [dA]; exact hl2) (fun j x c h2 h3=>?_)
  ·obtain ⟨d,h4,rfl⟩:=dB b ps j c h3
   exact ih j x d h2 h4
  ·obtain ⟨d,h4,rfl⟩:=dB b qs j c h3
   exact ih2 j x d h2 h4
end
end
section
def kA (ops:Array Oper) (o:Oper) (s:PS) : Option Bool :=
 match o.guard with
 | none=>some true
 | some (j,want)=>match (ops[j]?).bind (·.dst) with
  | some g=>match s.t g with
   | .tup []=>some false
   | p=>(asB p).map (· == want)
  | none=>none
def Kh (P:Program) (f:FuncId) (b:Nat→Option Box) (args:List PV) (r:PV) : Prop :=
 (cD args=true∧clean r=true∧PC P f (bG dZ args) r)∨(flat r=true∧PC P f (bG b args) r)
def uf (o:Oper) : Option (Operand×List Operand) :=
 match o.op with
 | .call c=>match c.callee with
  | .value x=>some (x,c.args.toList)
  | _=>none
 | _=>none
abbrev BU:=List (Nat×Box)
def lkU:BU→Nat→Option Box
 | [],_=>none
 | (j,B)::l,i=>if i=j then some B else lkU l i
def dJ (b:Nat→Option Box) (u:BU) : Nat→Option Box:=fun i=>match lkU u i with | some B=>some B | none=>b i
def PS.updL (s:PS) (dst:Option Nat) (r:PV) (u:BU) : PS:=⟨wA s.t dst r,dJ s.b u⟩
theorem AH (b:Nat→Option Box) (u:Option (Nat×Box)) : dJ b u.toList=dn b u:=by
 funext i
 cases u with
 | none=>rfl
 | some x =>
  obtain ⟨j,B⟩:=x
  simp only [Option.toList,dJ,lkU,dn]
  by_cases h:i=j
  ·simp [h]
  ·simp [h]
theorem C3 (s:PS) (dst:Option Nat) (r:PV) (u:Option (Nat×Box)) : s.updL dst r u.toList=s.upd dst r u:=by
 unfold PS.updL PS.upd
 rw [AH]
mutual
def bc:PV→List Nat
 | .ptr t _=>[t]
 | .row t _=>[t]
 | .re t _ _ _=>[t]
 | .vw t _ _ _=>[t]
 | .ag cs=>bF cs
 | .tup cs=>bF cs
 | .fn _ ps qs=>bF ps++bF qs
 | _=>[]
def bF:List PV→List Nat
 | []=>[]
 | c::cs=>bc c++bF cs
end
def XH (P:Program) (b:Nat→Option Box) (f:FuncId) (args:List PV) (r:PV) (u:BU) : Prop :=
 eB P f=true∧∃ bi:BU,(∀ t B,lkU bi t=some B→(∃ B',lkU u t=some B')∧b t=some B)∧(∀ t B,lkU u t=some B→lkU bi t=none→b t=none) ∧
  ∀ (w0:WM) (F0:Nat→Prop) (ρ : Nat→Value) (b:Nat→Option Box) (w:World) (F:Nat→Prop) (vs:Array Value),(∀ t B,lkU bi t=some B→b t=some B)→(∀ t B,lkU u t=some B→lkU bi t=none→b t=none)→Inv w0 F0 ρ b w F→cz ρ b w F vs.toList args →
   Calls P f vs w fun e w'=>∃ v ρ' F',e = .returned v∧Inv w0 F0 ρ' (dJ b u) w' F'∧Stp ρ b w F ρ' (dJ b u) w' F'∧aL ρ' (dJ b u) w' F' v r
def B5 (P:Program) (b:Nat→Option Box) (p:PV) (args:List PV) (r:PV) (u:BU) : Prop:=match p with
 | .fn f ps qs=>(u = []∧Kh P f b (ps++args++qs) r)∨XH P b f (ps++args++qs) r u
 | _=>False
def Kf (P:Program) (o:Oper) (s:PS) (r:PV) (u:BU) : Prop :=
 match uf o with
 | some (x,xs)=>B5 P s.b (ev s x) (xs.map (ev s)) r u
 | none=>∃ u0,eff P o s=some (r,u0)∧u=u0.toList
def Eff (P:Program) (ops:Array Oper) (o:Oper) (s:PS) (r:PV) (u:BU) : Prop :=
 match kA ops o s with
 | some true=>Kf P o s r u
 | some false=>r = .tup []∧u = []
 | none=>False
section
variable {P:Program} {ρ ρ':Nat→Value} {b b':Nat→Option Box} {w w':World} {w0:WM} {F F' F0:Nat→Prop} {n:Nat} {ops:Array Oper} {Q:Exit→Act→World→Prop}
theorem n6.put {s:PS} {a:Act} {dst:Option Nat} {v:Value} {r:PV} {u:BU} (h1:a.tmps.size=n) (h2:a.defers = []) (hev:∀ i,aL ρ s.b w F (a.tmps.getD i undef) (s.t i)) (hd:∀ d,dst=some d→d < n)
  (hi:Inv w0 F0 ρ' (dJ s.b u) w' F') (hs:Stp ρ s.b w F ρ' (dJ s.b u) w' F') (hv:aL ρ' (dJ s.b u) w' F' v r) : n6 n w0 F0 (s.updL dst r u) (a.put dst v) w':=by
 cases dst with
 | none =>
  refine ⟨h1,h2,ρ',F',hi,fun i=>?_⟩
  have:=(hev i).mono hs
  simpa [PS.updL,wA,Act.put] using this
 | some d =>
  refine ⟨by simpa [Act.put] using h1,h2,ρ',F',hi,fun i=>?_⟩
  by_cases h:i=d
  ·subst h
   have hlt:=hd i rfl
   simp only [PS.updL,wA,Act.put,if_true]
   have:(a.tmps.setIfInBounds i v).getD i undef=v:=by simp [h1,hlt]
   rw [this]
   exact hv
  ·have h' : ¬ (some d=some i):=fun e=>h (by injection e with e; exact e.symm)
   simp only [PS.updL,wA,Act.put,if_neg h']
   have:(a.tmps.setIfInBounds d v).getD i undef=a.tmps.getD i undef:=by simp [Array.getElem?_setIfInBounds,Ne.symm h]
   rw [this]
   exact (hev i).mono hs
theorem W9 {f:FuncId} {vs:Array Value} {args:List PV} {r:PV} (hi:Inv w0 F0 ρ b w F) (hr:cz ρ b w F vs.toList args) (h:Kh P f b args r) :
  eB P f=true∧Calls P f vs w fun e w'=>∃ v F',e = .returned v∧Inv w0 F0 ρ b w' F'∧Stp ρ b w F ρ b w' F'∧aL ρ b w' F' v r:=by
 have inv:∀ {w':World} {F':Nat→Prop},Ext w w'→(∀ g,F g→F' g)→(∀ g,F' g→g < w'.heap.size)→(∀ g,F' g→F g∨w.heap.size≤g)→Inv w0 F0 ρ b w' F'∧Stp ρ b w F ρ b w' F':=by
  intro w' F' hx hF hlt hnew
  have hs:Stp ρ b w F ρ b w' F':=⟨hF,fun g hg=>hx.block g (hi.flt g hg),fun t ty cs h=>⟨⟨ty,cs,h⟩,rfl⟩,fun t e k es h=>⟨e,es,h,Nat.le_refl _,fun _=>rfl⟩⟩
  refine ⟨⟨hi.ext.trans hx,fun g hg=>hF g (hi.f0 g hg),hlt,fun g hg=>?_,fun t B h=>?_,hi.dist,hi.reg⟩,hs⟩
  ·rcases hnew g hg with h | h
   ·exact hi.fnew g h
   ·exact .inr (.inl (Nat.le_trans hi.ext.size h))
  ·have hb:=hi.box t B h
   refine hb.mono hs rfl (fun g hg=>hx.block g (hb.lt hg).1) (fun g hg hF'=>?_)
   rcases hnew g hF' with h | h
   ·exact (hb.lt hg).2.2 h
   ·have:=(hb.lt hg).1; omega
 rcases h with ⟨hc,hcr,hp⟩ | ⟨hfl,hp⟩
 ·refine ⟨hp.1,(hp.2 w F vs hi.flt ⟨by rw [dA]; exact hr.len,fun j x c h1 h2=>?_⟩).mono ?_⟩
  ·obtain ⟨d,h3,rfl⟩:=dB dZ args j c h2
   exact (hr.rep j x d h1 h3).cleanData (fG hc h3)
  rintro e w' ⟨v,F',rfl,hx,h1,h2,h3,h4⟩
  obtain ⟨k1,k2⟩:=inv hx h1 h2 h3
  exact ⟨v,F',rfl,k1,k2,h4.clean hcr⟩
 ·refine ⟨hp.1,(hp.2 w (Se ρ b F) vs ?_ ⟨by rw [dA]; exact hr.len,fun j x c h1 h2=>?_⟩).mono ?_⟩
  ·rintro g (hg | ⟨t,B,hb,hg⟩)
   ·exact hi.flt g hg
   ·exact ((hi.box t B hb).lt hg).1
  ·obtain ⟨d,h3,rfl⟩:=dB b args j c h2
   exact (hr.rep j x d h1 h3).asData hi
  ·rintro e w' ⟨v,F',rfl,hx,h1,h2,h3,h4⟩
   obtain ⟨k1,k2⟩:=inv hx (fun g hg=>hg) (fun g hg=>Nat.lt_of_lt_of_le (hi.flt g hg) hx.size) (fun g hg=>.inl hg)
   exact ⟨v,F,rfl,k1,k2,h4.flat hfl⟩
theorem UN {s:PS} {a:Act} (hev:∀ x,aL ρ s.b w F (a.eval x) (ev s x)) (xs:Array Operand) : cz ρ s.b w F (xs.map a.eval).toList (xs.toList.map (ev s)) :=
 ⟨by simp,fun j x c h1 h2=>by
  rw [Array.toList_map,List.getElem?_map] at h1
  rw [List.getElem?_map] at h2
  cases hj:xs.toList[j]? with
  | none=>rw [hj] at h1; cases h1
  | some y =>
   rw [hj] at h1 h2
   injection h1 with h1
   injection h2 with h2
   subst h1 h2
   exact hev y⟩
theorem U8 {xv:Value} {p:PV} {vs:Array Value} {args:List PV} {r:PV} {u:BU} (hi:Inv w0 F0 ρ b w F) (hx:aL ρ b w F xv p) (hr:cz ρ b w F vs.toList args) (h:B5 P b p args r u) :
  ∃ f us ws,xv = .func (.func f) us ws∧eB P f=true∧Calls P f (us++vs++ws) w fun e w'=>∃ v ρ' F',e = .returned v∧Inv w0 F0 ρ' (dJ b u) w' F'∧Stp ρ b w F ρ' (dJ b u) w' F'∧aL ρ' (dJ b u) w' F' v r:=by
 unfold B5 at h
 split at h
 ·rename_i f ps qs
  cases hx with
  | fn _ us ws _ _ hl h1 hl2 h2 =>
   have r1:cz ρ b w F us.toList ps:=⟨by simpa using hl,fun j x c k1 k2=>h1 j x c (by simpa using k1) k2⟩
   have r2:cz ρ b w F ws.toList qs:=⟨by simpa using hl2,fun j x c k1 k2=>h2 j x c (by simpa using k1) k2⟩
   have r3:cz ρ b w F (us++vs++ws).toList (ps++args++qs):=by
    rw [Array.toList_append,Array.toList_append]
    exact (r1.append hr).append r2
   rcases h with ⟨rfl,h⟩ | ⟨hcb,bi,hb1,hb2,h⟩
   ·obtain ⟨k1,k2⟩:=W9 (P:=P) hi r3 h
    refine ⟨f,us,ws,rfl,k1,k2.mono ?_⟩
    rintro e w' ⟨v,F',rfl,m1,m2,m3⟩
    exact ⟨v,ρ,F',rfl,m1,m2,m3⟩
   ·exact ⟨f,us,ws,rfl,hcb,h w0 F0 ρ b w F _ (fun t B ht=>(hb1 t B ht).2) hb2 hi r3⟩
 ·exact h.elim
theorem La {o:Oper} {s:PS} {a:Act} {t:Bool} (hev:∀ i,aL ρ s.b w F (a.tmps.getD i undef) (s.t i)) (h:kA ops o s=some t) : Region.wanted o (yielded ops a.tmps)=t:=by
 unfold kA at h
 unfold Region.wanted
 split at h
 ·rename_i hg
  injection h with h
  simp [hg,← h]
 ·rename_i j want hg
  rw [hg]
  split at h
  ·rename_i g hgd
   have hgv:=hev g
   split at h
   ·rename_i hgt
    injection h with h
    subst h
    rw [hgt] at hgv
    have hu:a.tmps.getD g undef = .tuple #[]:=by
     generalize a.tmps.getD g undef=vq at hgv
     cases hgv with
     | tup xs _ hl _ =>
      have:xs = #[]:=by apply Array.ext' ; simpa using hl
      rw [this]
    have hy:yielded ops a.tmps j=none:=by
     cases ho:ops[j]? with
     | none=>simp [ho] at hgd
     | some oj =>
      simp only [ho,zb] at hgd
      unfold yielded
      simp only [ho,zb,hgd]
      cases hx:a.tmps[g]? with
      | none=>rfl
      | some y =>
       have:a.tmps.getD g undef=y:=by simp [hx]
       rw [this] at hu
       rw [hu]
    simp only [hy]
    cases want <;> rfl
   ·rw [zm] at h
    obtain ⟨v,h1,rfl⟩:=h
    have h2:=rz hgv h1
    have h3:a.tmps[g]? = some (.bool v):=by
     cases hx:a.tmps[g]? with
     | none=>simp [hx,undef] at h2
     | some y=>simp [hx] at h2; rw [h2]
    have hy:yielded ops a.tmps j=some v:=by
     cases ho:ops[j]? with
     | none=>simp [ho] at hgd
     | some oj =>
      simp only [ho,zb] at hgd
      simp [yielded,ho,hgd,h3]
    simp only [hy]
    cases v <;> cases want <;> rfl
  ·cases h
theorem T6 {f:Nat} {s:PS} {a:Act} {o:Oper} {r:PV} {u:BU} {K:Act→World→Prop} (h:n6 n w0 F0 s a w) (he:Eff P ops o s r u) (hd:∀ d,o.dst=some d→d < n∧d < 1000000)
  (hK:∀ a' w',n6 n w0 F0 (s.updL o.dst r u) a' w'→K a' w') : if Region.wanted o (yielded ops a.tmps)=true then o.wp P a w K Q else K (a.put o.dst undef) w:=by
 obtain ⟨h1,h2,ρ,F,hi,hev⟩:=h
 have hev':=UO hev
 unfold Eff at he
 split at he
 ·rename_i hg
  rw [La hev hg,if_pos rfl]
  unfold Kf at he
  split at he
  ·rename_i x xs hc
   have hcall:=he
   unfold uf at hc
   split at hc
   ·rename_i c ho
    split at hc
    ·rename_i x' hf
     injection hc with hc
     injection hc with e1 e2
     subst e1 e2
     obtain ⟨f',us,vs,hxv,hcb,hcalls⟩:=U8 (P:=P) hi (hev' x') (UN hev' c.args) hcall
     unfold Oper.wp
     have:(execOp a.eval o).run P w=(callFunc f' (us++c.args.map a.eval++vs)).run P w:=by
      unfold execOp
      simp only [ho,resolve,hf,hxv,Deferred.ofValue,Sem.run_bind,Sem.run_pure,Result.andThen_ok,invoke]
     rw [this]
     unfold eB at hcb
     cases hfn:P.funcs[f']? with
     | none=>simp [hfn] at hcb
     | some fn =>
      simp only [hfn,Bool.and_eq_true,Bool.not_eq_true'] at hcb
      obtain ⟨hb1,hb2⟩:=hcb
      have hnone : ¬ fn.body=none:=by cases hx:fn.body <;> simp [hx] at hb1 ⊢
      have hname : ¬ fn.name = "runtime.NumGoroutine" := by simpa using hb2
      have hrun:(callFunc f' (us++c.args.map a.eval++vs)).run P w = .ok (.enter f' (us++c.args.map a.eval++vs)) w:=by
       simp [callFunc,hfn,hname,hnone]
      rw [hrun]
      refine hcalls.mono ?_
      rintro e w' ⟨v,ρ',F',rfl,k1,k2,k3⟩
      exact hK _ _ (n6.put h1 h2 hev (fun d h=>(hd d h).1) k1 k2 k3)
    ·cases hc
   ·cases hc
  ·rename_i hc
   obtain ⟨u0,he,rfl⟩:=he
   obtain ⟨v,w',ρ',F',hrun,k1,k2,k3⟩:=Yn (fun d h=>(hd d h).2) hi hev' he
   rw [← AH] at k1 k2 k3
   unfold Oper.wp
   rcases hrun with hrun | ⟨hrun,rfl⟩
   ·rw [hrun]
    exact hK _ _ (n6.put h1 h2 hev (fun d h=>(hd d h).1) k1 k2 k3)
   ·rw [hrun]
    exact hK _ _ (n6.put h1 h2 hev (fun d h=>(hd d h).1) k1 k2 k3)
 ·rename_i hg
  obtain ⟨rfl,rfl⟩:=he
  rw [La hev hg,if_neg (by simp)]
  exact hK _ _ (n6.put h1 h2 hev (fun d h=>(hd d h).1) hi (Stp.refl _ _ _ _) (.tup #[] [] rfl (fun j x c h _=>by simp at h)))
 ·exact he.elim
def Hn (n:Nat) (l:List Oper) : Bool:=l.all fun o=>match o.dst with | some d=>decide (d < n∧d < 1000000) | none=>true
theorem NU {o:Oper} {l:List Oper} (h:Hn n (o::l)=true) : (∀ d,o.dst=some d→d < n∧d < 1000000)∧Hn n l=true:=by
 simp only [Hn,List.all_cons,Bool.and_eq_true] at h
 refine ⟨fun d hd=>?_,h.2⟩
 have:=h.1
 rw [hd] at this
 simpa using this
def PWP (P:Program) (n:Nat) (c:Code) (Qs:Exit→PS→Prop) (s:PS) : Prop :=
 ∀ w0 F0 a w,n6 n w0 F0 s a w→c.wp P (fun e a' w'=>∃ s',Qs e s'∧n6 n w0 F0 s' a' w') a w
variable {Qs:Exit→PS→Prop} {s:PS}
theorem TX (h:Qs .normal s) : PWP P n .skip Qs s:=fun _ _ _ _ hc=>wp_skip ⟨s,h,hc⟩
theorem Rr {l:Nat} (h:Qs .normal s) : PWP P n (.label l) Qs s:=fun _ _ _ _ hc=>wp_label ⟨s,h,hc⟩
theorem TY {id:Nat} (h:Qs (.exit id) s) : PWP P n (.exit id) Qs s:=fun _ _ _ _ hc=>wp_exit ⟨s,h,hc⟩
theorem Wj (h:Qs .ret s) : PWP P n .ret Qs s:=fun _ _ _ _ hc=>wp_ret ⟨s,h,hc⟩
def Xp (K:PS→Prop) (Qs:Exit→PS→Prop) : Exit→PS→Prop
 | .normal,s=>K s
 | e,s=>Qs e s
theorem Wi {x y:Code} (h:PWP P n x (Xp (PWP P n y Qs) Qs) s) : PWP P n (.seq x y) Qs s :=
 fun w0 F0 a w hc=>wp_seq (wp_mono (h w0 F0 a w hc) fun e a' w' ⟨s',h1,h2⟩=>by
  cases e <;> first | exact h1 w0 F0 a' w' h2 | exact ⟨s',h1,h2⟩)
theorem KK {c:Operand} {x y:Code} (t:Bool) (ht:asB (ev s c)=some t) (h:PWP P n (if t then x else y) Qs s) : PWP P n (.cond c x y) Qs s :=
 fun w0 F0 a w hc=>by
  obtain ⟨_,_,ρ,F,hi,hev⟩:=id hc
  exact wp_cond (rz (UO hev c) ht) (h w0 F0 a w hc)
def D0 (id:Nat) (Qs:Exit→PS→Prop) : Exit→PS→Prop
 | .exit id',s=>if id' = id then Qs .normal s else Qs (.exit id') s
 | e,s=>Qs e s
theorem Rt {id:Nat} {c:Code} (h:PWP P n c (D0 id Qs) s) : PWP P n (.block id c) Qs s :=
 fun w0 F0 a w hc=>wp_block (wp_mono (h w0 F0 a w hc) fun e a' w' ⟨s',h1,h2⟩=>by
  cases e with
  | exit id' =>
   simp only [D0] at h1
   simp only [Exit.inBlock]
   split at h1
   ·rename_i hid; rw [if_pos hid]; exact ⟨s',h1,h2⟩
   ·rename_i hid; rw [if_neg hid]; exact ⟨s',h1,h2⟩
  | _=>exact ⟨s',h1,h2⟩)
end
end
section
def pq (o:Oper) (s:PS) : List Nat:=match o.op with
 | .load _ x=>bc (ev s x)
 | .store _ x _=>bc (ev s x)
 | .indexAddr _ x _=>bc (ev s x)
 | .slice _ x _ _ _=>bc (ev s x)
 | .convert _ _ x=>bc (ev s x)
 | .call c=>(match c.callee with
  | .value f=>bc (ev s f)++bF (c.args.toList.map (ev s))
  | _=>bF (c.args.toList.map (ev s)))
 | _=>[]
section
variable {P:Program} {b b':Nat→Option Box} {ops:Array Oper}
mutual
theorem Js:∀ (p:PV),(∀ x∈bc p,b' x=b x)→asData b' p=asData b p
 | .junk,_=>rfl
 | .d _,_=>rfl
 | .fe _,_=>rfl
 | .ptr _ _,_=>rfl
 | .re _ _ _ _,_=>rfl
 | .vw _ _ _ _,_=>rfl
 | .row t n,h=>by simp only [asData]; rw [h t (by simp [bc])]
 | .ag cs,h=>by simp only [asData]; rw [iG cs (fun x hx=>h x (by simpa [bc] using hx))]
 | .tup cs,h=>by simp only [asData]; rw [iG cs (fun x hx=>h x (by simpa [bc] using hx))]
 | .fn f ps qs,h=>by
  simp only [asData]
  rw [iG ps (fun x hx=>h x (by simp [bc,hx])),iG qs (fun x hx=>h x (by simp [bc,hx]))]
theorem iG:∀ (cs:List PV),(∀ x∈bF cs,b' x=b x)→bG b' cs=bG b cs
 | [],_=>rfl
 | c::cs,h=>by
  simp only [bG]
  rw [Js c (fun x hx=>h x (by simp [bF,hx])),iG cs (fun x hx=>h x (by simp [bF,hx]))]
end
theorem wJ:∀ (l m:List PV),bF (l++m)=bF l++bF m
 | [],m=>rfl
 | c::l,m=>by simp only [List.cons_append,bF,wJ l m,List.append_assoc]
theorem sB (p:PV) (h:∀ x∈bc p,b' x=b x) : kU b' p=kU b p:=by
 cases p with
 | row t n=>simp only [kU]; rw [h t (by simp [bc])]
 | vw t n lo hi=>simp only [kU]; rw [h t (by simp [bc])]
 | d y=>cases y with
  | v y=>cases y with
   | slice a n c=>cases a <;> rfl
   | _=>rfl
  | sl es=>rfl
 | _=>rfl
theorem LX (p:PV) (h:∀ x∈bc p,b' x=b x) : uj b' p=uj b p:=by
 cases p with
 | ptr t o=>simp only [uj]; rw [h t (by simp [bc])]
 | re t n i o=>simp only [uj]; rw [h t (by simp [bc])]
 | _=>rfl
theorem El {t:TypeId} {p q:PV} {u:Nat×Box} (h:∀ x∈bc p,b' x=b x) (he:lw P b t p q=some u) : lw P b' t p q=some u:=by
 unfold lw at he ⊢
 cases p with
 | ptr t o=>dsimp only at he ⊢; rw [h t (by simp [bc])]; exact he
 | re t n j o=>dsimp only at he ⊢; rw [h t (by simp [bc])]; exact he
 | _=>exact he
theorem w8 {t:TypeId} {p q:PV} (h:∀ x∈bc p,b' x=b x) : eg P b' t p q=eg P b t p q:=by
 unfold eg
 cases p with
 | row t n=>dsimp only; rw [h t (by simp [bc])]
 | d y=>cases y <;> rfl
 | _=>rfl
theorem Em {t:TypeId} {p:PV} {lo hi:Option PV} (h:∀ x∈bc p,b' x=b x) : ez P b' t p lo hi=ez P b t p lo hi:=by
 unfold ez
 rw [sB p h]
 generalize P.underlying t=U
 cases U with
 | none=>rfl
 | some d =>
  cases d with
  | slice e =>
   dsimp only
   generalize mh P e=T
   cases T with
   | none=>rfl
   | some i =>
    cases p with
    | row t n=>dsimp only; rw [h t (by simp [bc])]
    | _=>rfl
  | _=>rfl
theorem Ev {src dst:TypeId} {p:PV} (h:∀ x∈bc p,b' x=b x) : ia P b' src dst p=ia P b src dst p:=by
 unfold ia
 rw [sB p h]
theorem Cc {dst:Option Nat} {t:TypeId} {p q:PV} {r:PV} {u:Option (Nat×Box)} (h1:∀ x∈bc p,b' x=b x) (h2:∀ x∈bc q,b' x=b x) (h3:∀ x B,u=some (x,B)→b' x=b x) (he:jx P b dst t p q=some (r,u)) : jx P b' dst t p q=some (r,u):=by
 unfold jx at he ⊢
 rw [sB q h2]
 split at he
 ·rename_i e es2 hu hq
  try simp only [hu,hq]
  split at he
  ·rename_i i hti
   try simp only [hti]
   split at he
   ·rename_i hc
    rw [if_pos hc]
    split at he
    ·rename_i x n
     try simp only
     rw [h1 x (by simp [bc])]
     exact he
    ·rename_i n c
     try simp only
     split at he
     ·rename_i hnc
      rw [if_pos hnc]
      split at he
      ·rename_i d
       try simp only
       split at he
       ·rename_i hbd
        split at he
        ·rename_i hs
         injection he with he
         injection he with e1 e2
         subst e1 e2
         rw [h3 d _ rfl,hbd]
         simp only [if_pos hs]
        ·cases he
       ·cases he
      ·cases he
     ·cases he
    ·cases he
   ·cases he
  ·cases he
 ·cases he
theorem Ns {p:PV} {x n lo hi:Nat} (h:Qb p=some (x,n,lo,hi)) : x∈bc p:=by
 cases p with
 | row t m=>injection h with h; injection h with h; subst h; simp [bc]
 | vw t m l k=>injection h with h; injection h with h; subst h; simp [bc]
 | _=>cases h
theorem F6 {t:TypeId} {p q:PV} (h1:∀ x∈bc p,b' x=b x) (h2:∀ x∈bc q,b' x=b x) : qq P b' t p q=qq P b t p q:=by
 unfold qq
 rw [sB q h2]
 cases hp:Qb p with
 | none =>
  generalize kU b q=Y
  generalize P.underlying t=U
  cases U with
  | none=>rfl
  | some d=>cases d <;> first | rfl | (cases Y <;> rfl)
 | some y =>
  obtain ⟨x,n,lo,hi⟩:=y
  have:=h1 x (Ns hp)
  generalize kU b q=Y
  generalize P.underlying t=U
  cases U with
  | none=>rfl
  | some d=>cases d <;> first | rfl | (cases Y <;> first | rfl | (dsimp only; rw [this]))
def p8 (o:Oper) (s s':PS) : Prop:=∀ x∈o.op.operands,ev s' x=ev s x
theorem Hg {o:Oper} {s s':PS} (h:∀ t∈o.looksAt ops,s'.t t=s.t t) : p8 o s s':=by
 intro x hx
 cases x with
 | tmp t =>
  refine h t ?_
  unfold Oper.looksAt
  refine List.mem_append_left _ ?_
  rw [List.mem_filterMap]
  exact ⟨.tmp t,by simpa using hx,rfl⟩
 | _=>rfl
theorem p8.symm {o:Oper} {s s':PS} (h:p8 o s s') : p8 o s' s:=fun x hx=>(h x hx).symm
theorem Bv {o:Oper} {s s':PS} (h:∀ t∈o.looksAt ops,s'.t t=s.t t) : kA ops o s' = kA ops o s:=by
 unfold kA
 split
 ·rfl
 ·rename_i j want hg
  split
  ·rename_i g hgd
   rw [h g (by unfold Oper.looksAt; refine List.mem_append_right _ ?_; rw [hg]; simp [hgd])]
  ·rfl
theorem Dr {o:Oper} {s s':PS} {t:TypeId} {ps:Array (Nat×Operand)} (ho:o.op = .build t ps∨∃ m,o.op = .buildSlice t m ps) (he:p8 o s s') : (ps.toList.map fun (i,x)=>(i,ev s' x))=(ps.toList.map fun (i,x)=>(i,ev s x)):=by
 apply List.map_congr_left
 rintro ⟨i,x⟩ hx
 have:x∈o.op.operands:=by
  rcases ho with ho | ⟨m,ho⟩ <;> (rw [ho]; simp only [Op.operands,List.mem_toArray,List.mem_map]; exact ⟨(i,x),hx,rfl⟩)
 simp only [he x this]
theorem KS {o:Oper} {s s':PS} {l:Array Operand} (h:∀ x∈l.toList,x∈o.op.operands) (he:p8 o s s') : l.toList.map (ev s')=l.toList.map (ev s):=List.map_congr_left fun x hx=>he x (h x hx)
theorem HI {o:Oper} {s s':PS} {c:Call} (ho:o.op = .call c) (he:p8 o s s') : c.args.toList.map (ev s')=c.args.toList.map (ev s):=by
 apply List.map_congr_left
 intro x hx
 refine he x ?_
 rw [ho]
 simp only [Op.operands,Call.operands]
 exact Array.mem_append_right _ (by simpa using hx)
theorem KR {o:Oper} {s s':PS} {x:Option Operand} (h:∀ y,x=some y→y∈o.op.operands) (he:p8 o s s') : x.map (ev s')=x.map (ev s):=by
 cases x with
 | none=>rfl
 | some y=>simp [he y (h y rfl)]
theorem Eb {o:Oper} {s s':PS} (he:p8 o s s') : pq o s' = pq o s:=by
 unfold pq
 split <;> rename_i ho
 all_goals try rw [he _ (by rw [ho]; simp [Op.operands])]
 ·rw [HI ho he]
  split
  ·rename_i f hf
   rw [he f (by rw [ho]; simp only [Op.operands,Call.operands,hf]; exact Array.mem_append_left _ (by simp))]
  ·rfl
 ·rfl
theorem RY {o:Oper} {s s':PS} {r:PV} {u:Option (Nat×Box)} (he:p8 o s s') (h1:∀ x∈pq o s,s'.b x=s.b x) (h2:∀ x B,u=some (x,B)→s'.b x=s.b x) (h:eff P o s=some (r,u)) : eff P o s' = some (r,u):=by
 unfold eff at h ⊢
 unfold pq at h1
 split at h <;> rename_i ho <;> simp only [ho] at h1 ⊢
 case h_1=>rw [he _ (by rw [ho]; simp [Op.operands])]; exact h
 case h_2=>rw [he _ (by rw [ho]; simp [Op.operands])]; exact h
 case h_3=>rw [he _ (by rw [ho]; simp [Op.operands]),he _ (by rw [ho]; simp [Op.operands]),he _ (by rw [ho]; simp [Op.operands])]; exact h
 case h_4 =>
  unfold ub at h ⊢
  split at h
  ·rename_i t i hd hi
   try simp only [hd,hi]
   split at h
   ·rename_i hb
    injection h with h
    injection h with e1 e2
    subst e1 e2
    rw [h2 t _ rfl,hb]
   ·cases h
  ·cases h
 case h_5 =>
  rw [he _ (by rw [ho]; simp [Op.operands])]
  unfold Ex at h ⊢
  split at h
  ·rename_i t cs hd hi
   try simp only [hd,hi]
   split at h
   ·rename_i hb
    injection h with h
    injection h with e1 e2
    subst e1 e2
    rw [h2 t _ rfl,hb]
   ·cases h
  ·cases h
 case h_6=>rw [Dr (.inl ho) he]; exact h
 case h_7 =>
  rw [Dr (.inr ⟨_,ho⟩) he]
  unfold iC at h ⊢
  split at h
  ·rename_i d e hd hu
   try simp only [hd,hu]
   split at h
   ·rename_i i hti hb
    split at h
    ·rename_i hc
     split at h
     ·rename_i cs hcs
      split at h
      ·rename_i ds hds
       injection h with h
       injection h with e1 e2
       subst e1 e2
       rw [h2 d _ rfl,hb]
       simp only [hti,if_pos hc,hcs,hds]
      ·cases h
     ·cases h
    ·cases h
   ·cases h
  ·cases h
 case h_8 =>
  rw [he _ (by rw [ho]; simp [Op.operands])]
  rw [zm] at h ⊢
  obtain ⟨r',h3,h4⟩:=h
  refine ⟨r',?_,h4⟩
  unfold qp at h3 ⊢
  rw [LX _ h1]
  exact h3
 case h_9 =>
  rw [he _ (by rw [ho]; simp [Op.operands]),he _ (by rw [ho]; simp [Op.operands])]
  rw [zm] at h ⊢
  obtain ⟨r',h3,h4⟩:=h
  exact ⟨r',El h1 h3,h4⟩
 case h_10=>rw [he _ (by rw [ho]; simp [Op.operands]),he _ (by rw [ho]; simp [Op.operands])]; exact h
 case h_11=>rw [he _ (by rw [ho]; simp [Op.operands])]; exact h
 case h_12=>rw [he _ (by rw [ho]; simp [Op.operands]),Ev h1]; exact h
 case h_13 =>
  rename_i t x lo hi
  rw [he x (by rw [ho]; simp [Op.operands]),Em h1,KR (x:=lo) (fun y hy=>by rw [ho,hy]; simp [Op.operands]) he,KR (x:=hi) (fun y hy=>by rw [ho,hy]; simp [Op.operands]) he]
  exact h
 case h_14=>rw [he _ (by rw [ho]; simp [Op.operands])]; exact h
 case h_15=>rw [he _ (by rw [ho]; simp [Op.operands])]; exact h
 case h_16=>rw [he _ (by rw [ho]; simp [Op.operands]),he _ (by rw [ho]; simp [Op.operands]),w8 h1]; exact h
 case h_17=>rw [he _ (by rw [ho]; simp [Op.operands])]; exact h
 case h_18=>rw [he _ (by rw [ho]; simp [Op.operands]),he _ (by rw [ho]; simp [Op.operands])]; exact h
 case h_19 =>
  rename_i c
  rw [HI ho he]
  split at h
  ·rename_i f hf
   simp only [hf] at h1 ⊢
   unfold ss at h ⊢
   split at h
   ·exact h
   ·split at h
    ·rename_i x y t t' hx ht
     try simp only [hx,ht]
     split at h
     ·rename_i htt
      rw [if_pos htt]
      rw [hx] at h1
      exact Cc (fun z hz=>h1 z (by simp [bF,hz])) (fun z hz=>h1 z (by simp [bF,hz])) h2 h
     ·cases h
    ·cases h
   ·exact h
   ·exact h
   ·split at h
    ·rename_i x y t t' hx ht
     try simp only [hx,ht]
     rw [hx] at h1
     rw [F6 (fun z hz=>h1 z (by simp [bF,hz])) (fun z hz=>h1 z (by simp [bF,hz]))]
     exact h
    ·cases h
   ·cases h
  ·cases h
 case h_20 =>
  rename_i f ps qs
  rw [KS (l:=ps) (fun x hx=>by rw [ho]; simp only [Op.operands]; exact Array.mem_append_left _ (by simpa using hx)) he,KS (l:=qs) (fun x hx=>by rw [ho]; simp only [Op.operands]; exact Array.mem_append_right _ (by simpa using hx)) he]
  exact h
 case h_21 =>
  rw [he _ (by rw [ho]; simp [Op.operands]),he _ (by rw [ho]; simp [Op.operands])]
  unfold u9 at h ⊢
  split at h
  ·rename_i d e k1 n k2 m hd hu hn hm
   try simp only [hd,hu,hn,hm]
   split at h
   ·rename_i i hti hb
    split at h
    ·rename_i hc
     injection h with h
     injection h with e1 e2
     subst e1 e2
     rw [h2 d _ rfl,hb]
     simp only [hti,if_pos hc]
    ·cases h
   ·cases h
  ·cases h
 case h_22=>rw [he _ (by rw [ho]; simp [Op.operands])]; exact h
 case h_23=>cases h
theorem N0 {o:Oper} {f:Operand} {xs:List Operand} (h:uf o=some (f,xs)) : (∀ x∈xs,x∈o.op.operands)∧f∈o.op.operands∧∀ s,pq o s=bc (ev s f)++bF (xs.map (ev s)):=by
 unfold uf at h
 split at h
 ·rename_i c ho
  split at h
  ·rename_i f' hf
   injection h with h
   injection h with e1 e2
   subst e1 e2
   refine ⟨fun x hx=>?_,?_,fun s=>?_⟩
   ·rw [ho]
    simp only [Op.operands,Call.operands]
    exact Array.mem_append_right _ (by simpa using hx)
   ·rw [ho]
    simp only [Op.operands,Call.operands,hf]
    exact Array.mem_append_left _ (by simp)
   ·unfold pq
    simp only [ho,hf]
  ·cases h
 ·cases h
theorem LR {p:PV} {args:List PV} {r:PV} {u:BU} (h1:∀ x∈bc p++bF args,b' x=b x) (h2:∀ x B,lkU u x=some B→b' x=b x) (h:B5 P b p args r u) : B5 P b' p args r u:=by
 unfold B5 at h ⊢
 split at h
 ·rename_i f ps qs
  have hr:∀ x∈bF (ps++args++qs),b' x=b x:=fun x hx=>h1 x (by
   rw [wJ,wJ] at hx
   simp only [bc,List.mem_append] at hx ⊢
   rcases hx with (h | h) | h <;> simp [h])
  rcases h with ⟨h3,h4⟩ | ⟨h3,bi,h4,h5,h6⟩
  ·refine .inl ⟨h3,?_⟩
   unfold Kh at h4 ⊢
   rw [iG _ hr]
   exact h4
  ·refine .inr ⟨h3,bi,fun t B ht=>⟨(h4 t B ht).1,?_⟩,fun t B ht hn=>?_,h6⟩
   ·obtain ⟨⟨B',hB'⟩,h7⟩:=h4 t B ht
    rw [h2 t B' hB']; exact h7
   ·rw [h2 t B ht]; exact h5 t B ht hn
 ·exact h.elim
theorem Ek {o:Oper} {s s':PS} {r:PV} {u:BU} (he:p8 o s s') (h1:∀ x∈pq o s,s'.b x=s.b x) (h2:∀ x B,lkU u x=some B→s'.b x=s.b x) (h:Kf P o s r u) : Kf P o s' r u:=by
 unfold Kf at h ⊢
 split at h
 ·rename_i f xs hc
  obtain ⟨k1,k2,k3⟩:=N0 hc
  rw [k3 s] at h1
  have e1:xs.map (ev s')=xs.map (ev s):=List.map_congr_left fun x h=>he x (k1 x h)
  rw [e1,he f k2]
  exact LR h1 h2 h
 ·obtain ⟨u0,h3,rfl⟩:=h
  refine ⟨u0,RY he h1 (fun x B hu=>h2 x B ?_) h3,rfl⟩
  subst hu
  simp [Option.toList,lkU]
end
end
section
section
variable {P:Program} {ρ ρ':Nat→Value} {b b':Nat→Option Box} {w w':World} {w0:WM} {F F' F0:Nat→Prop} {n:Nat} {ops:Array Oper} {Q:Exit→Act→World→Prop}
theorem TA {s:PS} {d:Option Nat} {r:PV} {u:BU} {t:Nat} (h:d≠some t) : (s.updL d r u).t t=s.t t:=by
 simp [PS.updL,wA,h]
theorem TB {s:PS} {d:Option Nat} {r:PV} {u:BU} {x:Nat} (h:lkU u x=none) : (s.updL d r u).b x=s.b x:=by
 simp [PS.updL,dJ,h]
theorem Q6 {s:PS} {d d':Option Nat} {r r':PV} {u u':BU} (hd:∀ x,d=some x→d'≠some x) (hu:∀ x B B',lkU u x=some B→lkU u' x≠some B') : (s.updL d r u).updL d' r' u' = (s.updL d' r' u').updL d r u:=by
 unfold PS.updL
 congr 1
 ·funext i
  show (if d' = some i then r' else if d=some i then r else s.t i)=(if d=some i then r else if d' = some i then r' else s.t i)
  by_cases h:d=some i
  ·rw [if_neg (hd i h),if_pos h,if_pos h]
  ·rw [if_neg h,if_neg h]
 ·funext i
  show (match lkU u' i with | some B=>some B | none=>match lkU u i with | some B=>some B | none=>s.b i)=(match lkU u i with | some B=>some B | none=>match lkU u' i with | some B=>some B | none=>s.b i)
  cases h:lkU u i with
  | none=>rfl
  | some B =>
   cases h':lkU u' i with
   | none=>rfl
   | some B'=>exact absurd h' (hu i B B' h)
abbrev Bd:=List Nat×List Nat
def fv (ops:Array Oper) (o:Oper) (s:PS) (u:BU) (B:Bd) : Prop:=(kA ops o s=some true→∀ x∈pq o s,memL B.1 x=true)∧∀ x Bx,lkU u x=some Bx→memL B.2 x=true
 where memL:List Nat→Nat→Bool
 | [],_=>false
 | j::l,i=>match Nat.beq i j with | true=>true | false=>memL l i
def Hp:List Nat→List Nat→Bool
 | [],_=>true
 | a::l,m=>match fv.memL m a with | true=>false | false=>Hp l m
theorem Ae (j:Nat) (l:List Nat) (i:Nat) : fv.memL (j::l) i=(decide (i=j)||fv.memL l i):=by
 simp only [fv.memL]
 by_cases h:i=j
 ·subst h; simp
 ·have:Nat.beq i j=false:=by rw [← Bool.not_eq_true,Nat.beq_eq]; exact h
  simp [this,h]
theorem py:∀ {a m:List Nat},Hp a m=true→∀ x,fv.memL a x=true→fv.memL m x=false
 | [],m,_,x,hx=>by cases hx
 | y::a,m,h,x,hx=>by
  simp only [Hp] at h
  split at h
  ·cases h
  ·rename_i hy
   rw [Ae,Bool.or_eq_true] at hx
   rcases hx with hx | hx
   ·have:=zd hx
    subst this
    exact hy
   ·exact py h x hx
def DZ (x y:Bd) : Bool:=Hp x.2 y.1&&(Hp x.2 y.2&&Hp y.2 x.1)
theorem YD {k i:Oper} {s:PS} {rk ri:PV} {uk ui:BU} {Bk Bi:Bd} (hap:k.apart ops i=true) (hin:DZ Bk Bi=true) (h1:Eff P ops k s rk uk) (f1:fv ops k s uk Bk) (h2:Eff P ops i (s.updL k.dst rk uk) ri ui) (f2:fv ops i (s.updL k.dst rk uk) ui Bi) :
  Eff P ops i s ri ui∧fv ops i s ui Bi∧Eff P ops k (s.updL i.dst ri ui) rk uk∧fv ops k (s.updL i.dst ri ui) uk Bk∧(s.updL k.dst rk uk).updL i.dst ri ui=(s.updL i.dst ri ui).updL k.dst rk uk:=by
 obtain ⟨a1,a2,a3⟩:=Oper.apart_spec hap
 simp only [DZ,Bool.and_eq_true] at hin
 obtain ⟨d1,d2,d3⟩:=hin
 have ti:∀ t∈i.looksAt ops,(s.updL k.dst rk uk).t t=s.t t:=fun t ht=>TA (fun e=>a1 t e ht)
 have tk:∀ t∈k.looksAt ops,(s.updL i.dst ri ui).t t=s.t t:=fun t ht=>TA (fun e=>a3 t e ht)
 have gi:=Bv (s:=s) (s':=s.updL k.dst rk uk) ti
 have gk:=Bv (s:=s) (s':=s.updL i.dst ri ui) tk
 have evi:=Hg (s:=s) (s':=s.updL k.dst rk uk) ti
 have evk:=Hg (s:=s) (s':=s.updL i.dst ri ui) tk
 have offk:∀ x,fv.memL Bk.2 x=false→(s.updL k.dst rk uk).b x=s.b x:=fun x hx=>by
  refine TB ?_
  cases h:lkU uk x with
  | none=>rfl
  | some B=>rw [f1.2 x B h] at hx; cases hx
 have offi:∀ x,fv.memL Bi.2 x=false→(s.updL i.dst ri ui).b x=s.b x:=fun x hx=>by
  refine TB ?_
  cases h:lkU ui x with
  | none=>rfl
  | some B=>rw [f2.2 x B h] at hx; cases hx
 have nik:∀ x,fv.memL Bi.1 x=true∨fv.memL Bi.2 x=true→fv.memL Bk.2 x=false:=fun x hx=>by
  cases h:fv.memL Bk.2 x with
  | false=>rfl
  | true =>
   rcases hx with hx | hx
   ·rw [py d1 x h] at hx; cases hx
   ·rw [py d2 x h] at hx; cases hx
 have nki:∀ x,fv.memL Bk.1 x=true∨fv.memL Bk.2 x=true→fv.memL Bi.2 x=false:=fun x hx=>by
  cases h:fv.memL Bi.2 x with
  | false=>rfl
  | true =>
   rcases hx with hx | hx
   ·rw [py d3 x h] at hx; cases hx
   ·rw [py d2 x hx] at h; cases h
 have fi:pq i (s.updL k.dst rk uk)=pq i s:=Eb evi
 have fk:pq k (s.updL i.dst ri ui)=pq k s:=Eb evk
 refine ⟨?_,⟨fun hg x hx=>f2.1 (by rw [gi]; exact hg) x (by rw [fi]; exact hx),f2.2⟩,?_,⟨fun hg x hx=>f1.1 (by rw [← gk]; exact hg) x (by rw [← fk]; exact hx),f1.2⟩,Q6 a2 fun x B B' e1 e2=>?_⟩
 ·unfold Eff at h2 ⊢
  rw [gi] at h2
  split at h2
  ·rename_i hg
   refine Ek (s:=s.updL k.dst rk uk) (s':=s) evi.symm (fun x hx=>?_) (fun x B hx=>?_) h2
   ·exact (offk x (nik x (.inl (f2.1 (by rw [gi]; exact hg) x hx)))).symm
   ·exact (offk x (nik x (.inr (f2.2 x B hx)))).symm
  ·exact h2
  ·exact h2
 ·unfold Eff at h1 ⊢
  rw [gk]
  split at h1
  ·rename_i hg
   refine Ek (s:=s) (s':=s.updL i.dst ri ui) evk (fun x hx=>?_) (fun x B hx=>?_) h1
   ·exact offi x (nki x (.inl (f1.1 hg x hx)))
   ·exact offi x (nki x (.inr (f1.2 x B hx)))
  ·exact h1
  ·exact h1
 ·have:=f1.2 x B e1
  rw [nik x (.inr (f2.2 x B' e2))] at this
  cases this
def EU (P:Program) (ops:Array Oper) (bd:Nat→Bd) : List Nat→PS→(PS→Prop)→Prop
 | [],s,K=>K s
 | i::l,s,K=>∃ o r u,ops[i]? = some o∧Eff P ops o s r u∧fv ops o s u (bd i)∧EU P ops bd l (s.updL o.dst r u) K
theorem GO {bd:Nat→Bd} {K K':PS→Prop} : ∀ {l:List Nat} {s:PS},EU P ops bd l s K→(∀ s,K s→K' s)→EU P ops bd l s K'
 | [],s,h,hk=>hk s h
 | i::l,s,⟨o,r,u,h1,h2,h3,h4⟩,hk=>⟨o,r,u,h1,h2,h3,GO h4 hk⟩
def yh (ops:Array Oper) : Nat→Nat→Nat→Bool
 | 0,_,_=>false
 | f + 1,i,k=>match ops[i]? with
  | none=>false
  | some o=>o.after.any fun e=>Region.binds .any e&&(e.on==k||yh ops f e.on k)
def PJ (ops:Array Oper) (listed:Array Bool) : Prop:=∀ j,listed.getD j false=true→∀ o,ops[j]? = some o→∀ e∈o.after,Region.binds .any e=true→listed.getD e.on false=true
theorem wW {ops:Array Oper} {listed:Array Bool} (hc:PJ ops listed) : ∀ (f i k:Nat),yh ops f i k=true→(∀ o,ops[i]? = some o→∀ e∈o.after,Region.binds .any e=true→listed.getD e.on false=true)→listed.getD k false=true
 | 0,_,_,h,_=>by cases h
 | f + 1,i,k,h,hi=>by
  unfold yh at h
  split at h
  ·cases h
  ·rename_i o ho
   rw [← Array.any_toList,List.any_eq_true] at h
   obtain ⟨e,he,h⟩:=h
   simp only [Bool.and_eq_true,Bool.or_eq_true,beq_iff_eq] at h
   have hd:=hi o ho e (by simpa using he) h.1
   rcases h.2 with h2 | h2
   ·rw [← h2]; exact hd
   ·exact wW hc f e.on k h2 (fun o' ho'=>hc e.on hd o' ho')
def Ez (bd:Nat→Bd) (n:Nat) (ops:Array Oper) : Bool :=
 (List.range ops.size).all fun i=>match ops[i]? with
  | none=>true
  | some o=>(match o.dst with | some d=>decide (d < n∧d < 1000000) | none=>true)&&(o.after.all fun e=>!Region.binds .any e||decide (e.on < i)) &&
    (List.range i).all fun k=>match ops[k]? with
     | none=>true
     | some x=>(x.apart ops o&&DZ (bd k) (bd i))||yh ops 4 i k
theorem mP {bd:Nat→Bd} {n:Nat} {ops:Array Oper} (h:Ez bd n ops=true) {i:Nat} {o:Oper} (hi:ops[i]? = some o) :
  (∀ d,o.dst=some d→d < n∧d < 1000000)∧(∀ e∈o.after,Region.binds .any e=true→e.on < i)∧∀ k x,k < i→ops[k]? = some x→yh ops 4 i k=true∨(x.apart ops o=true∧DZ (bd k) (bd i)=true):=by
 unfold Ez at h
 rw [List.all_eq_true] at h
 have h:=h i (List.mem_range.2 (Array.getElem?_eq_some_iff.1 hi).1)
 rw [hi] at h
 simp only [Bool.and_eq_true,List.all_eq_true] at h
 obtain ⟨⟨h1,h2⟩,h3⟩:=h
 refine ⟨fun d hd=>by rw [hd] at h1; simpa using h1,fun e he hb=>?_,fun k x hk hx=>?_⟩
 ·have:=(Array.all_eq_true_iff_forall_mem.1 h2) e he
  rw [hb] at this
  simpa using this
 ·have:=h3 k (List.mem_range.2 hk)
  rw [hx] at this
  simp only [Bool.or_eq_true,Bool.and_eq_true] at this
  exact this.symm
theorem wQ {bd:Nat→Bd} {K:PS→Prop} {i:Nat} {oi:Oper} (hoi:ops[i]? = some oi) : ∀ (l1 l2:List Nat) (s:PS),(∀ k∈l1,∀ ok,ops[k]? = some ok→ok.apart ops oi=true∧DZ (bd k) (bd i)=true)→EU P ops bd (l1++i::l2) s K→EU P ops bd (i::(l1++l2)) s K
 | [],l2,s,_,h=>h
 | k::l1,l2,s,hk,h=>by
  obtain ⟨ok,rk,uk,hok,h1,f1,h2⟩:=h
  obtain ⟨o',ri,ui,ho',h3,f3,h4⟩:=wQ hoi l1 l2 _ (fun j hj=>hk j (by simp [hj])) h2
  rw [hoi] at ho'
  injection ho' with ho'
  subst ho'
  obtain ⟨p1,p2⟩:=hk k (by simp) ok hok
  obtain ⟨e1,e2,e3,e4,e5⟩:=YD p1 p2 h1 f1 h3 f3
  exact ⟨oi,ri,ui,hoi,e1,e2,ok,rk,uk,hok,e3,e4,by rw [← e5]; exact h4⟩
theorem Vi {bd:Nat→Bd} {Qs:Exit→PS→Prop} (hQ:∀ e s a w,Qs e s→n6 n w0 F0 s a w→Q e a w) (hB:Ez bd n ops=true) : ∀ (m:Nat) (l:List Nat) (listed:Array Bool) (s:PS) (a:Act) (w:World),l.length=m→l.Pairwise (· < ·)→(∀ j,j∈l↔(j < ops.size∧listed.getD j true=false))→listed.size=ops.size→PJ ops listed →
  EU P ops bd l s (Qs .normal)→n6 n w0 F0 s a w→wpAny P .any ops Q m listed a w
 | 0,l,listed,s,a,w,hl,_,hm,hls,_,h,hc=>by
  have:l = []:=List.eq_nil_of_length_eq_zero hl
  subst this
  refine ⟨?_,hQ _ s a w h hc⟩
  rw [List.eq_nil_iff_forall_not_mem]
  intro j hj
  obtain ⟨h1,o,h2,_⟩:=mem_ready.1 hj
  have:=(hm j).2 ⟨(Array.getElem?_eq_some_iff.1 h2).1,h1⟩
  simp at this
 | m + 1,l,listed,s,a,w,hl,hs,hm,hls,hcl,h,hc=>by
  refine ⟨fun h0=>?_,fun i hi=>?_⟩
  ·exfalso
   cases l with
   | nil=>simp at hl
   | cons k l =>
    have hk:=(hm k).1 (by simp)
    have hok:ops[k]? = some ops[k]:=Array.getElem?_eq_getElem hk.1
    have:k∈Region.ready .any ops listed:=by
     refine mem_ready.2 ⟨hk.2,_,hok,fun e he hb=>?_⟩
     have hlt:=(mP hB hok).2.1 e he hb
     cases hx:listed.getD e.on false with
     | true=>rfl
     | false =>
      exfalso
      have hsz:e.on < listed.size:=by rw [hls]; omega
      have h2:listed.getD e.on true=false:=by
       simp [hsz] at hx ⊢; exact hx
      have:=(hm e.on).2 ⟨by omega,h2⟩
      rcases List.mem_cons.1 this with h | h
      ·omega
      ·have:=(List.pairwise_cons.1 hs).1 _ h
       omega
    rw [h0] at this
    cases this
  ·obtain ⟨hun,oi,hoi,hall⟩:=mem_ready.1 hi
   have hin:i∈l:=(hm i).2 ⟨(Array.getElem?_eq_some_iff.1 hoi).1,hun⟩
   obtain ⟨l1,l2,rfl⟩:=List.append_of_mem hin
   have hpw:=List.pairwise_append.1 hs
   have hfront:=wQ (P:=P) (bd:=bd) (K:=Qs .normal) hoi l1 l2 s (fun k hk ok hok=>by
    have hlt:k < i:=hpw.2.2 k hk i (by simp)
    rcases (mP hB hoi).2.2 k ok hlt hok with hh | h
    ·exfalso
     have h1:=wW hcl 4 i k hh (fun o' ho' e he hb=>by rw [hoi] at ho'; cases ho'; exact hall e he hb)
     have h2:=((hm k).1 (by simp [hk])).2
     have hsz:k < listed.size:=by
      rw [hls]; exact ((hm k).1 (by simp [hk])).1
     simp [hsz] at h1 h2
     rw [h1] at h2
     cases h2
    ·exact h) h
   obtain ⟨o',r,u,ho',h1,_,h2⟩:=hfront
   rw [hoi] at ho'
   injection ho' with ho'
   subst ho'
   have hstep:=T6 (f:=0) (Q:=Q) (K:=wpAny P .any ops Q m (listed.setIfInBounds i true)) hc h1 (mP hB hoi).1 (fun a' w' hc'=>by
    have hmono:∀ j,listed.getD j false=true→(listed.setIfInBounds i true).getD j false=true:=fun j hj=>by
     by_cases hji:j=i
     ·subst hji
      have hsz:j < listed.size:=by rw [hls]; exact (Array.getElem?_eq_some_iff.1 hoi).1
      simp [hsz]
     ·rw [getD_set_ne false (Ne.symm hji)]; exact hj
    refine Vi hQ hB m (l1++l2) _ _ a' w' (by simp at hl ⊢; omega) ?_ (fun j=>?_) (by simpa using hls) (fun j hj o ho e he hb=>?_) h2 hc'
    rotate_right
    ·by_cases hji:j=i
     ·subst hji
      rw [hoi] at ho
      cases ho
      exact hmono _ (hall e he hb)
     ·rw [getD_set_ne false (Ne.symm hji)] at hj
      exact hmono _ (hcl j hj o ho e he hb)
    ·have h3:=List.pairwise_cons.1 hpw.2.1
     exact List.pairwise_append.2 ⟨hpw.1,h3.2,fun x hx y hy=>hpw.2.2 x hx y (by simp [hy])⟩
    ·by_cases hji:j=i
     ·subst hji
      have hsz:j < listed.size:=by rw [hls]; exact (Array.getElem?_eq_some_iff.1 hoi).1
      refine ⟨fun hmem=>?_,fun ⟨_,hx⟩=>?_⟩
      ·exfalso
       rcases List.mem_append.1 hmem with h | h
       ·have:=hpw.2.2 j h j (by simp); omega
       ·have:=(List.pairwise_cons.1 hpw.2.1).1 j h; omega
      ·simp [hsz] at hx
     ·rw [getD_set_ne true (Ne.symm hji),← hm j]
      simp [hji])
   unfold wpOp
   rw [hoi]
   simp only
   split
   ·rename_i hw
    rw [if_pos hw] at hstep
    exact .inl hstep
   ·rename_i hw
    rw [if_neg hw] at hstep
    exact hstep
theorem n6.drew {s:PS} {a:Act} (h:n6 n w0 F0 s a w) (d:Nat) : n6 n w0 F0 s a { w with drawn:=d } := by
 obtain ⟨h1,h2,ρ,F,hi,hev⟩:=h
 have hs:Stp ρ s.b w F ρ s.b { w with drawn:=d } F:=⟨fun _ h=>h,fun _ _=>rfl,fun _ ty cs h=>⟨⟨ty,cs,h⟩,rfl⟩,fun _ e _ es h=>⟨e,es,h,Nat.le_refl _,fun _=>rfl⟩⟩
 refine ⟨h1,h2,ρ,F,⟨?_,hi.f0,hi.flt,hi.fnew,fun t B hb=>(hi.box t B hb).mono hs rfl (fun _ _=>rfl) (fun g hg=>((hi.box t B hb).lt hg).2.2),hi.dist,hi.reg⟩,fun i=>(hev i).mono hs⟩
 exact ⟨hi.ext.os,hi.ext.tape,hi.ext.output,hi.ext.size,hi.ext.block⟩
theorem TZ (bd:Nat→Bd) {Qs:Exit→PS→Prop} {s:PS} {id:Nat} {l:List Oper} (hm:P.follows .mixedOrders=true) (hB:Ez bd n l.toArray=true) (h:EU P l.toArray bd (List.range' 0 l.length) s (Qs .normal)) : PWP P n (.region id l.toArray true) Qs s:=by
 intro w0 F0 a w hc
 refine wp_region_any hm ?_
 refine Vi (Qs:=Qs) (fun _ s' _ _ h1 h2=>⟨s',h1,h2⟩) hB l.toArray.size (List.range' 0 l.length) _ s a _ (by simp) List.pairwise_lt_range' (fun j=>?_) (by simp) (fun j hj=>by exfalso; simp only [Array.getD_eq_getD_getElem?,Array.getElem?_replicate] at hj; split at hj <;> cases hj) h (hc.drew _)
 simp only [List.mem_range'_1,Nat.zero_le,true_and,Nat.zero_add,List.size_toArray]
 refine ⟨fun h=>⟨h,by simp [h]⟩,fun h=>h.1⟩
end
end
section
def B6 (P:Program) (s:PS) : ResultVar→Option PV
 | .tmp t=>some (s.t t)
 | .cell t ty=>qp P s.b ty (s.t t)
def qD (P:Program) (fn:Func) (s:PS) : Option PV :=
 match fn.results.toList.mapM (B6 P s) with
 | some [p]=>some p
 | some ps=>some (.tup ps)
 | none=>none
def ZD (P:Program) (fn:Func) (r:PV) (e:Exit) (s:PS) : Prop :=
 (match e with | .normal=>True | .ret=>True | _=>False)∧∃ p,qD P fn s=some p∧asData s.b p=r
def mq (args:List PV) : Nat→PV:=fun i=>(args[i]?).getD .junk
section
variable {P:Program} {ρ ρ':Nat→Value} {b b':Nat→Option Box} {w w':World} {w0:WM} {F F' F0:Nat→Prop} {n:Nat}
theorem We {s:PS} {a:Act} (hi:Inv w0 F0 ρ s.b w F) (hev:∀ i,aL ρ s.b w F (a.tmps.getD i undef) (s.t i)) {x:ResultVar} {p:PV} (h:B6 P s x=some p) :
  ∃ v,((match x with | .tmp t=>pure (a.tmps.getD t undef) | .cell i t=>do loadVar t (← asAddr (a.tmps.getD i undef)) : Sem Value)).run P w = .ok v w∧aL ρ s.b w F v p:=by
 cases x with
 | tmp t =>
  simp only [B6] at h
  injection h with h
  subst h
  exact ⟨_,rfl,hev t⟩
 | cell t ty =>
  simp only [B6] at h
  have h0:=h
  unfold qp at h0
  split at h0
  ·rename_i i cl hti hcl
   obtain ⟨ad,hx,_⟩:=BI hi (hev t) hcl
   obtain ⟨v,h1,h2⟩:=Es hi (hev t) h
   refine ⟨v,?_,h1⟩
   show (do loadVar ty (← asAddr (a.tmps.getD t undef)) : Sem Value).run P w = .ok v w
   rw [hx] at h2 ⊢
   simpa [Instr.loadAt,Instr.sureAddr,asAddr] using h2
  ·cases h0
theorem P5 {s:PS} {a:Act} (hi:Inv w0 F0 ρ s.b w F) (hev:∀ i,aL ρ s.b w F (a.tmps.getD i undef) (s.t i)) : ∀ (l:List ResultVar) (ps:List PV),l.mapM (B6 P s)=some ps →
  ∃ vs:List Value,(l.mapM (fun x=>(match x with | .tmp t=>pure (a.tmps.getD t undef) | .cell i t=>do loadVar t (← asAddr (a.tmps.getD i undef)) : Sem Value))).run P w = .ok vs w∧cz ρ s.b w F vs ps
 | [],ps,h=>by simp at h; subst h; exact ⟨[],by simp,.nil⟩
 | x::l,ps,h=>by
  simp only [List.mapM_cons,Option.bind_eq_bind,Option.pure_def] at h
  cases hx:B6 P s x with
  | none=>simp [hx] at h
  | some p =>
   cases hl:l.mapM (B6 P s) with
   | none=>simp [hx,hl] at h
   | some ps' =>
    simp [hx,hl] at h
    subst h
    obtain ⟨v,h1,h2⟩:=We hi hev hx
    obtain ⟨vs,h3,h4⟩:=P5 hi hev l ps' hl
    refine ⟨v::vs,?_,.cons h2 h4⟩
    rw [List.mapM_cons]
    simp only [Sem.run_bind,h1,Result.andThen_ok,h3,Sem.run_pure]
theorem Dk {fn:Func} {s:PS} {a:Act} {p:PV} (hi:Inv w0 F0 ρ s.b w F) (hev:∀ i,aL ρ s.b w F (a.tmps.getD i undef) (s.t i)) (h:qD P fn s=some p) : ∃ v,(results fn a.tmps).run P w = .ok v w∧aL ρ s.b w F v p:=by
 unfold qD at h
 have key:∀ ps,fn.results.toList.mapM (B6 P s)=some ps→∃ vs:List Value,(fn.results.mapM (fun x=>(match x with | .tmp t=>pure (a.tmps.getD t undef) | .cell i t=>do loadVar t (← asAddr (a.tmps.getD i undef)) : Sem Value))).run P w = .ok vs.toArray w∧cz ρ s.b w F vs ps:=by
  intro ps hps
  obtain ⟨vs,h1,h2⟩:=P5 hi hev _ ps hps
  refine ⟨vs,?_,h2⟩
  rw [Array.mapM_eq_mapM_toList]
  rw [show ∀ (m:Sem (List Value)),(Functor.map List.toArray m)=(do let l ← m; pure l.toArray) from fun m=>rfl]
  rw [Sem.run_bind,h1]
  rfl
 split at h
 ·rename_i q hq
  injection h with h
  subst h
  obtain ⟨vs,h1,h2⟩:=key _ hq
  have hl:=h2.len
  match vs,hl with
  | [v],_ =>
   refine ⟨v,?_,h2.rep 0 v q rfl rfl⟩
   unfold results
   rw [Sem.run_bind]
   erw [h1]
   simp
 ·rename_i ps hne hq
  injection h with h
  subst h
  obtain ⟨vs,h1,h2⟩:=key _ hq
  have hsz : ¬ vs.length=1:=by
   rw [h2.len]
   intro h
   match ps,h with
   | [q],_=>exact hne q rfl
  refine ⟨.tuple vs.toArray,?_,.tup _ _ (by simpa using h2.len) (fun j x c h3 h4=>h2.rep j x c (by simpa using h3) h4)⟩
  unfold results
  rw [Sem.run_bind]
  erw [h1]
  simp [hsz]
 ·cases h
theorem T2 {f:FuncId} {fn:Func} {c:Code} {args:List PV} {r:PV} (hf:P.funcs[f]? = some fn) (hb:fn.body=some c) (hcb:eB P f=true) (hlen:args.length≤fn.ntmps)
  (h:PWP P fn.ntmps c (ZD P fn r) ⟨mq args,dZ⟩) : PC P f args r:=by
 refine ⟨hcb,fun w F vs hF hr=>?_⟩
 refine calls_of_wp hf hb ?_
 have hl:vs.size=args.length:=by have:=hr.len; simpa using this
 have hc:n6 fn.ntmps ⟨w,fun _=>False,fun _=>none⟩ F ⟨mq args,dZ⟩ { tmps:=vs++Array.replicate (fn.ntmps - vs.size) undef,defers:=[] } w:=by
  refine ⟨by simp; omega,rfl,ρNone,F,⟨.of w rfl,fun _ h=>h,hF,fun _ h=>.inl h,(fun t B h=>by cases h),(fun t t' B B' g h=>by cases h),(fun t q h=>by cases h)⟩,fun i=>?_⟩
  by_cases hi:i < vs.size
  ·have e1:(vs++Array.replicate (fn.ntmps - vs.size) undef).getD i undef=vs[i]:=by simp [Array.getElem?_append,hi]
   show aL ρNone dZ w F _ (mq args i)
   rw [e1]
   have hia:i < args.length:=by omega
   unfold mq
   rw [zq hia]
   exact hr.rep i _ _ (by simp [hi]) (zq hia)
  ·show aL ρNone dZ w F _ (mq args i)
   unfold mq
   rw [List.getElem?_eq_none (by omega)]
   exact .junk _
 refine wp_mono (h ⟨w,fun _=>False,fun _=>none⟩ F _ w hc) fun e a' w' ⟨s',⟨hex,p,h1,h2⟩,_,hd,ρ,F',hi,hev⟩=>?_
 obtain ⟨v,hv1,hv2⟩:=Dk (P:=P) hi hev h1
 have fin:a'.defers = []∧∃ v,(results fn a'.tmps).run P w' = .ok v w'∧∃ v' F'',Ending.returned v = .returned v'∧Ext w w'∧(∀ g,F g→F'' g)∧(∀ g,F'' g→g < w'.heap.size)∧(∀ g,F'' g→F g∨w.heap.size≤g)∧aL ρNone dZ w' F'' v' r:=by
  refine ⟨hd,v,hv1,v,Se ρ s'.b F',rfl,⟨hi.ext.os,hi.ext.tape,hi.ext.output,hi.ext.size,fun g hg=>hi.ext.block g hg id⟩,fun g hg=>.inl (hi.f0 g hg),?_,?_,?_⟩
  ·rintro g (hg | ⟨t,B,hb,hg⟩)
   ·exact hi.flt g hg
   ·exact ((hi.box t B hb).lt hg).1
  ·rintro g (hg | ⟨t,B,hb,hg⟩)
   ·exact (hi.fnew g hg).imp_right fun h=>h.resolve_right id
   ·exact .inr (((hi.box t B hb).lt hg).2.1.resolve_right id)
  ·rw [← h2]
   exact hv2.asData hi
 cases e with
 | normal=>exact fin
 | ret=>exact fin
 | exit _=>exact hex.elim
 | goto _=>exact hex.elim
 | panic _=>exact hex.elim
 | outgrown=>exact hex.elim
end
end
section
section
variable {P:Program} {ρ ρ':Nat→Value} {b b':Nat→Option Box} {w w':World} {w0:WM} {F F' F0:Nat→Prop} {n:Nat} {Qs:Exit→PS→Prop} {c:Code}
variable {s:PS}
theorem Rq {ks bs:List Nat} {x:Code} (I:PS→Nat→Prop) (m0:Nat) (h0:I s m0) (round:∀ s m,I s m→PWP P n x (Xp (fun s'=>∃ s'',(∀ n w0 F0 a w,n6 n w0 F0 s' a w→n6 n w0 F0 s'' a w)∧∃ m',I s'' m'∧m' < m) Qs) s) : PWP P n (.loop x) Qs s:=by
 intro w0 F0 a w hc
 refine wp_loop_ghost (fun m a' w'=>∃ s',I s' m∧n6 n w0 F0 s' a' w') m0 ⟨s,h0,hc⟩ (fun m a' w' ⟨s',h1,h2⟩=>?_)
 refine wp_mono (round s' m h1 w0 F0 a' w' h2) fun e a2 w2 ⟨s2,h3,h4⟩=>?_
 cases e with
 | normal =>
  obtain ⟨s3,h5,m',h6,h7⟩:=h3
  exact ⟨m',h7,s3,h6,h5 _ _ _ _ _ h4⟩
 | _=>exact ⟨s2,h3,h4⟩
end
mutual
def frz (t:Nat) (es:List (List D)) : PV→PV
 | .row t' m=>if t' = t then (if m=es.length then .d (.sl es) else .junk) else .row t' m
 | .re t' m i o=>if t' = t then .junk else .re t' m i o
 | .vw t' m i o=>if t' = t then .junk else .vw t' m i o
 | .ag cs=>.ag (D8 t es cs)
 | .tup cs=>.tup (D8 t es cs)
 | .fn f ps qs=>.fn f (D8 t es ps) (D8 t es qs)
 | p=>p
def D8 (t:Nat) (es:List (List D)) : List PV→List PV
 | []=>[]
 | c::cs=>frz t es c::D8 t es cs
end
def Ap (t:Nat) (es:List (List D)) : Box→Box
 | .st ty cs=>.st ty (D8 t es cs)
 | B=>B
section
variable {P:Program} {ρ ρ':Nat→Value} {b b':Nat→Option Box} {w w':World} {w0:WM} {F F' F0:Nat→Prop} {n:Nat} {Qs:Exit→PS→Prop} {c:Code}
theorem g9 (t:Nat) (es:List (List D)) : ∀ cs:List PV,(D8 t es cs).length=cs.length
 | []=>rfl
 | c::cs=>by simp [D8,g9 t es cs]
theorem hH (t:Nat) (es:List (List D)) : ∀ (cs:List PV) (j:Nat) (c:PV),(D8 t es cs)[j]? = some c→∃ d,cs[j]? = some d∧c=frz t es d
 | [],j,c,h=>by simp [D8] at h
 | d::cs,j,c,h=>by
  simp only [D8] at h
  cases j with
  | zero=>simp at h; exact ⟨d,rfl,h.symm⟩
  | succ j=>simp at h; simpa using hH t es cs j c h
theorem aL.frz {x:Value} {p:PV} {t e k:Nat} {es:List (List D)} (hi:Inv w0 F0 ρ b w F) (hb:b t=some (.rw e k es)) (hb':∀ i,b' i=if i=t then none else (b i).map (Ap t es)) (h:aL ρ b w F x p) :
  aL ρ b' w (fun g=>F g∨blk (ρ t)=some g) x (Go.Proofs.YtaknepbdbappdaaGreat.frz t es p):=by
 have hF:∀ g,F g→(F g∨blk (ρ t)=some g):=fun g h=>.inl h
 induction h with
 | junk x=>exact .junk x
 | d x d h=>exact .d x d (h.mono hF (fun _ _=>rfl))
 | ag xs cs hl h1 hr ih =>
  refine .ag xs _ (by rw [g9]; exact hl) h1 (fun j x c h2 h3=>?_)
  obtain ⟨d,h4,rfl⟩:=hH t es cs j c h3
  exact ih j x d h2 h4
 | tup xs cs hl hr ih =>
  refine .tup xs _ (by rw [g9]; exact hl) (fun j x c h2 h3=>?_)
  obtain ⟨d,h4,rfl⟩:=hH t es cs j c h3
  exact ih j x d h2 h4
 | ptr t' off g ty cs hb2 hρ =>
  have:t'≠t:=fun e=>by rw [e,hb] at hb2; cases hb2
  exact .ptr t' off g ty _ (by rw [hb',if_neg this,hb2]; rfl) hρ
 | row t' m A cc e' k' es' hb2 hn hc hA hρ =>
  simp only [Go.Proofs.YtaknepbdbappdaaGreat.frz]
  by_cases ht:t' = t
  ·subst ht
   rw [if_pos rfl]
   rw [hb] at hb2
   injection hb2 with hb2
   injection hb2 with e1 e2 e3
   subst e1 e2 e3
   split
   ·rename_i hm
    have:=KB hi hb (.row t' m A cc e k es hb hn hc hA hρ) hm.symm
    refine .d _ _ ?_
    have hr:=kD hi (.row t' m A cc e k es hb hn hc hA hρ) (show kU b (.row t' m)=some es by simp [kU,hb,hm])
    obtain ⟨A2,c2,k2,e4,hc2,hm2,hk2,hA2,hcell2⟩:=hr
    injection e4 with e5 e6 e7
    subst e5 e7
    cases A with
    | none =>
     obtain ⟨rfl,rfl⟩:=hA2 rfl
     simp at hm
     subst hm
     exact .sl none 0 0 0 [] (fun _=>undef) rfl (Nat.le_refl _) (by simp [maxLen]) (by simp) (by omega) (fun _=>rfl) (by simp) (by simp)
    | some a =>
     have hcell2:=hcell2 a rfl
     refine .sl (some a) m cc k2 es (fun j=>(w.cell? (a.add j)).getD undef) hm hc hm2 hk2 (fun _=>⟨a,rfl,.inr (by rw [hρ hm.symm]; rfl)⟩) (fun h=>by cases h) (fun a' j d ha' hj=>?_) (fun j d hj=>?_)
     ·injection ha' with ha'
      subst ha'
      obtain ⟨u,h1,_⟩:=hcell2 j d hj
      rw [h1]; rfl
     ·obtain ⟨u,h1,h2⟩:=hcell2 j d hj
      rw [h1]
      exact h2.mono hF (fun _ _=>rfl)
   ·exact .junk _
  ·rw [if_neg ht]
   exact .row t' m A cc e' k' es' (by rw [hb',if_neg ht,hb2]; rfl) hn hc hA hρ
 | re t' m i o a e' k' es' hb2 hn hi' hρ =>
  simp only [Go.Proofs.YtaknepbdbappdaaGreat.frz]
  by_cases ht:t' = t
  ·rw [if_pos ht]; exact .junk _
  ·rw [if_neg ht]
   exact .re t' m i o a e' k' es' (by rw [hb',if_neg ht,hb2]; rfl) hn hi' hρ
 | vw t' m lo hi' A mm cc e' k' es' hb2 hn hl hh hm hρ =>
  simp only [Go.Proofs.YtaknepbdbappdaaGreat.frz]
  by_cases ht:t' = t
  ·rw [if_pos ht]; exact .junk _
  ·rw [if_neg ht]
   exact .vw t' m lo hi' A mm cc e' k' es' (by rw [hb',if_neg ht,hb2]; rfl) hn hl hh hm hρ
 | fe a cs us hF' hcell hrep=>exact .fe a cs us (.inl hF') hcell (fun j d h=>(hrep j d h).mono hF (fun _ _=>rfl))
 | fn f xs ys ps qs hl hr hl2 hr2 ih ih2 =>
  refine .fn f xs ys _ _ (by rw [g9]; exact hl) (fun j x c h2 h3=>?_) (by rw [g9]; exact hl2) (fun j x c h2 h3=>?_)
  ·obtain ⟨d,h4,rfl⟩:=hH t es ps j c h3
   exact ih j x d h2 h4
  ·obtain ⟨d,h4,rfl⟩:=hH t es qs j c h3
   exact ih2 j x d h2 h4
theorem Inv.reg_frz {t:Nat} {es:List (List D)} (hi:Inv w0 F0 ρ b w F) (hb':∀ i,b' i=if i=t then none else (b i).map (Ap t es)) : ∀ i q,w0.R i=some q→1000000≤i∧pA ρ b' i q:=by
 intro i q h
 obtain ⟨h1,h2⟩:=hi.reg i q h
 refine ⟨h1,?_⟩
 by_cases hit:i=t
 ·exact h2.less (.inl (by rw [hb',if_pos hit]))
 ·refine h2.mono (fun e=>by rw [hb',if_neg hit,e]; rfl) (fun ty cs e=>⟨⟨ty,_,by rw [hb',if_neg hit,e]; rfl⟩,rfl⟩) (fun e k es' he=>⟨e,es',by rw [hb',if_neg hit,he]; rfl,Nat.le_refl _,fun _=>rfl⟩)
theorem aL.dd {x:Value} {d:D} (h:aL ρ b w F x (.d d)) : ew w F x d:=by
 cases h with
 | d _ _ h=>exact h
end
end
theorem Tryz.mixed:prog.follows .mixedOrders=true:=by kernel_rfl
theorem kJ {x:Int} (h1 : -9223372036854775808≤x) (h2:x≤9223372036854775807) : i64.wrap x=x:=by
 exact IntWalk.i64_in x ⟨h1,h2⟩
theorem YG (k:Nat) (h:k + 1≤9223372036854775807) : i64.wrap ((k:Int) + 1)=((k + 1:Nat) : Int):=kJ (by omega) (by omega)
section
section
variable {α β σ τ : Type}
def aw (l:List α) (i:Int) : Option α:=if 0≤i then l[i.toNat]? else none
def aW (l m:List α) : Option (List α):=if l.length + m.length≤1000000 then some (l++m) else none
def hiO (l:List α) (k:Int) : Option (List α):=if 0≤k∧k.toNat≤l.length then some (l.take k.toNat) else none
def loO (l:List α) (k:Int) : Option (List α):=if 0≤k∧k.toNat≤l.length then some (l.drop k.toNat) else none
def lb (s:ByteArray) (i:Int) : Option Int:=if 0≤i then (s.data.toList[i.toNat]?).map (fun c=>(c.toNat:Int)) else none
def Ni (s:ByteArray) (k:Int) : Option ByteArray:=if 0≤k∧k.toNat≤s.size then some (s.extract 0 k.toNat) else none
def Rg (s:ByteArray) (k:Int) : Option ByteArray:=if 0≤k∧k.toNat≤s.size then some (s.extract k.toNat s.size) else none
def Ix (s:ByteArray) (a b:Int) : Option ByteArray:=if 0≤a∧0≤b∧a.toNat≤b.toNat∧b.toNat≤s.size then some (s.extract a.toNat b.toNat) else none
def mn (s t:ByteArray) : Option ByteArray:=if s.size + t.size≤9223372036854775807 then some (s++t) else none
def Wb (l:List Int) : Option ByteArray:=if l = [] then none else some (l.foldl (fun r n=>r.push (UInt8.ofNat n.toNat)) ByteArray.empty)
def FV (x y:Int) : Option Int:=if y=0 then none else some (x.tmod y)
def ah (f : σ→Option (σ⊕τ)) : Nat→σ→Option τ
 | 0,_=>none
 | n + 1,s=>match f s with
  | none=>none
  | some (.inl s')=>ah f n s'
  | some (.inr r)=>some r
def ac:Nat:=1000000000
theorem br {o:Option α} {k : α→Option β} {r : β} (h:o.bind k=some r) : ∃ x,o=some x∧k x=some r:=by
 cases o with
 | none=>cases h
 | some x=>exact ⟨x,rfl,h⟩
end
end
def iD (n:Int) : List D:=[.v (.int .i64 n)]
def sD (s:ByteArray) : List D:=[.v (.string s)]
structure av where
 be:Int
 aF:Int
def av.zero:av:=⟨0,0⟩
def av.d (x:av) : List D:=[.v (.int .i64 x.be),.v (.int .i64 x.aF)]
structure aJ where
 bD:Int
 a8:Int
 bu:av
 ja:Int
 bf:Int
 fV:Int
 ke:Int
def aJ.zero:aJ:=⟨0,0,av.zero,0,0,0,0⟩
def aJ.d (x:aJ) : List D:=[.v (.int .i64 x.bD),.v (.int .i64 x.a8),.v (.int .i64 x.bu.be),.v (.int .i64 x.bu.aF),.v (.int .i64 x.ja),.v (.int .i64 x.bf),.v (.int .i64 x.fV),.v (.int .i64 x.ke)]
structure az where
 fId:Int
 ef:Int
 bO:ByteArray
 eh:Int
 bD:Int
 bI:av
 bQ:(List aJ)
 cW:Int
 co:Int
 cr:(List Int)
 i8:(List Int)
 s7:(List Int)
 tY:(List Int)
def az.zero:az:=⟨0,0,⟨#[]⟩,0,0,av.zero,[],0,0,[],[],[],[]⟩
def az.d (x:az) : List D:=[.v (.int .i64 x.fId),.v (.int .i64 x.ef),.v (.string x.bO),.v (.int .i64 x.eh),.v (.int .i64 x.bD),.v (.int .i64 x.bI.be),.v (.int .i64 x.bI.aF),.sl (x.bQ.map aJ.d),.v (.int .i64 x.cW),.v (.int .i64 x.co),.sl (x.cr.map iD),.sl (x.i8.map iD),.sl (x.s7.map iD),.sl (x.tY.map iD)]
structure eu where
 mO:Int
 tX:Int
def eu.d (x:eu) : List D:=[.v (.int .i64 x.mO),.v (.int .i64 x.tX)]
structure aC where
 aK:ByteArray
 bA:(List eu)
 eh:Int
def aC.zero:aC:=⟨⟨#[]⟩,[],0⟩
def aC.d (x:aC) : List D:=[.v (.string x.aK),.sl (x.bA.map eu.d),.v (.int .i64 x.eh)]
structure ay where
 al:(List ByteArray)
 ae:(List aC)
def ay.d (x:ay) : List D:=[.sl (x.al.map sD),.sl (x.ae.map aC.d)]
structure ai where
 fId:Int
 bz:Int
 bf:Int
 bu:av
 bD:Int
 a8:Int
 bI:Bool
 jw:Int
def ai.zero:ai:=⟨0,0,0,av.zero,0,0,false,0⟩
def ai.d (x:ai) : List D:=[.v (.int .i64 x.fId),.v (.int .i64 x.bz),.v (.int .i64 x.bf),.v (.int .i64 x.bu.be),.v (.int .i64 x.bu.aF),.v (.int .i64 x.bD),.v (.int .i64 x.a8),.v (.bool x.bI),.v (.int .i64 x.jw)]
structure aB where
 fId:Int
 a8:Int
 fV:Int
 dY:av
 cW:Int
 co:Int
 fUp:Bool
def aB.zero:aB:=⟨0,0,0,av.zero,0,0,false⟩
def aB.d (x:aB) : List D:=[.v (.int .i64 x.fId),.v (.int .i64 x.a8),.v (.int .i64 x.fV),.v (.int .i64 x.dY.be),.v (.int .i64 x.dY.aF),.v (.int .i64 x.cW),.v (.int .i64 x.co),.v (.bool x.fUp)]
structure a6 where
 fId:Int
 a8:Int
 pw:Int
 lr:Int
 kP:av
def a6.zero:a6:=⟨0,0,0,0,av.zero⟩
def a6.d (x:a6) : List D:=[.v (.int .i64 x.fId),.v (.int .i64 x.a8),.v (.int .i64 x.pw),.v (.int .i64 x.lr),.v (.int .i64 x.kP.be),.v (.int .i64 x.kP.aF)]
structure aH where
 hZ:Int
 fId:Int
 co:Int
 fN:Int
 Lm:ByteArray
 bf:aB
 bz:az
 bQ:(List aJ)
 fW:(List Int)
 pv:a6
def aH.d (x:aH) : List D:=[.v (.int .i64 x.hZ),.v (.int .i64 x.fId),.v (.int .i64 x.co),.v (.int .i64 x.fN),.v (.string x.Lm),.v (.int .i64 x.bf.fId),.v (.int .i64 x.bf.a8),.v (.int .i64 x.bf.fV),.v (.int .i64 x.bf.dY.be),.v (.int .i64 x.bf.dY.aF),.v (.int .i64 x.bf.cW),.v (.int .i64 x.bf.co),.v (.bool x.bf.fUp),.v (.int .i64 x.bz.fId),.v (.int .i64 x.bz.ef),.v (.string x.bz.bO),.v (.int .i64 x.bz.eh),.v (.int .i64 x.bz.bD),.v (.int .i64 x.bz.bI.be),.v (.int .i64 x.bz.bI.aF),.sl (x.bz.bQ.map aJ.d),.v (.int .i64 x.bz.cW),.v (.int .i64 x.bz.co),.sl (x.bz.cr.map iD),.sl (x.bz.i8.map iD),.sl (x.bz.s7.map iD),.sl (x.bz.tY.map iD),.sl (x.bQ.map aJ.d),.sl (x.fW.map iD),.v (.int .i64 x.pv.fId),.v (.int .i64 x.pv.a8),.v (.int .i64 x.pv.pw),.v (.int .i64 x.pv.lr),.v (.int .i64 x.pv.kP.be),.v (.int .i64 x.pv.kP.aF)]
structure bk where
 Yj:Int
 ab:(List ai)
 fW:(List Int)
 Xx:(List Int)
 fN:Int
def bk.d (x:bk) : List D:=[.v (.int .i64 x.Yj),.sl (x.ab.map ai.d),.sl (x.fW.map iD),.sl (x.Xx.map iD),.v (.int .i64 x.fN)]
structure bt where
 bf:Int
 bz:Int
 bD:Int
def bt.d (x:bt) : List D:=[.v (.int .i64 x.bf),.v (.int .i64 x.bz),.v (.int .i64 x.bD)]
structure aa where
 bL:ay
 ar:(List aB)
 ao:(List az)
 ab:(List ai)
 aR:(List bt)
 bv:(List a6)
 cP:Int
 eW:Int
 lu:Int
def aa.d (x:aa) : List D:=[.sl (x.bL.al.map sD),.sl (x.bL.ae.map aC.d),.sl (x.ar.map aB.d),.sl (x.ao.map az.d),.sl (x.ab.map ai.d),.sl (x.aR.map bt.d),.sl (x.bv.map a6.d),.v (.int .i64 x.cP),.v (.int .i64 x.eW),.v (.int .i64 x.lu)]
structure aQ where
 hZ:Int
 fA:Int
 fB:Int
 fC:Int
 fD:Int
def aQ.d (x:aQ) : List D:=[.v (.int .i64 x.hZ),.v (.int .i64 x.fA),.v (.int .i64 x.fB),.v (.int .i64 x.fC),.v (.int .i64 x.fD)]
structure aE where
 I0:Int
 fNs:(List Int)
 mp:(List aQ)
def aE.d (x:aE) : List D:=[.v (.int .i64 x.I0),.sl (x.fNs.map iD),.sl (x.mp.map aQ.d)]
structure a7 where
 fA:Int
 fP:Int
def a7.d (x:a7) : List D:=[.v (.int .i64 x.fA),.v (.int .i64 x.fP)]
structure aj where
 aK:ByteArray
 be:Int
def aj.d (x:aj) : List D:=[.v (.string x.aK),.v (.int .i64 x.be)]
end Go.Proofs.YtaknepbdbappdaaGreat
