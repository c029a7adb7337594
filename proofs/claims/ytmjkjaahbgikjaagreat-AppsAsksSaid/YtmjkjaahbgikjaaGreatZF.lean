/- My texts, in one. -/
import Derived.Test.YtmjkjaahbgikjaaGreatZE
set_option linter.all false
set_option maxRecDepth 100000
set_option maxHeartbeats 4000000
namespace Go.Proofs.YtmjkjaahbgikjaaGreat
open Go.RowKit
open IntKind (i64)
open Go.Proofs.Tryz (prog)
section
section
variable {P:Program} {ops:Array Oper} {Q:Exit→Act→World→Prop} {md:Region.Mode} {L:World→World→Prop}
def fK (P:Program) (ops:Array Oper) (L:World→World→Prop) (W:World) (o:Oper) (v:Value) (a:Act) : Prop :=
 (Region.wanted o (yielded ops a.tmps)=true∧∀ w,L W w→OkX P v w ((execOp a.eval o).run P w)) ∨
 (Region.wanted o (yielded ops a.tmps)=false∧v=undef)
structure Way (L:World→World→Prop) : Prop where
 ext:∀ {a b},Ext a b→L a b
 trans:∀ {a b c},L a b→L b c→L a c
theorem fK.of_same {W:World} {o:Oper} {v:Value} {a a':Act} (hy:fK P ops L W o v a) (he:execOp a'.eval o=execOp a.eval o)
  (hw:Region.wanted o (yielded ops a'.tmps)=Region.wanted o (yielded ops a.tmps)) : fK P ops L W o v a':=by
 unfold fK at *
 rw [he,hw]
 exact hy
theorem fK.later (hL:Way L) {W W':World} {o:Oper} {v:Value} {a:Act} (hy:fK P ops L W o v a) (h:L W W') : fK P ops L W' o v a :=
 hy.imp (fun ⟨hw,hv⟩=>⟨hw,fun w k=>hv w (hL.trans h k)⟩) id
theorem fK.wpOp {W w:World} {i:Nat} {o:Oper} {v:Value} {a:Act} (hi:ops[i]? = some o) (hy:fK P ops L W o v a) (hW:L W w)
  {K:Act→World→Prop} (h:∀ w',Ext w w'→K (a.put o.dst v) w') : wpOp P ops Q i K a w:=by
 unfold Go.wpOp
 simp only [hi]
 rcases hy with ⟨hw,hv⟩ | ⟨hw,rfl⟩
 ·simp only [hw,if_true]
  refine .inl ?_
  unfold Oper.wp
  have:=hv w hW
  generalize (execOp a.eval o).run P w=r at *
  cases r with
  | ok n w' =>
   cases n <;> simp only [OkX] at this <;> simp only [Oper.upon]
   case value u=>rw [this.1]; exact h _ this.2
   case enter f args =>
    refine Calls.mono this.2 fun e w'' he=>?_
    rw [he.1]
    exact h _ (this.1.trans he.2)
  | halt x w'=>simp only [OkX] at this
 ·simp only [hw,zf,if_false]; exact h _ (Ext.refl _)
theorem Se {j:Nat} {W:World} {oi oj:Oper} {v:Value} (hj:ops[j]? = some oj) (hap:oi.apart ops oj=true)
  (hsi:∀ cs b,oi.op≠.select cs b) (hsj:∀ cs b,oj.op≠.select cs b)
  (hQ:∀ c a w,Q (.panic c) (a.put oi.dst v) w→Q (.panic c) a w) {K:Act→World→Prop} {a:Act} {w:World}
  (hy:fK P ops L W oi v a) (h:wpOp P ops Q j K (a.put oi.dst v) w) :
  wpOp P ops Q j (fun a' w'=>fK P ops L W oi v a'∧K (a'.put oi.dst v) w') a w:=by
 obtain ⟨h1,h2,h3⟩:=Oper.apart_spec hap
 have keep:∀ (a:Act),fK P ops L W oi v a→∀ u,fK P ops L W oi v (a.put oj.dst u):=fun a hy u =>
  hy.of_same (execOp_put oi hsi a oj.dst u h3) (wanted_put oi a oj.dst u h3)
 have keepD:∀ d,fK P ops L W oi v { a with defers:=d::a.defers } := fun d=>hy.of_same rfl rfl
 unfold Go.wpOp at *
 simp only [hj] at *
 rw [wanted_put oj a oi.dst v h1] at h
 split
 ·rename_i hw
  simp only [hw,if_true] at h
  rcases h with h | ⟨hasks,hlets⟩
  case inr=>exact .inr ⟨by unfold Oper.asks at *; rw [execOp_put oj hsj a oi.dst v h1] at hasks; exact hasks,hlets⟩
  refine .inl ?_
  unfold Oper.wp at *
  rw [execOp_put oj hsj a oi.dst v h1] at h
  generalize (execOp a.eval oj).run P w=r at *
  cases r with
  | ok n w' =>
   cases n <;> simp only [Oper.upon] at h ⊢
   case value u=>exact ⟨keep a hy u,by rw [← Act.put_comm a v u h2]; exact h⟩
   case skip=>exact ⟨keep a hy _,by rw [← Act.put_comm a v undef h2]; exact h⟩
   case defer d =>
    refine ⟨keep _ (keepD d) _,?_⟩
    rw [← Act.put_comm _ v undef h2,← Act.put_defers]
    exact h
   case enter f args =>
    refine Calls.mono h fun e w'' he=>?_
    cases e with
    | returned u=>exact ⟨keep a hy u,by rw [← Act.put_comm a v u h2]; exact he⟩
    | panicked c=>exact hQ _ _ _ he
    | outgrown=>exact he
   case row row args=>exact Rows.mono h fun u w'' he=>⟨keep a hy u,by rw [← Act.put_comm a v u h2]; exact he⟩
  | halt x w' =>
   cases x <;> simp only [Oper.upon] at h ⊢
   case panic u=>exact hQ _ _ _ h
 ·rename_i hw
  simp only [hw] at h
  exact ⟨keep a hy _,by rw [← Act.put_comm a v undef h2]; exact h⟩
def wpW (P:Program) (md:Region.Mode) (ops:Array Oper) (Q:Exit→Act→World→Prop) (L:World→World→Prop) : Nat→Array Bool→Act→World→Prop
 | 0,listed,a,w=>Region.ready md ops listed = []∧∀ w1,Ext w w1→Q .normal a w1
 | f + 1, listed, a, w => (Region.ready md ops listed = [] → ∀ w1, Ext w w1 → Q .normal a w1) ∧ ∀ w1, Ext w w1 →
     ∀ i∈Region.ready md ops listed,wpOp P ops Q i (fun a' w'=>L w1 w'∧wpW P md ops Q L f (listed.setIfInBounds i true) a' w') a w1
theorem wpW.later:∀ {f:Nat} {listed:Array Bool} {a:Act} {w w':World},wpW P md ops Q L f listed a w→Ext w w'→wpW P md ops Q L f listed a w'
 | 0,_,_,_,_,h,k=>⟨h.1,fun w1 k1=>h.2 w1 (k.trans k1)⟩
 | _ + 1,_,_,_,_,h,k=>⟨fun h0 w1 k1=>h.1 h0 w1 (k.trans k1),fun w1 k1=>h.2 w1 (k.trans k1)⟩
theorem xZ:∀ (f:Nat) (listed:Array Bool) (a:Act) (w:World),wpW P md ops Q L f listed a w→wpAny P md ops Q f listed a w
 | 0,_,_,_,h=>⟨h.1,h.2 _ (Ext.refl _)⟩
 | f + 1,_,_,_,h=>⟨fun h0=>h.1 h0 _ (Ext.refl _),fun i hi=>wpOp_mono (fun a' w' h'=>xZ f _ a' w' h'.2) (h.2 _ (Ext.refl _) i hi)⟩
theorem Sd (hL:Way L) {i:Nat} {oi:Oper} {v:Value} (hi:ops[i]? = some oi) (hsel:∀ (j:Nat) (o:Oper) cs b,ops[j]? = some o→o.op≠.select cs b)
  (hQ:∀ c a w,Q (.panic c) (a.put oi.dst v) w→Q (.panic c) a w) :
  ∀ (f:Nat) (listed:Array Bool) (a:Act) (w:World),
   (∀ j oj,ops[j]? = some oj→j≠i→listed.getD j true=false→(∀ e∈oj.after,Region.binds md e=true→e.on≠i)→oi.apart ops oj=true) →
   i∈Region.ready md ops listed→fK P ops L w oi v a →
   wpW P md ops Q L f (listed.setIfInBounds i true) (a.put oi.dst v) w→wpW P md ops Q L (f + 1) listed a w:=by
 intro f
 induction f with
 | zero =>
  intro listed a w _ hr hy H
  refine ⟨fun h=>(by rw [h] at hr; cases hr),fun w1 k1 j hj=>?_⟩
  by_cases hji:j=i
  ·subst hji; exact hy.wpOp hi (hL.ext k1) fun w' k'=>⟨hL.ext k',wpW.later H (k1.trans k')⟩
  ·have:=ready_mono hj hji
   rw [H.1] at this
   cases this
 | succ f ih =>
  intro listed a w hfree hr hy H
  have hun:=(mem_ready.1 hr).1
  refine ⟨fun h=>(by rw [h] at hr; cases hr),fun w1 k1 j hj=>?_⟩
  by_cases hji:j=i
  ·subst hji; exact hy.wpOp hi (hL.ext k1) fun w' k'=>⟨hL.ext k',wpW.later H (k1.trans k')⟩
  ·have h1:=H.2 w1 k1 j (ready_mono hj hji)
   obtain ⟨hjun,oj,hoj,hall⟩:=mem_ready.1 hj
   have hnot:∀ e∈oj.after,Region.binds md e=true→e.on≠i:=fun e he hb heq=>by
    have h1:=hall e he hb
    rw [heq,getD_both hun] at h1
    cases h1
   have hfree':∀ k ok,ops[k]? = some ok→k≠i→(listed.setIfInBounds j true).getD k true=false →
     (∀ e∈ok.after,Region.binds md e=true→e.on≠i)→oi.apart ops ok=true:=fun k ok hk hki hun hno=>by
    refine hfree k ok hk hki ?_ hno
    by_cases hjk:j=k
    ·subst hjk; exact hjun
    ·rw [getD_set_ne true hjk] at hun; exact hun
   have h2:=Se hoj (hfree j oj hoj hji hjun hnot) (fun cs b=>hsel i oi cs b hi) (fun cs b=>hsel j oj cs b hoj) hQ hy h1
   refine wpOp_mono (fun a' w' h3=>⟨h3.2.1,ih (listed.setIfInBounds j true) a' w' hfree' (ready_mono hr (Ne.symm hji)) (h3.1.later hL (hL.trans (hL.ext k1) h3.2.1)) ?_⟩) h2
   rw [Array.setIfInBounds_comm _ _ hji]
   exact h3.2.2
def w8 (md:Region.Mode) (ops:Array Oper) : List (Nat×Bool)→Array Bool→Bool
 | [],listed=>(Region.ready md ops listed).isEmpty
 | (i,true)::s,listed=>(Region.ready md ops listed).contains i&&Region.free md ops listed i&&w8 md ops s (listed.setIfInBounds i true)
 | (i,false)::s,listed=>(Region.ready md ops listed == [i])&&w8 md ops s (listed.setIfInBounds i true)
def wpS (P:Program) (ops:Array Oper) (Q:Exit→Act→World→Prop) (L:World→World→Prop) : List (Nat×Bool)→Act→World→Prop
 | [],a,W=>∀ w1,Ext W w1→Q .normal a w1
 | (i,true)::s,a,W=>∃ o v,ops[i]? = some o∧fK P ops L W o v a∧wpS P ops Q L s (a.put o.dst v) W
 | (i,false)::s,a,W=>∀ w1,Ext W w1→wpOp P ops Q i (fun a' w'=>L w1 w'∧wpS P ops Q L s a' w') a w1
def RB (ops:Array Oper) (ds:Tmp→Bool) (s:List (Nat×Bool)) : Bool:=s.all fun p=>!p.2||((ops[p.1]?).all fun o=>o.dst.all ds)
theorem wT (hL:Way L) (hsel:Region.noSelect ops=true) (ds:Tmp→Bool) (hQ:∀ c (a:Act) (d:Tmp) v w,ds d=true→Q (.panic c) (a.put (some d) v) w→Q (.panic c) a w) :
  ∀ (s:List (Nat×Bool)) (listed:Array Bool) (a:Act) (W:World),RB ops ds s=true→w8 md ops s listed=true→wpS P ops Q L s a W→wpW P md ops Q L s.length listed a W
 | [],listed,a,W,_,hB,h=>⟨by simpa [w8] using hB,h⟩
 | (i,true)::s,listed,a,W,hI,hB,h=>by
  simp only [RB,List.all_cons,Bool.and_eq_true,Bool.not_true,Bool.false_or] at hI
  obtain ⟨hI1,hI2⟩:=hI
  simp only [w8,Bool.and_eq_true] at hB
  obtain ⟨⟨hr,hf⟩,hB'⟩:=hB
  obtain ⟨o,v,h0,hy,hK⟩:=h
  exact Sd hL h0 (Region.noSelect_spec hsel) (fun c a w=>by cases hd:o.dst with | none=>exact fun h=>h | some d=>exact hQ c a d v w (by simpa [h0,hd] using hI1)) s.length listed a W
   (Region.free_spec h0 hf) (by simpa using hr) hy (wT hL hsel ds hQ s _ _ _ hI2 hB' hK)
 | (i,false)::s,listed,a,W,hI,hB,h=>by
  simp only [RB,List.all_cons,Bool.and_eq_true] at hI
  simp only [w8,Bool.and_eq_true,beq_iff_eq] at hB
  obtain ⟨hr,hB'⟩:=hB
  refine ⟨fun h0=>(by rw [hr] at h0; cases h0),fun w1 k1 j hj=>?_⟩
  rw [hr,List.mem_singleton] at hj
  subst hj
  exact wpOp_mono (fun a' w' h'=>⟨h'.1,wT hL hsel ds hQ s _ _ _ hI.2 hB' h'.2⟩) (h w1 k1)
theorem K1:∀ (f:Nat) {g:Nat} {listed:Array Bool} {a:Act} {w:World},f≤g→wpAny P md ops Q f listed a w→wpAny P md ops Q g listed a w
 | 0,0,_,_,_,_,h=>h
 | 0,g + 1,_,_,_,_,h=>⟨fun _=>h.2,by rw [h.1]; simp⟩
 | f + 1,g + 1,_,_,_,hle,h=>⟨h.1,fun i hi=>wpOp_mono (fun a' w' h'=>K1 f (by omega) h') (h.2 i hi)⟩
 | f + 1,0,_,_,_,hle,_=>absurd hle (by omega)
theorem nT (L:World→World→Prop) (hL:Way L) {id:Nat} {a:Act} {w:World} {l:List Oper} (s:List (Nat×Bool)) (hm:P.follows .mixedOrders=true)
  (hB:(Region.noSelect l.toArray&&decide (s.length≤l.toArray.size)&&w8 .any l.toArray s (Array.replicate l.toArray.size false))=true)
  (hQ:∀ c (a:Act) (d:Tmp) v w,Q (.panic c) (a.put (some d) v) w→Q (.panic c) a w)
  (h:wpS P l.toArray Q L s a w.drew) : (Code.region id l.toArray true).wp P Q a w:=by
 simp only [Bool.and_eq_true,decide_eq_true_eq] at hB
 obtain ⟨⟨hsel,hle⟩,hB⟩:=hB
 exact wp_region_any hm (K1 _ hle (xZ _ _ _ _ (wT (md:=.any) hL hsel (fun _=>true) (fun c a d v w _=>hQ c a d v w) s _ a w.drew (by simp [RB]) hB h)))
variable {l:List Oper}
theorem rm {o:Oper} {a:Act} (h:o.guard=none) : Region.wanted o (yielded l.toArray a.tmps)=true:=by simp [Region.wanted,h]
theorem sB {W:World} {i:Nat} {s:List (Nat×Bool)} {a:Act} (o:Oper) (v:Value) (hi:l[i]? = some o) (hw:Region.wanted o (yielded l.toArray a.tmps)=true)
  (h:∀ w1,L W w1→OkX P v w1 ((execOp a.eval o).run P w1)) (hr:wpS P l.toArray Q L s (a.put o.dst v) W) : wpS P l.toArray Q L ((i,true)::s) a W:=⟨o,v,by simpa using hi,.inl ⟨hw,h⟩,hr⟩
theorem Oa {W:World} {i:Nat} {s:List (Nat×Bool)} {a:Act} (o:Oper) (hi:l[i]? = some o) (hw:Region.wanted o (yielded l.toArray a.tmps)=true)
  (h:∀ w1,Ext W w1→o.wp P a w1 (fun a' w'=>L w1 w'∧wpS P l.toArray Q L s a' w') Q) : wpS P l.toArray Q L ((i,false)::s) a W:=by
 intro w1 k1
 have hi':l.toArray[i]? = some o:=by simpa using hi
 unfold Go.wpOp
 simp only [hi',hw,if_true]
 exact .inl (h w1 k1)
theorem w7 {W:World} {a:Act} (h:∀ w1,Ext W w1→Q .normal a w1) : wpS P ops Q L [] a W:=h
end
theorem JL:Way Ext:=⟨fun h=>h,Ext.trans⟩
end
theorem Tryz.infoCap:(prog.info? 98).map (fun i=>(i.zero,i.size,i.bytes))=some (some (.agg #[.int .i64 0,.int .i64 0]),2,16):=by kernel_rfl
theorem J9 (w:World) (x y:Value) (t:TypeId) : ∀ j u,[x,y][j]? = some u→(w.alloc (.cells #[x,y] t)).cell? ((⟨w.heap.size,0,none⟩ : Addr).add j)=some u:=by
 intro j u hu
 have hadd:(⟨w.heap.size,0,none⟩ : Addr).add j=⟨w.heap.size,j,none⟩:=by unfold Addr.add; split <;> simp_all
 rw [hadd,cell_of_row _ w.heap.size j _ t (0,0) (heap_alloc_new w _),← Array.getElem?_toList]
 exact hu
theorem aav {a b:Int} : ∀ u∈[Value.int .i64 a,Value.int .i64 b],u.oneCell' = true:=by
 intro u hu
 simp only [List.mem_cons,List.mem_nil_iff,or_false] at hu
 rcases hu with rfl | rfl <;> rfl
theorem Ke {w:World} {b:Nat} {cs:Array Value} {t:TypeId} (h:w.heap[b]? = some (.cells cs t (0,0))) (j:Nat) (v:Value) : (w.setCell ⟨b,j,none⟩ v).heap[b]? = some (.cells (cs.setIfInBounds j v) t (0,0)):=by
 rw [heap_setCell_same w b j _ _ _ h]
theorem Fy (cs:List (Int×Int)) : cf (cs ++ [rl])=cf cs ++ [.int .i64 10000,.int .i64 10000]:=GZ cs 10000 10000
theorem wC (w:World) (R i:Nat) (u:Value) : w.grownBy (w.setCell ⟨R,i,none⟩ u) (some R) :=
 ⟨rfl,rfl,rfl,by simp [World.setCell],fun k _ hk=>Below.heap_setCell _ _ _ _ (fun e=>hk (by rw [e]))⟩
theorem Ry {w:World} (B gl nl:Nat) (h:w.heap[gl]? = some (.cells #[.string ⟨#[]⟩,.string ⟨#[103,112,117]⟩] 9 (0,0))) (hB:B≤gl) (h2:nl≤2) : w.ownsRow B 9 1 (.slice (some ⟨gl,0,none⟩) nl 2) nl ((CE nl).map sv):=by
 refine ⟨by simp [CE]; omega,.inr ⟨gl,2,_,rfl,hB,h,h2,by simp [maxLen],rfl,?_⟩⟩
 rcases nl with _ | _ | _ | nl
 ·rfl
 ·rfl
 ·rfl
 ·omega
theorem R8 {w V w5:World} {row:Option Nat} {Q:Nat} {o:Obj} (hV:Ext w V) (hg:V.grownBy w5 row) (hb:w.heap[Q]? = some o) (hne:row≠some Q) : w5.heap[Q]? = some o:=by
 have hlt:=(Array.getElem?_eq_some_iff.1 hb).1
 rw [hg.block Q (Nat.lt_of_lt_of_le hlt hV.size) (fun e=>hne e.symm),hV.block Q hlt]
 exact hb
theorem SR (i j k:Nat) (hi:i≤7) (hj:j≤7) (hk:k≤2) : ∃ p:Nat,p≤51∧(p:Int)=(i:Int) * (j:Int) + (k:Int)∧wrap64 (wrap64 ((i:Int) * (j:Int)) + (k:Int))=(p:Int):=by
 have h:i * j≤7 * 7:=Nat.mul_le_mul hi hj
 obtain ⟨p,hp⟩ : ∃ p:Nat,p=i * j:=⟨_,rfl⟩
 rw [← hp] at h
 refine ⟨p + k,by omega,by rw [hp]; simp [Int.natCast_add,Int.natCast_mul],?_⟩
 rw [show (i:Int) * (j:Int)=(p:Int) by rw [hp]; exact (Int.natCast_mul i j).symm]
 rw [show wrap64 (p:Int)=(p:Int) from IntWalk.wrap64_in _ ⟨by omega,by omega⟩]
 rw [show wrap64 ((p:Int) + (k:Int))=(p:Int) + (k:Int) from IntWalk.wrap64_in _ ⟨by omega,by omega⟩]
 omega
def UG (sh:Int) (xs:List Int) (y nl:Nat) (w:World) (e:Ending) (w':World) : Prop:=∃ vl vq ds qs B,e = .returned (.agg #[vl,vq])∧w.heap.size≤B∧w'.ownsRow w.heap.size 9 1 vl nl ((CE nl).map sv)∧iM w' B vq ds qs∧GI nl (mn y) (mn y).length ds∧Ext w w'∧fO sh xs=some (gC nl ds)
theorem Sc (a:Int) : wrap64 a=i64.wrap a:=by rw [IntKind.wrap_i64]; unfold wrap64; rfl
theorem ZQ {xs:List Int} {i jj kk nk L:Nat} {z1 z2 a b:Int} {z y:Nat} (hl:jj + 1 < nk) (e3:z1=gY xs a) (ha:a=(i:Int) + jj + kk) (e4:z2=gY xs b) (hb:b=(i:Int) * jj + kk) (e1:(z:Int)=z1 % ((L + 1:Nat) : Int)) (e2:(y:Int)=z2 % ((4:Nat) : Int)) : [0,(L:Int) / 2,(L:Int),(z:Int)].getD y 0=nV xs i jj kk nk (L:Int):=by
 unfold nV
 rw [if_pos hl,← ha,← hb,← e3,← e4]
 have e5:z1 % ((L:Int) + 1)=(z:Int):=by rw [e1]; rfl
 have e6:z2 % 4=(y:Int):=by rw [e2]; rfl
 rw [e5,e6]
 rfl
theorem ZT {xs:List Int} {i jj kk n:Nat} {z1 z2 a b:Int} {z y:Nat} (hn:n≤10000) (e3:z1=gY xs a) (ha:a=(jj:Int) + kk) (e4:z2=gY xs b) (hb:b=(i:Int) + 2 * jj) (e1:(z:Int)=z1 % ((10000 - n + 1:Nat) : Int)) (e2:(y:Int)=z2 % ((3:Nat) : Int)) : [10000,(n:Int),(n:Int) + (z:Int)].getD y 0=mV xs i jj kk (n:Int):=by
 unfold mV
 rw [← ha,← hb,← e3,← e4]
 have e5:z1 % (10000 - (n:Int) + 1)=(z:Int):=by rw [e1]; congr 1; omega
 have e6:z2 % 3=(y:Int):=by rw [e2]; rfl
 rw [e5,e6]
 rfl
set_option maxHeartbeats 12800000 in
theorem UF (sh:Int) (v:Value) (xs:List Int) (w:World) (r0:Rd w v (xs.map (Value.int .i64))) (hx30:xs.length≤9223372036854775807) :
  Calls prog 28 #[.int .i64 sh,v] w fun e w'=>∃ nl,1≤nl∧nl≤2∧UG sh xs (sh % 5).toNat nl w e w':=by
 obtain ⟨c0,hc,hcz0,hcz1,hcz2⟩:=info_parts Tryz.infoCap
 obtain ⟨q0,hq,hqz0,hqz1,hqz2⟩:=info_parts Tryz.infoQ
 obtain ⟨i0,hi,hz0,hz1,hz2⟩:=info_parts Tryz.infoStr
 obtain ⟨W2,hW2⟩ : ∃ W2,W2=rF w:=⟨_,rfl⟩
 have X2:=Lib.hid (show Ext w W2 by rw [hW2]; exact S4 w)
 have HS2:=Lib.hid (show W2.heap.size=w.heap.size + 8 by rw [hW2]; exact ON w)
 have HR0:=Lib.hid (show W2.heap[w.heap.size]? = some (.cells #[.slice none 0 0,.slice none 0 0] 36 (0,0)) by rw [hW2]; exact S3 w)
 have HLB:=Lib.hid (show W2.heap[w.heap.size + 1 + 1 + 1 + 1 + 1 + 1 + 1]? = some (.cells #[.string ⟨#[]⟩,.string ⟨#[103,112,117]⟩] 9 (0,0)) by rw [hW2]; exact OP w)
 have HTR:=Lib.hid (show ∀ y,y < 5→W2.cell? ⟨w.heap.size + 1 + 1 + 1 + 1 + 1 + 1,y,none⟩=some (.slice (some ⟨w.heap.size + 1 + y,0,none⟩) (mn y).length (mn y).length) by rw [hW2]; exact OM w)
 have HPA:=Lib.hid (show ∀ y,y < 5→∀ i (hi:i < (mn y).length),W2.cell? ⟨w.heap.size + 1 + y,i,none⟩=some (.string ⟨((mn y)[i]).toArray⟩) by rw [hW2]; exact OO w)
 obtain ⟨A,N,c,rfl,hN,hc1,hc2,hcell⟩:=HR r0
 have HC:=Lib.hid hcell
 have HN:=Lib.hid hN
 have HRD:=Lib.hid r0
 have hN30:N≤9223372036854775807:=by omega
 clear hcell hN r0
 have hW2':W2 = _:=hW2
 unfold rF at hW2'
 go_enter Tryz.func28,Tryz.ntmps28
 go_wp2_with fail
 rw [← hW2']
 clear hW2 hW2'
 (with_reducible refine (gI _ 2 2 _ rfl (by omega)).mono ?_)
 rintro e w2 ⟨nl',rfl,hny,hnl,rfl⟩
 have HNY:=Lib.hid hny
 clear hny
 have hnl1:(1 + (nl':Int)).toNat=nl' + 1:=by omega
 have hnl2:(0:Int)≤1 + (nl':Int):=by omega
 have hnl3 : 1 + (nl':Int)≤2:=by omega
 go_wp2_with fail
 (with_reducible refine (gI _ 5 5 _ rfl (by omega)).mono ?_)
 rintro e w3 ⟨y,rfl,hny,hy5,rfl⟩
 have HY:=Lib.hid hny
 clear hny hnl1
 obtain ⟨nl,hnl'⟩ : ∃ nl,nl=nl' + 1:=⟨_,rfl⟩
 rw [← hnl']
 have HNL:=Lib.hid hnl'
 have hnl4:nl≤2:=by omega
 have hnl5 : 1≤nl:=by omega
 clear hnl' hnl2 hnl3 hnl
 obtain ⟨gt,hgt⟩ : ∃ gt,gt=w.heap.size + 1 + y:=⟨_,rfl⟩
 obtain ⟨ps,hps⟩ : ∃ ps,ps=mn y:=⟨_,rfl⟩
 obtain ⟨NP,hNP⟩ : ∃ NP,NP=ps.length:=⟨_,rfl⟩
 have hNP7:NP≤7:=by rw [hNP,hps]; exact K6 y
 have HPX:=Lib.hid (show ∀ i (hi:i < ps.length),W2.cell? ⟨gt,i,none⟩=some (.string ⟨(ps[i]).toArray⟩) by rw [hgt]; subst hps; exact HPA.out y hy5)
 have HTX:=HTR.out y hy5
 rw [← hgt,← hps,← hNP] at HTX
 have HTX':∀ o,(W2.alloc o).cell? ⟨w.heap.size + 1 + 1 + 1 + 1 + 1 + 1,y,none⟩=some (.slice (some ⟨gt,0,none⟩) NP NP):=fun o=>(aO W2 o).cell HTX
 have HPS:=Lib.hid hps
 have HNP:=Lib.hid hNP
 have HNO:=Lib.hid (show ps.Nodup by rw [hps]; exact N0 y)
 have HE0:=Lib.hid (show E1 sh xs nl ps 0 [] by rw [hps]; exact E1.start sh xs (by have h1:=HNY.out; have h2:=HNL.out; rw [h2]; first | omega | (rw [show (((nl' + 1:Nat)) : Int)=1 + (nl':Int) by omega,h1,Sc]; rfl)) (by have:=HY.out; omega))
 have hy0:(0:Int)≤(y:Int):=by omega
 have hy5':(y:Int) < 5:=by omega
 clear hgt hps hNP HTX
 go_wp2
 obtain ⟨gl,hgl⟩ : ∃ gl,gl=w.heap.size + 1 + 1 + 1 + 1 + 1 + 1 + 1:=⟨_,rfl⟩
 rw [← hgl]
 have HGL:=Lib.hid (show w.heap.size≤gl by omega)
 have HL2:=Lib.hid (show W2.heap[gl]? = some (.cells #[.string ⟨#[]⟩,.string ⟨#[103,112,117]⟩] 9 (0,0)) by rw [hgl]; exact HLB.out)
 clear hgl HLB HTX' HTR HPA
 obtain ⟨R,hR⟩ : ∃ R,R=W2.heap.size:=⟨_,rfl⟩
 have HR3:=Lib.hid (show (W2.alloc (.cells #[.slice (some ⟨gl,0,none⟩) nl 2,.slice none 0 0] 36)).heap[R]? = some (.cells #[.slice (some ⟨gl,0,none⟩) nl 2,.slice none 0 0] 36 (0,0)) by rw [hR]; exact heap_alloc_new W2 _)
 rw [← hR]
 have HRR:=Lib.hid hR
 clear hR
 go_loopw [8] (fun i wr=>∃ (k:Nat) (vq:Value) (ds:List QD) (qs:List QC),i = .int .i64 k∧k≤NP∧wr.heap[R]? = some (.cells #[.slice (some ⟨gl,0,none⟩) nl 2,vq] 36 (0,0))∧iM wr R vq ds qs∧G1 nl ps k ds∧E1 sh xs nl ps k ds∧Ext W2 wr) (fun i _=>NP - (intOf i).toNat)
 case atStart=>exact ⟨0,_,[],[],rfl,by omega,HR3.out,iM.nil _ _,G1.nil nl ps,HE0.out,aO _ _⟩
 case round =>
  obtain ⟨k,vq,ds,qs,rfl,hk,hRb,hOQ,hG,hE,hx⟩:=hrel
  have HE:=Lib.hid hE
  clear hE HE0
  have HRB:=Lib.hid hRb
  have HOQ:=Lib.hid hOQ
  have HG:=Lib.hid hG
  have HX:=Lib.hid hx
  clear hRb hOQ hG hx
  have k0:(0:Int)≤(k:Int):=by omega
  by_cases hlt:k < NP
  ·have k1:(k:Int) < (NP:Int):=by omega
   have hkp:k < ps.length:=by have:=HNP.out; omega
   have p0:=HX.out.cell (HPX.out k hkp)
   obtain ⟨P,hP⟩ : ∃ P:ByteArray,P=⟨(ps[k]).toArray⟩:=⟨_,rfl⟩
   rw [← hP] at p0
   have HP:=Lib.hid (show P.data.toList=ps[k] by rw [hP])
   clear hP
   obtain ⟨WQ,hWQ⟩ : ∃ WQ,WQ=wr.alloc (.cells #[.string P,.slice none 0 0,.int .i64 1000000] 63):=⟨_,rfl⟩
   obtain ⟨Q,hQ⟩ : ∃ Q,Q=wr.heap.size:=⟨_,rfl⟩
   have HQR:=Lib.hid (show R≤Q by rw [hQ,HRR.out]; exact HX.out.size)
   have HQB:=Lib.hid (show WQ.heap[Q]? = some (.cells #[.string P,.slice none 0 0,.int .i64 1000000] 63 (0,0)) by rw [hWQ,hQ]; exact heap_alloc_new wr _)
   have HXQ:=Lib.hid (show Ext wr WQ by rw [hWQ]; exact aO _ _)
   go_upto_region 8 with fail
   rw [← hWQ,← hQ]
   have HQQ:=Lib.hid hQ
   clear hWQ hQ p0
   go_cut [59] from 48 to 59 (fun s59 wx=>(∃ b:Bool,s59 = .bool b∧b=ED xs k)∧wx=WQ)
   case first =>
    by_cases hkN:k < N
    ·have n1:(k:Int) < (N:Int):=by omega
     obtain ⟨a,rfl,hb,hcs⟩:=HC.out (by omega)
     have h3:=(X2.out.trans (HX.out.trans HXQ.out)).cell' (hcs k (by have:=HN.out; omega))
     have hxg:xs.getD k 0=xs[k]'(by have:=HN.out; omega):=by simp [List.getD,zq (show k < xs.length by have:=HN.out; omega)]
     generalize xs[k]'(by have:=HN.out; omega)=x at h3 hxg
     have HGT:=Lib.hid (show (x.tmod 3==0)=ED xs k by unfold ED; rw [decide_eq_true (show k < xs.length by have:=HN.out; omega),hxg]; rfl)
     clear hcs hb hxg
     go_wp2
     go_meet
     case rel=>exact ⟨⟨_,rfl,by first | exact HGT.out | (rw [← HGT.out]; simp)⟩,rfl⟩
    ·have n1 : ¬ (k:Int) < (N:Int):=by omega
     go_wp2
     go_meet
     case rel=>exact ⟨⟨_,rfl,by unfold ED; rw [decide_eq_false (show ¬ k < xs.length by have:=HN.out; omega)]; rfl⟩,rfl⟩
   case rest =>
    obtain ⟨⟨b,rfl,hbN⟩,rfl⟩:=hcut
    have HBN:=Lib.hid hbN
    clear hbN
    go_upto_if 59 with fail
    go_cut [] from 60 to 66 (fun wx=>∃ u:Int,1≤u∧u≤1000000∧u=H0 xs k∧wx.heap[Q]? = some (.cells #[.string P,.slice none 0 0,.int .i64 u] 63 (0,0))∧Ext wr wx)
    case first =>
     cases b with
     | true =>
      have hkN:k < N:=by
       have h:=HBN.out
       unfold ED at h
       have h2:=(Bool.and_eq_true_iff.1 h.symm).1
       have h3:=zd h2
       have:=HN.out
       omega
      have n1:(k:Int) < (N:Int):=by omega
      obtain ⟨a,rfl,hb,hcs⟩:=HC.out (by omega)
      have h3:=(X2.out.trans (HX.out.trans HXQ.out)).cell' (hcs k (by have:=HN.out; omega))
      have hxg:xs.getD k 0=xs[k]'(by have:=HN.out; omega):=by simp [List.getD,zq (show k < xs.length by have:=HN.out; omega)]
      generalize xs[k]'(by have:=HN.out; omega)=x at h3 hxg
      have HXG:=Lib.hid hxg
      clear hxg
      have u2:=df HQB.out 2 _ rfl
      have f2:=rS HQB.out 2
      clear hcs hb
      go_wp2_with fail
      (with_reducible refine (gI _ 20000 20000 _ rfl (by omega)).mono ?_)
      rintro e w4 ⟨z,rfl,hz,hz2,rfl⟩
      have HZ:=Lib.hid hz
      clear hz
      go_wp2
      go_meet
      case rel =>
       refine ⟨1 + (z:Int),by omega,by omega,by rw [H0,if_pos HBN.out.symm,HXG.out,HZ.out]; rfl,?_,?_⟩
       ·rw [Ke HQB.out]; rfl
       ·exact yL HXQ.out (by rw [HQQ.out]; exact Nat.le_refl _) _
     | false =>
      go_wp2
      go_meet
      case rel=>exact ⟨1000000,by omega,by omega,by rw [H0,if_neg (by rw [← HBN.out]; decide)],HQB.out,HXQ.out⟩
    case rest =>
     obtain ⟨u,hu1,hu2,hu3,hqb,hxq⟩:=hcut
     have HU3:=Lib.hid hu3
     clear hu3
     have HQC:=Lib.hid hqb
     have HXC:=Lib.hid hxq
     clear hqb hxq HBN HQB
     go_wp2
     go_loopw [10] (fun i2 wx=>∃ (kk:Nat) (vc:Value),i2 = .int .i64 kk∧kk≤nl∧wx.heap[Q]? = some (.cells #[.string P,vc,.int .i64 u] 63 (0,0))∧wx.ownsRow (Q + 1) 98 2 vc kk (cf (List.replicate kk rl))∧Ext wr wx) (fun i2 _=>nl - (intOf i2).toNat)
     case atStart=>exact ⟨0,_,rfl,by omega,HQC.out,World.ownsRow_nil _ _ _ 2,HXC.out⟩
     case round =>
      obtain ⟨kk,vc,rfl,hkk,hqb,ho,hxx⟩:=hrel
      obtain ⟨Av,cv,rfl,hv1,hv2⟩:=cD ho
      have HQX:=Lib.hid hqb
      have HO:=Lib.hid ho
      have HXX:=Lib.hid hxx
      clear hqb ho hxx
      have r0:=HXX.out.cell (df HRB.out 0 _ rfl)
      have kk0:(0:Int)≤(kk:Int):=by omega
      by_cases hlk:kk < nl
      ·have kk1:(kk:Int) < (nl:Int):=by omega
       have q1:=df HQX.out 1 _ rfl
       have f1:=rS HQX.out 1
       go_wp2_with (at_builtin; go_loud (refine wpList_append_own_at _ rfl (.tmp 75) (.tmp 77) 61 rfl (Q + 1) 98 c0 _ 2 16 Tryz.underlying61 hc hcz0 hcz1 hcz2 rfl (by decide) _ kk (cf (List.replicate kk rl)) rfl (HO.out.alloc _) ⟨_,0,none⟩ 1 1 [.int .i64 10000,.int .i64 10000] rfl rfl (J9 _ _ _ _) aav ?c3 ?c4 ?c5 ?_))
       case c3=>simp [maxLen]; omega
       case c4=>omega
       case c5 =>
        have:=(Array.getElem?_eq_some_iff.1 HQX.out).1
        simp; omega
       intro v' w5 ho5 hg5 _ hat5
       have HQ5:=Lib.hid (R8 (aO _ _) hg5 HQX.out (fun e=>by have:=(HO.out.lt Q e).1; omega))
       have HO5:=Lib.hid (show w5.ownsRow (Q + 1) 98 2 v' (kk + 1) (cf (List.replicate (kk + 1) rl)) by
        rw [List.replicate_succ',Fy ]; exact ho5)
       have HX5:=Lib.hid ((HXX.out.trans (aO _ _)).trans' (cJ hg5 (by have:=HXX.out.size; simp; omega) (Ou HO.out (by have:=HQQ.out; omega))))
       have q5:=df HQ5.out 1 _ rfl
       have f5:=rS HQ5.out 1
       obtain ⟨A5,c5,rfl,_,_⟩:=cD ho5
       clear ho5 hg5 hat5 q1 f1 r0
       go_wp2
       go_roundw
       case rel =>
        refine ⟨kk + 1,_,by simp,by omega,by rw [Ke HQ5.out]; rfl,?_,?_⟩
        ·exact HO5.out.kept (wC _ Q 1 _) (.inr fun e=>by have:=(HO5.out.lt Q e).1; omega)
        ·exact yL HX5.out (by rw [HQQ.out]; exact Nat.le_refl _) _
       case measure=>simp [intOf]; omega
      ·obtain rfl:kk=nl:=by omega
       have kk1 : ¬ (kk:Int) < (kk:Int):=by omega
       have HROW:=Lib.hid (kZ HOQ.out.row HXX.out)
       obtain ⟨Aq,cq,rfl,hcq1,hcq2⟩:=cD HROW.out
       obtain ⟨DL,hDL⟩ : ∃ DL,DL=ds.length:=⟨_,rfl⟩
       have hDL7:DL≤7:=by
        have h1:=congrArg List.length HG.out.paths
        rw [List.length_map,List.length_take] at h1
        omega
       have HROW2:=Lib.hid (show (_:World).ownsRow R 63 3 (.slice Aq DL cq) DL (fT qs) by have h:=HROW.out; rw [← hDL] at h; exact h)
       have r1:=HXX.out.cell (df HRB.out 1 _ rfl)
       rw [← hDL] at r1
       have q2:=df HQX.out 0 _ rfl
       have q3:=df HQX.out 1 _ rfl
       have q4:=df HQX.out 2 _ rfl
       have HDL:=Lib.hid hDL
       clear hDL HROW
       go_wp2_with (at_builtin; go_loud (refine wpList_append_own_at _ rfl (.tmp 81) (.tmp 83) 34 rfl R 63 q0 _ 3 48 Tryz.underlying34 hq hqz0 hqz1 hqz2 rfl (by decide) _ DL (fT qs) rfl (HROW2.out.alloc _) ⟨_,0,none⟩ 1 1 [.string P,.slice Av kk cv,.int .i64 u] rfl rfl (Fx _ _ _ _ _) aau ?e3 ?e4 ?e5 ?_))
       case e3=>simp [maxLen]; omega
       case e4=>omega
       case e5 =>
        have:=(Array.getElem?_eq_some_iff.1 HQX.out).1
        have:=HQR.out
        simp; omega
       intro v' w5 ho5 hg5 _ hat5
       have HRX:=Lib.hid ((HXX.out.block R (Array.getElem?_eq_some_iff.1 HRB.out).1).trans HRB.out)
       have hneR:(Value.slice Aq DL cq).ownBlock≠some R:=o0 HROW2.out HRX.out (by decide)
       have HR5:=Lib.hid (R8 (aO _ _) hg5 HRX.out hneR)
       have HX5:=Lib.hid (((HX.out.trans HXX.out).trans (aO _ _)).trans' (cJ hg5 (by have:=(HX.out.trans HXX.out).size; simp; omega) (Ou HROW2.out (by rw [HRR.out]; exact Nat.le_refl _))))
       rw [HDL.out] at ho5 hg5
       have HOQ5:=Lib.hid (iM.snoc (q:=⟨P,Av,kk,cv,u⟩) (d:=⟨ps[k],List.replicate kk rl,u⟩) HOQ.out (HXX.out.trans (aO _ _)) ⟨HP.out,rfl,by simp,Ed (HO.out.alloc _) (by have:=HQR.out; omega)⟩
        (fun g hg i qi hqi e=>by
         have h1:=(HO.out.lt g hg).1
         have hil:i < ds.length:=by rw [← HOQ.out.len]; exact (zg.1 hqi).1
         have h2:=((HOQ.out.each i qi hil hqi).2.2.2.lt g e).2
         have:=HQQ.out
         omega) ho5 hg5)
       have q5:=df HR5.out 1 _ rfl
       have f5:=rS HR5.out 1
       obtain ⟨A5,c5,rfl,_,_⟩:=cD ho5
       have HG5:=Lib.hid (G1.snoc HG.out hkp hu1 hu2)
       have HE5:=Lib.hid (show E1 sh xs _ ps (k + 1) (ds ++ [⟨ps[k],List.replicate kk rl,u⟩]) by rw [HU3.out]; exact E1.step HE.out (by omega) hkp (by have:=HNP.out; omega) (by have:=HDL.out; omega))
       clear ho5 hg5 hat5 q2 q3 q4 r1 r0
       go_wp2
       go_roundw
       case rel =>
        refine ⟨k + 1,_,_,qs ++ [⟨P,Av,kk,cv,u⟩],by simp,by omega,by rw [Ke HR5.out]; rfl,?_,HG5.out,HE5.out,?_⟩
        ·exact HOQ5.out.kept (wC _ R 1 _) HR5.out (by decide) (by decide)
        ·exact yL HX5.out (by rw [HRR.out]; exact Nat.le_refl _) _
       case measure=>simp [intOf]; omega
  ·obtain rfl:k=NP:=by omega
   have k1 : ¬ (k:Int) < (k:Int):=by omega
   have HGI:=Lib.hid (G1.start (HNP.out ▸ HG.out))
   have HE3:=Lib.hid (show E3 sh xs nl ps 0 ds from E1.end (by have h:=HE.out; rw [HNP.out] at h; exact h) (by have:=HNP.out; omega))
   clear HG HE
   go_wp2
   go_loopw [11] (fun i wr=>∃ (k':Nat) (vq:Value) (ds:List QD) (qs:List QC),i = .int .i64 k'∧k'≤k∧wr.heap[R]? = some (.cells #[.slice (some ⟨gl,0,none⟩) nl 2,vq] 36 (0,0))∧iM wr R vq ds qs∧GI nl ps k' ds∧E3 sh xs nl ps k' ds∧Ext W2 wr) (fun i _=>k - (intOf i).toNat)
   case atStart=>exact ⟨0,_,_,_,rfl,by omega,HRB.out,HOQ.out,HGI.out,HE3.out,HX.out⟩
   case round =>
    obtain ⟨i,vq,ds,qs,rfl,hik,hRb,hOQ,hG,hE,hx⟩:=hrel
    clear HRB HOQ HGI HX HE3
    have HE:=Lib.hid hE
    clear hE
    obtain ⟨Aq,cq,rfl,hcq1,hcq2⟩:=cD hOQ.row
    have HRB:=Lib.hid hRb
    have HOQ:=Lib.hid hOQ
    have HG:=Lib.hid hG
    have HX:=Lib.hid hx
    have HDK:=Lib.hid (show ds.length=k by rw [hG.gd.len]; exact HNP.out.symm)
    have r0:=df HRB.out 0 _ rfl
    have r1:=df HRB.out 1 _ rfl
    rw [HDK.out] at r1
    clear hRb hOQ hG hx k1 hcq1
    have i0:(0:Int)≤(i:Int):=by omega
    by_cases hlt:i < k
    ·have i1:(i:Int) < (k:Int):=by omega
     have hip:i < ps.length:=by have:=HNP.out; omega
     have p0:=HX.out.cell (HPX.out i hip)
     obtain ⟨P,hP⟩ : ∃ P:ByteArray,P=⟨(ps[i]).toArray⟩:=⟨_,rfl⟩
     rw [← hP] at p0
     have HP:=Lib.hid (show P.data.toList=ps[i] by rw [hP])
     clear hP
     go_wp2
     refine nT Ext JL [(0,true),(1,true),(2,true),(3,true),(4,true),(5,false),(6,true)] (by kernel_rfl) (by kernel_rfl) (fun _ _ _ _ _ h=>h) ?_
     repeat first | ((with_reducible refine sB ?_ ?_ ?_ ?_ (fun wk k1=>?_) ?_); rotate_left 2; (rfl); (first | exact rm rfl | exact want_some rfl rfl rfl rfl); (go_simp; first | exact OkX.val | (have c0':=k1.cell r0; have c1':=k1.cell r1; have c2':=k1.cell p0; go_simp; exact OkX.val)); simp only [Act.put,List.setIfInBounds_toArray,List.set_cons_zero,List.set_cons_succ]) | ((with_reducible refine sched_skip ?_ ?_ ?_ ?_); rotate_left; (rfl); (exact want_not rfl rfl rfl rfl rfl); simp only [Act.put,List.setIfInBounds_toArray,List.set_cons_zero,List.set_cons_succ])
     ((with_reducible refine Oa ?_ ?_ ?_ (fun wk k1=>?_)); rotate_left; (rfl); (first | exact rm rfl | exact want_some rfl rfl rfl rfl))
     have F0:=Lib.hid ((Ext.drew _).trans k1)
     clear k1 r0 r1 p0
     go_simp
     have hq7:ds.length≤1000:=by have:=HDK.out; omega
     have hp7:∀ q∈ds,q.path.length≤1000000000:=fun q hq=>by
      have h1:q.path∈ps:=by rw [← HG.out.gd.paths]; exact List.mem_map_of_mem hq
      rw [HPS.out] at h1
      have:=K5 y _ h1
      omega
     have hqq:=(HOQ.out.ext F0.out).rd
     rw [HDK.out] at hqq
     (with_reducible refine (SB ds _ _ P _ hqq hq7 hp7).mono ?_)
     rintro e wk2 ⟨Ak,nk,ck,rfl,hnk,hok,hxk⟩
     refine ⟨hxk,?_⟩
     try simp only [Act.put,List.setIfInBounds_toArray,List.set_cons_zero,List.set_cons_succ]
     have F1:=Lib.hid (F0.out.trans hxk)
     obtain ⟨ks,hks⟩ : ∃ ks,ks=B4 ps[i] ps:=⟨_,rfl⟩
     have hkse:cz P.data.toList ds=ks:=by rw [Ex,HP.out,HG.out.gd.paths,hks]
     rw [hkse] at hok hnk
     have HOK:=Lib.hid (Ed hok (show R≤_ by have:=F0.out.size; have:=HX.out.size; have:=HRR.out; omega))
     have hnk7:nk≤7:=by
      rw [hnk,hks]
      unfold B4
      have:=List.length_filter_le (fun x=>decide (ps[i]≠[])&&decide (above x=ps[i])) ps
      have:=HNP.out
      omega
     have HNK:=Lib.hid hnk
     have HKS:=Lib.hid hks
     have HE4:=Lib.hid (show E4 sh xs nl ps i ks 0 ds by rw [hks]; exact E3.open HE.out hip (by have:=HNP.out; omega) HPS.out HG.out.gd.paths)
     clear hxk hok hnk hks hkse hqq hq7 hp7
     repeat first | ((with_reducible refine sB ?_ ?_ ?_ ?_ (fun wk k1=>?_) ?_); rotate_left 2; (rfl); (first | exact rm rfl | exact want_some rfl rfl rfl rfl); (go_simp; first | exact OkX.val); simp only [Act.put,List.setIfInBounds_toArray,List.set_cons_zero,List.set_cons_succ]) | ((with_reducible refine sched_skip ?_ ?_ ?_ ?_); rotate_left; (rfl); (exact want_not rfl rfl rfl rfl rfl); simp only [Act.put,List.setIfInBounds_toArray,List.set_cons_zero,List.set_cons_succ])
     refine w7 (fun wz k1=>?_)
     have HOKz:=Lib.hid (kZ HOK.out k1)
     have F2:=Lib.hid (F1.out.trans k1)
     obtain ⟨Ak',ck',eK,hck1,hck2⟩:=cD HOKz.out
     injection eK with eK1 eK2 eK3
     subst eK1 eK3
     clear k1 eK2
     go_wp2
     go_loopw [13] (fun l wr=>∃ (kk:Nat) (vq:Value) (ds:List QD) (qs:List QC),l = .int .i64 kk∧kk≤nl∧wr.heap[R]? = some (.cells #[.slice (some ⟨gl,0,none⟩) nl 2,vq] 36 (0,0))∧iM wr R vq ds qs∧GK nl ps i kk ds∧E4 sh xs nl ps i ks kk ds∧wr.ownsRow R 9 1 (.slice Ak nk ck) nk (ks.map sv)∧Ext W2 wr) (fun l _=>nl - (intOf l).toNat)
     case atStart=>exact ⟨0,_,_,_,rfl,by omega,(F2.out.block R (Array.getElem?_eq_some_iff.1 HRB.out).1).trans HRB.out,HOQ.out.ext F2.out,HG.out.toK,HE4.out,HOKz.out,HX.out.trans F2.out⟩
     case round =>
      obtain ⟨kk,vq,ds,qs,rfl,hkk,hRb,hOQ,hG,hE,hkr,hx⟩:=hrel
      clear HRB HOQ HG HX HDK HOKz HOK F0 F1 F2 HE HE4
      have HE:=Lib.hid hE
      clear hE
      have HRB:=Lib.hid hRb
      have HOQ:=Lib.hid hOQ
      have HG:=Lib.hid hG
      have HX:=Lib.hid hx
      have HKR:=Lib.hid hkr
      have r0:=df HRB.out 0 _ rfl
      clear hRb hOQ hG hx hkr
      have kk0:(0:Int)≤(kk:Int):=by omega
      by_cases hlk:kk < nl
      ·have kk1:(kk:Int) < (nl:Int):=by omega
       go_wp2
       go_loopw [14,15] (fun lf j wr=>∃ (jj:Nat) (left:Int) (vq:Value) (ds:List QD) (qs:List QC),lf = .int .i64 left∧j = .int .i64 jj∧jj≤nk∧wr.heap[R]? = some (.cells #[.slice (some ⟨gl,0,none⟩) nl 2,vq] 36 (0,0))∧iM wr R vq ds qs∧GJ nl ps i kk jj left ds∧E5 sh xs nl ps i ks kk jj left ds∧wr.ownsRow R 9 1 (.slice Ak nk ck) nk (ks.map sv)∧Ext W2 wr) (fun _ j _=>nk - (intOf j).toNat)
       case atStart=>exact ⟨0,10000,_,_,_,rfl,rfl,by omega,HRB.out,HOQ.out,HG.out.toJ,E4.open HE.out hlk hnl4,HKR.out,HX.out⟩
       case round =>
        obtain ⟨jj,left,vq,ds,qs,rfl,rfl,hjj,hRb,hOQ,hG,hE,hkr,hx⟩:=hrel
        clear HRB HOQ HG HX HKR r0 HE
        have HE:=Lib.hid hE
        clear hE
        obtain ⟨L,rfl⟩ : ∃ L:Nat,left=(L:Int):=⟨left.toNat,by have:=hG.lo; omega⟩
        have HRB:=Lib.hid hRb
        have HOQ:=Lib.hid hOQ
        have HG:=Lib.hid hG
        have HX:=Lib.hid hx
        have HKR:=Lib.hid hkr
        have l0:=hG.lo
        have l1:=hG.hi
        have j0:(0:Int)≤(jj:Int):=by omega
        clear hRb hOQ hG hx hkr
        by_cases hlj:jj < nk
        ·have j1:(jj:Int) < (nk:Int):=by omega
         go_upto_if 116 with fail
         go_cut [16] from 112 to 140 (fun s16 wx=>∃ n:Int,s16 = .int .i64 n∧0≤n∧n≤(L:Int)∧(jj + 1=nk→n=(L:Int))∧n=nV xs i jj kk ks.length (L:Int)∧Ext wr wx)
         case first =>
          by_cases hl2:jj + 1 < nk
          ·have n1:(jj:Int) < (nk:Int) - 1:=by omega
           have hrd:=HRD.out.ext (X2.out.trans HX.out)
           have HRX:=Lib.hid hrd
           clear hrd
           go_wp2_with fail
           (with_reducible refine (yq _ xs _ _ HRX.out (by omega) (by omega) (by omega)).mono ?_)
           rintro e w4 ⟨⟨z1,rfl,hz1⟩,rfl⟩
           have HZ1:=Lib.hid hz1
           clear hz1
           go_wp2_with fail
           (with_reducible refine (gI _ (L + 1) _ _ (by omega) (by omega)).mono ?_)
           rintro e w4 ⟨z,rfl,hz,hzl,rfl⟩
           have HZ:=Lib.hid hz
           clear hz
           have hz0:(0:Int)≤(z:Int):=by omega
           have hzl':(z:Int)≤(L:Int):=by omega
           go_wp2_with fail
           have HRX2:=Lib.hid (HRX.out.ext (aO _ (.cells #[.int .i64 0,.int .i64 ((L:Int) / 2),.int .i64 (L:Int),.int .i64 (z:Int)] 3)))
           obtain ⟨p,hp51,hpe,hw⟩:=SR i jj kk (by omega) (by omega) (by omega)
           rw [hw]
           have HPE:=Lib.hid hpe
           clear hw hpe
           (with_reducible refine (yq _ xs _ _ HRX2.out (by omega) (by omega) (by omega)).mono ?_)
           rintro e w4 ⟨⟨z2,rfl,hz2⟩,rfl⟩
           have HZ2:=Lib.hid hz2
           clear hz2
           go_wp2_with fail
           (with_reducible refine (gI _ 4 4 _ rfl (by omega)).mono ?_)
           rintro e w4 ⟨y4,rfl,hyy,hy4,rfl⟩
           have HYY:=Lib.hid hyy
           clear hyy
           have hnv:=ZQ (show jj + 1 < ks.length by have:=HNK.out; omega) HZ1.out (by first | rfl | omega) HZ2.out HPE.out HZ.out HYY.out
           obtain ⟨n,hn,hn0,hnl,hnn⟩ : ∃ n:Int,(#[Value.int .i64 0,.int .i64 ((L:Int) / 2),.int .i64 (L:Int),.int .i64 (z:Int)] : Array Value)[y4]? = some (.int .i64 n)∧0≤n∧n≤(L:Int)∧n=nV xs i jj kk ks.length (L:Int):=by
            clear HYY
            rcases y4 with _ | _ | _ | _ | y4
            ·exact ⟨0,rfl,by omega,by omega,hnv⟩
            ·exact ⟨(L:Int) / 2,rfl,by omega,by omega,hnv⟩
            ·exact ⟨(L:Int),rfl,by omega,by omega,hnv⟩
            ·exact ⟨(z:Int),rfl,by omega,by omega,hnv⟩
            ·omega
           have hcc:=fun (W:World)=>df (heap_alloc_new W (.cells #[.int .i64 0,.int .i64 ((L:Int) / 2),.int .i64 (L:Int),.int .i64 (z:Int)] 3 (0,0))) y4 _ hn
           have hy0':(0:Int)≤(y4:Int):=by omega
           have hy4':(y4:Int) < 4:=by omega
           have HN4:=Lib.hid hn
           have HNN:=Lib.hid hnn
           clear hn hnn hnv
           go_wp2
           go_meet
           case rel=>exact ⟨n,rfl,hn0,hnl,fun h=>by omega,HNN.out,aO _ _⟩
          ·have n1 : ¬ (jj:Int) < (nk:Int) - 1:=by omega
           go_wp2
           go_meet
           case rel=>exact ⟨(L:Int),rfl,l0,by omega,fun _=>rfl,by unfold nV; rw [if_neg (by have:=HNK.out; omega)],Ext.refl _⟩
         case rest =>
          obtain ⟨n,rfl,hn0,hnL,hlast,hnv,hxc⟩:=hcut
          obtain ⟨n,rfl⟩ : ∃ n':Nat,n=(n':Int):=⟨n.toNat,by omega⟩
          have HNV:=Lib.hid hnv
          clear hnv
          have HLAST:=Lib.hid hlast
          have HRBc:=Lib.hid ((hxc.block R (Array.getElem?_eq_some_iff.1 HRB.out).1).trans HRB.out)
          have HOQc:=Lib.hid (HOQ.out.ext hxc)
          have HKRc:=Lib.hid (kZ HKR.out hxc)
          have HXc:=Lib.hid (HX.out.trans hxc)
          have HRX:=Lib.hid (HRD.out.ext (X2.out.trans HXc.out))
          clear hlast hxc HRB HOQ HKR HX
          go_wp2_with fail
          (with_reducible refine (yq _ xs _ _ HRX.out (by omega) (by omega) (by omega)).mono ?_)
          rintro e w4 ⟨⟨z1,rfl,hz1⟩,rfl⟩
          have HZ1:=Lib.hid hz1
          clear hz1
          go_wp2_with fail
          (with_reducible refine (gI _ (10000 - n + 1) _ _ (by omega) (by omega)).mono ?_)
          rintro e w4 ⟨z,rfl,hz,hzl,rfl⟩
          have HZ:=Lib.hid hz
          clear hz
          have hz0:(0:Int)≤(z:Int):=by omega
          have hzl':(z:Int)≤10000 - (n:Int):=by omega
          go_wp2_with fail
          obtain ⟨WM,hWM⟩ : ∃ WM,WM=wc.alloc (.cells #[.int .i64 10000,.int .i64 (n:Int),.int .i64 ((n:Int) + (z:Int))] 3):=⟨_,rfl⟩
          rw [← hWM]
          have HXM:=Lib.hid (show Ext wc WM by rw [hWM]; exact aO _ _)
          have HHM:=Lib.hid (show WM.heap[wc.heap.size]? = some (.cells #[.int .i64 10000,.int .i64 (n:Int),.int .i64 ((n:Int) + (z:Int))] 3 (0,0)) by rw [hWM]; exact heap_alloc_new wc _)
          clear hWM
          (with_reducible refine (yq _ xs _ _ (HRX.out.ext HXM.out) (by omega) (by omega) (by omega)).mono ?_)
          rintro e w4 ⟨⟨z2,rfl,hz2⟩,rfl⟩
          have HZ2:=Lib.hid hz2
          clear hz2
          go_wp2_with fail
          (with_reducible refine (gI _ 3 3 _ rfl (by omega)).mono ?_)
          rintro e w4 ⟨y3,rfl,hyy,hy3,rfl⟩
          have HYY:=Lib.hid hyy
          clear hyy
          have hmv:=ZT (show n≤10000 by omega) HZ1.out (by first | rfl | omega) HZ2.out (by first | rfl | omega) HZ.out HYY.out
          obtain ⟨mo,hmo,hmo1,hmo2,hmm⟩ : ∃ mo:Int,(#[Value.int .i64 10000,.int .i64 (n:Int),.int .i64 ((n:Int) + (z:Int))] : Array Value)[y3]? = some (.int .i64 mo)∧(n:Int)≤mo∧mo≤10000∧mo=mV xs i jj kk (n:Int):=by
           clear HYY
           rcases y3 with _ | _ | _ | y3
           ·exact ⟨10000,rfl,by omega,by omega,hmv⟩
           ·exact ⟨(n:Int),rfl,by omega,by omega,hmv⟩
           ·exact ⟨(n:Int) + (z:Int),rfl,by omega,by omega,hmv⟩
           ·omega
          have hcc:=df HHM.out y3 _ hmo
          have hy0':(0:Int)≤(y3:Int):=by omega
          have hy3':(y3:Int) < 3:=by omega
          have HRBm:=Lib.hid ((HXM.out.block R (Array.getElem?_eq_some_iff.1 HRBc.out).1).trans HRBc.out)
          have HOQm:=Lib.hid (HOQc.out.ext HXM.out)
          have HKRm:=Lib.hid (kZ HKRc.out HXM.out)
          have HXm:=Lib.hid (HXc.out.trans HXM.out)
          have HMM:=Lib.hid hmm
          clear hmo hmm hmv HRBc HOQc HKRc HRX
          go_wp2
          clear hcc HHM
          have hjks:jj < ks.length:=by have:=HNK.out; omega
          go_loopw [18] (fun mi wr=>∃ (m:Nat) (vq:Value),mi = .int .i64 m∧m≤k∧wr.heap[R]? = some (.cells #[.slice (some ⟨gl,0,none⟩) nl 2,vq] 36 (0,0))∧iM wr R vq (eO ks[jj] kk n mo ds m) qs∧wr.ownsRow R 9 1 (.slice Ak nk ck) nk (ks.map sv)∧Ext W2 wr) (fun mi _=>k - (intOf mi).toNat)
          case atStart=>exact ⟨0,_,rfl,by omega,HRBm.out,by rw [DZ]; exact HOQm.out,HKRm.out,HXm.out⟩
          case round =>
           obtain ⟨m,vq,rfl,hmk,hRb,hOQ,hkr,hx⟩:=hrel
           clear HRBm HOQm HKRm HXm HXc
           have hdk:ds.length=k:=by rw [HG.out.gk.gi.gd.len]; exact HNP.out.symm
           have m0:(0:Int)≤(m:Int):=by omega
           by_cases hmlt:m < k
           ·have m1:(m:Int) < (k:Int):=by omega
            have hmd:m < ds.length:=by omega
            have hml:m < (eO ks[jj] kk n mo ds m).length:=by rw [gL]; exact hmd
            have hsg:=AC ks[jj] kk n mo ds m hmd hml
            have hcl:(eO ks[jj] kk n mo ds m)[m].caps.length=nl:=by rw [hsg]; exact (HG.out.gk.gi.gd.each _ (List.getElem_mem hmd)).1
            obtain ⟨gq,cq',g,cc,ev,h1,hBg,hglt,⟨cur,hcur⟩,hfz,e1,e2,hput⟩:=hOQ.put hml (k:=kk) (by rw [hcl]; exact hlk)
            obtain ⟨q,hqm⟩ : ∃ q,qs[m]? = some q:=⟨qs[m]'(by rw [hOQ.len]; exact hml),zq _⟩
            have hqp:=(hOQ.each m q hml hqm).1
            rw [hsg] at hqp
            have hrow:=hOQ.row
            rw [ev] at hrow hRb
            have pc:=hrow.cellAt (m * 3) (by omega)
            rw [(uf qs m q hqm).1] at pc
            rw [gL,hdk] at hRb
            rw [hcl] at h1
            obtain ⟨gk,rfl⟩ : ∃ gk,Ak=some ⟨gk,0,none⟩:=by
             rcases hkr.2 with ⟨_,h0⟩ | ⟨gk,_,_,e,_⟩
             ·omega
             ·injection e with e; exact ⟨gk,e⟩
            have kc:=hkr.cellAt jj (by omega)
            rw [List.getElem?_map,zq hjks] at kc
            obtain ⟨Kb,hKb⟩ : ∃ Kb:ByteArray,Kb=⟨(ks[jj]).toArray⟩:=⟨_,rfl⟩
            have kc:wr.cell? ⟨gk,jj,none⟩=some (.string Kb):=by rw [hKb]; exact kc
            have HKB:=Lib.hid (show Kb.data.toList=ks[jj] by rw [hKb])
            have r1:=df hRb 1 _ rfl
            have HQP:=Lib.hid hqp
            have HOQ:=Lib.hid hOQ
            have HRB:=Lib.hid hRb
            have HKR:=Lib.hid hkr
            have HX:=Lib.hid hx
            have HPUT:=Lib.hid (hput n mo)
            have HCUR:=Lib.hid hcur
            have HEV:=Lib.hid ev
            clear hKb hqp hrow hqm ev hOQ hRb hkr hx hput hcur hsg
            generalize ((eO ks[jj] kk n mo ds m)[m].caps[kk]'(by rw [hcl]; exact hlk)).1=o1 at e1
            generalize ((eO ks[jj] kk n mo ds m)[m].caps[kk]'(by rw [hcl]; exact hlk)).2=o2 at e2
            have HCL:=Lib.hid hcl
            clear hcl hdk
            have hkn0:(kk:Int) < (nl:Int):=by omega
            by_cases heq:q.p=Kb
            ·have q1:(q.p.toList==Kb.toList)=true:=by rw [heq]; simp
             have HEQ:=Lib.hid (show ds[m].path=ks[jj] by rw [← HQP.out,heq,HKB.out])
             clear heq
             go_wp2
             refine nT Ext JL [(0,true),(1,true),(2,true),(3,true),(4,true),(5,true),(6,true),(7,true),(8,true),(9,true),(10,true)] (by kernel_rfl) (by kernel_rfl) (fun _ _ _ _ _ h=>h) ?_
             repeat first | ((with_reducible refine sB ?_ ?_ ?_ ?_ (fun wk k1=>?_) ?_); rotate_left 2; (rfl); (first | exact rm rfl | exact want_some rfl rfl rfl rfl); (go_simp; first | exact OkX.val | (have c0':=k1.cell r1; have c1':=k1.cell pc; have c2':=k1.cell kc; go_simp; exact OkX.val)); simp only [Act.put,List.setIfInBounds_toArray,List.set_cons_zero,List.set_cons_succ]) | ((with_reducible refine sched_skip ?_ ?_ ?_ ?_); rotate_left; (rfl); (exact want_not rfl rfl rfl rfl rfl); simp only [Act.put,List.setIfInBounds_toArray,List.set_cons_zero,List.set_cons_succ])
             refine w7 (fun wz k1=>?_)
             have FZ:=Lib.hid ((Ext.drew _).trans k1)
             clear k1
             have z1:=FZ.out.cell r1
             obtain ⟨gq2,cq2,g',cc',ev2,z2,hBg',hglt',⟨cur',hcur'⟩,hfz',z3,z4,hput'⟩:=(HOQ.out.ext FZ.out).put hml (k:=kk) (by rw [HCL.out]; exact hlk)
             have ee:=HEV.out.symm.trans ev2
             injection ee with ee1 ee2 ee3
             injection ee1 with ee1
             injection ee1 with ee1
             subst ee1
             rw [HCL.out] at z2
             generalize ((eO ks[jj] kk n mo ds m)[m].caps[kk]'(by rw [HCL.out]; exact hlk)).1=o1' at z3
             generalize ((eO ks[jj] kk n mo ds m)[m].caps[kk]'(by rw [HCL.out]; exact hlk)).2=o2' at z4
             have HP2:=Lib.hid (hput' n mo)
             have HCUR2:=Lib.hid hcur'
             have f1:=hfz' (kk * 2)
             have f2:=hfz' (kk * 2 + 1)
             have hneR:R≠g':=fun e=>by
              have h9:=(FZ.out.block R (Array.getElem?_eq_some_iff.1 HRB.out).1).trans HRB.out
              rw [e,hcur'] at h9
              injection h9 with h9
              injection h9 with _ h9
              exact absurd h9 (by decide)
             clear ee2 ee3 ev2 hput' hcur' hfz' pc kc r1 h1 e1 e2 hfz
             go_wp2
             go_roundw
             case rel =>
              refine ⟨m + 1,vq,by simp,by omega,?_,?_,?_,?_⟩
              ·rw [HP2.out.2.block R (by have:=FZ.out.size; have:=(Array.getElem?_eq_some_iff.1 HRB.out).1; omega) (fun e=>by injection e with e; exact hneR e),FZ.out.block R (Array.getElem?_eq_some_iff.1 HRB.out).1,HEV.out,gL,HG.out.gk.gi.gd.len,← HNP.out]
               exact HRB.out
              ·rw [Hq hmd HEQ.out]; exact HP2.out.1
              ·exact (kZ HKR.out FZ.out).kept HP2.out.2 (.inr (o0 (kZ HKR.out FZ.out) HCUR2.out (by decide)))
              ·exact (HX.out.trans FZ.out).trans' (cJ HP2.out.2 (HX.out.trans FZ.out).size (fun k e=>by injection e with e; rw [← HRR.out,← e]; exact hBg'))
             case measure=>simp [intOf]; omega
            ·have q1:(q.p.toList==Kb.toList)=false:=YR heq
             have HNE:=Lib.hid (show ds[m].path≠ks[jj] from fun e=>heq (YS (by rw [HQP.out,e,HKB.out])))
             clear heq
             go_wp2
             refine nT Ext JL [(0,true),(1,true),(2,true),(3,true),(4,true),(5,true),(6,true),(7,true),(8,true),(9,true),(10,true)] (by kernel_rfl) (by kernel_rfl) (fun _ _ _ _ _ h=>h) ?_
             repeat first | ((with_reducible refine sB ?_ ?_ ?_ ?_ (fun wk k1=>?_) ?_); rotate_left 2; (rfl); (first | exact rm rfl | exact want_some rfl rfl rfl rfl); (go_simp; first | exact OkX.val | (have c0':=k1.cell r1; have c1':=k1.cell pc; have c2':=k1.cell kc; go_simp; exact OkX.val)); simp only [Act.put,List.setIfInBounds_toArray,List.set_cons_zero,List.set_cons_succ]) | ((with_reducible refine sched_skip ?_ ?_ ?_ ?_); rotate_left; (rfl); (exact want_not rfl rfl rfl rfl rfl); simp only [Act.put,List.setIfInBounds_toArray,List.set_cons_zero,List.set_cons_succ])
             refine w7 (fun wz k1=>?_)
             have FZ:=Lib.hid ((Ext.drew _).trans k1)
             clear k1
             go_wp2
             go_roundw
             case rel=>exact ⟨m + 1,vq,by simp,by omega,by rw [HEV.out,gL,HG.out.gk.gi.gd.len,← HNP.out]; exact (FZ.out.block R (Array.getElem?_eq_some_iff.1 HRB.out).1).trans HRB.out,by rw [Lh hmd HNE.out]; exact HOQ.out.ext FZ.out,kZ HKR.out FZ.out,HX.out.trans FZ.out⟩
             case measure=>simp [intOf]; omega
           ·obtain rfl:m=k:=by omega
            have m1 : ¬ (m:Int) < (m:Int):=by omega
            have hvl:∃ A' c',vq = .slice A' m c':=by
             obtain ⟨A',c',e,_,_⟩:=cD hOQ.row
             rw [gL,hdk] at e
             exact ⟨A',c',e⟩
            obtain ⟨A',c',rfl⟩:=hvl
            have hst:eO ks[jj] kk n mo ds m=iB ks[jj] kk n mo ds:=by
             rw [← Hr,hdk]
            rw [hst] at hOQ
            have hr1:=df hRb 1 _ rfl
            have HRB:=Lib.hid hRb
            have HOQ:=Lib.hid hOQ
            have HKR:=Lib.hid hkr
            have HX:=Lib.hid hx
            have HGS:=Lib.hid (show GJ nl ps i kk (jj + 1) ((L:Int) - (n:Int)) (iB ks[jj] kk n mo ds) by
             have hkd:cz ps[i] ds=ks:=by rw [Ex,HG.out.gk.gi.gd.paths,HKS.out]
             have h:=GJ.step (n:=(n:Int)) (mo:=mo) HG.out HNO.out hip (by rw [hkd]; exact hjks) hlk hn0 hnL (by rw [hkd,← HNK.out]; exact HLAST.out) hmo1 hmo2
             simp only [hkd] at h
             exact h)
            have HES:=Lib.hid (show E5 sh xs nl ps i ks kk (jj + 1) ((L:Int) - (n:Int)) (iB ks[jj] kk n mo ds) by
             have h:=E5.step HE.out hjks (by have:=HNK.out; omega) (by omega) hnl4 hlk l0 l1 (by omega) (fun q hq=>(HG.out.gk.gi.gd.each q hq).1)
             rw [← HNV.out,← HMM.out] at h
             exact h)
            clear hst hOQ hRb hkr hx hdk
            go_wp2
            go_roundw
            case rel=>exact ⟨jj + 1,(L:Int) - (n:Int),_,_,_,rfl,by simp,by omega,HRB.out,HOQ.out,HGS.out,HES.out,HKR.out,HX.out⟩
            case measure=>simp [intOf]; omega
        ·obtain rfl:jj=nk:=by omega
         have j1 : ¬ (jj:Int) < (jj:Int):=by omega
         have HGE:=Lib.hid (GJ.end HG.out (fun h=>by rw [Ex,HG.out.gk.gi.gd.paths,← HKS.out]; exact HNK.out))
         have HEE:=Lib.hid (show E4 sh xs nl ps i ks (kk + 1) ds from E5.end (by have h:=HE.out; rw [HNK.out] at h; exact h) (by have:=HNK.out; omega))
         go_wp2
         go_roundw
         case rel=>exact ⟨kk + 1,_,_,_,by simp,by omega,HRB.out,HOQ.out,HGE.out,HEE.out,HKR.out,HX.out⟩
         case measure=>simp [intOf]; omega
      ·obtain rfl:kk=nl:=by omega
       have kk1 : ¬ (kk:Int) < (kk:Int):=by omega
       have HGE:=Lib.hid (GK.end HG.out)
       have HEE:=Lib.hid (E4.end HE.out hnl4)
       go_wp2
       go_roundw
       case rel=>exact ⟨i + 1,_,_,_,by simp,by omega,HRB.out,HOQ.out,HGE.out,HEE.out,HX.out⟩
       case measure=>simp [intOf]; omega
    ·obtain rfl:i=k:=by omega
     have i1 : ¬ (i:Int) < (i:Int):=by omega
     have HRES:=Lib.hid ((HX.out.block w.heap.size (Array.getElem?_eq_some_iff.1 HR0.out).1).trans HR0.out)
     have HLBX:=Lib.hid ((HX.out.block gl (Array.getElem?_eq_some_iff.1 HL2.out).1).trans HL2.out)
     have y0:=df HRES.out 0 _ rfl
     have y1:=df HRES.out 1 _ rfl
     have g0:=rS HRES.out 0
     have g1:=rS HRES.out 1
     have hRw:R≠w.heap.size:=by have:=HRR.out; have:=HS2.out; omega
     go_wp2
     refine bodyPost_ret (by simp [results,Tryz.results28,go_sem,y0,y1]; try rfl) rfl ?_
     have hgr:wr.grownBy ((wr.setCell ⟨w.heap.size,0,none⟩ (.slice (some ⟨gl,0,none⟩) nl 2)).setCell ⟨w.heap.size,1,none⟩ (.slice Aq i cq)) (some w.heap.size) :=
      ⟨rfl,rfl,rfl,by simp [World.setCell],fun k _ hk=>(Below.heap_setCell _ _ _ _ (fun e=>hk (by rw [e]))).trans (Below.heap_setCell _ _ _ _ (fun e=>hk (by rw [e])))⟩
     have hdk:=HDK.out
     refine ⟨nl,hnl5,hnl4,_,_,ds,qs,R,rfl,by have:=HRR.out; have:=HS2.out; omega,?_,?_,?_,?_,E3.end (by have h:=HE.out; rw [HNP.out] at h; exact h) (by have:=HNP.out; omega)⟩
     ·exact (Ry w.heap.size gl nl HLBX.out HGL.out hnl4).kept hgr (.inr (o0 (Ry w.heap.size gl nl HLBX.out HGL.out hnl4) HRES.out (by decide)))
     ·have h:=HOQ.out.kept hgr HRES.out (by decide) (by decide)
      rw [hdk] at h
      exact h
     ·have e:(sh % 5).toNat=y:=by have:=HY.out; omega
      rw [e,← HPS.out,← HNP.out]
      exact HG.out
     ·exact yL (yL (X2.out.trans HX.out) (Nat.le_refl _) _) (Nat.le_refl _) _
def bh (oC:Int) (v_n:Int) : Option (Int) :=
 (CB oC v_n).bind fun b1=>let v_k:Int:=b1
 (if (decide (v_k < 0))=true then
 let v_k:Int:=(i64.wrap (v_k + v_n))
 some v_k
 else
 some v_k).bind fun j2=>let v_k:=j2
 some v_k
def nv (v_x:aH) : Option (Bool) :=
 (if (decide ((v_x.fNs.length:Int)≤30))=true then some (decide ((v_x.mg.length:Int)≤80)) else some false).bind fun q1=>some q1
def vU (v_n:Int) : Option (ax) :=
 (bh v_n 5).bind fun c1=>(av ([(⟨1,1⟩ : ax),(⟨2,1⟩ : ax),(⟨4,4⟩ : ax),(⟨3,2⟩ : ax),(⟨1,3⟩ : ax)] : (List ax)) c1).bind fun b2=>some b2
def kh (v_c:aw) (st:(List ByteArray)×Int) : Option (((List ByteArray)×Int)⊕(((List ByteArray)×Int))) :=
 let v_l:=st.1
 let v_i:=st.2
 if (decide (v_i < (v_c.ae.length:Int)))=true then
 (av v_c.ae v_i).bind fun b1=>(jV v_c b1.aF).bind fun c2=>if c2=true then
 (av v_c.ae v_i).bind fun b3=>(aU v_l [b3.aF]).bind fun b4=>let v_l:(List ByteArray):=b4
 let v_i:Int:=(i64.wrap (v_i + 1))
 some (.inl (v_l,v_i))
 else
 let v_i:Int:=(i64.wrap (v_i + 1))
 some (.inl (v_l,v_i))
 else
 some (.inr (v_l,v_i))
def vV (v_c:aw) : Option ((List ByteArray)) :=
 let v_l:(List ByteArray):=[]
 let v_i:Int:=0
 (ah (kh v_c) ab (v_l,v_i)).bind fun r5 =>
 let v_l:=r5.1
 let v_i:=r5.2
 some v_l
def fM (v_s:aa) (v_p:aq) (v_a:aP) (st:aJ×Int) : Option ((aJ×Int)⊕((aJ×Int))) :=
 let v_x:=st.1
 let v_i:=st.2
 if (decide (v_i < (v_s.ac.length:Int)))=true then
 (av v_s.ac v_i).bind fun b18=>(if (b18.bC==v_p.fId)=true then (bh (i64.wrap (v_a.fD + v_i)) 11).bind fun c19=>some (c19==10) else some false).bind fun q20=>if q20=true then
 (av v_s.ac v_i).bind fun b21=>(aU v_x.fW [b21.fId]).bind fun b22=>let v_x:aJ:={ v_x with fW:=b22 }
 let v_i:Int:=(i64.wrap (v_i + 1))
 some (.inl (v_x,v_i))
 else
 let v_i:Int:=(i64.wrap (v_i + 1))
 some (.inl (v_x,v_i))
 else
 some (.inr (v_x,v_i))
def nw (v_a:aP) (v_s:aa) : Option (aJ) :=
 let v_x:aJ:=(⟨5,0,0,0,⟨#[]⟩,aX.zero,aq.zero,[],[],a7.zero⟩ : aJ)
 if ((v_s.ai.length:Int)==0)=true then
 some v_x
 else
 (bh v_a.fA (v_s.ai.length:Int)).bind fun c1=>(av v_s.ai c1).bind fun b2=>let v_p:aq:=b2
 (bh v_a.fB 8).bind fun c3=>let t4:Int:=v_p.fId
 let t5:Int:=(i64.wrap ((i64.wrap (v_p.ce + 1)) - (i64.wrap (Int.tdiv c3 6))))
 let v_x:aJ:={ v_x with fId:=t4 }
 let v_x:aJ:={ v_x with ce:=t5 }
 (if (decide ((Int.tmod v_a.fC 3) > 0))=true then
 (bh v_a.fB 5).bind fun c7=>(bh v_a.fC (v_s.bN.ak.length:Int)).bind fun c8=>(vU v_a.fD).bind fun c9=>(bh v_a.fD 7).bind fun c10=>let v_k:aL:=(⟨c7,c8,c9,c10,(-1),(-1),0⟩ : aL)
 (if ((Int.tmod v_a.fD 4)==1)=true then
 (bh v_a.fC 3).bind fun c12=>let v_k:aL:={ v_k with eR:=c12 }
 some (v_k,v_x)
 else
 some (v_k,v_x)).bind fun j11=>let v_k:=j11.1
 let v_x:=j11.2
 (if ((Int.tmod v_a.fD 4)==2)=true then
 (bh v_a.fC 3).bind fun c14=>(bh v_a.fB 6).bind fun c15=>let t16:Int:=c14
 let t17:Int:=c15
 let v_k:aL:={ v_k with eR:=t16 }
 let v_k:aL:={ v_k with bG:=t17 }
 some (v_k,v_x)
 else
 some (v_k,v_x)).bind fun j13=>let v_k:=j13.1
 let v_x:=j13.2
 let v_x:aJ:={ v_x with bE:=([v_k] : (List aL)) }
 some v_x
 else
 some v_x).bind fun j6=>let v_x:=j6
 let v_i:Int:=0
 (ah (fM v_s v_p v_a) ab (v_x,v_i)).bind fun r23 =>
 let v_x:=r23.1
 let v_i:=r23.2
 some v_x
def gU (v_s:aa) (v_a:aP) (bA:Int) (st:aJ×Int) : Option ((aJ×Int)⊕((aJ×Int))) :=
 let v_x:=st.1
 let v_i:=st.2
 if (decide (v_i < (v_s.aB.length:Int)))=true then
 (av v_s.aB v_i).bind fun b14=>if (b14.fId==bA)=true then
 (av v_s.aB v_i).bind fun b15=>(bh v_a.fB 8).bind fun c16=>let v_x:aJ:={ v_x with ce:=(i64.wrap ((i64.wrap (b15.ce + 1)) - (i64.wrap (Int.tdiv c16 6)))) }
 let v_i:Int:=(i64.wrap (v_i + 1))
 some (.inl (v_x,v_i))
 else
 let v_i:Int:=(i64.wrap (v_i + 1))
 some (.inl (v_x,v_i))
 else
 some (.inr (v_x,v_i))
def gS (v_s:aa) (bA:Int) (v_a:aP) (st:aJ×Int) : Option ((aJ×Int)⊕((aJ×Int))) :=
 let v_x:=st.1
 let aI:=st.2
 if (decide (aI < (v_s.ac.length:Int)))=true then
 (av v_s.ac aI).bind fun b18=>(if (b18.bG==bA)=true then (bh (i64.wrap (v_a.fC + aI)) 9).bind fun c19=>some (c19==8) else some false).bind fun q20=>if q20=true then
 (av v_s.ac aI).bind fun b21=>(aU v_x.fW [b21.fId]).bind fun b22=>let v_x:aJ:={ v_x with fW:=b22 }
 let aI:Int:=(i64.wrap (aI + 1))
 some (.inl (v_x,aI))
 else
 let aI:Int:=(i64.wrap (aI + 1))
 some (.inl (v_x,aI))
 else
 some (.inr (v_x,aI))
def gV (v_a:aP) (v_s:aa) : Option (aJ) :=
 (bh v_a.fA 6).bind fun c1=>let t2:Int:=c1
 let t3:Int:=(v_s.bN.ak.length:Int)
 let bA:Int:=t2
 let rn:Int:=t3
 (vV v_s.bN).bind fun c4=>let jL:(List ByteArray):=c4
 (bh v_a.fB 4).bind fun c5=>let v_x:aJ:=(⟨0,bA,0,(i64.wrap (1 + c5)),⟨#[]⟩,aX.zero,aq.zero,[],[],a7.zero⟩ : aJ)
 (bh v_a.g6 16).bind fun c6=>((if (c6==0)=true then some true else some (c6==1))).bind fun q7=>(if q7=true then
 let v_x:aJ:={ v_x with g6:=2 }
 (bh v_a.fB rn).bind fun c9=>(bh v_a.fC 3).bind fun c10=>(bh v_a.fD 12).bind fun c11=>(bh v_a.fD 8).bind fun c12=>let v_x:aJ:={ v_x with bG:=(⟨bA,c9,c10,(⟨(i64.wrap (4 + c11)),(i64.wrap (4 + c12))⟩ : ax),0,0,false⟩ : aX) }
 some v_x
 else
 ((if (c6==2)=true then some true else if (c6==3)=true then some true else if (c6==4)=true then some true else some (c6==5))).bind fun q13=>if q13=true then
 let v_x:aJ:={ v_x with g6:=3 }
 let v_i:Int:=0
 (ah (gU v_s v_a bA) ab (v_x,v_i)).bind fun r17 =>
 let v_x:=r17.1
 let v_i:=r17.2
 let aI:Int:=0
 (ah (gS v_s bA v_a) ab (v_x,aI)).bind fun r23 =>
 let v_x:=r23.1
 let aI:=r23.2
 some v_x
 else
 ((if (c6==6)=true then some true else some (c6==7))).bind fun q24=>if q24=true then
 let v_x:aJ:={ v_x with g6:=4 }
 (bh v_a.fA 20).bind fun c25=>(bh v_a.fB (jL.length:Int)).bind fun c26=>(av jL c26).bind fun b27=>(bh v_a.fC 3).bind fun c28=>(bh v_a.fD 3).bind fun c29=>(vU (i64.wrap (Int.tdiv v_a.fD 3))).bind fun c30=>let v_x:aJ:={ v_x with bC:=(⟨c25,0,b27,c28,c29,c30,[],0,0,[],[],[],[]⟩ : aq) }
 some v_x
 else
 ((if (c6==8)=true then some true else if (c6==9)=true then some true else some (c6==10))).bind fun q31=>if q31=true then
 (nw v_a v_s).bind fun c32=>let v_x:aJ:=c32
 some v_x
 else
 if (c6==11)=true then
 (bh v_a.fB 2).bind fun c33=>(av ([6,7] : (List Int)) c33).bind fun b34=>let v_x:aJ:={ v_x with g6:=b34 }
 (bh v_a.fA 20).bind fun c35=>let v_x:aJ:={ v_x with fId:=c35 }
 some v_x
 else
 ((if (c6==12)=true then some true else some (c6==13))).bind fun q36=>if q36=true then
 let v_x:aJ:={ v_x with g6:=8 }
 (bh v_a.fA 5).bind fun c37=>let v_x:aJ:={ v_x with fN:=(i64.wrap (1 + c37)) }
 some v_x
 else
 if (c6==14)=true then
 (bh v_a.fD 3).bind fun c38=>(av ([9,9,10] : (List Int)) c38).bind fun b39=>let v_x:aJ:={ v_x with g6:=b39 }
 (bh v_a.fB rn).bind fun c40=>(bh v_a.fC 5).bind fun c41=>(vU v_a.fD).bind fun c42=>let v_x:aJ:={ v_x with pv:=(⟨bA,c40,(i64.wrap (v_s.bW + c41)),(i64.wrap (v_s.bW + 20)),c42⟩ : a7) }
 (bh v_a.fC 12).bind fun c43=>let v_x:aJ:={ v_x with fN:=(i64.wrap (1 + c43)) }
 some v_x
 else
 if (c6==15)=true then
 (bh v_a.fA 3).bind fun c44=>(av ([11,1,1] : (List Int)) c44).bind fun b45=>let v_x:aJ:={ v_x with g6:=b45 }
 (fO v_a.fB ([v_a.fC,v_a.fD] : (List Int))).bind fun c46=>(y9 c46).bind fun c47=>let v_x:aJ:={ v_x with Md:=c47 }
 some v_x
 else
 some v_x).bind fun j8=>let v_x:=j8
 some v_x
def eM (v_x:aH) (st:aa×Int) : Option ((aa×Int)⊕((aa×Int))) :=
 let v_s:=st.1
 let v_i:=st.2
 if (decide (v_i < (v_x.mg.length:Int)))=true then
 (av v_x.mg v_i).bind fun b6=>(gV b6 v_s).bind fun c7=>(sd v_s c7).bind fun c8=>let v_s:aa:=c8.1
 let v_i:Int:=(i64.wrap (v_i + 1))
 some (.inl (v_s,v_i))
 else
 some (.inr (v_s,v_i))
def dJ (v_x:aH) : Option (aa) :=
 (zw).bind fun c1=>let v_s:aa:=c1
 (fO v_x.JK v_x.fNs).bind fun c2=>(y9 c2).bind fun c3=>(sd v_s (⟨1,0,0,0,c3,aX.zero,aq.zero,[],[],a7.zero⟩ : aJ)).bind fun c4=>let v_t:aa:=c4.1
 let v_o:br:=c4.2
 (if (v_o.Zt==0)=true then
 let v_s:aa:=v_t
 some v_s
 else
 some v_s).bind fun j5=>let v_s:=j5
 let v_i:Int:=0
 (ah (eM v_x) ab (v_s,v_i)).bind fun r9 =>
 let v_s:=r9.1
 let v_i:=r9.2
 some v_s
def I6:Ent:=⟨[.lf (.int .i64),.lf (.sl (.int .i64))],[.ag 5],fun x=>fO x.1 x.2.1⟩
def Cw:Ent:=⟨[.lf (.int .i64),.lf (.int .i64)],[.lf (.int .i64)],fun x=>bh x.1 x.2.1⟩
theorem vk:EOk prog 57 Cw:=aE (.s .n (.s .n (.s (.s .n (.j [.leaf 5 (.int .i64)] .n)) .n))) [] [] [] .nil Tryz.mixed Tryz.func57
def Cy:Ent:=⟨[.ag 5],[.lf (.sl (.str))],fun x=>vV x.1⟩
theorem NQ:EOk prog 10 Cy:=aE (.s .n (.s .n (.s (.s .n (.s (.lp [.row 3 3 9 1 (.str),.leaf 4 (.int .i64)] 0 false .n) .n)) .n))) [(5,[27,28])] [] [] (.cons Bv .nil) Tryz.mixed Tryz.func10
def I5:Ent:=⟨[.lf (.int .i64)],[.ag 0],fun x=>vU x.1⟩
theorem I4:EOk prog 58 I5:=aE .n [] [2] [] (.cons vk .nil) Tryz.mixed Tryz.func58
def tP:Ent:=⟨[.ag 15,.ag 12],[.ag 9],fun x=>nw x.1 x.2.1⟩
theorem Dc:EOk prog 59 tP:=aE (.s .n (.s .n (.s .n (.s .n (.s .n (.s (.s .n (.j [.box 5 76 9 [(28,1128,3,1,.int .i64)]] (.s (.s .n (.s (.s .n (.j [.box 7 123 1 [],.box 5 76 9 [(28,1128,3,1,.int .i64)]] .n)) (.s (.s .n (.j [.box 7 123 1 [],.box 5 76 9 [(28,1128,3,1,.int .i64)]] .n)) .n))) .n))) (.s (.s .n (.s (.lp [.box 5 76 9 [(28,1128,3,1,.int .i64)],.leaf 8 (.int .i64)] 0 false .n) .n)) .n))))))) [(4,[79,113,114]),(5,[79,113,114]),(7,[79,113,114]),(9,[79,113,114]),(11,[79,113,114]),(16,[79,113,114])] [4] [] (.cons vk (.cons I4 .nil)) Tryz.mixed Tryz.func59
def GC:Ent:=⟨[.ag 15,.ag 12],[.ag 9],fun x=>gV x.1 x.2.1⟩
theorem GA (x:cp [.ag 15,.ag 12]) : fS ⟨prog,[(57,Cw),(10,Cy),(58,I5),(59,tP),(28,I6),(27,Bw)],230,[.ag 9],[.cell 4 76],[(1,[118,119,157,179,212,225]),(2,[118,119,157,179,212,225]),(3,[118,119,157,179,212,225]),(4,[118,119,157,179,212,225]),(8,[118,119,157,179,212,225]),(18,[118,119,157,179,212,225]),(22,[118,119,157,179,212,225]),(27,[118,119,157,179,212,225]),(31,[118,119,157,179,212,225]),(33,[118,119,179,212,225]),(34,[118,119,157,179,212,225]),(38,[118,119,157,179,212,225]),(40,[118,119,157,212,225]),(41,[118,119,157,179,212,225]),(42,[118,119,157,179,212,225]),(44,[118,119,157,179,225]),(45,[118,119,157,179,212])],[4],[]⟩ ((Tryz.f29).body.getD .skip) (.s (.n) (.s (.n) (.s (.n) (.s (.n) (.s (.s (.n) (.s (.s (.s (.n) (.j [.leaf 30 (.bool)] (.n))) (.j [.box 8 76 9 []] (.s (.n) (.s (.s (.n) (.j [.leaf 53 (.bool)] (.n))) (.s (.s (.n) (.s (.s (.n) (.s (.lp [.box 8 76 9 [(28,1188,3,1,.int .i64)],.leaf 9 (.int .i64)] 1 false (.n)) .n)) (.s (.n) (.s (.lp [.box 8 76 9 [(28,1188,3,1,.int .i64)],.leaf 10 (.int .i64)] 3 false (.n)) .n)))) (.s (.s (.n) (.j [.leaf 121 (.bool)] (.n))) (.s (.n) (.s (.s (.n) (.j [.leaf 148 (.bool)] (.n))) (.s (.n) (.s (.n) (.s (.n) (.s (.s (.n) (.j [.leaf 168 (.bool)] (.n))) (.n))))))))))))) .n)) (.n)))))) [.ag 15,.ag 12] x=gV x.1 x.2.1:=by kernel_rfl
theorem GB (hG:bK prog 28 [.lf (.int .i64),.lf (.sl (.int .i64))] [.ag 5] (fun x=>fO x.1 x.2.1)) : bK prog 29 [.ag 15,.ag 12] [.ag 9] (fun x=>gV x.1 x.2.1):=cd (n:=230) (.cons (vk) (.cons (NQ) (.cons (I4) (.cons (Dc) (.cons hG (.cons (IW) (.nil))))))) Tryz.mixed Tryz.func29 rfl (by kernel_rfl) rfl rfl rfl (GA)
def tO:Ent:=⟨[.ag 16],[.lf (.bool)],fun x=>nv x.1⟩
theorem Db:EOk prog 7 tO:=aE .n [] [] [] .nil Tryz.mixed Tryz.func7
theorem An (x:cp [.ag 16]) : fS ⟨prog,[(25,vM),(28,I6),(27,Bw),(26,FT),(29,GC)],44,[.ag 12],[.cell 2 43],[],[2],[]⟩ ((Tryz.f9).body.getD .skip) (.s (.n) (.s (.n) (.s (.n) (.s (.s (.n) (.j [.box 3 43 12 []] (.n))) (.s (.s (.n) (.s (.lp [.box 3 43 12 [],.leaf 6 (.int .i64)] 0 false (.n)) .n)) (.n)))))) [.ag 16] x=dJ x.1:=by kernel_rfl
theorem Ao (hG:bK prog 28 [.lf (.int .i64),.lf (.sl (.int .i64))] [.ag 5] (fun x=>fO x.1 x.2.1)) : bK prog 9 [.ag 16] [.ag 12] (fun x=>dJ x.1):=cd (n:=44) (.cons (Bz) (.cons hG (.cons (IW) (.cons (P6) (.cons (GB hG) (.nil)))))) Tryz.mixed Tryz.func9 rfl (by kernel_rfl) rfl rfl rfl (An)
theorem Ec {w:World} {B e k n:Nat} {v:Value} {us:List Value} {es:List (List D)} {F:Nat→Prop} (h:w.ownsRow B e k v n us) (hn:n=es.length) (hk:∀ x∈es,x.length=k) (hl:us.length=es.flatten.length) (hF:∀ g,B≤g→g < w.heap.size→F g) (hr:∀ (j:Nat) u d,us[j]? = some u→es.flatten[j]? = some d→ej w F u d) : ej w F v (.sl es):=by
 have h':=h
 rcases h.2 with ⟨rfl,h0⟩ | ⟨g,cap,cur,rfl,hb,hg,hle,hmx,_⟩
 ·have:es = []:=List.eq_nil_of_length_eq_zero (by omega)
  subst this
  exact .sl none 0 0 0 [] (fun _=>undef) rfl (Nat.le_refl _) (by simp [maxLen]) (by simp) (by omega) (fun _=>rfl) (by simp) (by simp)
 ·have hlt:=(Array.getElem?_eq_some_iff.1 hg).1
  refine .sl (some ⟨g,0,none⟩) n cap k es (fun j=>(us[j]?).getD undef) hn hle hmx hk (fun _=>⟨_,rfl,hF g hb hlt⟩) (fun h=>by cases h) (fun a j d ha hj=>?_) (fun j d hj=>?_)
  ·injection ha with ha
   subst ha
   have hj2:j < us.length:=by have:=(zg.1 hj).1; omega
   have hadd:(⟨g,0,none⟩ : Addr).add j=⟨g,j,none⟩:=by unfold Addr.add; split <;> simp_all
   have hc:=h'.cellAt j (by have:=h'.1; omega)
   rw [hadd,hc,zq hj2]
   rfl
  ·have hj2:j < us.length:=by have:=(zg.1 hj).1; omega
   exact hr j _ d (by rw [zq hj2]; rfl) hj
theorem HM {w:World} {F:Nat→Prop} : ∀ (l:List Tx) (j:Nat) (u:Value) (d:D),(l.map sv)[j]? = some u→(((l.map bT).map sD).flatten)[j]? = some d→ej w F u d
 | [],j,u,d,h,_=>by simp at h
 | x::l,0,u,d,h1,h2=>by
  simp [sD] at h1 h2
  subst h1
  subst h2
  exact .v _ rfl
 | x::l,j + 1,u,d,h1,h2=>HM l j u d (by simpa using h1) (by simpa [sD] using h2)
theorem IG {w:World} {F:Nat→Prop} : ∀ (l:List (Int×Int)) (j:Nat) (u:Value) (d:D),(cf l)[j]? = some u→(((l.map gP).map ei.d).flatten)[j]? = some d→ej w F u d
 | [],j,u,d,h,_=>by simp [cf] at h
 | x::l,0,u,d,h1,h2=>by
  simp [cf,ei.d,gP] at h1 h2
  subst h1
  subst h2
  exact .v _ rfl
 | x::l,1,u,d,h1,h2=>by
  simp [cf,ei.d,gP] at h1 h2
  subst h1
  subst h2
  exact .v _ rfl
 | x::l,j + 2,u,d,h1,h2=>IG l j u d (by simpa [cf] using h1) (by simpa [ei.d] using h2)
theorem MF:∀ l:List (Int×Int),(cf l).length=(((l.map gP).map ei.d).flatten).length
 | []=>rfl
 | x::l=>by
  have:=MF l
  simp [cf,ei.d] at this ⊢
  omega
theorem Rf {w:World} {B:Nat} {F:Nat→Prop} (hF:∀ g,B≤g→g < w.heap.size→F g) : ∀ (qs:List QC) (ds:List QD),qs.length=ds.length→(∀ (k:Nat) (q:QC) (h:k < ds.length),qs[k]? = some q→wR w B q ds[k])→∀ (j:Nat) (u:Value) (d:D),(fT qs)[j]? = some u→(((ds.map gQ).map az.d).flatten)[j]? = some d→ej w F u d
 | [],_,_,_,j,u,d,h,_=>by simp [fT] at h
 | q::qs,[],hl,_,_,_,_,_,_=>by simp at hl
 | q::qs,x::ds,hl,he,j,u,d,h1,h2=>by
  obtain ⟨p1,p2,p3,p4⟩:=he 0 q (by simp) rfl
  dsimp only [List.getElem_cons_zero] at p1 p2 p3 p4
  match j with
  | 0 =>
   simp [fT,Lr,az.d,gQ] at h1 h2
   subst h1
   subst h2
   have:q.p=bT x.path:=YS (by rw [p1]; simp [bT])
   rw [this]
   exact .v _ rfl
  | 1 =>
   simp [fT,Lr,az.d,gQ] at h1 h2
   subst h1
   subst h2
   have:=Ec (F:=F) p4 (es:=(x.caps.map gP).map ei.d) (by rw [p3]; simp) (fun y hy=>by obtain ⟨z,_,rfl⟩:=List.mem_map.1 hy; rfl) (MF _) hF (IG x.caps)
   simpa using this
  | 2 =>
   simp [fT,Lr,az.d,gQ] at h1 h2
   subst h1
   subst h2
   rw [p2]
   exact .v _ rfl
  | j + 3 =>
   refine Rf hF qs ds (by simpa using hl) (fun k q' h hq=>?_) j u d (by simpa [fT,Lr] using h1) (by simpa [az.d] using h2)
   have:=he (k + 1) q' (by simpa using h) (by simpa using hq)
   simpa using this
theorem Vc:∀ (qs:List QC) (ds:List QD),qs.length=ds.length→(fT qs).length=(((ds.map gQ).map az.d).flatten).length
 | [],[],_=>rfl
 | [],_ :: _,h=>by simp at h
 | _ :: _,[],h=>by simp at h
 | q::qs,d::ds,h=>by
  have:=Vc qs ds (by simpa using h)
  simp [fT,Lr,az.d] at this ⊢
  omega
theorem RM:∀ xs:List Int,(xs.map iD).flatten=xs.map (fun n=>D.v (.int .i64 n))
 | []=>rfl
 | x::xs=>by
  show [D.v (.int .i64 x)] ++ (xs.map iD).flatten = _
  rw [RM xs]
  rfl
theorem XE {w:World} {G:Nat→Prop} {v:Value} {xs:List Int} (hG:∀ g,G g→g < w.heap.size) (h:ej w G v (.sl (xs.map iD))) : Rd w v (xs.map (Value.int .i64))∧xs.length≤9223372036854775807:=by
 have hfl:=RM xs
 cases h with
 | sl A n c k es us hn hc hm hk hA hA0 hcell hrep =>
  have hn2:n=(xs.map (Value.int .i64)).length:=by rw [hn]; simp
  refine ⟨⟨A,c,by rw [hn2],by omega,hm,fun h0=>?_⟩,by have h9:maxLen=9223372036854775807:=(by decide); rw [List.length_map] at hn2; omega⟩
  obtain ⟨a,ha,hGa⟩:=hA (by omega)
  refine ⟨a,ha,hG _ hGa,fun j u hj=>?_⟩
  rw [List.getElem?_map] at hj
  cases hx:xs[j]? with
  | none=>rw [hx] at hj; cases hj
  | some x =>
   rw [hx] at hj
   injection hj with hj
   subst hj
   have hd:(xs.map iD).flatten[j]? = some (.v (.int .i64 x)):=by rw [hfl,List.getElem?_map,hx]; rfl
   have h1:=hcell a j _ ha hd
   have h2:=hrep j _ hd
   rw [h1]
   generalize us j=y at h2
   cases h2 with
   | v y hy=>rfl
theorem HJ:∀ l:List Tx,(l.map sv).length=(((l.map bT).map sD).flatten).length
 | []=>rfl
 | x::l=>by
  simp only [List.map_cons,List.flatten_cons,List.length_append,List.length_cons]
  rw [HJ l]
  show _ = 1 + _
  omega
theorem UA:bK prog 28 [.lf (.int .i64),.lf (.sl (.int .i64))] [.ag 5] (fun x=>fO x.1 x.2.1):=by
 rintro ⟨sh,xs,⟨⟩⟩ z hF
 change Int at sh
 change List Int at xs
 refine ⟨fun _=>⟨by kernel_rfl,fun w G vs hG hr=>?_⟩,fun h=>(by cases h)⟩
 have hvl:vs.toList.length=2:=hr.len
 obtain ⟨a,v,hv⟩ : ∃ a v,vs = #[a,v]:=by
  match hv:vs.toList,hvl with
  | [a,v],_=>exact ⟨a,v,by apply Array.ext'; simpa using hv⟩
 subst hv
 have ha:a = .int .i64 sh:=(aK.vv (hr.rep 0 a _ rfl rfl)).1
 subst ha
 have hd:ej w G v (.sl (xs.map iD)):=by
  have h:=hr.rep 1 v _ rfl rfl
  cases h with
  | d _ _ h=>exact h
 obtain ⟨hrd,hlen⟩:=XE hG hd
 refine (UF sh v xs w hrd hlen).mono ?_
 rintro e w' ⟨nl,h1,h2,vl,vq,ds,qs,B,rfl,hB,hl,hq,hgi,hx,he⟩
 have hz:z=gC nl ds:=by
  have:fO sh xs=some z:=hF
  rw [he] at this
  injection this with this
  exact this.symm
 subst hz
 refine ⟨_,fun g=>G g∨(w.heap.size≤g∧g < w'.heap.size),rfl,hx,fun g hg=>.inl hg,fun g hg=>hg.elim (fun h=>Nat.lt_of_lt_of_le (hG g h) hx.size) (fun h=>h.2),fun g hg=>hg.elim .inl (fun h=>.inr h.1),?_⟩
 have dl:ej w' (fun g=>G g∨(w.heap.size≤g∧g < w'.heap.size)) vl (.sl (((CE nl).map bT).map sD)) :=
  Ec hl (by simp [qy h2]) (fun x hx=>by obtain ⟨y,_,rfl⟩:=List.mem_map.1 hx; rfl) (HJ _) (fun g h3 h4=>.inr ⟨h3,h4⟩) (HM _)
 have dq:ej w' (fun g=>G g∨(w.heap.size≤g∧g < w'.heap.size)) vq (.sl ((ds.map gQ).map az.d)) :=
  Ec hq.row (by simp) (fun x hx=>by obtain ⟨y,_,rfl⟩:=List.mem_map.1 hx; rfl) (Vc _ _ hq.len) (fun g h3 h4=>.inr ⟨Nat.le_trans hB h3,h4⟩) (Rf (fun g h3 h4=>.inr ⟨Nat.le_trans hB h3,h4⟩) qs ds hq.len hq.each)
 show aK ρNone dP w' _ _ (.ag [.d (.sl (((CE nl).map bT).map sD)),.d (.sl ((ds.map gQ).map az.d))])
 refine .ag #[vl,vq] _ rfl (fun x hx=>?_) (fun j x c h3 h4=>?_)
 ·simp at hx
  rcases hx with rfl | rfl
  ·exact dl.one
  ·exact dq.one
 ·match j with
  | 0 =>
   obtain rfl : _ = x:=by simpa using h3
   cases h4
   exact .d _ _ dl
  | 1 =>
   obtain rfl : _ = x:=by simpa using h3
   cases h4
   exact .d _ _ dq
  | j + 2=>simp at h3
noncomputable def W5:Ent:=⟨[.ag 16],[.ag 12],fun x=>dJ x.1⟩
theorem W4:bK prog 9 [.ag 16] [.ag 12] (fun x=>dJ x.1):=Ao UA
noncomputable def tv (x:cp [.lf (.int .i64),.lf (.int .i64)]) : Option (a8 [.lf (.int .i64)]):=fS ⟨prog,[],15,[.lf (.int .i64)],[.tmp 4],[],[],[]⟩ ((Tryz.f11).body.getD .skip) (.n) [.lf (.int .i64),.lf (.int .i64)] x
noncomputable def KW:Ent:=⟨[.lf (.int .i64),.lf (.int .i64)],[.lf (.int .i64)],tv⟩
theorem KV:bK prog 11 [.lf (.int .i64),.lf (.int .i64)] [.lf (.int .i64)] tv:=cd (n:=15) (.nil) Tryz.mixed Tryz.func11 rfl (by kernel_rfl) rfl rfl rfl (fun _=>rfl)
noncomputable def xW (x:cp [.lf (.sl (.int .i64)),.lf (.sl (.int .i64))]) : Option (a8 [.lf (.bool)]):=fS ⟨prog,[],26,[.lf (.bool)],[.tmp 4],[],[],[]⟩ ((Tryz.f22).body.getD .skip) (.s (.n) (.s (.n) (.s (.s (.n) (.s (.lp [.leaf 4 (.bool),.leaf 5 (.int .i64)] 0 true (.n)) .n)) (.n)))) [.lf (.sl (.int .i64)),.lf (.sl (.int .i64))] x
noncomputable def QQ:Ent:=⟨[.lf (.sl (.int .i64)),.lf (.sl (.int .i64))],[.lf (.bool)],xW⟩
theorem QP:bK prog 22 [.lf (.sl (.int .i64)),.lf (.sl (.int .i64))] [.lf (.bool)] xW:=cd (n:=26) (.nil) Tryz.mixed Tryz.func22 rfl (by kernel_rfl) rfl rfl rfl (fun _=>rfl)
noncomputable def vm (x:cp []) : Option (a8 [.lf (.bool)]):=fS ⟨prog,[(25,vM),(12,C8),(15,wQ),(18,rg)],37,[.lf (.bool)],[.tmp 0],[],[],[]⟩ ((Tryz.f6).body.getD .skip) (.n) [] x
noncomputable def NT:Ent:=⟨[],[.lf (.bool)],vm⟩
theorem NS:bK prog 6 [] [.lf (.bool)] vm:=cd (n:=37) (.cons (Bz) (.cons (C7) (.cons (wP) (.cons (rc) (.nil))))) Tryz.mixed Tryz.func6 rfl (by kernel_rfl) rfl rfl rfl (fun _=>rfl)
noncomputable def BK (x:cp [.ag 2,.ag 2]) : Option (a8 [.lf (.bool)]):=fS ⟨prog,[(25,vM),(14,xK)],18,[.lf (.bool)],[.tmp 4],[],[],[]⟩ ((Tryz.f17).body.getD .skip) (.n) [.ag 2,.ag 2] x
noncomputable def UC:Ent:=⟨[.ag 2,.ag 2],[.lf (.bool)],BK⟩
theorem UB:bK prog 17 [.ag 2,.ag 2] [.lf (.bool)] BK:=cd (n:=18) (.cons (Bz) (.cons (FU) (.nil))) Tryz.mixed Tryz.func17 rfl (by kernel_rfl) rfl rfl rfl (fun _=>rfl)
noncomputable def BL (x:cp [.ag 2]) : Option (a8 [.lf (.bool)]):=fS ⟨prog,[],37,[.lf (.bool)],[.tmp 2],[],[],[]⟩ ((Tryz.f8).body.getD .skip) (.n) [.ag 2] x
noncomputable def UE:Ent:=⟨[.ag 2],[.lf (.bool)],BL⟩
theorem UD:bK prog 8 [.ag 2] [.lf (.bool)] BL:=cd (n:=37) (.nil) Tryz.mixed Tryz.func8 rfl (by kernel_rfl) rfl rfl rfl (fun _=>rfl)
noncomputable def qk (x:cp [.ag 16,.lf (.int .i64),.ag 2,.lf (.int .i64)]) : Option (a8 [.lf (.bool)]):=fS ⟨prog,[(6,NT),(7,tO),(8,UE),(9,W5),(11,KW),(15,wQ),(16,Gk),(17,UC),(18,rg),(19,Gj),(20,KS),(21,I3),(14,xK),(23,Da),(24,Ae),(22,QQ)],107,[.lf (.bool)],[.tmp 8],[],[],[]⟩ ((Tryz.f4).body.getD .skip) (.n) [.ag 16,.lf (.int .i64),.ag 2,.lf (.int .i64)] x
theorem GF:bK prog 4 [.ag 16,.lf (.int .i64),.ag 2,.lf (.int .i64)] [.lf (.bool)] qk:=cd (n:=107) (.cons (NS) (.cons (Db) (.cons (UD) (.cons (W4) (.cons (KV) (.cons (wP) (.cons (fH) (.cons (UB) (.cons (rc) (.cons (fG) (.cons (KR) (.cons (mR) (.cons (FU) (.cons (C9) (.cons (Ad) (.cons (QP) (.nil))))))))))))))))) Tryz.mixed Tryz.func4 rfl (by kernel_rfl) rfl rfl rfl (fun _=>rfl)
section
open Go.ChangeShapes Go.WideShapes Go.ChangeAt Go.RowKit Go.Deep
section
variable {H:Type} {enc:TypeId×Value→H} {P:Program} {w:World} {base:Nat} {spare:Nat→Bool} {held:Bool} {r:Reach} {b0:Nat}
end
end
section
open Go.ChangeShapes Go.WideShapes Go.ChangeAt Go.RowKit Go.Deep
instance:Inhabited D:=⟨.v (.int .i64 0)⟩
inductive Fm where
 | int | str | bool | u8
 | sl (es:List Fm)
inductive Shp:Fm→D→Prop
 | int (z:Int) (h:(Lit.int .i64 z).wf=true) : Shp .int (.v (.int .i64 z))
 | str (s:ByteArray) (h:s.size≤maxLen) : Shp .str (.v (.string s))
 | bool (b:Bool) : Shp .bool (.v (.bool b))
 | u8 (z:Int) (h:(Lit.int .u8 z).wf=true) : Shp .u8 (.v (.int .u8 z))
 | sl (ts:List Fm) (es:List (List D)) (hl:∀ e∈es,e.length=ts.length) (h:∀ (e:List D),e∈es→∀ (j:Nat) (T:Fm) (d:D),ts[j]? = some T→e[j]? = some d→Shp T d) (hm:es.length≤maxLen) : Shp (.sl ts) (.sl es)
def qh (P:Program) (t:TypeId) (ts:List Fm) : Prop :=
 ∀ (H:Type) (enc:TypeId×Value→H) (w:World) (base:Nat) (spare:Nat→Bool) (held:Bool) (fuel:Nat) (cs:List Value) (x:DataW H×List MemPlace),DataW.trod enc P w base spare held fuel t cs=some x →
  cs.length=ts.length∧∀ (j:Nat) (T:Fm),ts[j]? = some T→∃ c d,cs[j]? = some c∧ej w (· < w.heap.size) c d∧Shp T d
theorem co {P:Program} {t:TypeId} (ht:P.underlying t=some (.int .i64)) : qh P t [.int]:=by
 intro H enc w base spare held fuel cs x h
 obtain ⟨z,rfl,_,hz⟩:=DataW.trod_int ht h
 refine ⟨rfl,fun j T hj=>?_⟩
 match j,hj with
 | 0,hj =>
  cases hj
  exact ⟨_,_,rfl,.v _ rfl,.int z hz⟩
theorem SP {P:Program} {t:TypeId} (ht:P.underlying t=some .string) : qh P t [.str]:=by
 intro H enc w base spare held fuel cs x h
 obtain ⟨z,rfl,_,hz⟩:=DataW.trod_string ht h
 refine ⟨rfl,fun j T hj=>?_⟩
 match j,hj with
 | 0,hj =>
  cases hj
  exact ⟨_,_,rfl,.v _ rfl,.str z hz⟩
theorem lb {P:Program} {t:TypeId} {fs:Array Field} {ts:List Fm} (ht:P.underlying t=some (.struct fs)) (hk:P.cellsOf t=ts.length)
  (hcov:∀ j T,ts[j]? = some T→∃ (i:Nat) (f:Field) (kf:Nat) (us:List Fm),fs[i]? = some f∧f.offset≤j∧j < f.offset + kf∧P.cellsOf f.type=kf∧qh P f.type us∧us[j - f.offset]? = some T) : qh P t ts:=by
 intro H enc w base spare held fuel cs x h
 obtain ⟨xs,n,_,rfl,hl,hlen,hf⟩:=DataW.trod_struct ht h
 refine ⟨by rw [hl,hk],fun j T hj=>?_⟩
 obtain ⟨i,f,kf,us,hi,h1,h2,h3,h4,h5⟩:=hcov j T hj
 have hfi:=hf i f hi
 have hlt:i < xs.length:=by rw [hlen]; exact (Array.getElem?_eq_some_iff.1 hi).1
 rw [zq hlt,h3] at hfi
 obtain ⟨_,hz⟩:=h4 H enc w base spare held n _ _ hfi
 obtain ⟨c,d,hc,hd,hs⟩:=hz (j - f.offset) T h5
 rw [List.getElem?_take_of_lt (by omega),List.getElem?_drop,show f.offset + (j - f.offset)=j by omega] at hc
 exact ⟨c,d,hc,hd,hs⟩
theorem X8 {α : Type} (k:Nat) (es:List (List α)) (h:∀ e∈es,e.length=k) : es.flatten.length=es.length * k:=by
 induction es with
 | nil=>simp
 | cons e es ih =>
  rw [List.flatten_cons,List.length_append,ih (fun x hx=>h x (List.mem_cons_of_mem _ hx)),h e List.mem_cons_self,List.length_cons,Nat.add_mul]
  omega
theorem um {P:Program} {t e:TypeId} {ts:List Fm} (ht:P.underlying t=some (.slice e)) (hc:P.cellsOf e=ts.length) (hk : 0 < ts.length) (he:qh P e ts) : qh P t [.sl ts]:=by
 intro H enc w base spare held fuel cs x hf
 rcases open_slice ht hf with ⟨rfl,_⟩ | ⟨a,len,cap,m,n,Dz,Pl,rfl,hb,hl,hm,hmm,_,hx⟩
 ·refine ⟨rfl,fun j T hj=>?_⟩
  match j,hj with
  | 0,hj =>
   cases hj
   exact ⟨_,.sl [],rfl,.sl none 0 0 0 [] (fun _=>.int .i64 0) rfl (Nat.le_refl _) (by simp [maxLen]) (by simp) (fun h=>absurd h (by omega)) (fun _=>rfl) (by simp) (by simp),.sl ts [] (by simp) (by simp) (by simp)⟩
 ·have hlm:len≤m:=by rw [hmm]; split <;> omega
  have each:∀ i,i < m→∃ q:Nat→D,∀ j T,ts[j]? = some T→∃ c,w.cell? (a.add (i * ts.length + j))=some c∧ej w (· < w.heap.size) c (q j)∧Shp T (q j):=by
   intro i hi
   obtain ⟨cs',h1,h2⟩:=hx i hi
   rw [hc] at h1
   obtain ⟨_,hlen,hcell⟩:=World.cells?_some h1
   obtain ⟨_,hz⟩:=he _ _ _ _ _ _ _ _ _ h2
   have:∀ j,j < ts.length→∃ d,∀ T,ts[j]? = some T→∃ c,w.cell? (a.add (i * ts.length + j))=some c∧ej w (· < w.heap.size) c d∧Shp T d:=by
    intro j hj
    obtain ⟨c,d,c1,c2,c3⟩:=hz j ts[j] (zq hj)
    refine ⟨d,fun T hT=>⟨c,?_,c2,?_⟩⟩
    ·have c0:=hcell j hj
     rw [Go.Deep.add_add] at c0
     rw [c0,c1]
    ·rw [zq hj] at hT
     cases hT
     exact c3
   obtain ⟨q,hq⟩:=choose_lt this
   exact ⟨q,fun j T hT=>hq j (by rcases Nat.lt_or_ge j ts.length with h | h; exact h; rw [List.getElem?_eq_none h] at hT; cases hT) T hT⟩
  obtain ⟨q,hq⟩:=choose_lt each
  let row (i:Nat) : List D:=(List.range ts.length).map (q i)
  let es:=(List.range len).map row
  have hrow:∀ x∈es,x.length=ts.length:=by
   intro x hx
   obtain ⟨i,_,rfl⟩:=List.mem_map.1 hx
   simp [row]
  have hcell:∀ j d,es.flatten[j]? = some d→∃ c,w.cell? (a.add j)=some c∧ej w (· < w.heap.size) c d:=by
   intro j d hj
   have hlt:j < len * ts.length:=by
    have:=(zg.1 hj).1
    rw [X8 ts.length es hrow] at this
    simpa [es] using this
   have hi:j / ts.length < len:=(Nat.div_lt_iff_lt_mul hk).2 hlt
   have hmod:=Nat.mod_lt j hk
   have hdm:j / ts.length * ts.length + j % ts.length=j:=by rw [Nat.mul_comm]; exact Nat.div_add_mod j _
   have hfl:=yJ ts.length es hrow (j / ts.length) (row (j / ts.length)) (by simp [es,hi]) (j % ts.length) hmod
   rw [hdm,hj] at hfl
   have hd:d=q (j / ts.length) (j % ts.length):=by simpa [row,hmod] using hfl
   obtain ⟨c,c1,c2,_⟩:=hq (j / ts.length) (by omega) (j % ts.length) _ (zq hmod)
   rw [hdm] at c1
   exact ⟨c,c1,hd ▸ c2⟩
  refine ⟨rfl,fun j T hj=>?_⟩
  match j,hj with
  | 0,hj =>
   cases hj
   refine ⟨_,.sl es,rfl,.sl (some a) len cap ts.length es (fun j=>(w.cell? (a.add j)).getD (.int .i64 0)) (by simp [es]) hl hm hrow (fun hn=>⟨a,rfl,?_⟩) (fun h=>by cases h) (fun a' j d ha hj=>?_) (fun j d hj=>?_),.sl ts es hrow (fun x hx j T d hT hd=>?_) (by simp [es]; omega)⟩
   ·obtain ⟨c,c1,_⟩:=hq 0 (by omega) 0 _ (zq hk)
    have:=World.block_lt_of_cell? w _ c1
    rwa [show (a.add (0 * ts.length + 0)).block=a.block by unfold Addr.add; split <;> rfl] at this
   ·cases ha
    obtain ⟨c,c1,_⟩:=hcell j d hj
    rw [c1]
    rfl
   ·obtain ⟨c,c1,c2⟩:=hcell j d hj
    rw [c1]
    exact c2
   ·obtain ⟨i,hi,rfl⟩:=List.mem_map.1 hx
    have hi:i < len:=List.mem_range.1 hi
    have hjt:j < ts.length:=(zg.1 hT).1
    have hd:d=q i j:=by simpa [row,hjt] using hd.symm
    obtain ⟨c,_,_,c3⟩:=hq i (by omega) j T hT
    exact hd ▸ c3
section
variable {H:Type} {enc:TypeId×Value→H} {P:Program} {w:World} {base:Nat} {spare:Nat→Bool} {held:Bool} {r:Reach} {b0:Nat}
theorem Rl {t:TypeId} {fs:Array Field} {ts:List Fm} {v:Value} {d:DataW H} {ps:List MemPlace} (ht:P.underlying t=some (.struct fs)) (ho:qh P t ts) (hv:Value.okWide P w r b0 t v) (h:DataW.Trod enc P w base spare held t v d ps) :
  ∃ ds:List D,ds.length=ts.length∧(∀ (j:Nat) (T:Fm),ts[j]? = some T→∃ e,ds[j]? = some e∧Shp T e)∧aK ρNone dP w (· < w.heap.size) v (.ag (ds.map .d)):=by
 obtain ⟨cs,rfl,_⟩:=okWide_struct ht hv
 obtain ⟨fuel,hf⟩:=h
 simp only [Value.cells] at hf
 obtain ⟨hl,hz⟩:=ho _ _ _ _ _ _ _ _ _ hf
 have:∀ j,j < ts.length→∃ d,∀ T,ts[j]? = some T→∃ c,cs.toList[j]? = some c∧ej w (· < w.heap.size) c d∧Shp T d:=by
  intro j hj
  obtain ⟨c,d,c1,c2,c3⟩:=hz j ts[j] (zq hj)
  refine ⟨d,fun T hT=>⟨c,c1,c2,?_⟩⟩
  rw [zq hj] at hT
  cases hT
  exact c3
 obtain ⟨q,hq⟩:=choose_lt this
 refine ⟨(List.range ts.length).map q,by simp,fun j T hT=>?_,.ag cs _ (by simp; simpa using hl) (fun x hx=>?_) (fun j x c hx hc=>?_)⟩
 ·have hj:j < ts.length:=(zg.1 hT).1
  obtain ⟨c,_,_,c3⟩:=hq j hj T hT
  exact ⟨q j,by simp [hj],c3⟩
 ·obtain ⟨j,hj,rfl⟩:=List.getElem_of_mem (Array.mem_toList_iff.2 hx)
  have hj':j < ts.length:=by rw [← hl]; exact hj
  obtain ⟨c,c1,c2,_⟩:=hq j hj' _ (zq hj')
  rw [zq hj] at c1
  cases c1
  exact c2.one
 ·have hj:j < ts.length:=by
   have:=(Array.getElem?_eq_some_iff.1 hx).1
   rw [← hl]
   simpa using this
  obtain ⟨c',c1,c2,_⟩:=hq j hj _ (zq hj)
  rw [Array.getElem?_toList,hx] at c1
  cases c1
  have:c = .d (q j):=by simpa [hj] using hc.symm
  subst this
  exact .d _ _ c2
end
theorem Q8 {α : Type} {f : α→List D} {Q : α→Prop} : ∀ (es:List (List D)),(∀ e∈es,∃ x,e=f x∧Q x)→∃ l:List α,es=l.map f∧∀ x∈l,Q x
 | [],_=>⟨[],rfl,by simp⟩
 | e::es,h=>by
  obtain ⟨x,rfl,hq⟩:=h e List.mem_cons_self
  obtain ⟨l,rfl,hl⟩:=Q8 es (fun y hy=>h y (List.mem_cons_of_mem _ hy))
  refine ⟨x::l,rfl,?_⟩
  intro y hy
  rcases List.mem_cons.1 hy with rfl | hy
  ·exact hq
  ·exact hl y hy
theorem XK {P:Program} {f:FuncId} {args:List PV} {b:Bool} (h:PC P f args (.d (.v (.bool b)))) (w:World) (vs:Array Value) (hr:cG ρNone dP w (· < w.heap.size) vs.toList args) :
  Calls P f vs w fun e w'=>e = .returned (.bool b)∧Below w.heap.size w w':=by
 refine (h.2 w _ vs (fun _ h=>h) hr).mono ?_
 rintro e w' ⟨v,F',rfl,hx,_,_,_,hp⟩
 refine ⟨?_,hx⟩
 cases hp with
 | d _ _ h=>cases h with
  | v=>rfl
end
section
open Go.ChangeShapes Go.WideShapes Go.ChangeAt Go.RowKit Go.Deep
theorem db {d:D} (h:Shp .int d) : ∃ z,d = .v (.int .i64 z)∧(Lit.int .i64 z).wf=true:=by
 cases h with
 | int z h=>exact ⟨z,rfl,h⟩
theorem Xw {d:D} (h:Shp .str d) : ∃ s,d = .v (.string s)∧s.size≤maxLen:=by
 cases h with
 | str z h=>exact ⟨z,rfl,h⟩
def wfI (z:Int) : Prop:=(Lit.int .i64 z).wf=true
theorem Oh {α : Type} {f : α→List D} {Q : α→Prop} {ts:List Fm} {d:D} (hf:∀ e:List D,e.length=ts.length→(∀ (j:Nat) (T:Fm),ts[j]? = some T→∃ d,e[j]? = some d∧Shp T d)→∃ x,e=f x∧Q x) (h:Shp (.sl ts) d) : ∃ l:List α,d = .sl (l.map f)∧(∀ z∈l,Q z)∧l.length≤maxLen:=by
 cases h with
 | sl _ es hl h hm =>
  obtain ⟨l,rfl,hq⟩:=Q8 (f:=f) (Q:=Q) es (fun e he=>hf e (hl e he) fun j T hT=>by
   have hj:j < e.length:=by rw [hl e he]; exact (zg.1 hT).1
   exact ⟨e[j],zq hj,h e he j T _ hT (zq hj)⟩)
  exact ⟨l,rfl,hq,by simpa using hm⟩
theorem Zh {e:List D} (hl:e.length=1) (h:∀ (j:Nat) (T:Fm),[Fm.int][j]? = some T→∃ d,e[j]? = some d∧Shp T d) : ∃ x:Int,e = [.v (.int .i64 x)]∧wfI x:=by
 match e,hl with
 | [d],_ =>
  obtain ⟨d',hd,s⟩:=h 0 _ rfl
  cases hd
  cases s with
  | int z hz=>exact ⟨z,rfl,hz⟩
theorem pj:qh prog 22 [.sl [.int]]:=um Tryz.underlying22 (by kernel_rfl) (by decide) (co Tryz.underlying3)
theorem ua {d:D} (h:Shp (.sl [.int]) d) : ∃ l:List Int,d = .sl (l.map iD)∧(∀ z∈l,wfI z)∧l.length≤maxLen:=Oh (ts:=[.int]) (f:=iD) (Q:=fun z=>wfI z) (fun _ hl h=>Zh hl h) h
def aP.ok (x:aP) : Prop:=wfI x.g6∧wfI x.fA∧wfI x.fB∧wfI x.fC∧wfI x.fD
theorem CC:qh prog 78 [.int,.int,.int,.int,.int]:=lb Tryz.underlying78 (by kernel_rfl) fun j T hj=>by
 match j,hj with
 | 0,hj=>exact ⟨0,_,1,[.int],rfl,by decide,by decide,by kernel_rfl,(co Tryz.underlying3),hj⟩
 | 1,hj=>exact ⟨1,_,1,[.int],rfl,by decide,by decide,by kernel_rfl,(co Tryz.underlying3),hj⟩
 | 2,hj=>exact ⟨2,_,1,[.int],rfl,by decide,by decide,by kernel_rfl,(co Tryz.underlying3),hj⟩
 | 3,hj=>exact ⟨3,_,1,[.int],rfl,by decide,by decide,by kernel_rfl,(co Tryz.underlying3),hj⟩
 | 4,hj=>exact ⟨4,_,1,[.int],rfl,by decide,by decide,by kernel_rfl,(co Tryz.underlying3),hj⟩
theorem Jx {e:List D} (hl:e.length=5) (h:∀ (j:Nat) (T:Fm),([.int,.int,.int,.int,.int] : List Fm)[j]? = some T→∃ d,e[j]? = some d∧Shp T d) : ∃ x:aP,e=aP.d x∧x.ok:=by
 match e,hl with
 | [d0,d1,d2,d3,d4],_ =>
  obtain ⟨_,e0,s0⟩:=h 0 _ rfl
  cases e0
  obtain ⟨_,e1,s1⟩:=h 1 _ rfl
  cases e1
  obtain ⟨_,e2,s2⟩:=h 2 _ rfl
  cases e2
  obtain ⟨_,e3,s3⟩:=h 3 _ rfl
  cases e3
  obtain ⟨_,e4,s4⟩:=h 4 _ rfl
  cases e4
  obtain ⟨z0,rfl,k0⟩:=db s0
  obtain ⟨z1,rfl,k1⟩:=db s1
  obtain ⟨z2,rfl,k2⟩:=db s2
  obtain ⟨z3,rfl,k3⟩:=db s3
  obtain ⟨z4,rfl,k4⟩:=db s4
  exact ⟨⟨z0,z1,z2,z3,z4⟩,rfl,⟨k0,k1,k2,k3,k4⟩⟩
theorem AM:qh prog 23 [.sl [.int,.int,.int,.int,.int]]:=um Tryz.underlying23 (by kernel_rfl) (by decide) CC
theorem DY {d:D} (h:Shp (.sl [.int,.int,.int,.int,.int]) d) : ∃ l:List aP,d = .sl (l.map aP.d)∧(∀ z∈l,aP.ok z)∧l.length≤maxLen:=Oh (ts:=[.int,.int,.int,.int,.int]) (f:=aP.d) (Q:=fun z=>aP.ok z) (fun _ hl h=>Jx hl h) h
def aH.ok (x:aH) : Prop:=wfI x.JK∧(∀ z∈x.fNs,wfI z)∧x.fNs.length≤maxLen∧(∀ z∈x.mg,aP.ok z)∧x.mg.length≤maxLen
theorem xh:qh prog 25 [.int,.sl [.int],.sl [.int,.int,.int,.int,.int]]:=lb Tryz.underlying25 (by kernel_rfl) fun j T hj=>by
 match j,hj with
 | 0,hj=>exact ⟨0,_,1,[.int],rfl,by decide,by decide,by kernel_rfl,(co Tryz.underlying3),hj⟩
 | 1,hj=>exact ⟨1,_,1,[.sl [.int]],rfl,by decide,by decide,by kernel_rfl,pj,hj⟩
 | 2,hj=>exact ⟨2,_,1,[.sl [.int,.int,.int,.int,.int]],rfl,by decide,by decide,by kernel_rfl,AM,hj⟩
theorem CD {e:List D} (hl:e.length=3) (h:∀ (j:Nat) (T:Fm),([.int,.sl [.int],.sl [.int,.int,.int,.int,.int]] : List Fm)[j]? = some T→∃ d,e[j]? = some d∧Shp T d) : ∃ x:aH,e=aH.d x∧x.ok:=by
 match e,hl with
 | [d0,d1,d2],_ =>
  obtain ⟨_,e0,s0⟩:=h 0 _ rfl
  cases e0
  obtain ⟨_,e1,s1⟩:=h 1 _ rfl
  cases e1
  obtain ⟨_,e2,s2⟩:=h 2 _ rfl
  cases e2
  obtain ⟨z0,rfl,k0⟩:=db s0
  obtain ⟨z1,rfl,k1,m1⟩:=ua s1
  obtain ⟨z2,rfl,k2,m2⟩:=DY s2
  exact ⟨⟨z0,z1,z2⟩,rfl,⟨k0,k1,m1,k2,m2⟩⟩
def ax.ok (x:ax) : Prop:=wfI x.bD∧wfI x.bj
theorem sH:qh prog 27 [.int,.int]:=lb Tryz.underlying27 (by kernel_rfl) fun j T hj=>by
 match j,hj with
 | 0,hj=>exact ⟨0,_,1,[.int],rfl,by decide,by decide,by kernel_rfl,(co Tryz.underlying3),hj⟩
 | 1,hj=>exact ⟨1,_,1,[.int],rfl,by decide,by decide,by kernel_rfl,(co Tryz.underlying3),hj⟩
def aL.ok (x:aL) : Prop:=wfI x.bu∧wfI x.aY∧ax.ok x.cC∧wfI x.fX∧wfI x.bG∧wfI x.eR∧wfI x.gM
theorem Ow:qh prog 123 [.int,.int,.int,.int,.int,.int,.int,.int]:=lb Tryz.underlying123 (by kernel_rfl) fun j T hj=>by
 match j,hj with
 | 0,hj=>exact ⟨0,_,1,[.int],rfl,by decide,by decide,by kernel_rfl,(co Tryz.underlying3),hj⟩
 | 1,hj=>exact ⟨1,_,1,[.int],rfl,by decide,by decide,by kernel_rfl,(co Tryz.underlying3),hj⟩
 | 2,hj=>exact ⟨2,_,2,[.int,.int],rfl,by decide,by decide,by kernel_rfl,sH,hj⟩
 | 3,hj=>exact ⟨2,_,2,[.int,.int],rfl,by decide,by decide,by kernel_rfl,sH,hj⟩
 | 4,hj=>exact ⟨3,_,1,[.int],rfl,by decide,by decide,by kernel_rfl,(co Tryz.underlying3),hj⟩
 | 5,hj=>exact ⟨4,_,1,[.int],rfl,by decide,by decide,by kernel_rfl,(co Tryz.underlying3),hj⟩
 | 6,hj=>exact ⟨5,_,1,[.int],rfl,by decide,by decide,by kernel_rfl,(co Tryz.underlying3),hj⟩
 | 7,hj=>exact ⟨6,_,1,[.int],rfl,by decide,by decide,by kernel_rfl,(co Tryz.underlying3),hj⟩
theorem XQ {e:List D} (hl:e.length=8) (h:∀ (j:Nat) (T:Fm),([.int,.int,.int,.int,.int,.int,.int,.int] : List Fm)[j]? = some T→∃ d,e[j]? = some d∧Shp T d) : ∃ x:aL,e=aL.d x∧x.ok:=by
 match e,hl with
 | [d0,d1,d2,d3,d4,d5,d6,d7],_ =>
  obtain ⟨_,e0,s0⟩:=h 0 _ rfl
  cases e0
  obtain ⟨_,e1,s1⟩:=h 1 _ rfl
  cases e1
  obtain ⟨_,e2,s2⟩:=h 2 _ rfl
  cases e2
  obtain ⟨_,e3,s3⟩:=h 3 _ rfl
  cases e3
  obtain ⟨_,e4,s4⟩:=h 4 _ rfl
  cases e4
  obtain ⟨_,e5,s5⟩:=h 5 _ rfl
  cases e5
  obtain ⟨_,e6,s6⟩:=h 6 _ rfl
  cases e6
  obtain ⟨_,e7,s7⟩:=h 7 _ rfl
  cases e7
  obtain ⟨z0,rfl,k0⟩:=db s0
  obtain ⟨z1,rfl,k1⟩:=db s1
  obtain ⟨z2,rfl,k2⟩:=db s2
  obtain ⟨z3,rfl,k3⟩:=db s3
  obtain ⟨z4,rfl,k4⟩:=db s4
  obtain ⟨z5,rfl,k5⟩:=db s5
  obtain ⟨z6,rfl,k6⟩:=db s6
  obtain ⟨z7,rfl,k7⟩:=db s7
  exact ⟨⟨z0,z1,⟨z2,z3⟩,z4,z5,z6,z7⟩,rfl,⟨k0,k1,⟨k2,k3⟩,k4,k5,k6,k7⟩⟩
theorem LG:qh prog 28 [.sl [.int,.int,.int,.int,.int,.int,.int,.int]]:=um Tryz.underlying28 (by kernel_rfl) (by decide) Ow
theorem Sq {d:D} (h:Shp (.sl [.int,.int,.int,.int,.int,.int,.int,.int]) d) : ∃ l:List aL,d = .sl (l.map aL.d)∧(∀ z∈l,aL.ok z)∧l.length≤maxLen:=Oh (ts:=[.int,.int,.int,.int,.int,.int,.int,.int]) (f:=aL.d) (Q:=fun z=>aL.ok z) (fun _ hl h=>XQ hl h) h
def aq.ok (x:aq) : Prop:=wfI x.fId∧wfI x.cw∧x.bF.size≤maxLen∧wfI x.cW∧wfI x.bu∧ax.ok x.bB∧(∀ z∈x.bE,aL.ok z)∧x.bE.length≤maxLen∧wfI x.bL∧wfI x.ce∧(∀ z∈x.bM,wfI z)∧x.bM.length≤maxLen∧(∀ z∈x.dj,wfI z)∧x.dj.length≤maxLen∧(∀ z∈x.jH,wfI z)∧x.jH.length≤maxLen∧(∀ z∈x.jP,wfI z)∧x.jP.length≤maxLen
theorem Ox:qh prog 30 [.int,.int,.str,.int,.int,.int,.int,.sl [.int,.int,.int,.int,.int,.int,.int,.int],.int,.int,.sl [.int],.sl [.int],.sl [.int],.sl [.int]]:=lb Tryz.underlying30 (by kernel_rfl) fun j T hj=>by
 match j,hj with
 | 0,hj=>exact ⟨0,_,1,[.int],rfl,by decide,by decide,by kernel_rfl,(co Tryz.underlying3),hj⟩
 | 1,hj=>exact ⟨1,_,1,[.int],rfl,by decide,by decide,by kernel_rfl,(co Tryz.underlying3),hj⟩
 | 2,hj=>exact ⟨2,_,1,[.str],rfl,by decide,by decide,by kernel_rfl,(SP Tryz.underlying9),hj⟩
 | 3,hj=>exact ⟨3,_,1,[.int],rfl,by decide,by decide,by kernel_rfl,(co Tryz.underlying3),hj⟩
 | 4,hj=>exact ⟨4,_,1,[.int],rfl,by decide,by decide,by kernel_rfl,(co Tryz.underlying3),hj⟩
 | 5,hj=>exact ⟨5,_,2,[.int,.int],rfl,by decide,by decide,by kernel_rfl,sH,hj⟩
 | 6,hj=>exact ⟨5,_,2,[.int,.int],rfl,by decide,by decide,by kernel_rfl,sH,hj⟩
 | 7,hj=>exact ⟨6,_,1,[.sl [.int,.int,.int,.int,.int,.int,.int,.int]],rfl,by decide,by decide,by kernel_rfl,LG,hj⟩
 | 8,hj=>exact ⟨7,_,1,[.int],rfl,by decide,by decide,by kernel_rfl,(co Tryz.underlying3),hj⟩
 | 9,hj=>exact ⟨8,_,1,[.int],rfl,by decide,by decide,by kernel_rfl,(co Tryz.underlying3),hj⟩
 | 10,hj=>exact ⟨9,_,1,[.sl [.int]],rfl,by decide,by decide,by kernel_rfl,pj,hj⟩
 | 11,hj=>exact ⟨10,_,1,[.sl [.int]],rfl,by decide,by decide,by kernel_rfl,pj,hj⟩
 | 12,hj=>exact ⟨11,_,1,[.sl [.int]],rfl,by decide,by decide,by kernel_rfl,pj,hj⟩
 | 13,hj=>exact ⟨12,_,1,[.sl [.int]],rfl,by decide,by decide,by kernel_rfl,pj,hj⟩
theorem XR {e:List D} (hl:e.length=14) (h:∀ (j:Nat) (T:Fm),([.int,.int,.str,.int,.int,.int,.int,.sl [.int,.int,.int,.int,.int,.int,.int,.int],.int,.int,.sl [.int],.sl [.int],.sl [.int],.sl [.int]] : List Fm)[j]? = some T→∃ d,e[j]? = some d∧Shp T d) : ∃ x:aq,e=aq.d x∧x.ok:=by
 match e,hl with
 | [d0,d1,d2,d3,d4,d5,d6,d7,d8,d9,d10,d11,d12,d13],_ =>
  obtain ⟨_,e0,s0⟩:=h 0 _ rfl
  cases e0
  obtain ⟨_,e1,s1⟩:=h 1 _ rfl
  cases e1
  obtain ⟨_,e2,s2⟩:=h 2 _ rfl
  cases e2
  obtain ⟨_,e3,s3⟩:=h 3 _ rfl
  cases e3
  obtain ⟨_,e4,s4⟩:=h 4 _ rfl
  cases e4
  obtain ⟨_,e5,s5⟩:=h 5 _ rfl
  cases e5
  obtain ⟨_,e6,s6⟩:=h 6 _ rfl
  cases e6
  obtain ⟨_,e7,s7⟩:=h 7 _ rfl
  cases e7
  obtain ⟨_,e8,s8⟩:=h 8 _ rfl
  cases e8
  obtain ⟨_,e9,s9⟩:=h 9 _ rfl
  cases e9
  obtain ⟨_,e10,s10⟩:=h 10 _ rfl
  cases e10
  obtain ⟨_,e11,s11⟩:=h 11 _ rfl
  cases e11
  obtain ⟨_,e12,s12⟩:=h 12 _ rfl
  cases e12
  obtain ⟨_,e13,s13⟩:=h 13 _ rfl
  cases e13
  obtain ⟨z0,rfl,k0⟩:=db s0
  obtain ⟨z1,rfl,k1⟩:=db s1
  obtain ⟨z2,rfl,k2⟩:=Xw s2
  obtain ⟨z3,rfl,k3⟩:=db s3
  obtain ⟨z4,rfl,k4⟩:=db s4
  obtain ⟨z5,rfl,k5⟩:=db s5
  obtain ⟨z6,rfl,k6⟩:=db s6
  obtain ⟨z7,rfl,k7,m7⟩:=Sq s7
  obtain ⟨z8,rfl,k8⟩:=db s8
  obtain ⟨z9,rfl,k9⟩:=db s9
  obtain ⟨z10,rfl,k10,m10⟩:=ua s10
  obtain ⟨z11,rfl,k11,m11⟩:=ua s11
  obtain ⟨z12,rfl,k12,m12⟩:=ua s12
  obtain ⟨z13,rfl,k13,m13⟩:=ua s13
  exact ⟨⟨z0,z1,z2,z3,z4,⟨z5,z6⟩,z7,z8,z9,z10,z11,z12,z13⟩,rfl,⟨k0,k1,k2,k3,k4,⟨k5,k6⟩,k7,m7,k8,k9,k10,m10,k11,m11,k12,m12,k13,m13⟩⟩
end
theorem eV {α S τ : Type} (l:List α) (mk:Int→S) {f:S→Option (S⊕τ)} {r : τ} (hl:l.length≤1000000)
  (hstep:∀ (k:Nat) (x : α),l[k]? = some x→k < l.length→x∈l→f (mk (k:Int))=some (.inl (mk ((k + 1:Nat) : Int)))) (hend:f (mk (l.length:Int))=some (.inr r)) : ah f ab (mk 0)=some r:=by
 rw [ay l (σ:=Unit) (fun _ k=>mk k) (fun _ _=>some (.inl ())) (fun _=>r) (an hl) (fun k _ x hx=>by rw [hstep k x hx (zg.1 hx).1 (List.mem_of_getElem? hx)]; rfl) (fun _=>hend) ()]
 rw [w9 (fun _ _=>())]
theorem qz (l:List Int) (hl:l.length≤1000000) : pO l l=some true:=by
 unfold pO
 simp only [bne_self_eq_false,zf,if_false]
 rw [eV l (fun k=>k) (r:=.inl (l.length:Int)) hl (fun k x hx hk _=>by
  unfold pN
  simp only [bJ hx,if_true,aC hx,zb,bne_self_eq_false,zf,if_false,a6 hk hl]) (by unfold pN; simp only [bz,zf,if_false])]
 rfl
structure SzL (a:aq) : Prop where
 queue:a.bF.size≤1000000
 asks:a.bE.length≤1000000
 grants:a.bM.length≤1000000
 kills:a.dj.length≤1000000
 told:a.jH.length≤1000000
 lost:a.jP.length≤1000000
theorem SzA.shorts {B:Nat} {a:aq} (h:SzA B a) (hB:B≤1000000) : SzL a:=⟨h.queue.1,Nat.le_trans h.asks hB,Nat.le_trans h.grants hB,Nat.le_trans h.kills hB,Nat.le_trans h.told hB,Nat.le_trans h.lost hB⟩
theorem Pd (a:aq) (h:SzL a) : DD a a=some true:=by
 unfold DD
 have h1:a.bE.length≤1000000:=h.asks
 simp only [bne_self_eq_false,BEq.rfl,Bool.and_self,Bool.not_true,zf,if_false,zb]
 rw [eV a.bE (fun k=>k) (r:=.inl (a.bE.length:Int)) h1 (fun k x hx hk _=>by
  unfold qZ
  simp only [bJ hx,if_true,aC hx,zb,BEq.rfl,Bool.and_self,Bool.not_true,zf,if_false,a6 hk h1]) (by unfold qZ; simp only [bz,zf,if_false])]
 simp only [zb,qz _ h.grants,qz _ h.kills,qz _ h.told,qz _ h.lost,if_true]
theorem O7 (c:aw) (h:SzC c) : DC c c=some true:=by
 unfold DC
 have h1:c.ak.length≤1000000:=Nat.le_trans h.labels (by decide)
 have h2:c.ae.length≤1000000:=Nat.le_trans h.queues (by decide)
 simp only [bne_self_eq_false,zf,if_false,zb]
 rw [eV c.ak (fun k=>k) (r:=.inl (c.ak.length:Int)) h1 (fun k x hx hk _=>by
  unfold qX
  simp only [bJ hx,if_true,aC hx,zb,BEq.rfl,Bool.not_true,zf,if_false,a6 hk h1]) (by unfold qX; simp only [bz,zf,if_false])]
 simp only [zb]
 rw [eV c.ae (fun k=>k) (r:=.inl (c.ae.length:Int)) h2 (fun k x hx hk hm=>by
  have h3:x.bl.length≤1000000:=Nat.le_trans (h.caps x hm) (by decide)
  unfold qW
  simp only [bJ hx,if_true,aC hx,zb,BEq.rfl,bne_self_eq_false,Bool.not_true,zf,if_false,a6 hk h2]
  rw [eV x.bl (fun k=>k) (r:=.inl (x.bl.length:Int)) h3 (fun k y hy hk _=>by
   unfold qV
   simp only [bJ hy,if_true,aC hy,zb,BEq.rfl,Bool.and_self,Bool.not_true,zf,if_false,a6 hk h3]) (by unfold qV; simp only [bz,zf,if_false])]
  rfl) (by unfold qW; simp only [bz,zf,if_false])]
 rfl
structure xE (s:aa) : Prop where
 conf:SzC s.bN
 nodes:s.aB.length≤1000000
 apps:s.ai.length≤1000000
 conts:s.ac.length≤1000000
 slots:s.aQ.length≤1000000
 plans:s.bg.length≤1000000
 app:∀ a∈s.ai,SzL a
 lab:∀ x∈s.bN.ak,x.size≤1000000
theorem SzS.short {B:Nat} {s:aa} (h:SzS B s) (hB:B≤1000000) : xE s:=⟨h.conf.sz,Nat.le_trans h.nodes.1 hB,Nat.le_trans h.apps hB,Nat.le_trans h.conts hB,Nat.le_trans h.slots hB,Nat.le_trans h.plans hB,fun a ha=>(h.app a ha).shorts hB,h.conf.lsz⟩
theorem U6 (s:aa) (h:xE s) : uU s s=some true:=by
 unfold uU
 simp only [O7 _ h.conf,zb,bne_self_eq_false,Bool.not_true,zf,if_false]
 rw [eV s.aB (fun k=>(true,k)) (r:=(true,(s.aB.length:Int))) h.nodes (fun k x hx hk _=>by
  unfold pU
  simp only [bJ hx,if_true,aC hx,zb,BEq.rfl,Bool.and_self,a6 hk h.nodes]) (by unfold pU; simp only [bz,zf,if_false])]
 simp only [zb]
 rw [eV s.ai (fun k=>(true,k)) (r:=(true,(s.ai.length:Int))) h.apps (fun k x hx hk hm=>by
  unfold pT
  simp only [bJ hx,if_true,aC hx,zb,Pd x (h.app x hm),a6 hk h.apps]) (by unfold pT; simp only [bz,zf,if_false])]
 simp only [zb]
 rw [eV s.ac (fun k=>(true,k)) (r:=(true,(s.ac.length:Int))) h.conts (fun k x hx hk _=>by
  unfold pR
  simp only [bJ hx,if_true,aC hx,zb,BEq.rfl,Bool.and_self,a6 hk h.conts]) (by unfold pR; simp only [bz,zf,if_false])]
 simp only [zb]
 rw [eV s.aQ (fun k=>(true,k)) (r:=(true,(s.aQ.length:Int))) h.slots (fun k x hx hk _=>by
  unfold pQ
  simp only [bJ hx,if_true,aC hx,zb,BEq.rfl,Bool.and_self,a6 hk h.slots]) (by unfold pQ; simp only [bz,zf,if_false])]
 simp only [zb]
 rw [eV s.bg (fun k=>(true,k)) (r:=(true,(s.bg.length:Int))) h.plans (fun k x hx hk _=>by
  unfold pP
  simp only [bJ hx,if_true,aC hx,zb,BEq.rfl,Bool.and_self,a6 hk h.plans]) (by unfold pP; simp only [bz,zf,if_false])]
 rfl
theorem aax {α : Type} (lo hi:List α) (z n : α) (hl:lo.length + hi.length≤900000) :
  (Option.bind (mkO z (i64.wrap (i64.wrap ((lo.length:Int) + 1) + (hi.length:Int)))) fun xs=>Option.bind (uG xs 0 xs.length lo) fun zs=>Option.bind (av zs (lo.length:Int)) fun _=>Option.bind (vwO (zs.set ((lo.length:Int)).toNat n).length (i64.wrap ((lo.length:Int) + 1)) ((zs.set ((lo.length:Int)).toNat n).length:Int)) fun _=>Option.bind (uG (zs.set ((lo.length:Int)).toNat n) (i64.wrap ((lo.length:Int) + 1)).toNat (((zs.set ((lo.length:Int)).toNat n).length:Int)).toNat hi) fun r=>some r)=some (lo++n::hi):=by
 have e1:i64.wrap ((lo.length:Int) + 1)=((lo.length + 1:Nat) : Int):=by rw [IntKind.wrap_i64]; omega
 have e2:i64.wrap (((lo.length + 1:Nat) : Int) + (hi.length:Int))=((lo.length + 1 + hi.length:Nat) : Int):=by rw [IntKind.wrap_i64]; omega
 rw [e1,e2]
 have e3:mkO z ((lo.length + 1 + hi.length:Nat) : Int)=some (List.replicate (lo.length + 1 + hi.length) z):=by
  unfold mkO
  rw [if_pos ⟨by omega,by omega⟩,zt]
 rw [e3]
 simp only [zb]
 have e4:uG (List.replicate (lo.length + 1 + hi.length) z) 0 (List.replicate (lo.length + 1 + hi.length) z).length lo=some (lo++List.replicate (1 + hi.length) z):=by
  unfold uG
  rw [if_pos ⟨by omega,Nat.le_refl _⟩]
  unfold kX
  simp only [List.length_replicate,Nat.sub_zero]
  rw [List.take_of_length_le (show lo.length≤lo.length + 1 + hi.length by omega)]
  simp only [List.take_zero,List.nil_append,Nat.zero_add,List.drop_replicate]
  rw [show lo.length + 1 + hi.length - lo.length=1 + hi.length by omega]
 rw [e4]
 simp only [zb]
 have e5:(lo++List.replicate (1 + hi.length) z)[lo.length]? = some z:=by
  rw [List.getElem?_append_right (Nat.le_refl _),Nat.sub_self,Nat.add_comm 1]
  rfl
 rw [aC e5]
 simp only [zb,zt]
 have e6:(lo++List.replicate (1 + hi.length) z).set lo.length n=lo++n::List.replicate hi.length z:=by
  rw [List.set_append_right _ _ (Nat.le_refl _),Nat.sub_self,Nat.add_comm 1]
  rfl
 rw [e6]
 have e7:(lo++n::List.replicate hi.length z).length=lo.length + 1 + hi.length:=by simp; omega
 rw [e7]
 have e8:vwO (lo.length + 1 + hi.length) ((lo.length + 1:Nat) : Int) ((lo.length + 1 + hi.length:Nat) : Int)=some ():=by
  unfold vwO
  rw [if_pos ⟨by omega,by omega,by omega,by omega⟩]
 rw [e8]
 simp only [zb]
 unfold uG
 rw [if_pos ⟨by omega,by rw [e7]; exact Nat.le_refl _⟩]
 unfold kX
 have h1:(lo++n::List.replicate hi.length z).take (lo.length + 1)=lo ++ [n]:=by
  rw [List.take_append,List.take_of_length_le (Nat.le_succ _)]
  simp
 have h2:lo.length + 1 + hi.length - (lo.length + 1)=hi.length:=by omega
 rw [h1,h2,List.take_of_length_le (Nat.le_refl _)]
 have h3:(lo++n::List.replicate hi.length z).drop (lo.length + 1 + hi.length) = []:=List.drop_of_length_le (by rw [e7]; exact Nat.le_refl _)
 rw [h3]
 simp
theorem yj {α : Type} (p : α→Bool) : ∀ (l:List α) (i:Nat) (h:i < l.length),(∀ j (hj:j < i),p l[j] = true)→p l[i] = false→(l.takeWhile p).length=i
 | [],i,h,_,_=>absurd h (Nat.not_lt_zero _)
 | x::l,0,h,_,h2=>by
  have h2:p x=false:=h2
  rw [List.takeWhile_cons,h2]
  rfl
 | x::l,i + 1,h,h1,h2=>by
  have h0:p x=true:=h1 0 (Nat.succ_pos _)
  rw [List.takeWhile_cons,h0]
  simp only [if_true,List.length_cons]
  rw [yj p l i (by simpa using h) (fun j hj=>by have:=h1 (j + 1) (Nat.succ_lt_succ hj); simpa using this) (by simpa using h2)]
theorem Ts {α : Type} (l:List α) (f : α→Option α) (hf:∀ x∈l,f x=some x) (hl:l.length≤1000000) :
  ah (fun st:List α×List α×Int=>if decide (st.2.2 < (l.length:Int))=true then Option.bind (av st.1 st.2.2) fun x=>Option.bind (f x) fun y=>Option.bind (av st.1 st.2.2) fun _=>some (.inl (st.1.set st.2.2.toNat y,st.1.set st.2.2.toNat y,i64.wrap (st.2.2 + 1))) else some (.inr (st.1,st.1,st.2.2))) ab (l,l,0)=some (l,l,(l.length:Int)):=by
 rw [eV l (fun k=>(l,l,k)) (r:=(l,l,(l.length:Int))) hl (fun k x hx hk hm=>by
  have e:l.set k x=l:=by
   obtain ⟨h1,h2⟩:=zg.1 hx
   rw [← h2]
   exact List.set_getElem_self h1
  simp only [bJ hx,if_true,aC hx,zb,hf x hm,zt,e,a6 hk hl]) (by simp only [bz,zf,if_false])]
theorem N9 {α : Type} (key : α→Int) (l:List α) (hs:jK key l) (i:Nat) (h:i < l.length) (a : α) (e:key l[i] = key a) : l.set i a=cM key l a:=by
 have hp:∀ j (hj:j < i),key l[j] < key l[i]:=fun j hj=>by
  have:=(List.pairwise_iff_getElem.1 hs) j i (by omega) h hj
  exact this
 have k:(l.takeWhile fun x=>decide (key x < key a)).length=i:=yj _ l i h (fun j hj=>by have:=hp j hj; simp; omega) (by simp; omega)
 unfold cM
 rw [k,zq h]
 have d:(key l[i] == key a)=true:=by simpa using e
 simp only [d,if_true]
 rw [List.set_eq_take_append_cons_drop,if_pos h]
def U1 (x:ByteArray) : Option ByteArray:=if x.size≤1000000000 then some x else none
theorem Je {x:ByteArray} (h:x.size≤1000000) : U1 x=some x:=by unfold U1; rw [if_pos (by omega)]
def ku {α : Type} (xs:List α) : Option ((Unit×Unit)×List α):=Option.bind (Fs xs) fun z=>some (((),()),z)
theorem eg {α : Type} {xs:List α} (h:xs.length≤1000000) : ku xs=some (((),()),xs):=by unfold ku Fs; rw [if_pos h]; rfl
noncomputable def A4 (a:aq) : Option aq:=rb (a,())
theorem V0 (a:aq) : A4 a=Option.bind (U1 a.bF) fun q=>Option.bind (ku a.bE) fun r1=>Option.bind (ku a.bM) fun r2=>Option.bind (ku a.dj) fun r3=>Option.bind (ku a.jH) fun r4=>Option.bind (ku a.jP) fun r5=>some ⟨a.fId,a.cw,q,a.cW,a.bu,a.bB,r1.2,a.bL,a.ce,r2.2,r3.2,r4.2,r5.2⟩:=by kernel_rfl
theorem A1 {a:aq} (h:SzL a) : A4 a=some a:=by
 rw [V0,Je h.queue,eg h.asks,eg h.grants,eg h.kills,eg h.told,eg h.lost]
 rfl
def RU {α : Type} (f : α→Option α) (l:List α) (st:List α×List α×Int) : Option ((List α×List α×Int)⊕(List α×List α×Int)):=if decide (st.2.2 < (l.length:Int))=true then Option.bind (av st.1 st.2.2) fun x=>Option.bind (f x) fun y=>Option.bind (av st.1 st.2.2) fun _=>some (.inl (st.1.set st.2.2.toNat y,st.1.set st.2.2.toNat y,i64.wrap (st.2.2 + 1))) else some (.inr (st.1,st.1,st.2.2))
theorem Fd {α : Type} {f : α→Option α} {l:List α} (hf:∀ x∈l,f x=some x) (hl:l.length≤1000000) : ah (RU f l) ab (l,l,0)=some (l,l,(l.length:Int)):=Ts l f hf hl
noncomputable def JI (l:List aq) : Option ((Unit×Unit×Unit)×List aq):=om (l,(((),()),()))
theorem Tb (l:List aq) : JI l=Option.bind (ku l) fun r=>Option.bind (ah (RU A4 r.2) ab (r.2,r.2,0)) fun st=>some (((),(),()),st.1):=by kernel_rfl
theorem OU {l:List aq} (hl:l.length≤1000000) (h:∀ a∈l,SzL a) : JI l=some (((),(),()),l):=by
 rw [Tb,eg hl]
 simp only [zb]
 rw [Fd (fun a ha=>A1 (h a ha)) hl]
 rfl
noncomputable def RI (l:List ByteArray) : Option (List ByteArray):=oh (l,(((),()),()))
theorem S9 (l:List ByteArray) : RI l=Option.bind (ku l) fun r=>Option.bind (ah (RU U1 r.2) ab (r.2,r.2,0)) fun st=>some st.1:=by kernel_rfl
noncomputable def OT (q:az) : Option az:=og (q,())
theorem VY (q:az) : OT q=Option.bind (U1 q.aF) fun p=>Option.bind (ku q.bl) fun r=>some ⟨p,r.2,q.cW⟩:=by kernel_rfl
noncomputable def RJ (l:List az) : Option (List az):=ol (l,(((),()),()))
theorem Ta (l:List az) : RJ l=Option.bind (ku l) fun r=>Option.bind (ah (RU OT r.2) ab (r.2,r.2,0)) fun st=>some st.1:=by kernel_rfl
noncomputable def OV (c:aw) : Option aw:=qc (c,())
theorem VZ (c:aw) : OV c=Option.bind (RI c.ak) fun l=>Option.bind (RJ c.ae) fun q=>some ⟨l,q⟩:=by kernel_rfl
theorem Tc {c:aw} (h:SzC c) (hl:∀ x∈c.ak,x.size≤1000000) : OV c=some c:=by
 have h1:c.ak.length≤1000000:=Nat.le_trans h.labels (by decide)
 have h2:c.ae.length≤1000000:=Nat.le_trans h.queues (by decide)
 have hq:∀ q∈c.ae,OT q=some q:=fun q hq=>by
  rw [VY,Je (h.paths q hq),eg (Nat.le_trans (h.caps q hq) (by decide))]
  rfl
 rw [VZ,S9,Ta,eg h1,eg h2]
 simp only [zb]
 rw [Fd (fun x hx=>Je (hl x hx)) h1]
 simp only [zb]
 rw [Fd hq h2]
 rfl
noncomputable def OS (s:aa) : Option ((Unit×Unit)×aa):=oq (s,())
theorem VX (s:aa) : OS s=Option.bind (OV s.bN) fun c=>Option.bind (ku s.aB) fun r1=>Option.bind (JI s.ai) fun r2=>Option.bind (ku s.ac) fun r3=>Option.bind (ku s.aQ) fun r4=>Option.bind (ku s.bg) fun r5=>some (((),()),⟨c,r1.2,r2.2,r3.2,r4.2,r5.2,s.bW,s.pw,s.rM⟩):=by kernel_rfl
theorem S8 {s:aa} (h:xE s) : OS s=some (((),()),s):=by
 rw [VX,Tc h.conf h.lab,eg h.nodes,OU h.apps h.app,eg h.conts,eg h.slots,eg h.plans]
 rfl
def X4 {α : Type} (p : α→Bool) (l:List α) : Option Int:=Option.bind (ah (fun st:Int×Int=>if decide (st.2 < (l.length:Int))=true then Option.bind (av l st.2) fun x=>if p x=true then some (.inr (.inr st.2)) else some (.inl (st.1,i64.wrap (st.2 + 1))) else some (.inr (.inl (st.1,st.2)))) ab ((0:Int),(0:Int))) fun o:(Int×Int)⊕Int=>match o with | .inl _=>some (-1) | .inr v=>some v
theorem RC {α : Type} (p : α→Bool) (l:List α) (hl:l.length≤1000000) : (∃ i,∃ h:i < l.length,X4 p l=some (i:Int)∧p l[i] = true∧∀ j (hj:j < i),p l[j] = false)∨(X4 p l=some (-1)∧∀ x∈l,p x=false):=by
 have hp:∃ r,ah (fun st:Int×Int=>if decide (st.2 < (l.length:Int))=true then Option.bind (av l st.2) fun x=>if p x=true then some (.inr (.inr st.2)) else some (.inl (st.1,i64.wrap (st.2 + 1))) else some (.inr (.inl (st.1,st.2)))) ab ((0:Int),(0:Int))=some r∧((∃ i,∃ h:i < l.length,(r:(Int×Int)⊕Int) = .inr (i:Int)∧p l[i] = true∧∀ j (hj:j < i),p l[j] = false)∨((∃ q,r = .inl q)∧∀ x∈l,p x=false)):=by
  refine aM (fun st=>∃ k:Nat,st.2=(k:Int)∧k≤l.length∧∀ j (hj:j < l.length),j < k→p l[j] = false) (fun st=>l.length - st.2.toNat) _ (fun st ⟨k,h1,h2,h3⟩=>?_) ab _ ⟨0,rfl,Nat.zero_le _,fun j _ h=>by omega⟩ (by have:=an hl; show l.length - (0:Int).toNat < ab; omega)
  simp only [h1]
  rcases Nat.lt_or_ge k l.length with hlt | hge
  ·have d1:decide ((k:Int) < (l.length:Int))=true:=by simpa using hlt
   rw [if_pos d1,aC (zq hlt)]
   simp only [zb]
   cases hpk:p l[k] with
   | true =>
    rw [if_pos rfl]
    exact .inr ⟨_,rfl,.inl ⟨k,hlt,rfl,hpk,fun j hj=>h3 j (by omega) hj⟩⟩
   | false =>
    rw [if_neg (by decide),a6 hlt hl]
    refine .inl ⟨_,rfl,⟨k + 1,rfl,hlt,fun j hj hjk=>?_⟩,by simp only [zt]; omega⟩
    rcases Nat.lt_or_ge j k with h | h
    ·exact h3 j hj h
    ·obtain rfl:j=k:=by omega
     exact hpk
  ·have d1:decide ((k:Int) < (l.length:Int))=false:=by simp; omega
   rw [if_neg (by rw [d1]; decide)]
   refine .inr ⟨_,rfl,.inr ⟨⟨_,rfl⟩,fun x hx=>?_⟩⟩
   obtain ⟨j,hj,rfl⟩:=List.getElem_of_mem hx
   exact h3 j hj (by omega)
 obtain ⟨r,h1,h2⟩:=hp
 unfold X4
 rw [h1]
 rcases h2 with ⟨i,h,rfl,h3,h4⟩ | ⟨⟨q,rfl⟩,h3⟩
 ·exact .inl ⟨i,h,rfl,h3,h4⟩
 ·exact .inr ⟨rfl,h3⟩
theorem ZZ {α : Type} (l:List α) (z a : α) (k:Nat) (hk:k≤l.length) (hl:l.length≤900000) :
  (Option.bind (mkO z (i64.wrap ((l.length:Int) + 1))) fun xs=>Option.bind (hiO l (k:Int)) fun lo=>Option.bind (uG xs 0 xs.length lo) fun zs=>Option.bind (av zs (k:Int)) fun _=>Option.bind (vwO (zs.set ((k:Int)).toNat a).length (i64.wrap ((k:Int) + 1)) ((zs.set ((k:Int)).toNat a).length:Int)) fun _=>Option.bind (loO l (k:Int)) fun hi=>Option.bind (uG (zs.set ((k:Int)).toNat a) (i64.wrap ((k:Int) + 1)).toNat (((zs.set ((k:Int)).toNat a).length:Int)).toNat hi) fun r=>some r)=some (l.take k++a::l.drop k):=by
 have h:=aax (l.take k) (l.drop k) z a (by simp; omega)
 have e0:(l.take k).length=k:=by simp; omega
 have e1:(l.drop k).length=l.length - k:=by simp
 rw [e0,e1] at h
 have e2:i64.wrap (i64.wrap ((k:Int) + 1) + ((l.length - k:Nat) : Int))=i64.wrap ((l.length:Int) + 1):=by rw [IntKind.wrap_i64,IntKind.wrap_i64,IntKind.wrap_i64]; omega
 rw [e2] at h
 rw [nZ hk,ko hk]
 exact h
theorem Om {α : Type} (key : α→Int) (l:List α) (a : α) (h:∀ x∈l,key x≠key a) : l.take (l.takeWhile fun x=>decide (key x < key a)).length++a::l.drop (l.takeWhile fun x=>decide (key x < key a)).length=cM key l a:=by
 unfold cM
 cases hq:l[(l.takeWhile fun x=>decide (key x < key a)).length]? with
 | none=>rfl
 | some x =>
  have d:(key x==key a)=false:=by
   have:=h x (List.mem_of_getElem? hq)
   simpa using this
  simp only [d,zf,if_false]
def ez (v_s:aa) (v_c:aw) (st:Unit) (v_i:Int) (x_:ByteArray) : Option ((Unit)⊕((Int)⊕(aa×br))) :=
 (av v_c.ak v_i).bind fun b9=>if (!(b9.toList==x_.toList))=true then
 (dE v_s 14).bind fun c10=>some (.inr (.inr c10))
 else
 some (.inl ())
theorem we (v_s:aa) (v_c:aw) (a_:Unit) (hl:v_s.bN.ak.length≤1000000) : ah (ju v_s v_c) ab (0)=ny (ez v_s v_c) (fun a_=>(.inl ((v_s.bN.ak.length:Int)))) a_ 0 v_s.bN.ak :=
 fa v_s.bN.ak (S:=Int) (fun a_ k_=>(k_)) (ez v_s v_c) (fun a_=>(.inl ((v_s.bN.ak.length:Int)))) (an hl) (fun k a x hx=>by
  unfold ju ez; exact bH)
  (fun a=>by unfold ju; exact cF) a_
def ey (v_s:aa) (v_c:aw) (st:Unit) (x_:aq) : Option ((Unit)⊕((Int)⊕(aa×br))) :=
 (cX x_).bind fun c17=>(if c17=true then (jV v_c x_.bF).bind fun c18=>some (!c18) else some false).bind fun q19=>if q19=true then
 (dE v_s 14).bind fun c20=>some (.inr (.inr c20))
 else
 some (.inl ())
theorem wd (v_s:aa) (v_c:aw) (a_:Unit) (hl:v_s.ai.length≤1000000) : ah (jt v_s v_c) ab (0)=bk (ey v_s v_c) (fun a_=>(.inl ((v_s.ai.length:Int)))) a_ v_s.ai :=
 ay v_s.ai (S:=Int) (fun a_ k_=>(k_)) (ey v_s v_c) (fun a_=>(.inl ((v_s.ai.length:Int)))) (an hl) (fun k a x hx=>by
  unfold jt ey; exact bH)
  (fun a=>by unfold jt; exact cF) a_
def i6 (v_s:aa) (ct:Int) (st:(List Int)) (x_:am) : Option (((List Int))⊕(((List Int)×Int))) :=
 let v_l:=st
 if (x_.bG==ct)=true then
 (aU v_l [x_.fId]).bind fun b4=>let v_l:(List Int):=b4
 some (.inl v_l)
 else
 some (.inl v_l)
theorem CM (v_s:aa) (ct:Int) (a_:(List Int)) (hl:v_s.ac.length≤1000000) : ah (oS v_s ct) ab (a_,(0))=bk (i6 v_s ct) (fun a_=>(a_,((v_s.ac.length:Int)))) a_ v_s.ac :=
 ay v_s.ac (S:=(List Int)×Int) (fun a_ k_=>(a_,(k_))) (i6 v_s ct) (fun a_=>(a_,((v_s.ac.length:Int)))) (an hl) (fun k a x hx=>by
  unfold oS i6; exact bH)
  (fun a=>by unfold oS; exact cF) a_
def gg (v_x:aJ) (v_t:aa) (st:(List Int)) (x_:Int) : Option (((List Int))⊕(((List Int)×Int))) :=
 let cj:=st
 (eL v_t x_).bind fun c11=>let v_c:am:=c11.1
 let yg:Bool:=c11.2
 (if yg=true then some (v_c.bG==v_x.fId) else some false).bind fun q12=>if q12=true then
 (aU cj [v_c.fId]).bind fun b13=>let cj:(List Int):=b13
 some (.inl cj)
 else
 some (.inl cj)
theorem zu (v_x:aJ) (v_t:aa) (a_:(List Int)) (hl:v_x.fW.length≤1000000) : ah (lz v_x v_t) ab (a_,(0))=bk (gg v_x v_t) (fun a_=>(a_,((v_x.fW.length:Int)))) a_ v_x.fW :=
 ay v_x.fW (S:=(List Int)×Int) (fun a_ k_=>(a_,(k_))) (gg v_x v_t) (fun a_=>(a_,((v_x.fW.length:Int)))) (an hl) (fun k a x hx=>by
  unfold lz gg; exact bH)
  (fun a=>by unfold lz; exact cF) a_
def fh (cj:(List Int)) (v_s:aa) (st:(List am)) (x_:Int) : Option (((List am))⊕(((List am)×Int))) :=
 let v_l:=st
 (eL v_s x_).bind fun c4=>let v_c:am:=c4.1
 let bS:Bool:=c4.2
 if bS=true then
 (aU v_l [v_c]).bind fun b5=>let v_l:(List am):=b5
 some (.inl v_l)
 else
 some (.inl v_l)
theorem xJ (cj:(List Int)) (v_s:aa) (a_:(List am)) (hl:cj.length≤1000000) : ah (jX cj v_s) ab (a_,(0))=bk (fh cj v_s) (fun a_=>(a_,((cj.length:Int)))) a_ cj :=
 ay cj (S:=(List am)×Int) (fun a_ k_=>(a_,(k_))) (fh cj v_s) (fun a_=>(a_,((cj.length:Int)))) (an hl) (fun k a x hx=>by
  unfold jX fh; exact bH)
  (fun a=>by unfold jX; exact cF) a_
def dR (v_s:aa) (eW:Int) (st:(List Int)) (x_:am) : Option (((List Int))⊕(((List Int)×Int))) :=
 let v_l:=st
 (if (x_.bC==eW)=true then some (x_.jm != 0) else some false).bind fun q6=>if q6=true then
 (aU v_l [x_.fId]).bind fun b7=>let v_l:(List Int):=b7
 some (.inl v_l)
 else
 some (.inl v_l)
theorem uS (v_s:aa) (eW:Int) (a_:(List Int)) (hl:v_s.ac.length≤1000000) : ah (iI v_s eW) ab (a_,(0))=bk (dR v_s eW) (fun a_=>(a_,((v_s.ac.length:Int)))) a_ v_s.ac :=
 ay v_s.ac (S:=(List Int)×Int) (fun a_ k_=>(a_,(k_))) (dR v_s eW) (fun a_=>(a_,((v_s.ac.length:Int)))) (an hl) (fun k a x hx=>by
  unfold iI dR; exact bH)
  (fun a=>by unfold iI; exact cF) a_
def fg (kj:(List aL)) (v_s:aa) (st:(List aL)) (x_:aL) : Option (((List aL))⊕(((List aL)×Int)⊕((List aL)×Int))) :=
 let v_l:=st
 (pB x_ (v_s.bN.ak.length:Int)).bind fun c5=>let v_e:Int:=c5
 if (v_e != 0)=true then
 some (.inr (.inr ([],v_e)))
 else
 (FD v_l x_).bind fun c6=>let v_l:(List aL):=c6.1
 let v_e:Int:=c6.2
 if (v_e != 0)=true then
 some (.inr (.inr ([],v_e)))
 else
 some (.inl v_l)
theorem xH (kj:(List aL)) (v_s:aa) (a_:(List aL)) (hl:kj.length≤1000000) : ah (jW kj v_s) ab (a_,(0))=bk (fg kj v_s) (fun a_=>(.inl (a_,((kj.length:Int))))) a_ kj :=
 ay kj (S:=(List aL)×Int) (fun a_ k_=>(a_,(k_))) (fg kj v_s) (fun a_=>(.inl (a_,((kj.length:Int))))) (an hl) (fun k a x hx=>by
  unfold jW fg; exact bH)
  (fun a=>by unfold jW; exact cF) a_
def ew (v_x:aJ) (st:aa×aq) (x_:Int) : Option ((aa×aq)⊕((aa×aq×Int))) :=
 let v_s:=st.1
 let v_a:=st.2
 (eL v_s x_).bind fun c17=>let v_c:am:=c17.1
 let yg:Bool:=c17.2
 (if yg=true then some (v_c.bC==v_a.fId) else some false).bind fun q18=>(if q18=true then some (!v_c.bB) else some false).bind fun q19=>if q19=true then
 (qa v_s v_c.fId).bind fun c20=>let v_s:aa:=c20
 (je v_a.bM v_c.fId).bind fun c21=>let v_a:aq:={ v_a with bM:=c21.1 }
 some (.inl (v_s,v_a))
 else
 some (.inl (v_s,v_a))
theorem wb (v_x:aJ) (a_:aa×aq) (hl:v_x.fW.length≤1000000) : ah (jr v_x) ab (a_.1,a_.2,(0))=bk (ew v_x) (fun a_=>(a_.1,a_.2,((v_x.fW.length:Int)))) a_ v_x.fW :=
 ay v_x.fW (S:=aa×aq×Int) (fun a_ k_=>(a_.1,a_.2,(k_))) (ew v_x) (fun a_=>(a_.1,a_.2,((v_x.fW.length:Int)))) (an hl) (fun k a x hx=>by
  unfold jr ew; exact bH)
  (fun a=>by unfold jr; exact cF) a_
def gf (v_s:aa) (eW:Int) (st:Unit) (x_:am) : Option ((Unit)⊕((Int)⊕(Int))) :=
 (if (x_.bC==eW)=true then some x_.bB else some false).bind fun q5=>if q5=true then
 some (.inr (.inr x_.fId))
 else
 some (.inl ())
theorem zr (v_s:aa) (eW:Int) (a_:Unit) (hl:v_s.ac.length≤1000000) : ah (ly v_s eW) ab (0)=bk (gf v_s eW) (fun a_=>(.inl ((v_s.ac.length:Int)))) a_ v_s.ac :=
 ay v_s.ac (S:=Int) (fun a_ k_=>(k_)) (gf v_s eW) (fun a_=>(.inl ((v_s.ac.length:Int)))) (an hl) (fun k a x hx=>by
  unfold ly gf; exact bH)
  (fun a=>by unfold ly; exact cF) a_
def gc (v_l:(List Int)) (st:aa) (x_:Int) : Option ((aa)⊕((aa×Int))) :=
 let v_s:=st
 (yY v_s x_).bind fun c12=>(fF c12 x_).bind fun c13=>let v_s:aa:=c13
 (xI v_s x_).bind fun c14=>(jg v_s c14).bind fun c15=>let v_s:aa:=c15
 some (.inl v_s)
theorem zn (v_l:(List Int)) (a_:aa) (hl:v_l.length≤1000000) : ah (lx v_l) ab (a_,(0))=bk (gc v_l) (fun a_=>(a_,((v_l.length:Int)))) a_ v_l :=
 ay v_l (S:=aa×Int) (fun a_ k_=>(a_,(k_))) (gc v_l) (fun a_=>(a_,((v_l.length:Int)))) (an hl) (fun k a x hx=>by
  unfold lx gc; exact bH)
  (fun a=>by unfold lx; exact cF) a_
def gb (v_l:(List Int)) (st:aa) (x_:Int) : Option ((aa)⊕((aa×Int))) :=
 let v_s:=st
 (uT v_s x_).bind fun c17=>(jg v_s ([c17] : (List Int))).bind fun c18=>let v_s:aa:=c18
 some (.inl v_s)
theorem zl (v_l:(List Int)) (a_:aa) (hl:v_l.length≤1000000) : ah (lw v_l) ab (a_,(0))=bk (gb v_l) (fun a_=>(a_,((v_l.length:Int)))) a_ v_l :=
 ay v_l (S:=aa×Int) (fun a_ k_=>(a_,(k_))) (gb v_l) (fun a_=>(a_,((v_l.length:Int)))) (an hl) (fun k a x hx=>by
  unfold lw gb; exact bH)
  (fun a=>by unfold lw; exact cF) a_
def ga (v_s:aa) (st:(List a7)) (x_:a7) : Option (((List a7))⊕(((List a7)×Int))) :=
 let yd:=st
 if (decide (x_.jJ > v_s.bW))=true then
 (aU yd [x_]).bind fun b21=>let yd:(List a7):=b21
 some (.inl yd)
 else
 some (.inl yd)
theorem zk (v_s:aa) (a_:(List a7)) (hl:v_s.bg.length≤1000000) : ah (lu v_s) ab (a_,(0))=bk (ga v_s) (fun a_=>(a_,((v_s.bg.length:Int)))) a_ v_s.bg :=
 ay v_s.bg (S:=(List a7)×Int) (fun a_ k_=>(a_,(k_))) (ga v_s) (fun a_=>(a_,((v_s.bg.length:Int)))) (an hl) (fun k a x hx=>by
  unfold lu ga; exact bH)
  (fun a=>by unfold lu; exact cF) a_
def i8 (v_l:(List a7)) (af:Int) (v_t:Int) (st:ax) (x_:a7) : Option ((ax)⊕((ax×Int))) :=
 let v_v:=st
 (if (x_.aY==af)=true then some (decide (x_.nG≤v_t)) else some false).bind fun q8=>(if q8=true then some (decide (v_t < x_.jJ)) else some false).bind fun q9=>if q9=true then
 (dc v_v x_.iH).bind fun c10=>let v_v:ax:=c10
 some (.inl v_v)
 else
 some (.inl v_v)
theorem CO (v_l:(List a7)) (af:Int) (v_t:Int) (a_:ax) (hl:v_l.length≤1000000) : ah (oU v_l af v_t) ab (a_,(0))=bk (i8 v_l af v_t) (fun a_=>(a_,((v_l.length:Int)))) a_ v_l :=
 ay v_l (S:=ax×Int) (fun a_ k_=>(a_,(k_))) (i8 v_l af v_t) (fun a_=>(a_,((v_l.length:Int)))) (an hl) (fun k a x hx=>by
  unfold oU i8; exact bH)
  (fun a=>by unfold oU; exact cF) a_
def gu (v_l:(List a7)) (v_t:Int) (gK:Int) (v_p:a7) (fJ:ax) (st:Unit) (x_:a7) : Option ((Unit)⊕((Int)⊕(Bool))) :=
 let v_u:Int:=x_.nG
 (if (decide (v_u > v_t))=true then some (decide ((i64.wrap (v_u - v_t)) < gK)) else some false).bind fun q10=>(if q10=true then (u4 v_l v_p.aY v_u).bind fun c11=>(dc c11 v_p.iH).bind fun c12=>(fL c12 fJ).bind fun c13=>some (!c13) else some false).bind fun q14=>if q14=true then
 some (.inr (.inr false))
 else
 some (.inl ())
theorem zG (v_l:(List a7)) (v_t:Int) (gK:Int) (v_p:a7) (fJ:ax) (a_:Unit) (hl:v_l.length≤1000000) : ah (lJ v_l v_t gK v_p fJ) ab (0)=bk (gu v_l v_t gK v_p fJ) (fun a_=>(.inl ((v_l.length:Int)))) a_ v_l :=
 ay v_l (S:=Int) (fun a_ k_=>(k_)) (gu v_l v_t gK v_p fJ) (fun a_=>(.inl ((v_l.length:Int)))) (an hl) (fun k a x hx=>by
  unfold lJ gu; exact bH)
  (fun a=>by unfold lJ; exact cF) a_
def ib (v_s:aa) (v_p:a7) (st:Int) (v_i:Int) (x_:a7) : Option ((Int)⊕((Int×Int)⊕(aa×Int×Int))) :=
 let v_k:=st
 if (x_.fId==v_p.fId)=true then
 some (.inr (.inr (v_s,0,7)))
 else
 if (decide (x_.fId < v_p.fId))=true then
 let v_k:Int:=(i64.wrap (v_i + 1))
 some (.inl v_k)
 else
 some (.inl v_k)
theorem BB (v_s:aa) (v_p:a7) (a_:Int) (hl:v_s.bg.length≤1000000) : ah (np v_s v_p) ab (a_,(0))=ny (ib v_s v_p) (fun a_=>(.inl (a_,((v_s.bg.length:Int))))) a_ 0 v_s.bg :=
 fa v_s.bg (S:=Int×Int) (fun a_ k_=>(a_,(k_))) (ib v_s v_p) (fun a_=>(.inl (a_,((v_s.bg.length:Int))))) (an hl) (fun k a x hx=>by
  unfold np ib; exact bH)
  (fun a=>by unfold np; exact cF) a_
def gv (v_s:aa) (bA:Int) (st:(List a7)) (x_:a7) : Option (((List a7))⊕(((List a7)×Int))) :=
 let v_l:=st
 if (x_.fId != bA)=true then
 (aU v_l [x_]).bind fun b4=>let v_l:(List a7):=b4
 some (.inl v_l)
 else
 some (.inl v_l)
theorem zH (v_s:aa) (bA:Int) (a_:(List a7)) (hl:v_s.bg.length≤1000000) : ah (lK v_s bA) ab (a_,(0))=bk (gv v_s bA) (fun a_=>(a_,((v_s.bg.length:Int)))) a_ v_s.bg :=
 ay v_s.bg (S:=(List a7)×Int) (fun a_ k_=>(a_,(k_))) (gv v_s bA) (fun a_=>(a_,((v_s.bg.length:Int)))) (an hl) (fun k a x hx=>by
  unfold lK gv; exact bH)
  (fun a=>by unfold lK; exact cF) a_
theorem Up (l:List a7) (k t:Int) (hl:l.length≤1000000) : ∃ r,u4 l k t=some r:=by
 unfold u4
 dsimp only
 rw [CO l k t _ hl]
 obtain ⟨r,e1,_⟩:=aR (g:=i8 l k t) (fin:=fun b=>(b,(l.length:Int))) (fun _ _=>True) (fun _=>True) l 0 (⟨0,0⟩ : ax) (fun j b x hx _=>by
  unfold i8
  simp only [eu,zb,dH]
  split <;> exact ⟨_,rfl,fun _ _=>trivial,fun _ _=>trivial⟩) (fun _ _=>trivial) trivial
 rw [e1]
 exact ⟨_,rfl⟩
def AtV (l:List a7) (k t:Int) : ax:=(u4 l k t).getD ⟨0,0⟩
theorem I0 (l:List a7) (k t:Int) (hl:l.length≤1000000) : u4 l k t=some (AtV l k t):=by
 obtain ⟨r,e⟩:=Up l k t hl
 unfold AtV
 rw [e]
 rfl
theorem Np (n:Int) : uY n=some (decide (n≥0)&&decide (n≤1073741824)):=by unfold uY; simp only [dH,zb]
def YO (l:List a7) (v:ax) (p:a7) (t n:Int) : Bool:=(sf l v p t n).getD false
theorem Nq (l:List a7) (v:ax) (p:a7) (t n:Int) (hl:l.length≤1000000) : sf l v p t n=some (YO l v p t n):=by
 have:∃ r,sf l v p t n=some r:=by
  unfold sf
  simp only [I0 l _ _ hl,eu,kx,zb]
  split
  ·exact ⟨_,rfl⟩
  rw [zG l t n p v () hl]
  obtain ⟨r,e1,_⟩:=aR (g:=gu l t n p v) (fin:=fun _=>(.inl (l.length:Int))) (fun _ _=>True) (fun _=>True) l 0 () (fun j b x hx _=>by
   unfold gu
   simp only [I0 l _ _ hl,eu,kx,zb,dH]
   split <;> exact ⟨_,rfl,fun _ _=>trivial,fun _ _=>trivial⟩) (fun _ _=>trivial) trivial
  rw [e1]
  cases r <;> exact ⟨_,rfl⟩
 obtain ⟨r,e⟩:=this
 unfold YO
 rw [e]
 rfl
theorem KF (l:List a7) (v:ax) (p:a7) (n:Int) (hl:l.length≤1000000) : ∃ r,vP l v p n=some r:=by
 unfold vP
 simp only [Np,zb,orB]
 split
 ·exact ⟨_,rfl⟩
 have hw:∀ k:Int,-1≤k→k≤1000000000→i64.wrap (k + 1)=k + 1:=fun k h1 h2=>Hi (by omega) (by omega)
 obtain ⟨r,e1,_⟩:=aM (f:=oe l p n v) (fun st=>-1≤st.2∧st.2≤(l.length:Int)) (fun st=>((l.length:Int) - st.2).toNat) (fun _=>True) (fun st ⟨h1,h2⟩=>by
  unfold oe
  by_cases hlt:st.2 < (l.length:Int)
  ·have hn:((l.length:Int) - (st.2 + 1)).toNat < ((l.length:Int) - st.2).toNat:=by omega
   simp only [hlt,decide_true,if_true,Nq l _ _ _ _ hl,dH,orB,zb,hw _ h1 (by omega)]
   by_cases h0:st.2≥0
   ·obtain ⟨x,hx,_⟩:=L1 h0 hlt
    simp only [h0,decide_true,if_true,hx,zb]
    split <;> exact .inl ⟨_,rfl,⟨by show -1≤st.2 + 1; omega,by show st.2 + 1≤_; omega⟩,hn⟩
   ·simp only [h0,decide_false,zf,if_false,zb]
    split <;> exact .inl ⟨_,rfl,⟨by show -1≤st.2 + 1; omega,by show st.2 + 1≤_; omega⟩,hn⟩
  ·simp only [hlt,decide_false,zf,if_false]
   exact .inr ⟨_,rfl,trivial⟩) ab (-1,-1) ⟨by simp,by show (-1:Int)≤_; omega⟩ (by show ((l.length:Int) - (-1)).toNat < ab; unfold ab; omega)
 rw [e1]
 simp only [zb]
 split <;> exact ⟨_,rfl⟩
theorem SzS.plan {B:Nat} {s:aa} (h:SzS B s) {l:List a7} (hl:l.length≤B) : SzS B { s with bg:=l } := ⟨h.conf,h.nodes,h.apps,h.conts,h.slots,hl,h.app⟩
theorem Qo {B:Nat} {s:aa} (h:SzS B s) (hB:B + 1≤1000000) (p:a7) (n:Int) : ∃ r,zI s p n=some r∧SzS (B + 1) r.1∧r.1.ac=s.ac∧r.1.ai=s.ai:=by
 have k1:=h.plans; have k2:=h.nodes.1
 have hm:=h.mono (Nat.le_succ B)
 unfold zI
 simp only [zb,orB]
 split
 ·exact ⟨_,rfl,hm,rfl,rfl⟩
 rw [BB s p 0 (by omega)]
 obtain ⟨r,e1,e2⟩:=mu (g:=ib s p) (fin:=fun b=>(.inl (b,(s.bg.length:Int)))) (fun j b=>∃ K:Nat,b=(K:Int)∧K≤j) (fun r=>match r with | .inl m=>∃ K:Nat,m.1=(K:Int)∧K≤s.bg.length | .inr m=>m.1=s) s.bg 0 0 (fun j b x hx ⟨K,hK,hj⟩=>by
  have hj2:=(zg.1 hx).1
  unfold ib
  dsimp only
  split
  ·exact ⟨_,rfl,fun a' e=>(by cases e),fun r e=>(by injection e with e; subst e; rfl)⟩
  split
  ·refine ⟨_,rfl,fun a' e=>?_,fun r e=>by cases e⟩
   injection e with e
   subst e
   exact ⟨0 + j + 1,a6 (by omega : 0 + j < 1000000) (Nat.le_refl _),Nat.le_refl _⟩
  ·refine ⟨_,rfl,fun a' e=>?_,fun r e=>by cases e⟩
   injection e with e
   subst e
   exact ⟨K,hK,by omega⟩) (fun b ⟨K,hK,hj⟩=>⟨K,hK,by omega⟩) ⟨0,rfl,Nat.le_refl _⟩
 rw [e1]
 simp only [zb]
 cases r with
 | inr m=>exact ⟨_,rfl,by rw [show m.1=s from e2]; exact hm,by rw [show m.1=s from e2],by rw [show m.1=s from e2]⟩
 | inl m =>
  obtain ⟨K,hK,hK2⟩:=e2
  obtain ⟨c,hc⟩:=KF s.bg (uM s p.aY) p n (by omega)
  simp only [hK,nK s _ (Nat.le_trans k2 (by omega)),hc,zb]
  split
  ·exact ⟨_,rfl,hm,rfl,rfl⟩
  split
  ·exact ⟨_,rfl,hm,rfl,rfl⟩
  split
  ·exact ⟨_,rfl,hm,rfl,rfl⟩
  rw [nZ hK2]
  simp only [zb]
  rw [aD (by simp; omega)]
  simp only [zb]
  rw [aD (by simp; omega)]
  simp only [zb]
  rw [ko hK2]
  simp only [zb]
  rw [aD (by simp; omega)]
  exact ⟨_,rfl,hm.plan (by simp; omega),rfl,rfl⟩
theorem Nt {B:Nat} {s:aa} (h:SzS B s) (hB:B≤1000000) (id:Int) : ∃ r,uZ s id=some r∧SzS B r.1∧r.1.ac=s.ac∧r.1.ai=s.ai:=by
 have k1:=h.plans
 unfold uZ
 dsimp only
 have e:gv s id=fun acc x=>if (x.fId != id)=true then (aU acc [id' x]).map (fun a=>(.inl a:List a7⊕(List a7×Int))) else some (.inl acc):=by
  funext acc x
  unfold gv
  dsimp only [id']
  split
  ·cases aU acc [x] <;> rfl
  ·rfl
 rw [zH s id [] (by omega),e,cr (fun c:a7=>c.fId != id) id' _ s.bg [] (by simp; omega)]
 simp only [zb,List.nil_append,yB]
 split
 ·exact ⟨_,rfl,h,rfl,rfl⟩
 ·exact ⟨_,rfl,h.plan (Nat.le_trans (List.length_filter_le _ _) k1),rfl,rfl⟩
theorem ky (s:aa) (e:Int) : dE s e=some (s,⟨e,[],[],[],0⟩):=rfl
theorem OkS.node {M:Nat} {s:aa} (h:OkS M s) {l:List aX} (hl:l.length≤s.aB.length + 1) (hs:jK aX.fId l) (hn:∀ n∈l,(0≤n.bL∧n.bL≤1000000000)∧0≤n.ce) : OkS (M + 1) { s with aB:=l } := by
 obtain ⟨⟨B,h1,h2⟩,h3⟩:=h
 have k:=h1.mono (Nat.le_succ B)
 have k1:=h1.nodes
 exact ⟨⟨B + 1,⟨k.conf,⟨by show l.length≤B + 1; omega,hs,k1.2.2.1,hn⟩,k.apps,k.conts,k.slots,k.plans,k.app⟩,by show B + 1 + s.ac.length≤_; omega⟩,h3⟩
theorem OkS.nodeIn {M:Nat} {s:aa} (h:OkS M s) {n:aX} (hi:sN s n.fId=true) (hn:(0≤n.bL∧n.bL≤1000000000)∧0≤n.ce) : OkS M { s with aB:=cM aX.fId s.aB n } := by
 obtain ⟨⟨B,h1,h2⟩,h3⟩:=h
 have k1:=h1.nodes
 unfold sN at hi
 rw [List.any_eq_true] at hi
 obtain ⟨x,hx,hxe⟩:=hi
 have hlen:=qM aX.fId n s.aB k1.2.1 ⟨x,hx,by simpa using hxe⟩
 exact ⟨⟨B,⟨h1.conf,⟨by show (cM _ _ _).length≤B; omega,iR _ _ _ k1.2.1,k1.2.2.1,fun y hy=>by rcases mB hy with rfl | hy; exact hn; exact k1.2.2.2 y hy⟩,h1.apps,h1.conts,h1.slots,h1.plans,h1.app⟩,h2⟩,h3⟩
theorem OkS.small {M:Nat} {s:aa} (h:OkS M s) : s.aB.length≤M∧s.ai.length≤M∧s.ac.length≤M∧s.aQ.length≤M∧s.bg.length≤M:=⟨h.sz.nodes.1,h.sz.apps,h.sz.conts,h.sz.slots,h.sz.plans⟩
theorem LX {s:aa} {id:Int} (h:sN s id=true) : (eP s id).fId=id:=by
 unfold sN at h
 rw [List.any_eq_true] at h
 obtain ⟨x,hx,e⟩:=h
 unfold eP
 cases hf:s.aB.find? fun c=>c.fId==id with
 | none=>have:=List.find?_eq_none.1 hf x hx; exact absurd e (by simpa using this)
 | some a=>simpa using List.find?_some hf
theorem U5 {M:Nat} {s:aa} (h:OkS M s) {id:Int} : (0≤(eP s id).bL∧(eP s id).bL≤1000000000)∧0≤(eP s id).ce:=by
 unfold eP
 cases hf:s.aB.find? fun c=>c.fId==id with
 | none=>exact ⟨⟨Int.le_refl _,by decide⟩,Int.le_refl _⟩
 | some a=>exact h.sz.nodes.2.2.2 a (List.mem_of_find?_eq_some hf)
theorem Zd {M:Nat} {s:aa} (h:OkS M s) (n:aX) : OkS (M + 1) (XB s n).1:=by
 unfold XB
 split
 ·exact h.mono (Nat.le_succ _)
 split
 ·exact h.mono (Nat.le_succ _)
 split
 ·exact h.mono (Nat.le_succ _)
 ·exact h.node (xd _ _ _) (iR _ _ _ h.sz.nodes.2.1) (fun y hy=>by rcases mB hy with rfl | hy; exact ⟨h.sz.nodes.2.2.1,Int.le_refl _⟩; exact h.sz.nodes.2.2.2 y hy)
theorem Yy {M:Nat} {s:aa} (h:OkS M s) (id b:Int) : OkS M (MJ s id b).1:=by
 unfold MJ
 split
 ·exact h
 split
 ·exact h
 split
 ·exact h
 split
 ·exact h
 split
 ·exact h
 ·rename_i hu _ hb _ _
  have hu:sN s id=true:=by simpa using hu
  exact h.nodeIn (n:={ eP s id with bL:=s.bW,ce:=b }) (by show sN s (eP s id).fId=true; rw [LX hu]; exact hu) ⟨h.sz.nodes.2.2.1,by simpa using hb⟩
theorem Yh {M:Nat} {s:aa} (h:OkS M s) (id:Int) : OkS M (RV s id):=by
 unfold RV
 split
 ·rename_i hu
  exact h.nodeIn (n:={ eP s id with fUp:=false }) (by show sN s (eP s id).fId=true; rw [LX hu]; exact hu) (U5 h)
 ·exact h
theorem OkS.fewer {M:Nat} {s:aa} (h:OkS M s) {c:List am} {l:List bt} (hc:c.length≤s.ac.length) (hl:l.length≤s.aQ.length) : OkS M { s with ac:=c,aQ:=l } := by
 obtain ⟨⟨B,h1,h2⟩,h3⟩:=h
 exact ⟨⟨B,h1.fewer hc hl,by show B + c.length≤M; omega⟩,h3⟩
theorem OkS.put {M:Nat} {s:aa} (h:OkS M s) {a:aq} {k:Nat} (ha:∀ B,SzS B s→SzA (B + k) a) : OkS (M + k + 1) { s with ai:=cM aq.fId s.ai a } := by
 obtain ⟨⟨B,h1,h2⟩,h3⟩:=h
 have k1:=(h1.mono (Nat.le_add_right B k)).put ((ha B h1).mono (Nat.le_succ _))
 exact ⟨⟨B + k + 1,k1,by show B + k + 1 + s.ac.length≤_; omega⟩,iR _ _ _ h3⟩
theorem OkS.now {M:Nat} {s:aa} (h:OkS M s) {n:Int} (hn : 0≤n∧n≤1000000000) : OkS M { s with bW:=n } := by
 obtain ⟨⟨B,h1,h2⟩,h3⟩:=h
 exact ⟨⟨B,⟨h1.conf,⟨h1.nodes.1,h1.nodes.2.1,hn,h1.nodes.2.2.2⟩,h1.apps,h1.conts,h1.slots,h1.plans,h1.app⟩,h2⟩,h3⟩
theorem OkS.epoch {M:Nat} {s:aa} (h:OkS M s) (n k:Int) : OkS M { s with pw:=n,rM:=k } := by
 obtain ⟨⟨B,h1,h2⟩,h3⟩:=h
 exact ⟨⟨B,⟨h1.conf,h1.nodes,h1.apps,h1.conts,h1.slots,h1.plans,h1.app⟩,h2⟩,h3⟩
theorem OkS.newConf {M:Nat} {s:aa} (h:OkS M s) {c:aw} (hc:Ar c) : OkS M { s with bN:=c } := by
 obtain ⟨⟨B,h1,h2⟩,h3⟩:=h
 exact ⟨⟨B,⟨hc,h1.nodes,h1.apps,h1.conts,h1.slots,h1.plans,h1.app⟩,h2⟩,h3⟩
theorem OkS.plans {M:Nat} {s:aa} (h:OkS M s) {l:List a7} (hl:l.length≤s.bg.length) : OkS M { s with bg:=l } := by
 obtain ⟨⟨B,h1,h2⟩,h3⟩:=h
 exact ⟨⟨B,h1.plan (Nat.le_trans hl h1.plans),h2⟩,h3⟩
theorem OkS.lose {M:Nat} {s:aa} (h:OkS M s) (ids:List Int) (hI:ids.length≤1000000) (hM:M + 1≤1000000) : ∃ r,jg s ids=some r∧OkS M r:=by
 obtain ⟨r,h1,h2,h3,_⟩:=Gi h.m h.srt ids hI hM
 exact ⟨r,h1,h2,h3⟩
theorem OkS.r14 {M:Nat} {s:aa} (h:OkS M s) (hM:M + 100≤1000000) (id:Int) : ∃ r,p8 s id=some r∧OkS (M + 40) r.1:=by
 obtain ⟨⟨B,h1,h2⟩,h3⟩:=h
 obtain ⟨r,r1,r2,_⟩:=NC h1 h3 (by omega) id
 have r4:=F7 r1
 exact ⟨r,r1,⟨B + 24 + 2,r2.1,by omega⟩,r2.2⟩
theorem Tt {M:Nat} {s:aa} (h:OkS M s) (hM:M≤1000000) (text:ByteArray) : ∃ r,th s text=some r∧OkS M r.1:=by
 obtain ⟨p,p1,p2⟩:=M5 text
 have k1:=h.small
 have kc:=h.sz.conf.sz.labels
 unfold th
 simp only [p1,zb]
 have hchk:∃ e,(if (p.2==0)=true then Option.bind (uP p.1) fun c3=>some c3 else some p.2)=some e∧(e=0→Ar p.1):=by
  split
  ·obtain ⟨c,c1,c2⟩:=MZ p2
   rw [c1]
   exact ⟨c,rfl,fun e=>(c2 e).form⟩
  ·rename_i hne
   exact ⟨_,rfl,fun e=>absurd (by rw [e]; rfl) hne⟩
 obtain ⟨e,e1,e2⟩:=hchk
 rw [e1]
 simp only [zb,ky]
 split
 ·exact ⟨_,rfl,h⟩
 rename_i hz
 have hf:=e2 (by simpa using hz)
 split
 ·exact ⟨_,rfl,h⟩
 rename_i hlab
 have hlab:s.bN.ak.length≤p.1.ak.length:=by have:=of_decide_eq_false (by simpa using hlab:decide ((p.1.ak.length:Int) < (s.bN.ak.length:Int))=false); omega
 rw [we s p.1 () (by omega)]
 obtain ⟨r,r1,r2⟩:=mu (g:=ez s p.1) (fin:=fun _=>(.inl (s.bN.ak.length:Int))) (fun _ _=>True) (fun r=>∀ m,r = .inr m→OkS M m.1) s.bN.ak 0 () (fun j a x hx _=>by
  have hj:=(zg.1 hx).1
  unfold ez
  simp only [Nat.zero_add,aC (zq (show j < p.1.ak.length by omega)),zb,ky]
  split
  ·exact ⟨_,rfl,fun a' e=>(by cases e),fun r e m em=>(by injection e with e; subst e; injection em with em; subst em; exact h)⟩
  ·exact ⟨_,rfl,fun a' e=>trivial,fun r e=>(by cases e)⟩) (fun b _ m em=>by cases em) trivial
 rw [r1]
 simp only [zb]
 cases r with
 | inr m=>exact ⟨m,rfl,r2 m rfl⟩
 | inl m =>
  dsimp only
  rw [wd s p.1 () (by omega)]
  obtain ⟨q,q1,q2⟩:=aR (g:=ey s p.1) (fin:=fun _=>(.inl (s.ai.length:Int))) (fun _ _=>True) (fun r=>∀ m,r = .inr m→OkS M m.1) s.ai 0 () (fun j a x hx _=>by
   unfold ey
   simp only [ec,xG _ _ hf.sz,zb,ky,dH]
   split
   ·exact ⟨_,rfl,fun a' e=>(by cases e),fun r e m em=>(by injection e with e; subst e; injection em with em; subst em; exact h)⟩
   ·exact ⟨_,rfl,fun a' e=>trivial,fun r e=>(by cases e)⟩) (fun b _ m em=>by cases em) trivial
  rw [q1]
  simp only [zb]
  cases q with
  | inr m=>exact ⟨m,rfl,q2 m rfl⟩
  | inl m=>exact ⟨_,rfl,h.newConf hf⟩
theorem Vt (s:aa) (n:Int) (hl:s.ac.length≤1000000) : ∃ r,xI s n=some r∧r.length≤s.ac.length:=by
 unfold xI
 dsimp only
 rw [CM s n [] hl]
 obtain ⟨r,r1,r2⟩:=aR (g:=i6 s n) (fin:=fun b=>(b,(s.ac.length:Int))) (fun k b=>b.length≤k) (fun r=>r.1.length≤s.ac.length) s.ac 0 [] (fun j b x hx hb=>by
  have hj:=(zg.1 hx).1
  unfold i6
  dsimp only
  split
  ·rw [aD (by simp; omega)]
   exact ⟨_,rfl,fun a' e=>(by injection e with e; subst e; simp; omega),fun r e=>(by cases e)⟩
  ·exact ⟨_,rfl,fun a' e=>(by injection e with e; subst e; omega),fun r e=>(by cases e)⟩) (fun b hb=>(by simpa using hb)) (by simp)
 rw [r1]
 exact ⟨_,rfl,r2⟩
theorem Ej (s:aa) (n:Int) (hl:s.ac.length≤1000000) : ∃ r,nP s n=some r:=by
 unfold nP
 dsimp only
 rw [uS s n [] hl]
 obtain ⟨r,r1,r2⟩:=aR (g:=dR s n) (fin:=fun b=>(b,(s.ac.length:Int))) (fun k b=>b.length≤k) (fun _=>True) s.ac 0 [] (fun j b x hx hb=>by
  have hj:=(zg.1 hx).1
  unfold dR
  simp only [dH,zb]
  split
  ·rw [aD (by simp; omega)]
   exact ⟨_,rfl,fun a' e=>(by injection e with e; subst e; simp; omega),fun r e=>(by cases e)⟩
  ·exact ⟨_,rfl,fun a' e=>(by injection e with e; subst e; omega),fun r e=>(by cases e)⟩) (fun b hb=>trivial) (by simp)
 rw [r1]
 exact ⟨_,rfl⟩
theorem MD (ids:List Int) (s:aa) (hl:s.ac.length≤1000000) (hi:ids.length≤1000000) : ∃ r,sa s ids=some r:=by
 unfold sa
 dsimp only
 rw [xJ ids s [] hi]
 obtain ⟨r,r1,r2⟩:=aR (g:=fh ids s) (fin:=fun b=>(b,(ids.length:Int))) (fun k b=>b.length≤k) (fun _=>True) ids 0 [] (fun j b x hx hb=>by
  have hj:=(zg.1 hx).1
  unfold fh
  simp only [kH s x hl,zb]
  split
  ·rw [aD (by simp; omega)]
   exact ⟨_,rfl,fun a' e=>(by injection e with e; subst e; simp; omega),fun r e=>(by cases e)⟩
  ·exact ⟨_,rfl,fun a' e=>(by injection e with e; subst e; omega),fun r e=>(by cases e)⟩) (fun b hb=>trivial) (by simp)
 rw [r1]
 exact ⟨_,rfl⟩
theorem UR (s:aa) (l more:List aL) (hl:l.length≤100000) (hm:more.length≤1000000) : ∃ r,vL s l more=some r∧r.1.length≤l.length + 8:=by
 unfold vL
 dsimp only
 rw [xH more s l hm]
 obtain ⟨r,r1,r2⟩:=aR (g:=fg more s) (fin:=fun b=>(.inl (b,(more.length:Int)))) (fun _ b=>b.length≤l.length + 8∧b.length≤100000) (fun r=>(∀ m,r = .inl m→m.1.length≤l.length + 8)∧∀ m,r = .inr m→m.1.length≤l.length + 8) more 0 l (fun j b x hx hb=>by
  unfold fg
  simp only [MP,zb]
  split
  ·exact ⟨_,rfl,fun a' e=>(by cases e),fun r e=>(by injection e with e; subst e; exact ⟨fun m em=>(by cases em),fun m em=>(by injection em with em; subst em; exact Nat.zero_le _)⟩)⟩
  obtain ⟨t,t1,t2⟩:=TG b x hb.2
  simp only [t1,zb]
  split
  ·exact ⟨_,rfl,fun a' e=>(by cases e),fun r e=>(by injection e with e; subst e; exact ⟨fun m em=>(by cases em),fun m em=>(by injection em with em; subst em; exact Nat.zero_le _)⟩)⟩
  ·exact ⟨_,rfl,fun a' e=>(by injection e with e; subst e; exact ⟨by omega,by omega⟩),fun r e=>(by cases e)⟩) (fun b hb=>⟨fun m em=>(by injection em with em; subst em; exact hb.1),fun m em=>(by cases em)⟩) ⟨by omega,hl⟩
 rw [r1]
 simp only [zb]
 cases r with
 | inr m=>exact ⟨_,rfl,r2.2 _ rfl⟩
 | inl m=>exact ⟨_,rfl,r2.1 m rfl⟩
theorem Yv (s:aa) (n:Int) (hl:s.ac.length≤1000000) : ∃ r,uT s n=some r:=by
 unfold uT
 dsimp only
 rw [zr s n () hl]
 obtain ⟨r,r1,r2⟩:=aR (g:=gf s n) (fin:=fun _=>(.inl (s.ac.length:Int))) (fun _ _=>True) (fun _=>True) s.ac 0 () (fun j b x hx hb=>by
  unfold gf
  simp only [dH,zb]
  split
  ·exact ⟨_,rfl,fun a' e=>trivial,fun r e=>trivial⟩
  ·exact ⟨_,rfl,fun a' e=>trivial,fun r e=>trivial⟩) (fun b hb=>trivial) trivial
 rw [r1]
 simp only [zb]
 cases r <;> exact ⟨_,rfl⟩
theorem LI {M:Nat} {s:aa} (h:OkS M s) (hM:M + 100≤1000000) (x:aJ) (hx:x.fW.length≤1000000) : ∃ r,zv s x=some r∧OkS (M + 40) r.1:=by
 have k1:=h.small
 unfold zv
 simp only [mJ s _ (show s.aB.length≤1000000 by omega),zb,dH]
 obtain ⟨o,o1,_⟩:=Vt s x.fId (by omega)
 split
 ·rw [o1]
  exact ⟨_,rfl,h.mono (by omega)⟩
 rw [Pr s _ _ (by omega)]
 simp only [zb,ky]
 split
 ·exact ⟨_,rfl,h.mono (by omega)⟩
 have hb:=Yy h x.fId x.ce
 generalize (MJ s x.fId x.ce).1=t at hb
 have k2:=hb.small
 rw [zu x t [] hx]
 obtain ⟨r,r1,r2⟩:=aR (g:=gg x t) (fin:=fun b=>(b,(x.fW.length:Int))) (fun k b=>b.length≤k) (fun r=>r.1.length≤x.fW.length) x.fW 0 [] (fun j b y hy hb=>by
  have hj:=(zg.1 hy).1
  unfold gg
  simp only [kH t y (show t.ac.length≤1000000 by omega),zb,dH]
  split
  ·rw [aD (by simp; omega)]
   exact ⟨_,rfl,fun a' e=>(by injection e with e; subst e; simp; omega),fun r e=>(by cases e)⟩
  ·exact ⟨_,rfl,fun a' e=>(by injection e with e; subst e; omega),fun r e=>(by cases e)⟩) (fun b hb=>(by simpa using hb)) (by simp)
 rw [r1]
 simp only [zb]
 obtain ⟨a,a1,a2⟩:=hb.lose r.1 (by omega) (by omega)
 obtain ⟨c,c1,c2⟩:=a2.r14 (by omega) x.fId
 have k3:=c2.small
 obtain ⟨o,o1,_⟩:=Vt c.1 x.fId (by omega)
 simp only [a1,c1,o1,zb]
 exact ⟨_,rfl,c2⟩
theorem mH {α : Type} (p : α→Bool) (l:List α) : (l.filter p).length≤l.length:=List.length_filter_le _ _
theorem SU {M:Nat} {s:aa} (h:OkS M s) (hM:M + 100≤100000) (x:aJ) (hx:x.fW.length≤1000000) (ha:x.bE.length≤1000000) : ∃ r,tg s x=some r∧OkS (M + 10) r.1:=by
 have k1:=h.small
 unfold tg
 simp only [dy s _ (show s.ai.length≤1000000 by omega),zb,ky]
 have stay:OkS (M + 10) s:=h.mono (by omega)
 split
 ·exact ⟨_,rfl,stay⟩
 split
 ·exact ⟨_,rfl,stay⟩
 split
 ·exact ⟨_,rfl,stay⟩
 have hA:=h.sz.get x.fId
 obtain ⟨n,hn⟩:=Ej s (bQ s x.fId).fId (by omega)
 have q1:=hA.told; have q2:=hA.lost; have q3:=hA.asks; have q4:=hA.grants; have q5:=hA.kills
 split
 ·obtain ⟨c,hc⟩:=MD (bQ s x.fId).jH s (by omega) (by omega)
  simp only [hc,hn,zb]
  rw [aD (by simp; omega)]
  exact ⟨_,rfl,stay⟩
 split
 ·exact ⟨_,rfl,stay⟩
 obtain ⟨w,w1,w2⟩:=UR s (bQ s x.fId).bE x.bE (by omega) ha
 simp only [w1,zb]
 split
 ·exact ⟨_,rfl,stay⟩
 rw [wb x (s,bQ s x.fId) hx]
 obtain ⟨r,r1,l,g,r2,r3,r4,r5⟩:=aR (g:=ew x) (fin:=fun b=>(b.1,b.2,(x.fW.length:Int))) (fun _ b=>∃ (l:List am) (g:List Int),b.1 = { s with ac:=l } ∧ l.length≤s.ac.length∧b.2 = { bQ s x.fId with bM:=g } ∧ g.length≤(bQ s x.fId).bM.length) (fun r=>∃ (l:List am) (g:List Int),r.1 = { s with ac:=l } ∧ l.length≤s.ac.length∧r.2.1 = { bQ s x.fId with bM:=g } ∧ g.length≤(bQ s x.fId).bM.length) x.fW 0 (s,bQ s x.fId) (fun j b y hy ⟨l,g,b1,b2,b3,b4⟩=>by
  obtain ⟨bs,ba⟩:=b
  dsimp only at b1 b3
  subst b1
  subst b3
  unfold ew
  dsimp only
  rw [kH { s with ac:=l } y (show l.length≤1000000 by omega)]
  simp only [zb,dH]
  split
  ·rw [Cv { s with ac:=l } _ (show l.length≤1000000 by omega),ve g _ (by omega)]
   simp only [zb]
   exact ⟨_,rfl,fun a' e=>(by injection e with e; subst e; exact ⟨_,_,rfl,Nat.le_trans (mH _ _) b2,rfl,Nat.le_trans (mH _ _) b4⟩),fun r e=>(by cases e)⟩
  ·exact ⟨_,rfl,fun a' e=>(by injection e with e; subst e; exact ⟨l,g,rfl,b2,rfl,b4⟩),fun r e=>(by cases e)⟩) (fun b hb=>hb) ⟨s.ac,(bQ s x.fId).bM,rfl,Nat.le_refl _,rfl,Nat.le_refl _⟩
 rw [r1]
 obtain ⟨rs,ra,ri⟩:=r
 dsimp only at r2 r4
 subst r2
 subst r4
 have ht:OkS M { s with ac:=l } := h.fewer (c:=l) (l:=s.aQ) r3 (Nat.le_refl _)
 simp only [zb]
 obtain ⟨c,hc⟩:=MD g { s with ac:=l } (show l.length≤1000000 by omega) (by omega)
 obtain ⟨n,hn⟩:=Ej { s with ac:=l } (bQ s x.fId).fId (show l.length≤1000000 by omega)
 simp only [hc,hn,zb]
 rw [aD (by simp; omega)]
 simp only [zb]
 rw [jf { s with ac:=l } _ (by show s.ai.length + 1≤_; omega)]
 refine ⟨_,rfl,OkS.mono (ht.put (k:=8) (fun B hB=>?_)) (by omega)⟩
 have hb:SzA B (bQ s x.fId):=hB.get x.fId
 have p1:=hb.asks; have p2:=hb.grants; have p3:=hb.kills
 exact ⟨⟨hb.queue.1,hB.nodes.2.2.1⟩,by show w.1.length≤_; omega,Nat.zero_le _,Nat.zero_le _,by show g.length≤_; omega,by show (bQ s x.fId).dj.length≤_; omega⟩
theorem Wa {M:Nat} {s:aa} (h:OkS M s) (hM:M + 100≤100000) (id st:Int) : ∃ r,zp s id st=some r∧OkS (M + 10) r.1:=by
 have k1:=h.small
 unfold zp
 simp only [dy s _ (show s.ai.length≤1000000 by omega),zb,ky,ec]
 split
 ·exact ⟨_,rfl,h.mono (by omega)⟩
 split
 ·exact ⟨_,rfl,h.mono (by omega)⟩
 unfold KQ
 simp only [dy s id (show s.ai.length≤1000000 by omega),zb,ec,orB]
 split
 ·exact ⟨_,rfl,h.mono (by omega)⟩
 ·rw [jf s _ (by omega)]
  simp only [zb]
  rw [Ct _ _ (by show s.ac.length≤_; omega) (by show s.aQ.length≤_; omega)]
  have ht:=h.put (k:=0) (a:={ bQ s id with cw:=st,bE:=[],bM:=[],dj:=[],jH:=[],jP:=[] }) (fun B hB=>⟨(hB.get id).queue,Nat.zero_le _,Nat.zero_le _,Nat.zero_le _,Nat.zero_le _,Nat.zero_le _⟩)
  exact ⟨_,rfl,(ht.fewer (c:=s.ac.filter fun c=>!(c.bC==id)) (l:=s.aQ.filter fun c=>c.bC != id) (mH _ _) (mH _ _)).mono (by omega)⟩
theorem OW (s:aa) (hl:s.ai.length≤1000000) : ∃ l,tn s=some { s with ai:=l } ∧ l.Sublist s.ai:=by
 unfold tn
 dsimp only
 rw [wl s (false,[]) hl]
 obtain ⟨r,h1,h2⟩:=aR (g:=eH s) (fin:=fun b=>(b.1,b.2,(s.ai.length:Int))) (fun k b=>b.2.length≤k∧b.2.Sublist (s.ai.take k)) (fun r=>r.2.1.Sublist s.ai) s.ai 0 (false,[]) (fun j b x hx ⟨hb,hm⟩=>by
  have hj:=(zg.1 hx).1
  have hmono:∀ {l:List aq},l.Sublist (s.ai.take (0 + j))→l.Sublist (s.ai.take (0 + j + 1)):=fun hk=>hk.trans (List.take_sublist_take_left (by omega))
  unfold eH
  simp only [ec,dH,zb]
  split
  ·exact ⟨_,rfl,fun a' e=>(by injection e with e; subst e; exact ⟨by show b.2.length≤_; omega,hmono hm⟩),fun r e=>(by cases e)⟩
  ·rw [aD (by simp; omega)]
   refine ⟨_,rfl,fun a' e=>?_,fun r e=>(by cases e)⟩
   injection e with e
   subst e
   refine ⟨by simp; omega,?_⟩
   show (b.2 ++ [x]).Sublist _
   rw [List.take_add_one,show s.ai[0 + j]? = some x by rw [Nat.zero_add]; exact hx]
   exact hm.append (List.Sublist.refl _)) (fun b ⟨hb,hm⟩=>by simpa using hm) ⟨by simp,by simp⟩
 rw [h1]
 exact ⟨_,rfl,h2⟩
theorem OkS.apps {M:Nat} {s:aa} (h:OkS M s) {l:List aq} (hl:l.Sublist s.ai) : OkS M { s with ai:=l } := by
 obtain ⟨⟨B,h1,h2⟩,h3⟩:=h
 exact ⟨⟨B,⟨h1.conf,h1.nodes,Nat.le_trans hl.length_le h1.apps,h1.conts,h1.slots,h1.plans,fun x hx=>h1.app x (hl.subset hx)⟩,h2⟩,List.Pairwise.sublist hl h3⟩
theorem Sm {M:Nat} {s:aa} (h:OkS M s) (hM:M + 100≤100000) (a:aq) (hq:a.bF.size≤1000000) : ∃ r,tp s a=some r∧OkS (M + 10) r.1:=by
 have k1:=h.small
 have stay:OkS (M + 10) s:=h.mono (by omega)
 unfold tp
 simp only [NK,orB,zb,dy s _ (show s.ai.length≤1000000 by omega),xG _ _ h.sz.conf.sz]
 split
 ·exact ⟨_,rfl,stay⟩
 split
 ·exact ⟨_,rfl,stay⟩
 rw [wm s 0 (by omega)]
 obtain ⟨r,hr,_⟩:=aR (g:=eI s) (fin:=fun b=>(b,(s.ai.length:Int))) (fun _ _=>True) (fun _=>True) s.ai 0 0 (fun j b x hx _=>by
  unfold eI
  simp only [ec,zb,sy]
  exact ⟨_,rfl,fun _ _=>trivial,fun _ _=>trivial⟩) (fun _ _=>trivial) trivial
 rw [hr]
 simp only [zb]
 split
 ·exact ⟨_,rfl,stay⟩
 split
 ·exact ⟨_,rfl,stay⟩
 obtain ⟨l,hl,hl1⟩:=OW s (by omega)
 have fin:∀ t:aa,OkS M t→∃ r,Option.bind (pa a) (fun c17=>Option.bind (eb t ⟨a.fId,1,a.bF,a.cW,a.bu,a.bB,c17,t.bW,0,[],[],[],[]⟩) fun c18=>some (c18,(0:Int)))=some r∧OkS (M + 10) r.1:=by
  intro t ht
  have h5:=ht.small
  rw [Ab]
  simp only [zb]
  rw [jf t _ (by omega)]
  exact ⟨_,rfl,(ht.put (k:=1) (a:=⟨a.fId,1,a.bF,a.cW,a.bu,a.bB,[⟨0,0,a.bB,1,-1,-1,0⟩],t.bW,0,[],[],[],[]⟩) fun B hB=>⟨⟨hq,hB.nodes.2.2.1⟩,by simp,Nat.zero_le _,Nat.zero_le _,Nat.zero_le _,Nat.zero_le _⟩).mono (by omega)⟩
 split
 ·rw [hl]
  simp only [zb]
  exact fin { s with ai:=l } (h.apps hl1)
 ·exact fin s h
theorem OkS.noSlot {M:Nat} {s:aa} (h:OkS M s) (hM:M≤1000000) (n:Int) : ∃ r,fF s n=some r∧OkS M r:=by
 have k1:=h.small
 exact ⟨_,wF s n (by omega),h.fewer (c:=s.ac) (Nat.le_refl _) (mH _ _)⟩
theorem Xs {M:Nat} {s:aa} (h:OkS M s) (hM:M + 100≤100000) (n:Int) : ∃ r,zo s n=some r∧OkS (M + 10) r.1:=by
 have k1:=h.small
 have stay:OkS (M + 10) s:=h.mono (by omega)
 unfold zo
 simp only [orB,zb,ky]
 split
 ·exact ⟨_,rfl,stay⟩
 split
 ·exact ⟨_,rfl,stay⟩
 rename_i hq1 hq2
 have hq1 : 1≤n∧n≤100:=by
  have h9:(decide (n < 1)||decide (n > 100))=false:=by simpa using hq1
  simp at h9
  omega
 have hnow:=h.sz.nodes.2.2.1
 have hq2:i64.wrap (s.bW + n)=s.bW + n∧s.bW + n≤1000000000:=by
  have e:i64.wrap (s.bW + n)=s.bW + n:=by rw [IntKind.wrap_i64]; omega
  have h9 : ¬ (i64.wrap (s.bW + n) > 1000000000):=fun h=>hq2 (by simpa using h)
  exact ⟨e,by omega⟩
 have h1:=h.now (n:=i64.wrap (s.bW + n)) (by rw [hq2.1]; omega)
 have hconts:({ s with bW:=i64.wrap (s.bW + n) } : aa).ac.length≤M:=h1.small.2.2.1
 generalize ({ s with bW:=i64.wrap (s.bW + n) } : aa)=t at h1
 have k2:=h1.small
 rw [Km t (by omega)]
 simp only [zb]
 have hl:((t.aB.filter fun b=>b.fUp&&decide (i64.wrap (t.bW - b.bL)≥10)).map aX.fId).length≤1000000:=by
  rw [List.length_map]
  exact Nat.le_trans (mH _ _) (by omega)
 generalize ((t.aB.filter fun b=>b.fUp&&decide (i64.wrap (t.bW - b.bL)≥10)).map aX.fId)=l at hl
 rw [zn l t hl]
 obtain ⟨r,r1,r2⟩:=aR (g:=gc l) (fin:=fun b=>(b,(l.length:Int))) (fun _ b=>OkS M b) (fun r=>OkS M r.1) l 0 t (fun j b y hy hb=>by
  have k3:=hb.small
  unfold gc
  dsimp only
  rw [Pq b y (by omega)]
  simp only [zb]
  obtain ⟨c,c1,c2⟩:=(Yh hb y).noSlot (by omega) y
  have k4:=c2.small
  obtain ⟨o,o1,o2⟩:=Vt c y (by omega)
  obtain ⟨z,z1,z2⟩:=c2.lose o (by omega) (by omega)
  simp only [c1,o1,z1,zb]
  exact ⟨_,rfl,fun a' e=>(by injection e with e; subst e; exact z2),fun r e=>(by cases e)⟩) (fun b hb=>hb) h1
 rw [r1]
 simp only [zb]
 have k5:=r2.small
 rw [wK r.1 (by omega)]
 simp only [zb]
 have hl2:((r.1.ai.filter fun b=>b.cw==2&&decide (i64.wrap (r.1.bW - b.bL)≥15)).map aq.fId).length≤1000000:=by
  rw [List.length_map]
  exact Nat.le_trans (mH _ _) (by omega)
 generalize ((r.1.ai.filter fun b=>b.cw==2&&decide (i64.wrap (r.1.bW - b.bL)≥15)).map aq.fId)=l2 at hl2
 rw [zl l2 r.1 hl2]
 obtain ⟨q,q1,q2⟩:=aR (g:=gb l2) (fin:=fun b=>(b,(l2.length:Int))) (fun _ b=>OkS M b) (fun r=>OkS M r.1) l2 0 r.1 (fun j b y hy hb=>by
  have k3:=hb.small
  unfold gb
  dsimp only
  obtain ⟨c,c1⟩:=Yv b y (by omega)
  obtain ⟨z,z1,z2⟩:=hb.lose [c] (by simp) (by omega)
  simp only [c1,z1,zb]
  exact ⟨_,rfl,fun a' e=>(by injection e with e; subst e; exact z2),fun r e=>(by cases e)⟩) (fun b hb=>hb) r2
 rw [q1]
 simp only [zb]
 have k6:=q2.small
 rw [zk q.1 [] (by omega)]
 obtain ⟨p,p1,p2⟩:=aR (g:=ga q.1) (fin:=fun b=>(b,(q.1.bg.length:Int))) (fun k b=>b.length≤k) (fun r=>r.1.length≤q.1.bg.length) q.1.bg 0 [] (fun j b y hy hb=>by
  have hj:=(zg.1 hy).1
  unfold ga
  dsimp only
  split
  ·rw [aD (by simp; omega)]
   exact ⟨_,rfl,fun a' e=>(by injection e with e; subst e; simp; omega),fun r e=>(by cases e)⟩
  ·exact ⟨_,rfl,fun a' e=>(by injection e with e; subst e; omega),fun r e=>(by cases e)⟩) (fun b hb=>(by simpa using hb)) (by simp)
 rw [p1]
 simp only [zb]
 obtain ⟨z,z1,z2,z3⟩:=KC (q2.plans p2) (by omega)
 have k7:=z2.small
 simp only [z1,zb]
 rw [Ck s z.1 (by omega) (by omega)]
 exact ⟨_,rfl,z2.mono (by omega)⟩
theorem ZC {M:Nat} {s:aa} (h:OkS M s) (hM:M + 100≤100000) (p:a7) (n:Int) : ∃ r,zI s p n=some r∧OkS (M + 10) r.1:=by
 obtain ⟨⟨B,h1,h2⟩,h3⟩:=h
 obtain ⟨r,r1,r2,r3,r4⟩:=Qo h1 (by omega) p n
 exact ⟨r,r1,⟨B + 1,r2,by rw [r3]; omega⟩,by rw [r4]; exact h3⟩
theorem Yg {M:Nat} {s:aa} (h:OkS M s) (hM:M + 100≤100000) (id:Int) : ∃ r,uZ s id=some r∧OkS (M + 10) r.1:=by
 obtain ⟨⟨B,h1,h2⟩,h3⟩:=h
 obtain ⟨r,r1,r2,r3,r4⟩:=Nt h1 (by omega) id
 exact ⟨r,r1,⟨B,r2,by rw [r3]; omega⟩,by rw [r4]; exact h3⟩
structure InP (x:aJ) : Prop where
 ids:x.fW.length≤1000000
 asks:x.bE.length≤1000000
 queue:x.bC.bF.size≤1000000
theorem nY {α : Type} {c:Prop} [Decidable c] {a b:Option α} {Q : α→Prop} (h1:∃ r,a=some r∧Q r) (h2:∃ r,b=some r∧Q r) : ∃ r,(if c then a else b)=some r∧Q r:=by
 by_cases h:c
 ·rw [if_pos h]; exact h1
 ·rw [if_neg h]; exact h2
theorem Sa {M:Nat} {s:aa} (h:OkS M s) (hM:M + 100≤100000) {x:aJ} (hx:InP x) : ∃ r,sd s x=some r∧OkS (M + 40) r.1:=by
 have k1:=h.small
 have up:∀ {o:Option (aa×br)},(∃ r,o=some r∧OkS (M + 10) r.1)→∃ r,(Option.bind o fun c=>some c)=some r∧OkS (M + 40) r.1:=fun ⟨r,e,hr⟩=>by
  rw [e]
  exact ⟨r,rfl,hr.mono (by omega)⟩
 unfold sd
 refine nY ?_ ?_
 ·obtain ⟨r,r1,r2⟩:=Tt h (by omega) x.Md
  exact up ⟨r,r1,r2.mono (by omega)⟩
 refine nY ?_ ?_
 ·rw [FG s _ (by omega)]
  exact ⟨_,rfl,(Zd h x.bG).mono (by omega)⟩
 refine nY ?_ ?_
 ·obtain ⟨r,r1,r2⟩:=LI h (by omega) x hx.ids
  rw [r1]
  exact ⟨_,rfl,r2⟩
 refine nY ?_ ?_
 ·obtain ⟨r,r1,r2⟩:=Sm h hM x.bC hx.queue
  rw [r1]
  exact ⟨_,rfl,r2.mono (by omega)⟩
 refine nY ?_ ?_
 ·exact up (SU h hM x hx.ids hx.asks)
 refine nY ?_ ?_
 ·exact up (Wa h hM x.fId 3)
 refine nY ?_ ?_
 ·exact up (Wa h hM x.fId 4)
 refine nY ?_ ?_
 ·exact up (Xs h hM x.fN)
 refine nY ?_ ?_
 ·obtain ⟨r,r1,r2⟩:=ZC h hM x.pv x.fN
  rw [r1]
  exact ⟨_,rfl,r2.mono (by omega)⟩
 refine nY ?_ ?_
 ·obtain ⟨r,r1,r2⟩:=Yg h hM x.fId
  rw [r1]
  exact ⟨_,rfl,r2.mono (by omega)⟩
 refine nY ?_ ?_
 ·refine nY ?_ ?_
  ·exact ⟨_,rfl,h.mono (by omega)⟩
  ·exact ⟨_,rfl,(h.epoch (i64.wrap (s.pw + 1)) 0).mono (by omega)⟩
 ·exact ⟨_,rfl,h.mono (by omega)⟩
def AO:aa:=⟨⟨[⟨#[]⟩],[⟨⟨#[114,111,111,116]⟩,[⟨10000,10000⟩],10000⟩]⟩,[],[],[],[],[],0,0,0⟩
theorem FV:zw=some AO:=rfl
theorem Xz:y5 ⟨#[114,111,111,116]⟩=some [⟨#[114,111,111,116]⟩]:=by kernel_rfl
theorem Jy:OkS 1 AO:=by
 refine ⟨⟨0,⟨⟨⟨by decide,by decide,?_,?_⟩,?_,?_,⟨by decide,?_⟩,by decide,?_,?_⟩,⟨by decide,List.Pairwise.nil,by decide,fun n hn=>by cases hn⟩,by decide,by decide,by decide,by decide,?_⟩,by decide⟩,List.Pairwise.nil⟩
 ·intro q hq; simp only [AO,List.mem_singleton] at hq; subst hq; decide
 ·intro q hq; simp only [AO,List.mem_singleton] at hq; subst hq; decide
 ·intro q hq; simp only [AO,List.mem_singleton] at hq; subst hq; rfl
 ·intro q hq r hr x hx
  simp only [AO,List.mem_singleton] at hq
  subst hq
  rw [Xz] at hr
  injection hr with hr
  subst hr
  simp only [List.mem_singleton] at hx
  subst hx
  exact Dp (c:=AO.bN) (q:=⟨⟨#[114,111,111,116]⟩,[⟨10000,10000⟩],10000⟩) (by simp [AO])
 ·intro q hq; simp only [AO,List.mem_singleton] at hq; subst hq; show dv 6 _≤4; rw [show dv 6 ⟨#[114,111,111,116]⟩=1 by kernel_rfl]; decide
 ·exact ⟨⟨⟨#[114,111,111,116]⟩,[⟨10000,10000⟩],10000⟩,by simp [AO],by kernel_rfl⟩
 ·intro x hx; simp only [AO,List.mem_singleton] at hx; subst hx; decide
 ·intro a ha; cases ha
def fq (v_c:aw) (st:(List ByteArray)) (x_:az) : Option (((List ByteArray))⊕(((List ByteArray)×Int))) :=
 let v_l:=st
 (jV v_c x_.aF).bind fun c5=>if c5=true then
 (aU v_l [x_.aF]).bind fun b6=>let v_l:(List ByteArray):=b6
 some (.inl v_l)
 else
 some (.inl v_l)
theorem xV (v_c:aw) (a_:(List ByteArray)) (hl:v_c.ae.length≤1000000) : ah (kh v_c) ab (a_,(0))=bk (fq v_c) (fun a_=>(a_,((v_c.ae.length:Int)))) a_ v_c.ae :=
 ay v_c.ae (S:=(List ByteArray)×Int) (fun a_ k_=>(a_,(k_))) (fq v_c) (fun a_=>(a_,((v_c.ae.length:Int)))) (an hl) (fun k a x hx=>by
  unfold kh fq; exact bH)
  (fun a=>by unfold kh; exact cF) a_
def dg (v_s:aa) (v_p:aq) (v_a:aP) (st:aJ) (v_i:Int) (x_:am) : Option ((aJ)⊕((aJ×Int))) :=
 let v_x:=st
 (if (x_.bC==v_p.fId)=true then (bh (i64.wrap (v_a.fD + v_i)) 11).bind fun c23=>some (c23==10) else some false).bind fun q24=>if q24=true then
 (aU v_x.fW [x_.fId]).bind fun b25=>let v_x:aJ:={ v_x with fW:=b25 }
 some (.inl v_x)
 else
 some (.inl v_x)
theorem tr (v_s:aa) (v_p:aq) (v_a:aP) (a_:aJ) (hl:v_s.ac.length≤1000000) : ah (fM v_s v_p v_a) ab (a_,(0))=ny (dg v_s v_p v_a) (fun a_=>(a_,((v_s.ac.length:Int)))) a_ 0 v_s.ac :=
 fa v_s.ac (S:=aJ×Int) (fun a_ k_=>(a_,(k_))) (dg v_s v_p v_a) (fun a_=>(a_,((v_s.ac.length:Int)))) (an hl) (fun k a x hx=>by
  unfold fM dg; exact bH)
  (fun a=>by unfold fM; exact cF) a_
def dA (v_s:aa) (v_a:aP) (bA:Int) (st:aJ) (x_:aX) : Option ((aJ)⊕((aJ×Int))) :=
 let v_x:=st
 if (x_.fId==bA)=true then
 (bh v_a.fB 8).bind fun c17=>let v_x:aJ:={ v_x with ce:=(i64.wrap ((i64.wrap (x_.ce + 1)) - (i64.wrap (Int.tdiv c17 6)))) }
 some (.inl v_x)
 else
 some (.inl v_x)
theorem tT (v_s:aa) (v_a:aP) (bA:Int) (a_:aJ) (hl:v_s.aB.length≤1000000) : ah (gU v_s v_a bA) ab (a_,(0))=bk (dA v_s v_a bA) (fun a_=>(a_,((v_s.aB.length:Int)))) a_ v_s.aB :=
 ay v_s.aB (S:=aJ×Int) (fun a_ k_=>(a_,(k_))) (dA v_s v_a bA) (fun a_=>(a_,((v_s.aB.length:Int)))) (an hl) (fun k a x hx=>by
  unfold gU dA; exact bH)
  (fun a=>by unfold gU; exact cF) a_
def dz (v_s:aa) (bA:Int) (v_a:aP) (st:aJ) (aI:Int) (x_:am) : Option ((aJ)⊕((aJ×Int))) :=
 let v_x:=st
 (if (x_.bG==bA)=true then (bh (i64.wrap (v_a.fC + aI)) 9).bind fun c23=>some (c23==8) else some false).bind fun q24=>if q24=true then
 (aU v_x.fW [x_.fId]).bind fun b25=>let v_x:aJ:={ v_x with fW:=b25 }
 some (.inl v_x)
 else
 some (.inl v_x)
theorem tS (v_s:aa) (bA:Int) (v_a:aP) (a_:aJ) (hl:v_s.ac.length≤1000000) : ah (gS v_s bA v_a) ab (a_,(0))=ny (dz v_s bA v_a) (fun a_=>(a_,((v_s.ac.length:Int)))) a_ 0 v_s.ac :=
 fa v_s.ac (S:=aJ×Int) (fun a_ k_=>(a_,(k_))) (dz v_s bA v_a) (fun a_=>(a_,((v_s.ac.length:Int)))) (an hl) (fun k a x hx=>by
  unfold gS dz; exact bH)
  (fun a=>by unfold gS; exact cF) a_
def cT (v_x:aH) (st:aa) (x_:aP) : Option ((aa)⊕((aa×Int))) :=
 let v_s:=st
 (gV x_ v_s).bind fun c9=>(sd v_s c9).bind fun c10=>let v_s:aa:=c10.1
 some (.inl v_s)
theorem rj (v_x:aH) (a_:aa) (hl:v_x.mg.length≤1000000) : ah (eM v_x) ab (a_,(0))=bk (cT v_x) (fun a_=>(a_,((v_x.mg.length:Int)))) a_ v_x.mg :=
 ay v_x.mg (S:=aa×Int) (fun a_ k_=>(a_,(k_))) (cT v_x) (fun a_=>(a_,((v_x.mg.length:Int)))) (an hl) (fun k a x hx=>by
  unfold eM cT; exact bH)
  (fun a=>by unfold eM; exact cF) a_
theorem aV (a:Int) {n:Int} (h0 : 0 < n) (h1:n≤1000000000) : Ok (bh a n) (fun k=>0≤k∧k < n):=by
 unfold bh CB
 rw [if_neg (by omega)]
 have h:=De (a:=a) h0
 simp only [zb]
 refine Ok.bind (P:=fun k=>0≤k∧k < n) (Ok.ite (fun hc=>?_) fun hc=>?_) fun r hr=>Ok.pure hr
 ·have:=zd hc
  refine Ok.pure ?_
  rw [IntKind.wrap_i64]; omega
 ·have:=of_decide_eq_false (by simpa using hc:decide (a.tmod n < 0)=false)
  exact Ok.pure (by omega)
theorem xU (n:Int) : Ok (vU n) (fun _=>True):=by
 unfold vU
 exact Ok.bind (aV _ (by omega) (by omega)) fun k hk=>Ok.bind (jl hk.1 hk.2) fun b _=>Ok.pure trivial
theorem KU {c:aw} (h:Ar c) : Ok (vV c) (fun l=>0 < l.length∧l.length≤1000∧∀ x∈l,x.size≤1000000):=by
 have hq:=h.sz.queues
 unfold vV
 dsimp only
 have e:fq c=fun acc x=>if BZ c x.aF=true then (aU acc [x.aF]).map (fun a=>(.inl a:List ByteArray⊕(List ByteArray×Int))) else some (.inl acc):=by
  funext acc x
  unfold fq
  simp only [xG _ _ h.sz,zb]
  split
  ·cases aU acc [x.aF] <;> rfl
  ·rfl
 rw [xV c [] (by omega),e,cr (fun q:az=>BZ c q.aF) az.aF _ c.ae [] (by simp; omega)]
 simp only [zb,List.nil_append]
 refine Ok.pure ⟨?_,?_,fun x hx=>?_⟩
 ·obtain ⟨q,hq,hl⟩:=h.leaf
  rw [List.length_map]
  exact List.length_pos_of_mem (List.mem_filter.2 ⟨hq,hl⟩)
 ·rw [List.length_map]
  exact Nat.le_trans (List.length_filter_le _ _) hq
 ·obtain ⟨q,hq,rfl⟩:=List.mem_map.1 hx
  exact h.sz.paths q (List.mem_filter.1 hq).1
theorem KT {M:Nat} {s:aa} (h:OkS M s) (hM:M≤100000) (a:aP) : Ok (nw a s) InP:=by
 have k1:=h.small
 have hlab:=h.sz.conf.lab1
 have hlab2:=h.sz.conf.sz.labels
 unfold nw
 dsimp only
 refine Ok.ite (fun _=>Ok.pure ⟨by simp,by simp,by decide⟩) fun hc=>?_
 have hn:(s.ai.length:Int)≠0:=fun e=>hc (by rw [e]; rfl)
 refine Ok.bind (aV _ (by omega) (by omega)) fun w hw=>Ok.bind (jl hw.1 hw.2) fun p _=>Ok.bind (aV _ (by omega) (by omega)) fun u _=>?_
 refine Ok.bind (P:=fun x:aJ=>x.fW = []∧x.bE.length≤1∧x.bC.bF.size=0) (Ok.ite (fun _=>?_) fun _=>Ok.pure ⟨rfl,by simp,rfl⟩) fun x ⟨x1,x2,x3⟩=>?_
 ·refine Ok.bind (aV _ (by omega) (by omega)) fun c7 _=>Ok.bind (aV _ (by omega) (by omega)) fun c8 _=>Ok.bind (xU _) fun c9 _=>Ok.bind (aV _ (by omega) (by omega)) fun c10 _=>?_
  refine Ok.bind (P:=fun j:aL×aJ=>j.2.fW = []∧j.2.bC.bF.size=0) (Ok.ite (fun _=>Ok.bind (aV _ (by omega) (by omega)) fun _ _=>Ok.pure ⟨rfl,rfl⟩) fun _=>Ok.pure ⟨rfl,rfl⟩) fun j1 ⟨j2,j3⟩=>?_
  refine Ok.bind (P:=fun j:aL×aJ=>j.2.fW = []∧j.2.bC.bF.size=0) (Ok.ite (fun _=>Ok.bind (aV _ (by omega) (by omega)) fun _ _=>Ok.bind (aV _ (by omega) (by omega)) fun _ _=>Ok.pure ⟨j2,j3⟩) fun _=>Ok.pure ⟨j2,j3⟩) fun j4 ⟨j5,j6⟩=>Ok.pure ⟨j5,by simp,j6⟩
 ·rw [tr s p a x (by omega)]
  refine Ok.bind (ub (g:=dg s p a) (fin:=fun a_=>(a_,((s.ac.length:Int)))) (fun k b=>b.fW.length≤k∧b.bE.length≤1∧b.bC.bF.size=0) s.ac x (fun j b y hy ⟨b1,b2,b3⟩=>?_) ⟨by rw [x1]; simp,x2,x3⟩) fun r ⟨q,e,q1,q2,q3⟩=>?_
  ·have hj:=(zg.1 hy).1
   unfold dg
   dsimp only
   refine Ok.bind (P:=fun _=>True) (Ok.ite (fun _=>Ok.bind (aV _ (by omega) (by omega)) fun _ _=>Ok.pure trivial) fun _=>Ok.pure trivial) fun t _=>Ok.ite (fun _=>?_) fun _=>Ok.pure ⟨_,rfl,by omega,b2,b3⟩
   rw [aD (by simp; omega)]
   exact Ok.pure ⟨_,rfl,by simp; omega,b2,b3⟩
  ·subst e
   exact Ok.pure ⟨by dsimp only; omega,by dsimp only; omega,by dsimp only; omega⟩
theorem NR {M:Nat} {s:aa} (h:OkS M s) (hM:M≤100000) (a:aP) : Ok (gV a s) InP:=by
 have k1:=h.small
 have hlab:=h.sz.conf.lab1
 have hlab2:=h.sz.conf.sz.labels
 have orOk:∀ {c:Prop} [Decidable c] {d:Bool},Ok (if c then some true else some d) (fun _=>True):=fun {c} _ {d} => Ok.ite (fun _=>Ok.pure trivial) fun _=>Ok.pure trivial
 have hx0:∀ k id b n t nd ap pl,ap.bF.size≤1000000→InP (⟨k,id,b,n,t,nd,ap,[],[],pl⟩ : aJ):=fun k id b n t nd ap pl hq=>⟨by simp,by simp,hq⟩
 unfold gV
 dsimp only
 refine Ok.bind (aV _ (by omega) (by omega)) fun c1 _=>Ok.bind (KU h.sz.conf) fun lv ⟨l1,l2,l3⟩=>Ok.bind (aV _ (by omega) (by omega)) fun c5 _=>Ok.bind (aV _ (by omega) (by omega)) fun c6 _=>Ok.bind orOk fun q7 _=>?_
 refine Ok.bind (P:=InP) (Ok.ite (fun _=>?_) fun _=>?_) fun r hr=>Ok.pure hr
 ·exact Ok.bind (aV _ (by omega) (by omega)) fun _ _=>Ok.bind (aV _ (by omega) (by omega)) fun _ _=>Ok.bind (aV _ (by omega) (by omega)) fun _ _=>Ok.bind (aV _ (by omega) (by omega)) fun _ _=>Ok.pure (hx0 _ _ _ _ _ _ _ _ (by decide))
 refine Ok.bind (P:=fun _=>True) (Ok.ite (fun _=>Ok.pure trivial) fun _=>Ok.ite (fun _=>Ok.pure trivial) fun _=>orOk) fun q13 _=>Ok.ite (fun _=>?_) fun _=>?_
 ·rw [tT s a c1 _ (by omega)]
  refine Ok.bind (D0 (g:=dA s a c1) (fin:=fun a_=>(a_,((s.aB.length:Int)))) (fun k b=>b.fW = []∧b.bE = []∧b.bC.bF.size=0) s.aB _ (fun j b y hy ⟨b1,b2,b3⟩=>?_) ⟨rfl,rfl,rfl⟩) fun r ⟨q,e,q1,q2,q3⟩=>?_
  ·unfold dA
   dsimp only
   exact Ok.ite (fun _=>Ok.bind (aV _ (by omega) (by omega)) fun _ _=>Ok.pure ⟨_,rfl,b1,b2,b3⟩) fun _=>Ok.pure ⟨_,rfl,b1,b2,b3⟩
  subst e
  dsimp only
  rw [tS s c1 a q (by omega)]
  refine Ok.bind (ub (g:=dz s c1 a) (fin:=fun a_=>(a_,((s.ac.length:Int)))) (fun k b=>b.fW.length≤k∧b.bE = []∧b.bC.bF.size=0) s.ac q (fun j b y hy ⟨b1,b2,b3⟩=>?_) ⟨by rw [q1]; simp,q2,q3⟩) fun r ⟨q,e,q1,q2,q3⟩=>?_
  ·have hj:=(zg.1 hy).1
   unfold dz
   dsimp only
   refine Ok.bind (P:=fun _=>True) (Ok.ite (fun _=>Ok.bind (aV _ (by omega) (by omega)) fun _ _=>Ok.pure trivial) fun _=>Ok.pure trivial) fun t _=>Ok.ite (fun _=>?_) fun _=>Ok.pure ⟨_,rfl,by omega,b2,b3⟩
   rw [aD (by simp; omega)]
   exact Ok.pure ⟨_,rfl,by simp; omega,b2,b3⟩
  ·subst e
   exact Ok.pure ⟨by dsimp only; omega,by dsimp only; rw [q2]; simp,by dsimp only; omega⟩
 refine Ok.bind orOk fun q24 _=>Ok.ite (fun _=>?_) fun _=>?_
 ·exact Ok.bind (aV _ (by omega) (by omega)) fun _ _=>Ok.bind (aV _ (by omega) (by omega)) fun w hw=>Ok.bind (jl hw.1 hw.2) fun b hb=>Ok.bind (aV _ (by omega) (by omega)) fun _ _=>Ok.bind (aV _ (by omega) (by omega)) fun _ _=>Ok.bind (xU _) fun _ _=>Ok.pure (hx0 _ _ _ _ _ _ _ _ (l3 b hb))
 refine Ok.bind (P:=fun _=>True) (Ok.ite (fun _=>Ok.pure trivial) fun _=>orOk) fun q31 _=>Ok.ite (fun _=>?_) fun _=>?_
 ·exact Ok.bind (KT h hM a) fun x hx=>Ok.pure hx
 refine Ok.ite (fun _=>?_) fun _=>?_
 ·exact Ok.bind (aV _ (by omega) (by omega)) fun w hw=>Ok.bind (jl hw.1 hw.2) fun _ _=>Ok.bind (aV _ (by omega) (by omega)) fun _ _=>Ok.pure (hx0 _ _ _ _ _ _ _ _ (by decide))
 refine Ok.bind orOk fun q36 _=>Ok.ite (fun _=>?_) fun _=>?_
 ·exact Ok.bind (aV _ (by omega) (by omega)) fun _ _=>Ok.pure (hx0 _ _ _ _ _ _ _ _ (by decide))
 refine Ok.ite (fun _=>?_) fun _=>?_
 ·exact Ok.bind (aV _ (by omega) (by omega)) fun w hw=>Ok.bind (jl hw.1 hw.2) fun _ _=>Ok.bind (aV _ (by omega) (by omega)) fun _ _=>Ok.bind (aV _ (by omega) (by omega)) fun _ _=>Ok.bind (xU _) fun _ _=>Ok.bind (aV _ (by omega) (by omega)) fun _ _=>Ok.pure (hx0 _ _ _ _ _ _ _ _ (by decide))
 refine Ok.ite (fun _=>?_) fun _=>?_
 ·refine Ok.bind (aV _ (by omega) (by omega)) fun w hw=>Ok.bind (jl hw.1 hw.2) fun _ _=>Ok.bind (GD _ _) fun c hc=>?_
  obtain ⟨t,ht⟩:=FP hc
  exact Ok.bind (P:=fun _=>True) ⟨t,ht,trivial⟩ fun _ _=>Ok.pure (hx0 _ _ _ _ _ _ _ _ (by decide))
 ·exact Ok.pure (hx0 _ _ _ _ _ _ _ _ (by decide))
theorem WH (x:aH) (hx:x.mg.length≤80) : Ok (dJ x) (OkS 10000):=by
 unfold dJ
 rw [FV]
 simp only [zb]
 refine Ok.bind (GD _ _) fun c hc=>?_
 obtain ⟨t,ht⟩:=FP hc
 refine Ok.bind (P:=fun _=>True) ⟨t,ht,trivial⟩ fun t _=>Ok.bind (P:=fun r:aa×br=>OkS 41 r.1) (Sa (M:=1) (x:=⟨1,0,0,0,t,aX.zero,aq.zero,[],[],a7.zero⟩) Jy (by omega) ⟨by simp,by simp,Nat.zero_le _⟩) fun r hr=>?_
 refine Ok.bind (P:=OkS 41) (Ok.ite (fun _=>Ok.pure hr) fun _=>Ok.pure (Jy.mono (by omega))) fun s hs=>?_
 rw [rj x s (by omega)]
 refine Ok.bind (D0 (g:=cT x) (fin:=fun a_=>(a_,((x.mg.length:Int)))) (fun k b=>OkS (41 + 40 * k) b) x.mg s (fun j b y hy hb=>?_) hs) fun r ⟨q,e,hq⟩=>?_
 ·have hj:=(zg.1 hy).1
  unfold cT
  dsimp only
  exact Ok.bind (NR hb (by omega) y) fun i hi=>Ok.bind (Sa hb (by omega) hi) fun r hr=>Ok.pure ⟨_,rfl,hr.mono (by omega)⟩
 ·subst e
  exact Ok.pure (hq.mono (by omega))
noncomputable def Rv (a:aq) : Option Bool:=rf (a,())
theorem XY (a:aq) : Rv a=Option.bind (if (a.cw==1)=true then some true else some (a.cw==2)) fun q=>some q:=by kernel_rfl
theorem VD (a:aq) : Rv a=some (LM a):=by
 rw [XY]
 unfold LM
 cases a.cw==1 <;> rfl
noncomputable def JG (l:List aq) (id:Int) : Option Int:=qe (l,(id,()))
theorem HU (l:List aq) (id:Int) : JG l id=Option.bind (X4 (fun x:aq=>x.fId==id) l) fun r=>some r:=by kernel_rfl
noncomputable def OX (s:aa) (id:Int) : Option (aq×Bool):=rh (s,(id,()))
theorem V3 (s:aa) (id:Int) : OX s id=Option.bind (JG s.ai id) fun r=>if decide (r < 0)=true then some (⟨0,0,⟨#[]⟩,0,0,⟨0,0⟩,[],0,0,[],[],[],[]⟩,false) else Option.bind (av s.ai r) fun x=>Option.bind (A4 x) fun y=>some (y,true):=by kernel_rfl
theorem L6 {s:aa} {id:Int} {i:Nat} (h:i < s.ai.length) (h2:(s.ai[i].fId==id)=true) (h3:∀ j (hj:j < i),(s.ai[j].fId==id)=false) : bQ s id=s.ai[i]∧wB s id=true:=by
 have hf:s.ai.find? (fun c=>c.fId==id)=some s.ai[i]:=by
  rw [List.find?_eq_some_iff_getElem]
  exact ⟨h2,i,h,rfl,fun j hj=>by rw [h3 j hj]; rfl⟩
 unfold bQ wB
 rw [hf]
 exact ⟨rfl,List.any_eq_true.2 ⟨_,List.getElem_mem h,h2⟩⟩
theorem L5 {s:aa} {id:Int} (h:∀ x∈s.ai,(x.fId==id)=false) : bQ s id=aq.zero∧wB s id=false:=by
 have hf:s.ai.find? (fun c=>c.fId==id)=none:=by
  rw [List.find?_eq_none]
  intro x hx
  simp [h x hx]
 unfold bQ wB
 rw [hf]
 refine ⟨rfl,?_⟩
 rw [List.any_eq_false]
 intro x hx
 simp [h x hx]
theorem Td {s:aa} (id:Int) (hl:s.ai.length≤1000000) (h:∀ a∈s.ai,SzL a) : OX s id=some (bQ s id,wB s id):=by
 rw [V3,HU]
 rcases RC (fun x:aq=>x.fId==id) s.ai hl with ⟨i,hi,g1,g2,g3⟩ | ⟨g1,g2⟩
 ·rw [g1,(L6 hi g2 g3).1,(L6 hi g2 g3).2]
  have d:decide ((i:Int) < 0)=false:=by simp
  simp only [zb,d,zf,if_false,aC (zq hi),A1 (h _ (List.getElem_mem hi))]
 ·rw [g1,(L5 g2).1,(L5 g2).2]
  rfl
noncomputable def EA (l:List aq) (a:aq) : Option (List aq):=ou (l,(a,()))
theorem OL (l:List aq) (a:aq) : EA l a=Option.bind (ah (fun st:Int=>Option.bind (if decide (st < (l.length:Int))=true then Option.bind (av l st) fun x=>some (decide (x.fId < a.fId)) else some false) fun q=>if q=true then some (.inl (i64.wrap (st + 1))) else some (.inr st)) ab 0) fun k =>
  Option.bind (mkO (⟨0,0,⟨#[]⟩,0,0,⟨0,0⟩,[],0,0,[],[],[],[]⟩ : aq) (i64.wrap ((l.length:Int) + 1))) fun xs=>Option.bind (hiO l k) fun lo=>Option.bind (uG xs 0 xs.length lo) fun zs=>Option.bind (av zs k) fun _=>Option.bind (vwO (zs.set k.toNat a).length (i64.wrap (k + 1)) ((zs.set k.toNat a).length:Int)) fun _=>Option.bind (loO l k) fun hi=>Option.bind (uG (zs.set k.toNat a) (i64.wrap (k + 1)).toNat (((zs.set k.toNat a).length:Int)).toNat hi) fun r=>some r:=by kernel_rfl
theorem L0 {l:List aq} {a:aq} (hl:l.length≤900000) (h:∀ x∈l,x.fId≠a.fId) : EA l a=some (cM aq.fId l a):=by
 rw [OL,xl l (fun x=>decide (x.fId < a.fId)) (an (by omega)) (fun k x hx=>by
  have hk:=(zg.1 hx).1
  simp only [bJ hx,if_true,aC hx,zb,a6 hk (show l.length≤1000000 by omega)]) (by simp only [bz,zf,if_false,zb])]
 simp only [zb]
 rw [ZZ l _ a _ (oD _ _) hl,Om aq.fId l a h]
noncomputable def Vh (s:aa) (a:aq) : Option aa:=tq (s,(a,()))
theorem XH (s:aa) (a:aq) : Vh s a=Option.bind (OS s) fun r=>Option.bind (JG r.2.ai a.fId) fun i=>if decide (i≥0)=true then Option.bind (A4 a) fun b=>Option.bind (av r.2.ai i) fun _=>some { r.2 with ai:=r.2.ai.set i.toNat b } else Option.bind (A4 a) fun b=>Option.bind (EA r.2.ai b) fun l=>some { r.2 with ai:=l } := by kernel_rfl
theorem Vg {s:aa} {a:aq} (h:xE s) (hl:s.ai.length≤900000) (hs:jK aq.fId s.ai) (ha:SzL a) : Vh s a=some { s with ai:=cM aq.fId s.ai a } := by
 rw [XH,S8 h]
 simp only [zb]
 rw [HU,A1 ha]
 rcases RC (fun x:aq=>x.fId==a.fId) s.ai h.apps with ⟨i,hi,g1,g2,g3⟩ | ⟨g1,g2⟩
 ·rw [g1]
  have d:decide ((i:Int)≥0)=true:=by simp
  simp only [zb,d,if_true,aC (zq hi),zt]
  rw [N9 aq.fId s.ai hs i hi a (by simpa using g2)]
 ·rw [g1]
  have d:decide ((-1:Int)≥0)=false:=by decide
  simp only [zb,d,zf,if_false]
  rw [L0 hl (fun x hx=>by simpa using g2 x hx)]
  rfl
noncomputable def Dk (a b:Int) : Option Int:=ot (a,(b,()))
theorem SN (a b:Int) : Dk a b=if decide (b < a)=true then some 0 else some (IntKind.u64.wrap (IntKind.u64.wrap b - IntKind.u64.wrap a)):=by kernel_rfl
noncomputable def DX (s:aa) : Option (List Int):=ow (s,())
theorem N7 (s:aa) : DX s=Option.bind (ah (fun st:List Int×Int=>if decide (st.2 < (s.ai.length:Int))=true then Option.bind (av s.ai st.2) fun x=>Option.bind (if (x.cw==2)=true then Option.bind (Dk x.bL s.bW) fun r=>some (decide (r≥15)) else some false) fun q=>if q=true then Option.bind (aU st.1 [x.fId]) fun zs=>some (.inl (zs,i64.wrap (st.2 + 1))) else some (.inl (st.1,i64.wrap (st.2 + 1))) else some (.inr (st.1,st.2))) ab (([] : List Int),(0:Int))) fun st=>some st.1:=by kernel_rfl
def HI (s:aa) (b:aq) : Bool:=b.cw==2&&decide (i64.wrap (s.bW - b.bL)≥15)
theorem VI {s:aa} (hs : 0≤s.bW∧s.bW≤2000000000) {x:aq} (hx : 0≤x.bL∧x.bL≤1000000000) : (if (x.cw==2)=true then Option.bind (Dk x.bL s.bW) fun r=>some (decide (r≥15)) else some false)=some (HI s x):=by
 unfold HI
 cases x.cw==2 with
 | false=>rfl
 | true =>
  have e1:i64.wrap (s.bW - x.bL)=s.bW - x.bL:=by rw [IntKind.wrap_i64]; omega
  simp only [if_true,Bool.true_and,e1,SN]
  rcases Int.lt_or_le s.bW x.bL with h | h
  ·have d1:decide (s.bW < x.bL)=true:=by simpa using h
   have d2:decide (s.bW - x.bL≥15)=false:=by simp; omega
   rw [d1,d2]
   rfl
  ·have d1:decide (s.bW < x.bL)=false:=by simp; omega
   have e2:IntKind.u64.wrap (IntKind.u64.wrap s.bW - IntKind.u64.wrap x.bL)=s.bW - x.bL:=by
    rw [IntKind.wrap_u64,IntKind.wrap_u64,IntKind.wrap_u64]; omega
   rw [d1]
   simp only [zf,if_false,zb,e2]
theorem Lg {s:aa} (hl:s.ai.length≤1000000) (hs : 0≤s.bW∧s.bW≤2000000000) (hx:∀ x∈s.ai,0≤x.bL∧x.bL≤1000000000) : DX s=some ((s.ai.filter (HI s)).map aq.fId):=by
 rw [N7]
 have h:=ay s.ai (S:=List Int×Int) (τ:=List Int×Int) (f:=fun st:List Int×Int=>if decide (st.2 < (s.ai.length:Int))=true then Option.bind (av s.ai st.2) fun x=>Option.bind (if (x.cw==2)=true then Option.bind (Dk x.bL s.bW) fun r=>some (decide (r≥15)) else some false) fun q=>if q=true then Option.bind (aU st.1 [x.fId]) fun zs=>some (.inl (zs,i64.wrap (st.2 + 1))) else some (.inl (st.1,i64.wrap (st.2 + 1))) else some (.inr (st.1,st.2))) (fun a k=>(a,k)) (fun acc x=>if HI s x=true then (aU acc [x.fId]).map (fun a=>(.inl a:List Int⊕(List Int×Int))) else some (.inl acc)) (fun a=>(a,(s.ai.length:Int))) (an hl) (fun k a x hk0=>by
  have hk:=(zg.1 hk0).1
  simp only [bJ hk0,if_true,aC hk0,zb,a6 hk hl,VI hs (hx x (List.mem_of_getElem? hk0))]
  split
  ·cases aU a [x.fId] <;> rfl
  ·rfl) (fun a=>by simp only [bz,zf,if_false]) ([] : List Int)
 rw [show (([] : List Int),(0:Int))=(fun (a_:List Int) (k_:Int)=>(a_,k_)) [] 0 from rfl,h,cr (HI s) aq.fId _ s.ai [] (by simpa using hl)]
 rfl
noncomputable def ya (a n:Int) : Option Int:=tv (a,(n,()))
noncomputable def OK (a b:List Int) : Option Bool:=xW (a,(b,()))
noncomputable def RA:Option Bool:=vm ()
theorem OI:RA=some true:=by kernel_rfl
theorem NW (a n:Int) : ya a n=Option.bind (CB a n) fun q=>if decide (q < 0)=true then some (i64.wrap (q + n)) else some q:=by kernel_rfl
theorem BM (a:Int) {n:Int} (h0 : 0 < n) (h1:n≤1000000000) : Ok (ya a n) (fun k=>0≤k∧k < n):=by
 rw [NW]
 unfold CB
 rw [if_neg (by omega)]
 have h:=De (a:=a) h0
 simp only [zb]
 refine Ok.ite (fun hc=>?_) fun hc=>?_
 ·have:=zd hc
  refine Ok.pure ?_
  rw [IntKind.wrap_i64]; omega
 ·have:=of_decide_eq_false (by simpa using hc:decide (a.tmod n < 0)=false)
  exact Ok.pure (by omega)
theorem VO (a b:List Int) : OK a b=if ((a.length:Int) != (b.length:Int))=true then some false else Option.bind (ah (fun st:Bool×Int=>if decide (st.2 < (a.length:Int))=true then Option.bind (av a st.2) fun x=>Option.bind (av b st.2) fun y=>if (x != y)=true then some (.inr (.inr false)) else some (.inl (st.1,i64.wrap (st.2 + 1))) else some (.inr (.inl (st.1,st.2)))) ab (false,(0:Int))) fun o:(Bool×Int)⊕Bool=>match o with | .inl _=>some true | .inr v=>some v:=by kernel_rfl
theorem LZ (a:List Int) (hl:a.length≤1000000) : OK a a=some true:=by
 rw [VO,if_neg (by simp),eV a (fun k=>(false,k)) (r:=.inl (false,(a.length:Int))) hl (fun k x hx hk _=>by
  simp only [bJ hx,if_true,aC hx,zb,bne_self_eq_false,zf,if_false,a6 hk hl]) (by simp only [bz,zf,if_false])]
 rfl
noncomputable def Vs (a b:aq) : Option Bool:=BK (a,(b,()))
theorem XP (a b:aq) : Vs a b=Option.bind zw fun r=>Option.bind zw fun r1=>Option.bind (uU { r with ai:=[a] } { r1 with ai:=[b] }) fun r=>some r:=by kernel_rfl
theorem Oy (a:aq) (h:SzL a) : Vs a a=some true:=by
 rw [XP,FV]
 simp only [zb]
 have hs:xE AO:=Jy.sz.short (by decide)
 rw [U6 { AO with ai:=[a] } ⟨hs.conf,hs.nodes,by simp,hs.conts,hs.slots,hs.plans,fun x hx=>by simp at hx; subst hx; exact h,hs.lab⟩]
 rfl
noncomputable def V6 (a:aq) : Option Bool:=BL (a,())
theorem Ya (a:aq) : V6 a=Option.bind (if decide ((a.bE.length:Int)≤20)=true then some (decide ((a.bM.length:Int)≤50)) else some false) fun q=>Option.bind (if q=true then some (decide ((a.dj.length:Int)≤50)) else some false) fun q=>Option.bind (if q=true then some (decide ((a.jH.length:Int)≤50)) else some false) fun q=>Option.bind (if q=true then some (decide ((a.jP.length:Int)≤50)) else some false) fun q=>Option.bind (if q=true then some (decide ((a.bF.size:Int)≤60)) else some false) fun q=>some q:=by kernel_rfl
theorem V5 (a:aq) : V6 a=some (decide ((a.bE.length:Int)≤20)&&decide ((a.bM.length:Int)≤50)&&decide ((a.dj.length:Int)≤50)&&decide ((a.jH.length:Int)≤50)&&decide ((a.jP.length:Int)≤50)&&decide ((a.bF.size:Int)≤60)):=by
 rw [Ya]
 simp only [dH,zb]
theorem V4 {a:aq} (h:(decide ((a.bE.length:Int)≤20)&&decide ((a.bM.length:Int)≤50)&&decide ((a.dj.length:Int)≤50)&&decide ((a.jH.length:Int)≤50)&&decide ((a.jP.length:Int)≤50)&&decide ((a.bF.size:Int)≤60))=true) : SzL a:=by
 simp only [Bool.and_eq_true,decide_eq_true_eq] at h
 exact ⟨by omega,by omega,by omega,by omega,by omega,by omega⟩
theorem Zr (x:aH) : nv x=some (decide ((x.fNs.length:Int)≤30)&&decide ((x.mg.length:Int)≤80)):=by
 unfold nv
 simp only [dH,zb]
def OH (s:aa) (w:Int) : aa:={ s with bW:=i64.wrap (s.bW + w) }
noncomputable def R5 (t:aa) (p q:aq×Bool) (a:aq) : Option Bool :=
 Option.bind (if (p.2==q.2)=true then Option.bind (Vs p.1 q.1) fun r=>some r else some false) fun b=>Option.bind (if b=true then Option.bind (Rv p.1) fun r=>Option.bind (cX q.1) fun r2=>some (r==r2) else some false) fun b=>Option.bind (if b=true then Option.bind (Rv a) fun r=>Option.bind (cX a) fun r2=>some (r==r2) else some false) fun b=>Option.bind (if b=true then Option.bind (Vh t a) fun r5=>Option.bind (eb t a) fun r=>Option.bind (uU r5 r) fun r=>some r else some false) fun b=>Option.bind (if b=true then Option.bind (DX t) fun l=>Option.bind (p9 t) fun m=>Option.bind (OK l m) fun r=>some r else some false) fun b=>some b
noncomputable def Kd (t:aa) (id:Int) (a:aq) : Option Bool:=Option.bind (OX t id) fun p=>Option.bind (dV t id) fun q=>if (Int.tmod a.fId 2==0)=true then R5 t p q { a with fId:=id } else R5 t p q a
theorem WA (x:aH) (id:Int) (a:aq) (more:Int) : qk (x,(id,(a,(more,()))))=Option.bind RA fun r=>if (!r)=true then some false else Option.bind (nv x) fun r=>Option.bind (if (!r)=true then some true else Option.bind (V6 a) fun r=>some (!r)) fun q=>if q=true then some true else Option.bind (dJ x) fun s=>Option.bind (ya more 20) fun w=>Option.bind (if decide ((s.ai.length:Int) > 0)=true then some (decide (Int.tmod id 3 > 0)) else some false) fun q=>if q=true then Option.bind (ya id (s.ai.length:Int)) fun k=>Option.bind (av s.ai k) fun n=>Kd (OH s w) n.fId a else Kd (OH s w) id a:=by kernel_rfl
structure Xg (t:aa) : Prop where
 short:xE t
 small:t.ai.length≤900000
 srt:jK aq.fId t.ai
 now : 0≤t.bW∧t.bW≤2000000000
 seen:∀ x∈t.ai,0≤x.bL∧x.bL≤1000000000
 get:∀ id,SzL (bQ t id)
theorem ME {t:aa} (h:Xg t) (id:Int) {a:aq} (ha:SzL a) : R5 t (bQ t id,wB t id) (bQ t id,wB t id) a=some true:=by
 have hp:xE { t with ai:=cM aq.fId t.ai a } := ⟨h.short.conf,h.short.nodes,by have:=xd aq.fId t.ai a; have:=h.small; show (cM _ _ _).length≤_; omega,h.short.conts,h.short.slots,h.short.plans,fun x hx=>by rcases mB hx with rfl | hx; exact ha; exact h.short.app x hx,h.short.lab⟩
 unfold R5
 simp only [BEq.rfl,if_true,Oy _ (h.get id),zb,VD,ec,Vg h.short h.small h.srt ha,jf t a (by have:=h.small; omega),U6 _ hp,Lg h.short.apps h.now h.seen,wK t h.short.apps]
 have e:(t.ai.filter (HI t)).map aq.fId=(t.ai.filter fun b=>b.cw==2&&decide (i64.wrap (t.bW - b.bL)≥15)).map aq.fId:=rfl
 rw [← e,LZ _ (by rw [List.length_map]; exact Nat.le_trans (List.length_filter_le _ _) h.short.apps)]
 rfl
theorem IH {t:aa} (h:Xg t) (id:Int) {a:aq} (ha:SzL a) : Kd t id a=some true:=by
 unfold Kd
 rw [Td id h.short.apps h.short.app,dy t id h.short.apps]
 simp only [zb]
 split
 ·exact ME h id (a:={ a with fId:=id }) ⟨ha.queue,ha.asks,ha.grants,ha.kills,ha.told,ha.lost⟩
 ·exact ME h id ha
theorem OkS.fit10 {M:Nat} {s:aa} (h:OkS M s) (hM:M≤100000) {w:Int} (hw : 0≤w∧w < 20) : Xg (OH s w):=by
 have hs:=h.sz.short (show M≤1000000 by omega)
 have hn:=h.sz.nodes.2.2.1
 refine ⟨⟨hs.conf,hs.nodes,hs.apps,hs.conts,hs.slots,hs.plans,hs.app,hs.lab⟩,by have:=h.sz.apps; show s.ai.length≤_; omega,h.srt,?_,fun x hx=>(h.sz.app x hx).queue.2,fun id=>(h.sz.get id).shorts (by omega)⟩
 show 0≤i64.wrap (s.bW + w)∧i64.wrap (s.bW + w)≤2000000000
 rw [IntKind.wrap_i64]; omega
theorem AppsAsks.plain (a0:aH) (_k0:aH.ok a0) (a1:Int) (_k1:wfI a1) (a2:aq) (_k2:aq.ok a2) (a3:Int) (_k3:wfI a3) : qk (a0,(a1,(a2,(a3,()))))=some true:=by
 rw [WA,OI,Zr,V5]
 simp only [zb,Bool.not_true,zf,if_false]
 cases hf:(decide ((a0.fNs.length:Int)≤30)&&decide ((a0.mg.length:Int)≤80)) with
 | false=>rfl
 | true =>
  simp only [Bool.not_true,zf,if_false,zb]
  cases hg:(decide ((a2.bE.length:Int)≤20)&&decide ((a2.bM.length:Int)≤50)&&decide ((a2.dj.length:Int)≤50)&&decide ((a2.jH.length:Int)≤50)&&decide ((a2.jP.length:Int)≤50)&&decide ((a2.bF.size:Int)≤60)) with
  | false=>rfl
  | true =>
   have ha:=V4 hg
   simp only [Bool.not_true,zf,if_false]
   rw [Bool.and_eq_true] at hf
   have hacts:a0.mg.length≤80:=by have:=zd hf.2; omega
   obtain ⟨s,h1,h2⟩:=WH a0 hacts
   obtain ⟨w,w1,w2⟩:=BM a3 (n:=20) (by decide) (by decide)
   rw [h1]
   simp only [zb]
   rw [w1]
   simp only [zb,dH]
   have hF:=h2.fit10 (by decide) w2
   cases hq:(decide ((s.ai.length:Int) > 0)&&decide (Int.tmod a1 3 > 0)) with
   | false=>exact IH hF a1 ha
   | true =>
    rw [Bool.and_eq_true] at hq
    have hpos:=zd hq.1
    have hl:=h2.sz.apps
    obtain ⟨k,e1,e2⟩:=BM a1 (n:=(s.ai.length:Int)) (by omega) (by omega)
    obtain ⟨n,n1,_⟩:=jl e2.1 e2.2
    simp only [if_true]
    rw [e1]
    simp only [zb]
    rw [n1]
    simp only [zb]
    exact IH hF _ ha
section
set_option maxHeartbeats 0
theorem ss:∀ (w r:List Char),(∀ c∈w,c≠' ')→wordsSigns (w ++ ' ' :: r)=w::wordsSigns r
 | [],r,_=>by simp [wordsSigns]
 | c::w,r,h=>by
  have h1:c≠' ':=h c (List.mem_cons_self ..)
  have h2:=ss w r (fun d hd=>h d (List.mem_cons_of_mem _ hd))
  rw [List.cons_append,wordsSigns.eq_3 _ _ (fun e=>h1 e),h2]
theorem Fk (R:List (List Char)) : stripLifts liftWords (['c','u','t'] :: R)=([],['c','u','t'] :: R):=by kernel_rfl
theorem VA (P:Program) {R:List (List Char)} (h:behindMainWord (wordsSigns P.initOrder.toList) = ['c','u','t'] :: R) : P.make=some .cut:=by
 unfold Program.make
 rw [h]
 rfl
theorem VP (P:Program) {R:List (List Char)} (h:behindMainWord (wordsSigns P.initOrder.toList) = ['c','u','t'] :: R) : P.headLifts = []:=by
 unfold Program.headLifts
 rw [h,Fk]
 rfl
theorem SX (P:Program) {R:List (List Char)} (h:behindMainWord (wordsSigns P.initOrder.toList) = ['c','u','t'] :: R) : P.liftsFinal=false:=by
 unfold Program.liftsFinal
 rw [h,VP P h]
 rfl
theorem Tg (P:Program) {R:List (List Char)} (h:behindMainWord (wordsSigns P.initOrder.toList) = ['c','u','t'] :: R) (h1:P.laysLater=false) (h2:P.bearsReflect=false) (h3:P.doorFits [] = true) : P.mayEnter=true:=by
 unfold Program.mayEnter
 rw [h]
 dsimp only
 rw [Fk,h1,h2]
 dsimp only
 rw [h3]
 rfl
theorem Yi (P:Program) (h:P.doorRows = []) : P.doorFits [] = true:=by
 unfold Program.doorFits
 rw [h]
 rfl
theorem io:prog.initOrder = "harness ecb36c0af394d46bca573ace7f10ef24f6dfa040f45835f5fd4445f34a207c8c cut at dispatch/dispatchlaw10.AppsSubmit dispatch/dispatchlaw10.AppsAsks dispatch/dispatchlaw10.AppsQueue" := by kernel_rfl
theorem ioL:prog.initOrder.toList = ['h','a','r','n','e','s','s'] ++ ' ' :: (['e','c','b','3','6','c','0','a','f','3','9','4','d','4','6','b','c','a','5','7','3','a','c','e','7','f','1','0','e','f','2','4','f','6','d','f','a','0','4','0','f','4','5','8','3','5','f','5','f','d','4','4','4','5','f','3','4','a','2','0','7','c','8','c'] ++ ' ' :: (['c','u','t'] ++ ' ' :: ['a','t',' ','d','i','s','p','a','t','c','h','/','d','i','s','p','a','t','c','h','l','a','w','1','0','.','A','p','p','s','S','u','b','m','i','t',' ','d','i','s','p','a','t','c','h','/','d','i','s','p','a','t','c','h','l','a','w','1','0','.','A','p','p','s','A','s','k','s',' ','d','i','s','p','a','t','c','h','/','d','i','s','p','a','t','c','h','l','a','w','1','0','.','A','p','p','s','Q','u','e','u','e'])):=by rw [io]; exact String.toList_ofList
theorem ioW:∃ R,wordsSigns prog.initOrder.toList = ['h','a','r','n','e','s','s'] :: ['e','c','b','3','6','c','0','a','f','3','9','4','d','4','6','b','c','a','5','7','3','a','c','e','7','f','1','0','e','f','2','4','f','6','d','f','a','0','4','0','f','4','5','8','3','5','f','5','f','d','4','4','4','5','f','3','4','a','2','0','7','c','8','c'] :: ['c','u','t'] :: R:=by
 rw [ioL,ss _ _ (by decide),ss _ _ (by decide),ss _ _ (by decide)]
 exact ⟨_,rfl⟩
theorem ioB:∃ R,behindMainWord (wordsSigns prog.initOrder.toList) = ['c','u','t'] :: R:=by
 obtain ⟨R,h⟩:=ioW
 rw [h]
 exact ⟨R,by kernel_rfl⟩
theorem ZX:prog.laysLater=false:=by kernel_rfl
theorem aab:prog.bearsReflect=false:=by kernel_rfl
theorem Z6:prog.doorRows = []:=by kernel_rfl
theorem Zv:prog.mayEnter=true:=by
 obtain ⟨R,h⟩:=ioB
 exact Tg _ h ZX aab (Yi _ Z6)
theorem ZV:prog.liftsFinal=false:=by
 obtain ⟨R,h⟩:=ioB
 exact SX _ h
theorem ZS:prog.make=some .cut:=by
 obtain ⟨R,h⟩:=ioB
 exact VA _ h
end
end Go.Proofs.YtmjkjaahbgikjaaGreat
