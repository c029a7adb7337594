/- My texts, in one. -/
import Derived.Test.YtchddofjajgopaaGreatZE
set_option linter.all false
set_option maxRecDepth 100000
set_option maxHeartbeats 4000000
namespace Go.Proofs.YtchddofjajgopaaGreat
open Go.RowKit
open IntKind (i64)
open Go.Proofs.Tryz (prog)
section
section
variable {P:Program} {ops:Array Oper} {Q:Exit→Act→World→Prop} {md:Region.Mode} {L:World→World→Prop}
def fy (P:Program) (ops:Array Oper) (L:World→World→Prop) (W:World) (o:Oper) (v:Value) (a:Act) : Prop :=
 (Region.wanted o (yielded ops a.tmps)=true∧∀ w,L W w→OkX P v w ((execOp a.eval o).run P w)) ∨
 (Region.wanted o (yielded ops a.tmps)=false∧v=undef)
structure Way (L:World→World→Prop) : Prop where
 ext:∀ {a b},Ext a b→L a b
 trans:∀ {a b c},L a b→L b c→L a c
theorem fy.of_same {W:World} {o:Oper} {v:Value} {a a':Act} (hy:fy P ops L W o v a) (he:execOp a'.eval o=execOp a.eval o)
  (hw:Region.wanted o (yielded ops a'.tmps)=Region.wanted o (yielded ops a.tmps)) : fy P ops L W o v a':=by
 unfold fy at *
 rw [he,hw]
 exact hy
theorem fy.later (hL:Way L) {W W':World} {o:Oper} {v:Value} {a:Act} (hy:fy P ops L W o v a) (h:L W W') : fy P ops L W' o v a :=
 hy.imp (fun ⟨hw,hv⟩=>⟨hw,fun w k=>hv w (hL.trans h k)⟩) id
theorem fy.wpOp {W w:World} {i:Nat} {o:Oper} {v:Value} {a:Act} (hi:ops[i]? = some o) (hy:fy P ops L W o v a) (hW:L W w)
  {K:Act→World→Prop} (h:∀ w',Ext w w'→K (a.put o.dst v) w') : wpOp P ops Q i K a w:=by
 unfold Go.wpOp
 simp only [hi]
 rcases hy with ⟨hw,hv⟩ | ⟨hw,rfl⟩
 ·simp only [hw,if_true]
  refine .inl ?_
  unfold Oper.wp
  have:=hv w hW
  generalize (execOp a.eval o).run P w=r at *
  cases r with
  | ok n w' =>
   cases n <;> simp only [OkX] at this <;> simp only [Oper.upon]
   case value u=>rw [this.1]; exact h _ this.2
   case enter f args =>
    refine Calls.mono this.2 fun e w'' he=>?_
    rw [he.1]
    exact h _ (this.1.trans he.2)
  | halt x w'=>simp only [OkX] at this
 ·simp only [hw,zf,if_false]; exact h _ (Ext.refl _)
theorem Sw {j:Nat} {W:World} {oi oj:Oper} {v:Value} (hj:ops[j]? = some oj) (hap:oi.apart ops oj=true)
  (hsi:∀ cs b,oi.op≠.select cs b) (hsj:∀ cs b,oj.op≠.select cs b)
  (hQ:∀ c a w,Q (.panic c) (a.put oi.dst v) w→Q (.panic c) a w) {K:Act→World→Prop} {a:Act} {w:World}
  (hy:fy P ops L W oi v a) (h:wpOp P ops Q j K (a.put oi.dst v) w) :
  wpOp P ops Q j (fun a' w'=>fy P ops L W oi v a'∧K (a'.put oi.dst v) w') a w:=by
 obtain ⟨h1,h2,h3⟩:=Oper.apart_spec hap
 have keep:∀ (a:Act),fy P ops L W oi v a→∀ u,fy P ops L W oi v (a.put oj.dst u):=fun a hy u =>
  hy.of_same (execOp_put oi hsi a oj.dst u h3) (wanted_put oi a oj.dst u h3)
 have keepD:∀ d,fy P ops L W oi v { a with defers:=d::a.defers } := fun d=>hy.of_same rfl rfl
 unfold Go.wpOp at *
 simp only [hj] at *
 rw [wanted_put oj a oi.dst v h1] at h
 split
 ·rename_i hw
  simp only [hw,if_true] at h
  rcases h with h | ⟨hasks,hlets⟩
  case inr=>exact .inr ⟨by unfold Oper.asks at *; rw [execOp_put oj hsj a oi.dst v h1] at hasks; exact hasks,hlets⟩
  refine .inl ?_
  unfold Oper.wp at *
  rw [execOp_put oj hsj a oi.dst v h1] at h
  generalize (execOp a.eval oj).run P w=r at *
  cases r with
  | ok n w' =>
   cases n <;> simp only [Oper.upon] at h ⊢
   case value u=>exact ⟨keep a hy u,by rw [← Act.put_comm a v u h2]; exact h⟩
   case skip=>exact ⟨keep a hy _,by rw [← Act.put_comm a v undef h2]; exact h⟩
   case defer d =>
    refine ⟨keep _ (keepD d) _,?_⟩
    rw [← Act.put_comm _ v undef h2,← Act.put_defers]
    exact h
   case enter f args =>
    refine Calls.mono h fun e w'' he=>?_
    cases e with
    | returned u=>exact ⟨keep a hy u,by rw [← Act.put_comm a v u h2]; exact he⟩
    | panicked c=>exact hQ _ _ _ he
    | outgrown=>exact he
   case row row args=>exact Rows.mono h fun u w'' he=>⟨keep a hy u,by rw [← Act.put_comm a v u h2]; exact he⟩
  | halt x w' =>
   cases x <;> simp only [Oper.upon] at h ⊢
   case panic u=>exact hQ _ _ _ h
 ·rename_i hw
  simp only [hw] at h
  exact ⟨keep a hy _,by rw [← Act.put_comm a v undef h2]; exact h⟩
def wpW (P:Program) (md:Region.Mode) (ops:Array Oper) (Q:Exit→Act→World→Prop) (L:World→World→Prop) : Nat→Array Bool→Act→World→Prop
 | 0,listed,a,w=>Region.ready md ops listed = []∧∀ w1,Ext w w1→Q .normal a w1
 | f + 1, listed, a, w => (Region.ready md ops listed = [] → ∀ w1, Ext w w1 → Q .normal a w1) ∧ ∀ w1, Ext w w1 →
     ∀ i∈Region.ready md ops listed,wpOp P ops Q i (fun a' w'=>L w1 w'∧wpW P md ops Q L f (listed.setIfInBounds i true) a' w') a w1
theorem wpW.later:∀ {f:Nat} {listed:Array Bool} {a:Act} {w w':World},wpW P md ops Q L f listed a w→Ext w w'→wpW P md ops Q L f listed a w'
 | 0,_,_,_,_,h,k=>⟨h.1,fun w1 k1=>h.2 w1 (k.trans k1)⟩
 | _ + 1,_,_,_,_,h,k=>⟨fun h0 w1 k1=>h.1 h0 w1 (k.trans k1),fun w1 k1=>h.2 w1 (k.trans k1)⟩
theorem yf:∀ (f:Nat) (listed:Array Bool) (a:Act) (w:World),wpW P md ops Q L f listed a w→wpAny P md ops Q f listed a w
 | 0,_,_,_,h=>⟨h.1,h.2 _ (Ext.refl _)⟩
 | f + 1,_,_,_,h=>⟨fun h0=>h.1 h0 _ (Ext.refl _),fun i hi=>wpOp_mono (fun a' w' h'=>yf f _ a' w' h'.2) (h.2 _ (Ext.refl _) i hi)⟩
theorem Sv (hL:Way L) {i:Nat} {oi:Oper} {v:Value} (hi:ops[i]? = some oi) (hsel:∀ (j:Nat) (o:Oper) cs b,ops[j]? = some o→o.op≠.select cs b)
  (hQ:∀ c a w,Q (.panic c) (a.put oi.dst v) w→Q (.panic c) a w) :
  ∀ (f:Nat) (listed:Array Bool) (a:Act) (w:World),
   (∀ j oj,ops[j]? = some oj→j≠i→listed.getD j true=false→(∀ e∈oj.after,Region.binds md e=true→e.on≠i)→oi.apart ops oj=true) →
   i∈Region.ready md ops listed→fy P ops L w oi v a →
   wpW P md ops Q L f (listed.setIfInBounds i true) (a.put oi.dst v) w→wpW P md ops Q L (f + 1) listed a w:=by
 intro f
 induction f with
 | zero =>
  intro listed a w _ hr hy H
  refine ⟨fun h=>(by rw [h] at hr; cases hr),fun w1 k1 j hj=>?_⟩
  by_cases hji:j=i
  ·subst hji; exact hy.wpOp hi (hL.ext k1) fun w' k'=>⟨hL.ext k',wpW.later H (k1.trans k')⟩
  ·have:=ready_mono hj hji
   rw [H.1] at this
   cases this
 | succ f ih =>
  intro listed a w hfree hr hy H
  have hun:=(mem_ready.1 hr).1
  refine ⟨fun h=>(by rw [h] at hr; cases hr),fun w1 k1 j hj=>?_⟩
  by_cases hji:j=i
  ·subst hji; exact hy.wpOp hi (hL.ext k1) fun w' k'=>⟨hL.ext k',wpW.later H (k1.trans k')⟩
  ·have h1:=H.2 w1 k1 j (ready_mono hj hji)
   obtain ⟨hjun,oj,hoj,hall⟩:=mem_ready.1 hj
   have hnot:∀ e∈oj.after,Region.binds md e=true→e.on≠i:=fun e he hb heq=>by
    have h1:=hall e he hb
    rw [heq,getD_both hun] at h1
    cases h1
   have hfree':∀ k ok,ops[k]? = some ok→k≠i→(listed.setIfInBounds j true).getD k true=false →
     (∀ e∈ok.after,Region.binds md e=true→e.on≠i)→oi.apart ops ok=true:=fun k ok hk hki hun hno=>by
    refine hfree k ok hk hki ?_ hno
    by_cases hjk:j=k
    ·subst hjk; exact hjun
    ·rw [getD_set_ne true hjk] at hun; exact hun
   have h2:=Sw hoj (hfree j oj hoj hji hjun hnot) (fun cs b=>hsel i oi cs b hi) (fun cs b=>hsel j oj cs b hoj) hQ hy h1
   refine wpOp_mono (fun a' w' h3=>⟨h3.2.1,ih (listed.setIfInBounds j true) a' w' hfree' (ready_mono hr (Ne.symm hji)) (h3.1.later hL (hL.trans (hL.ext k1) h3.2.1)) ?_⟩) h2
   rw [Array.setIfInBounds_comm _ _ hji]
   exact h3.2.2
def xg (md:Region.Mode) (ops:Array Oper) : List (Nat×Bool)→Array Bool→Bool
 | [],listed=>(Region.ready md ops listed).isEmpty
 | (i,true)::s,listed=>(Region.ready md ops listed).contains i&&Region.free md ops listed i&&xg md ops s (listed.setIfInBounds i true)
 | (i,false)::s,listed=>(Region.ready md ops listed == [i])&&xg md ops s (listed.setIfInBounds i true)
def wpS (P:Program) (ops:Array Oper) (Q:Exit→Act→World→Prop) (L:World→World→Prop) : List (Nat×Bool)→Act→World→Prop
 | [],a,W=>∀ w1,Ext W w1→Q .normal a w1
 | (i,true)::s,a,W=>∃ o v,ops[i]? = some o∧fy P ops L W o v a∧wpS P ops Q L s (a.put o.dst v) W
 | (i,false)::s,a,W=>∀ w1,Ext W w1→wpOp P ops Q i (fun a' w'=>L w1 w'∧wpS P ops Q L s a' w') a w1
def RP (ops:Array Oper) (ds:Tmp→Bool) (s:List (Nat×Bool)) : Bool:=s.all fun p=>!p.2||((ops[p.1]?).all fun o=>o.dst.all ds)
theorem w6 (hL:Way L) (hsel:Region.noSelect ops=true) (ds:Tmp→Bool) (hQ:∀ c (a:Act) (d:Tmp) v w,ds d=true→Q (.panic c) (a.put (some d) v) w→Q (.panic c) a w) :
  ∀ (s:List (Nat×Bool)) (listed:Array Bool) (a:Act) (W:World),RP ops ds s=true→xg md ops s listed=true→wpS P ops Q L s a W→wpW P md ops Q L s.length listed a W
 | [],listed,a,W,_,hB,h=>⟨by simpa [xg] using hB,h⟩
 | (i,true)::s,listed,a,W,hI,hB,h=>by
  simp only [RP,List.all_cons,Bool.and_eq_true,Bool.not_true,Bool.false_or] at hI
  obtain ⟨hI1,hI2⟩:=hI
  simp only [xg,Bool.and_eq_true] at hB
  obtain ⟨⟨hr,hf⟩,hB'⟩:=hB
  obtain ⟨o,v,h0,hy,hK⟩:=h
  exact Sv hL h0 (Region.noSelect_spec hsel) (fun c a w=>by cases hd:o.dst with | none=>exact fun h=>h | some d=>exact hQ c a d v w (by simpa [h0,hd] using hI1)) s.length listed a W
   (Region.free_spec h0 hf) (by simpa using hr) hy (w6 hL hsel ds hQ s _ _ _ hI2 hB' hK)
 | (i,false)::s,listed,a,W,hI,hB,h=>by
  simp only [RP,List.all_cons,Bool.and_eq_true] at hI
  simp only [xg,Bool.and_eq_true,beq_iff_eq] at hB
  obtain ⟨hr,hB'⟩:=hB
  refine ⟨fun h0=>(by rw [hr] at h0; cases h0),fun w1 k1 j hj=>?_⟩
  rw [hr,List.mem_singleton] at hj
  subst hj
  exact wpOp_mono (fun a' w' h'=>⟨h'.1,w6 hL hsel ds hQ s _ _ _ hI.2 hB' h'.2⟩) (h w1 k1)
theorem Lm:∀ (f:Nat) {g:Nat} {listed:Array Bool} {a:Act} {w:World},f≤g→wpAny P md ops Q f listed a w→wpAny P md ops Q g listed a w
 | 0,0,_,_,_,_,h=>h
 | 0,g + 1,_,_,_,_,h=>⟨fun _=>h.2,by rw [h.1]; simp⟩
 | f + 1,g + 1,_,_,_,hle,h=>⟨h.1,fun i hi=>wpOp_mono (fun a' w' h'=>Lm f (by omega) h') (h.2 i hi)⟩
 | f + 1,0,_,_,_,hle,_=>absurd hle (by omega)
theorem nY (L:World→World→Prop) (hL:Way L) {id:Nat} {a:Act} {w:World} {l:List Oper} (s:List (Nat×Bool)) (hm:P.follows .mixedOrders=true)
  (hB:(Region.noSelect l.toArray&&decide (s.length≤l.toArray.size)&&xg .any l.toArray s (Array.replicate l.toArray.size false))=true)
  (hQ:∀ c (a:Act) (d:Tmp) v w,Q (.panic c) (a.put (some d) v) w→Q (.panic c) a w)
  (h:wpS P l.toArray Q L s a w.drew) : (Code.region id l.toArray true).wp P Q a w:=by
 simp only [Bool.and_eq_true,decide_eq_true_eq] at hB
 obtain ⟨⟨hsel,hle⟩,hB⟩:=hB
 exact wp_region_any hm (Lm _ hle (yf _ _ _ _ (w6 (md:=.any) hL hsel (fun _=>true) (fun c a d v w _=>hQ c a d v w) s _ a w.drew (by simp [RP]) hB h)))
variable {l:List Oper}
theorem rv {o:Oper} {a:Act} (h:o.guard=none) : Region.wanted o (yielded l.toArray a.tmps)=true:=by simp [Region.wanted,h]
theorem sM {W:World} {i:Nat} {s:List (Nat×Bool)} {a:Act} (o:Oper) (v:Value) (hi:l[i]? = some o) (hw:Region.wanted o (yielded l.toArray a.tmps)=true)
  (h:∀ w1,L W w1→OkX P v w1 ((execOp a.eval o).run P w1)) (hr:wpS P l.toArray Q L s (a.put o.dst v) W) : wpS P l.toArray Q L ((i,true)::s) a W:=⟨o,v,by simpa using hi,.inl ⟨hw,h⟩,hr⟩
theorem Ou {W:World} {i:Nat} {s:List (Nat×Bool)} {a:Act} (o:Oper) (hi:l[i]? = some o) (hw:Region.wanted o (yielded l.toArray a.tmps)=true)
  (h:∀ w1,Ext W w1→o.wp P a w1 (fun a' w'=>L w1 w'∧wpS P l.toArray Q L s a' w') Q) : wpS P l.toArray Q L ((i,false)::s) a W:=by
 intro w1 k1
 have hi':l.toArray[i]? = some o:=by simpa using hi
 unfold Go.wpOp
 simp only [hi',hw,if_true]
 exact .inl (h w1 k1)
theorem xf {W:World} {a:Act} (h:∀ w1,Ext W w1→Q .normal a w1) : wpS P ops Q L [] a W:=h
end
theorem J6:Way Ext:=⟨fun h=>h,Ext.trans⟩
end
theorem Tryz.infoCap:(prog.info? 96).map (fun i=>(i.zero,i.size,i.bytes))=some (some (.agg #[.int .i64 0,.int .i64 0]),2,16):=by kernel_rfl
theorem Kw (w:World) (x y:Value) (t:TypeId) : ∀ j u,[x,y][j]? = some u→(w.alloc (.cells #[x,y] t)).cell? ((⟨w.heap.size,0,none⟩ : Addr).add j)=some u:=by
 intro j u hu
 have hadd:(⟨w.heap.size,0,none⟩ : Addr).add j=⟨w.heap.size,j,none⟩:=by unfold Addr.add; split <;> simp_all
 rw [hadd,cell_of_row _ w.heap.size j _ t (0,0) (heap_alloc_new w _),← Array.getElem?_toList]
 exact hu
theorem aaC {a b:Int} : ∀ u∈[Value.int .i64 a,Value.int .i64 b],u.oneCell' = true:=by
 intro u hu
 simp only [List.mem_cons,List.mem_nil_iff,or_false] at hu
 rcases hu with rfl | rfl <;> rfl
theorem Kz {w:World} {b:Nat} {cs:Array Value} {t:TypeId} (h:w.heap[b]? = some (.cells cs t (0,0))) (j:Nat) (v:Value) : (w.setCell ⟨b,j,none⟩ v).heap[b]? = some (.cells (cs.setIfInBounds j v) t (0,0)):=by
 rw [heap_setCell_same w b j _ _ _ h]
theorem FH (cs:List (Int×Int)) : ce (cs ++ [ru])=ce cs ++ [.int .i64 10000,.int .i64 10000]:=Ha cs 10000 10000
theorem wL (w:World) (R i:Nat) (u:Value) : w.grownBy (w.setCell ⟨R,i,none⟩ u) (some R) :=
 ⟨rfl,rfl,rfl,by simp [World.setCell],fun k _ hk=>Below.heap_setCell _ _ _ _ (fun e=>hk (by rw [e]))⟩
theorem RN {w:World} (B gl nl:Nat) (h:w.heap[gl]? = some (.cells #[.string ⟨#[]⟩,.string ⟨#[103,112,117]⟩] 9 (0,0))) (hB:B≤gl) (h2:nl≤2) : w.ownsRow B 9 1 (.slice (some ⟨gl,0,none⟩) nl 2) nl ((CV nl).map sv):=by
 refine ⟨by simp [CV]; omega,.inr ⟨gl,2,_,rfl,hB,h,h2,by simp [maxLen],rfl,?_⟩⟩
 rcases nl with _ | _ | _ | nl
 ·rfl
 ·rfl
 ·rfl
 ·omega
theorem So {w V w5:World} {row:Option Nat} {Q:Nat} {o:Obj} (hV:Ext w V) (hg:V.grownBy w5 row) (hb:w.heap[Q]? = some o) (hne:row≠some Q) : w5.heap[Q]? = some o:=by
 have hlt:=(Array.getElem?_eq_some_iff.1 hb).1
 rw [hg.block Q (Nat.lt_of_lt_of_le hlt hV.size) (fun e=>hne e.symm),hV.block Q hlt]
 exact hb
theorem Tb (i j k:Nat) (hi:i≤7) (hj:j≤7) (hk:k≤2) : ∃ p:Nat,p≤51∧(p:Int)=(i:Int) * (j:Int) + (k:Int)∧wrap64 (wrap64 ((i:Int) * (j:Int)) + (k:Int))=(p:Int):=by
 have h:i * j≤7 * 7:=Nat.mul_le_mul hi hj
 obtain ⟨p,hp⟩ : ∃ p:Nat,p=i * j:=⟨_,rfl⟩
 rw [← hp] at h
 refine ⟨p + k,by omega,by rw [hp]; simp [Int.natCast_add,Int.natCast_mul],?_⟩
 rw [show (i:Int) * (j:Int)=(p:Int) by rw [hp]; exact (Int.natCast_mul i j).symm]
 rw [show wrap64 (p:Int)=(p:Int) from IntWalk.wrap64_in _ ⟨by omega,by omega⟩]
 rw [show wrap64 ((p:Int) + (k:Int))=(p:Int) + (k:Int) from IntWalk.wrap64_in _ ⟨by omega,by omega⟩]
 omega
def UQ (sh:Int) (xs:List Int) (y nl:Nat) (w:World) (e:Ending) (w':World) : Prop:=∃ vl vq ds qs B,e = .returned (.agg #[vl,vq])∧w.heap.size≤B∧w'.ownsRow w.heap.size 9 1 vl nl ((CV nl).map sv)∧iK w' B vq ds qs∧GI nl (my y) (my y).length ds∧Ext w w'∧fH sh xs=some (gC nl ds)
theorem Su (a:Int) : wrap64 a=i64.wrap a:=by rw [IntKind.wrap_i64]; unfold wrap64; rfl
theorem Z0 {xs:List Int} {i jj kk nk L:Nat} {z1 z2 a b:Int} {z y:Nat} (hl:jj + 1 < nk) (e3:z1=gU xs a) (ha:a=(i:Int) + jj + kk) (e4:z2=gU xs b) (hb:b=(i:Int) * jj + kk) (e1:(z:Int)=z1 % ((L + 1:Nat) : Int)) (e2:(y:Int)=z2 % ((4:Nat) : Int)) : [0,(L:Int) / 2,(L:Int),(z:Int)].getD y 0=nV xs i jj kk nk (L:Int):=by
 unfold nV
 rw [if_pos hl,← ha,← hb,← e3,← e4]
 have e5:z1 % ((L:Int) + 1)=(z:Int):=by rw [e1]; rfl
 have e6:z2 % 4=(y:Int):=by rw [e2]; rfl
 rw [e5,e6]
 rfl
theorem Z2 {xs:List Int} {i jj kk n:Nat} {z1 z2 a b:Int} {z y:Nat} (hn:n≤10000) (e3:z1=gU xs a) (ha:a=(jj:Int) + kk) (e4:z2=gU xs b) (hb:b=(i:Int) + 2 * jj) (e1:(z:Int)=z1 % ((10000 - n + 1:Nat) : Int)) (e2:(y:Int)=z2 % ((3:Nat) : Int)) : [10000,(n:Int),(n:Int) + (z:Int)].getD y 0=mV xs i jj kk (n:Int):=by
 unfold mV
 rw [← ha,← hb,← e3,← e4]
 have e5:z1 % (10000 - (n:Int) + 1)=(z:Int):=by rw [e1]; congr 1; omega
 have e6:z2 % 3=(y:Int):=by rw [e2]; rfl
 rw [e5,e6]
 rfl
set_option maxHeartbeats 12800000 in
theorem UP (sh:Int) (v:Value) (xs:List Int) (w:World) (r0:Rd w v (xs.map (Value.int .i64))) (hx30:xs.length≤9223372036854775807) :
  Calls prog 29 #[.int .i64 sh,v] w fun e w'=>∃ nl,1≤nl∧nl≤2∧UQ sh xs (sh % 5).toNat nl w e w':=by
 obtain ⟨c0,hc,hcz0,hcz1,hcz2⟩:=info_parts Tryz.infoCap
 obtain ⟨q0,hq,hqz0,hqz1,hqz2⟩:=info_parts Tryz.infoQ
 obtain ⟨i0,hi,hz0,hz1,hz2⟩:=info_parts Tryz.infoStr
 obtain ⟨W2,hW2⟩ : ∃ W2,W2=rM w:=⟨_,rfl⟩
 have X2:=Lib.hid (show Ext w W2 by rw [hW2]; exact Tm w)
 have HS2:=Lib.hid (show W2.heap.size=w.heap.size + 8 by rw [hW2]; exact OZ w)
 have HR0:=Lib.hid (show W2.heap[w.heap.size]? = some (.cells #[.slice none 0 0,.slice none 0 0] 34 (0,0)) by rw [hW2]; exact Tk w)
 have HLB:=Lib.hid (show W2.heap[w.heap.size + 1 + 1 + 1 + 1 + 1 + 1 + 1]? = some (.cells #[.string ⟨#[]⟩,.string ⟨#[103,112,117]⟩] 9 (0,0)) by rw [hW2]; exact O1 w)
 have HTR:=Lib.hid (show ∀ y,y < 5→W2.cell? ⟨w.heap.size + 1 + 1 + 1 + 1 + 1 + 1,y,none⟩=some (.slice (some ⟨w.heap.size + 1 + y,0,none⟩) (my y).length (my y).length) by rw [hW2]; exact OY w)
 have HPA:=Lib.hid (show ∀ y,y < 5→∀ i (hi:i < (my y).length),W2.cell? ⟨w.heap.size + 1 + y,i,none⟩=some (.string ⟨((my y)[i]).toArray⟩) by rw [hW2]; exact O0 w)
 obtain ⟨A,N,c,rfl,hN,hc1,hc2,hcell⟩:=H9 r0
 have HC:=Lib.hid hcell
 have HN:=Lib.hid hN
 have HRD:=Lib.hid r0
 have hN30:N≤9223372036854775807:=by omega
 clear hcell hN r0
 have hW2':W2 = _:=hW2
 unfold rM at hW2'
 go_enter Tryz.func29,Tryz.ntmps29
 go_wp2_with fail
 rw [← hW2']
 clear hW2 hW2'
 (with_reducible refine (gA _ 2 2 _ rfl (by omega)).mono ?_)
 rintro e w2 ⟨nl',rfl,hny,hnl,rfl⟩
 have HNY:=Lib.hid hny
 clear hny
 have hnl1:(1 + (nl':Int)).toNat=nl' + 1:=by omega
 have hnl2:(0:Int)≤1 + (nl':Int):=by omega
 have hnl3 : 1 + (nl':Int)≤2:=by omega
 go_wp2_with fail
 (with_reducible refine (gA _ 5 5 _ rfl (by omega)).mono ?_)
 rintro e w3 ⟨y,rfl,hny,hy5,rfl⟩
 have HY:=Lib.hid hny
 clear hny hnl1
 obtain ⟨nl,hnl'⟩ : ∃ nl,nl=nl' + 1:=⟨_,rfl⟩
 rw [← hnl']
 have HNL:=Lib.hid hnl'
 have hnl4:nl≤2:=by omega
 have hnl5 : 1≤nl:=by omega
 clear hnl' hnl2 hnl3 hnl
 obtain ⟨gt,hgt⟩ : ∃ gt,gt=w.heap.size + 1 + y:=⟨_,rfl⟩
 obtain ⟨ps,hps⟩ : ∃ ps,ps=my y:=⟨_,rfl⟩
 obtain ⟨NP,hNP⟩ : ∃ NP,NP=ps.length:=⟨_,rfl⟩
 have hNP7:NP≤7:=by rw [hNP,hps]; exact Lu y
 have HPX:=Lib.hid (show ∀ i (hi:i < ps.length),W2.cell? ⟨gt,i,none⟩=some (.string ⟨(ps[i]).toArray⟩) by rw [hgt]; subst hps; exact HPA.out y hy5)
 have HTX:=HTR.out y hy5
 rw [← hgt,← hps,← hNP] at HTX
 have HTX':∀ o,(W2.alloc o).cell? ⟨w.heap.size + 1 + 1 + 1 + 1 + 1 + 1,y,none⟩=some (.slice (some ⟨gt,0,none⟩) NP NP):=fun o=>(aO W2 o).cell HTX
 have HPS:=Lib.hid hps
 have HNP:=Lib.hid hNP
 have HNO:=Lib.hid (show ps.Nodup by rw [hps]; exact Og y)
 have HE0:=Lib.hid (show E1 sh xs nl ps 0 [] by rw [hps]; exact E1.start sh xs (by have h1:=HNY.out; have h2:=HNL.out; rw [h2]; first | omega | (rw [show (((nl' + 1:Nat)) : Int)=1 + (nl':Int) by omega,h1,Su]; rfl)) (by have:=HY.out; omega))
 have hy0:(0:Int)≤(y:Int):=by omega
 have hy5':(y:Int) < 5:=by omega
 clear hgt hps hNP HTX
 go_wp2
 obtain ⟨gl,hgl⟩ : ∃ gl,gl=w.heap.size + 1 + 1 + 1 + 1 + 1 + 1 + 1:=⟨_,rfl⟩
 rw [← hgl]
 have HGL:=Lib.hid (show w.heap.size≤gl by omega)
 have HL2:=Lib.hid (show W2.heap[gl]? = some (.cells #[.string ⟨#[]⟩,.string ⟨#[103,112,117]⟩] 9 (0,0)) by rw [hgl]; exact HLB.out)
 clear hgl HLB HTX' HTR HPA
 obtain ⟨R,hR⟩ : ∃ R,R=W2.heap.size:=⟨_,rfl⟩
 have HR3:=Lib.hid (show (W2.alloc (.cells #[.slice (some ⟨gl,0,none⟩) nl 2,.slice none 0 0] 34)).heap[R]? = some (.cells #[.slice (some ⟨gl,0,none⟩) nl 2,.slice none 0 0] 34 (0,0)) by rw [hR]; exact heap_alloc_new W2 _)
 rw [← hR]
 have HRR:=Lib.hid hR
 clear hR
 go_loopw [8] (fun i wr=>∃ (k:Nat) (vq:Value) (ds:List QD) (qs:List QC),i = .int .i64 k∧k≤NP∧wr.heap[R]? = some (.cells #[.slice (some ⟨gl,0,none⟩) nl 2,vq] 34 (0,0))∧iK wr R vq ds qs∧G1 nl ps k ds∧E1 sh xs nl ps k ds∧Ext W2 wr) (fun i _=>NP - (intOf i).toNat)
 case atStart=>exact ⟨0,_,[],[],rfl,by omega,HR3.out,iK.nil _ _,G1.nil nl ps,HE0.out,aO _ _⟩
 case round =>
  obtain ⟨k,vq,ds,qs,rfl,hk,hRb,hOQ,hG,hE,hx⟩:=hrel
  have HE:=Lib.hid hE
  clear hE HE0
  have HRB:=Lib.hid hRb
  have HOQ:=Lib.hid hOQ
  have HG:=Lib.hid hG
  have HX:=Lib.hid hx
  clear hRb hOQ hG hx
  have k0:(0:Int)≤(k:Int):=by omega
  by_cases hlt:k < NP
  ·have k1:(k:Int) < (NP:Int):=by omega
   have hkp:k < ps.length:=by have:=HNP.out; omega
   have p0:=HX.out.cell (HPX.out k hkp)
   obtain ⟨P,hP⟩ : ∃ P:ByteArray,P=⟨(ps[k]).toArray⟩:=⟨_,rfl⟩
   rw [← hP] at p0
   have HP:=Lib.hid (show P.data.toList=ps[k] by rw [hP])
   clear hP
   obtain ⟨WQ,hWQ⟩ : ∃ WQ,WQ=wr.alloc (.cells #[.string P,.slice none 0 0,.int .i64 1000000] 99):=⟨_,rfl⟩
   obtain ⟨Q,hQ⟩ : ∃ Q,Q=wr.heap.size:=⟨_,rfl⟩
   have HQR:=Lib.hid (show R≤Q by rw [hQ,HRR.out]; exact HX.out.size)
   have HQB:=Lib.hid (show WQ.heap[Q]? = some (.cells #[.string P,.slice none 0 0,.int .i64 1000000] 99 (0,0)) by rw [hWQ,hQ]; exact heap_alloc_new wr _)
   have HXQ:=Lib.hid (show Ext wr WQ by rw [hWQ]; exact aO _ _)
   go_upto_region 8 with fail
   rw [← hWQ,← hQ]
   have HQQ:=Lib.hid hQ
   clear hWQ hQ p0
   go_cut [59] from 48 to 59 (fun s59 wx=>(∃ b:Bool,s59 = .bool b∧b=EJ xs k)∧wx=WQ)
   case first =>
    by_cases hkN:k < N
    ·have n1:(k:Int) < (N:Int):=by omega
     obtain ⟨a,rfl,hb,hcs⟩:=HC.out (by omega)
     have h3:=(X2.out.trans (HX.out.trans HXQ.out)).cell' (hcs k (by have:=HN.out; omega))
     have hxg:xs.getD k 0=xs[k]'(by have:=HN.out; omega):=by simp [List.getD,zq (show k < xs.length by have:=HN.out; omega)]
     generalize xs[k]'(by have:=HN.out; omega)=x at h3 hxg
     have HGT:=Lib.hid (show (x.tmod 3==0)=EJ xs k by unfold EJ; rw [decide_eq_true (show k < xs.length by have:=HN.out; omega),hxg]; rfl)
     clear hcs hb hxg
     go_wp2
     go_meet
     case rel=>exact ⟨⟨_,rfl,by first | exact HGT.out | (rw [← HGT.out]; simp)⟩,rfl⟩
    ·have n1 : ¬ (k:Int) < (N:Int):=by omega
     go_wp2
     go_meet
     case rel=>exact ⟨⟨_,rfl,by unfold EJ; rw [decide_eq_false (show ¬ k < xs.length by have:=HN.out; omega)]; rfl⟩,rfl⟩
   case rest =>
    obtain ⟨⟨b,rfl,hbN⟩,rfl⟩:=hcut
    have HBN:=Lib.hid hbN
    clear hbN
    go_upto_if 59 with fail
    go_cut [] from 60 to 66 (fun wx=>∃ u:Int,1≤u∧u≤1000000∧u=Ic xs k∧wx.heap[Q]? = some (.cells #[.string P,.slice none 0 0,.int .i64 u] 99 (0,0))∧Ext wr wx)
    case first =>
     cases b with
     | true =>
      have hkN:k < N:=by
       have h:=HBN.out
       unfold EJ at h
       have h2:=(Bool.and_eq_true_iff.1 h.symm).1
       have h3:=zd h2
       have:=HN.out
       omega
      have n1:(k:Int) < (N:Int):=by omega
      obtain ⟨a,rfl,hb,hcs⟩:=HC.out (by omega)
      have h3:=(X2.out.trans (HX.out.trans HXQ.out)).cell' (hcs k (by have:=HN.out; omega))
      have hxg:xs.getD k 0=xs[k]'(by have:=HN.out; omega):=by simp [List.getD,zq (show k < xs.length by have:=HN.out; omega)]
      generalize xs[k]'(by have:=HN.out; omega)=x at h3 hxg
      have HXG:=Lib.hid hxg
      clear hxg
      have u2:=de HQB.out 2 _ rfl
      have f2:=sa HQB.out 2
      clear hcs hb
      go_wp2_with fail
      (with_reducible refine (gA _ 20000 20000 _ rfl (by omega)).mono ?_)
      rintro e w4 ⟨z,rfl,hz,hz2,rfl⟩
      have HZ:=Lib.hid hz
      clear hz
      go_wp2
      go_meet
      case rel =>
       refine ⟨1 + (z:Int),by omega,by omega,by rw [Ic,if_pos HBN.out.symm,HXG.out,HZ.out]; rfl,?_,?_⟩
       ·rw [Kz HQB.out]; rfl
       ·exact yQ HXQ.out (by rw [HQQ.out]; exact Nat.le_refl _) _
     | false =>
      go_wp2
      go_meet
      case rel=>exact ⟨1000000,by omega,by omega,by rw [Ic,if_neg (by rw [← HBN.out]; decide)],HQB.out,HXQ.out⟩
    case rest =>
     obtain ⟨u,hu1,hu2,hu3,hqb,hxq⟩:=hcut
     have HU3:=Lib.hid hu3
     clear hu3
     have HQC:=Lib.hid hqb
     have HXC:=Lib.hid hxq
     clear hqb hxq HBN HQB
     go_wp2
     go_loopw [10] (fun i2 wx=>∃ (kk:Nat) (vc:Value),i2 = .int .i64 kk∧kk≤nl∧wx.heap[Q]? = some (.cells #[.string P,vc,.int .i64 u] 99 (0,0))∧wx.ownsRow (Q + 1) 96 2 vc kk (ce (List.replicate kk ru))∧Ext wr wx) (fun i2 _=>nl - (intOf i2).toNat)
     case atStart=>exact ⟨0,_,rfl,by omega,HQC.out,World.ownsRow_nil _ _ _ 2,HXC.out⟩
     case round =>
      obtain ⟨kk,vc,rfl,hkk,hqb,ho,hxx⟩:=hrel
      obtain ⟨Av,cv,rfl,hv1,hv2⟩:=cC ho
      have HQX:=Lib.hid hqb
      have HO:=Lib.hid ho
      have HXX:=Lib.hid hxx
      clear hqb ho hxx
      have r0:=HXX.out.cell (de HRB.out 0 _ rfl)
      have kk0:(0:Int)≤(kk:Int):=by omega
      by_cases hlk:kk < nl
      ·have kk1:(kk:Int) < (nl:Int):=by omega
       have q1:=de HQX.out 1 _ rfl
       have f1:=sa HQX.out 1
       go_wp2_with (at_builtin; go_loud (refine wpList_append_own_at _ rfl (.tmp 75) (.tmp 77) 97 rfl (Q + 1) 96 c0 _ 2 16 Tryz.underlying97 hc hcz0 hcz1 hcz2 rfl (by decide) _ kk (ce (List.replicate kk ru)) rfl (HO.out.alloc _) ⟨_,0,none⟩ 1 1 [.int .i64 10000,.int .i64 10000] rfl rfl (Kw _ _ _ _) aaC ?c3 ?c4 ?c5 ?_))
       case c3=>simp [maxLen]; omega
       case c4=>omega
       case c5 =>
        have:=(Array.getElem?_eq_some_iff.1 HQX.out).1
        simp; omega
       intro v' w5 ho5 hg5 _ hat5
       have HQ5:=Lib.hid (So (aO _ _) hg5 HQX.out (fun e=>by have:=(HO.out.lt Q e).1; omega))
       have HO5:=Lib.hid (show w5.ownsRow (Q + 1) 96 2 v' (kk + 1) (ce (List.replicate (kk + 1) ru)) by
        rw [List.replicate_succ',FH ]; exact ho5)
       have HX5:=Lib.hid ((HXX.out.trans (aO _ _)).trans' (cI hg5 (by have:=HXX.out.size; simp; omega) (OJ HO.out (by have:=HQQ.out; omega))))
       have q5:=de HQ5.out 1 _ rfl
       have f5:=sa HQ5.out 1
       obtain ⟨A5,c5,rfl,_,_⟩:=cC ho5
       clear ho5 hg5 hat5 q1 f1 r0
       go_wp2
       go_roundw
       case rel =>
        refine ⟨kk + 1,_,by simp,by omega,by rw [Kz HQ5.out]; rfl,?_,?_⟩
        ·exact HO5.out.kept (wL _ Q 1 _) (.inr fun e=>by have:=(HO5.out.lt Q e).1; omega)
        ·exact yQ HX5.out (by rw [HQQ.out]; exact Nat.le_refl _) _
       case measure=>simp [intOf]; omega
      ·obtain rfl:kk=nl:=by omega
       have kk1 : ¬ (kk:Int) < (kk:Int):=by omega
       have HROW:=Lib.hid (lh HOQ.out.row HXX.out)
       obtain ⟨Aq,cq,rfl,hcq1,hcq2⟩:=cC HROW.out
       obtain ⟨DL,hDL⟩ : ∃ DL,DL=ds.length:=⟨_,rfl⟩
       have hDL7:DL≤7:=by
        have h1:=congrArg List.length HG.out.paths
        rw [List.length_map,List.length_take] at h1
        omega
       have HROW2:=Lib.hid (show (_:World).ownsRow R 99 3 (.slice Aq DL cq) DL (fK qs) by have h:=HROW.out; rw [← hDL] at h; exact h)
       have r1:=HXX.out.cell (de HRB.out 1 _ rfl)
       rw [← hDL] at r1
       have q2:=de HQX.out 0 _ rfl
       have q3:=de HQX.out 1 _ rfl
       have q4:=de HQX.out 2 _ rfl
       have HDL:=Lib.hid hDL
       clear hDL HROW
       go_wp2_with (at_builtin; go_loud (refine wpList_append_own_at _ rfl (.tmp 81) (.tmp 83) 32 rfl R 99 q0 _ 3 48 Tryz.underlying32 hq hqz0 hqz1 hqz2 rfl (by decide) _ DL (fK qs) rfl (HROW2.out.alloc _) ⟨_,0,none⟩ 1 1 [.string P,.slice Av kk cv,.int .i64 u] rfl rfl (FG _ _ _ _ _) aaB ?e3 ?e4 ?e5 ?_))
       case e3=>simp [maxLen]; omega
       case e4=>omega
       case e5 =>
        have:=(Array.getElem?_eq_some_iff.1 HQX.out).1
        have:=HQR.out
        simp; omega
       intro v' w5 ho5 hg5 _ hat5
       have HRX:=Lib.hid ((HXX.out.block R (Array.getElem?_eq_some_iff.1 HRB.out).1).trans HRB.out)
       have hneR:(Value.slice Aq DL cq).ownBlock≠some R:=pb HROW2.out HRX.out (by decide)
       have HR5:=Lib.hid (So (aO _ _) hg5 HRX.out hneR)
       have HX5:=Lib.hid (((HX.out.trans HXX.out).trans (aO _ _)).trans' (cI hg5 (by have:=(HX.out.trans HXX.out).size; simp; omega) (OJ HROW2.out (by rw [HRR.out]; exact Nat.le_refl _))))
       rw [HDL.out] at ho5 hg5
       have HOQ5:=Lib.hid (iK.snoc (q:=⟨P,Av,kk,cv,u⟩) (d:=⟨ps[k],List.replicate kk ru,u⟩) HOQ.out (HXX.out.trans (aO _ _)) ⟨HP.out,rfl,by simp,Ef (HO.out.alloc _) (by have:=HQR.out; omega)⟩
        (fun g hg i qi hqi e=>by
         have h1:=(HO.out.lt g hg).1
         have hil:i < ds.length:=by rw [← HOQ.out.len]; exact (zg.1 hqi).1
         have h2:=((HOQ.out.each i qi hil hqi).2.2.2.lt g e).2
         have:=HQQ.out
         omega) ho5 hg5)
       have q5:=de HR5.out 1 _ rfl
       have f5:=sa HR5.out 1
       obtain ⟨A5,c5,rfl,_,_⟩:=cC ho5
       have HG5:=Lib.hid (G1.snoc HG.out hkp hu1 hu2)
       have HE5:=Lib.hid (show E1 sh xs _ ps (k + 1) (ds ++ [⟨ps[k],List.replicate kk ru,u⟩]) by rw [HU3.out]; exact E1.step HE.out (by omega) hkp (by have:=HNP.out; omega) (by have:=HDL.out; omega))
       clear ho5 hg5 hat5 q2 q3 q4 r1 r0
       go_wp2
       go_roundw
       case rel =>
        refine ⟨k + 1,_,_,qs ++ [⟨P,Av,kk,cv,u⟩],by simp,by omega,by rw [Kz HR5.out]; rfl,?_,HG5.out,HE5.out,?_⟩
        ·exact HOQ5.out.kept (wL _ R 1 _) HR5.out (by decide) (by decide)
        ·exact yQ HX5.out (by rw [HRR.out]; exact Nat.le_refl _) _
       case measure=>simp [intOf]; omega
  ·obtain rfl:k=NP:=by omega
   have k1 : ¬ (k:Int) < (k:Int):=by omega
   have HGI:=Lib.hid (G1.start (HNP.out ▸ HG.out))
   have HE3:=Lib.hid (show E3 sh xs nl ps 0 ds from E1.end (by have h:=HE.out; rw [HNP.out] at h; exact h) (by have:=HNP.out; omega))
   clear HG HE
   go_wp2
   go_loopw [11] (fun i wr=>∃ (k':Nat) (vq:Value) (ds:List QD) (qs:List QC),i = .int .i64 k'∧k'≤k∧wr.heap[R]? = some (.cells #[.slice (some ⟨gl,0,none⟩) nl 2,vq] 34 (0,0))∧iK wr R vq ds qs∧GI nl ps k' ds∧E3 sh xs nl ps k' ds∧Ext W2 wr) (fun i _=>k - (intOf i).toNat)
   case atStart=>exact ⟨0,_,_,_,rfl,by omega,HRB.out,HOQ.out,HGI.out,HE3.out,HX.out⟩
   case round =>
    obtain ⟨i,vq,ds,qs,rfl,hik,hRb,hOQ,hG,hE,hx⟩:=hrel
    clear HRB HOQ HGI HX HE3
    have HE:=Lib.hid hE
    clear hE
    obtain ⟨Aq,cq,rfl,hcq1,hcq2⟩:=cC hOQ.row
    have HRB:=Lib.hid hRb
    have HOQ:=Lib.hid hOQ
    have HG:=Lib.hid hG
    have HX:=Lib.hid hx
    have HDK:=Lib.hid (show ds.length=k by rw [hG.gd.len]; exact HNP.out.symm)
    have r0:=de HRB.out 0 _ rfl
    have r1:=de HRB.out 1 _ rfl
    rw [HDK.out] at r1
    clear hRb hOQ hG hx k1 hcq1
    have i0:(0:Int)≤(i:Int):=by omega
    by_cases hlt:i < k
    ·have i1:(i:Int) < (k:Int):=by omega
     have hip:i < ps.length:=by have:=HNP.out; omega
     have p0:=HX.out.cell (HPX.out i hip)
     obtain ⟨P,hP⟩ : ∃ P:ByteArray,P=⟨(ps[i]).toArray⟩:=⟨_,rfl⟩
     rw [← hP] at p0
     have HP:=Lib.hid (show P.data.toList=ps[i] by rw [hP])
     clear hP
     go_wp2
     refine nY Ext J6 [(0,true),(1,true),(2,true),(3,true),(4,true),(5,false),(6,true)] (by kernel_rfl) (by kernel_rfl) (fun _ _ _ _ _ h=>h) ?_
     repeat first | ((with_reducible refine sM ?_ ?_ ?_ ?_ (fun wk k1=>?_) ?_); rotate_left 2; (rfl); (first | exact rv rfl | exact want_some rfl rfl rfl rfl); (go_simp; first | exact OkX.val | (have c0':=k1.cell r0; have c1':=k1.cell r1; have c2':=k1.cell p0; go_simp; exact OkX.val)); simp only [Act.put,List.setIfInBounds_toArray,List.set_cons_zero,List.set_cons_succ]) | ((with_reducible refine sched_skip ?_ ?_ ?_ ?_); rotate_left; (rfl); (exact want_not rfl rfl rfl rfl rfl); simp only [Act.put,List.setIfInBounds_toArray,List.set_cons_zero,List.set_cons_succ])
     ((with_reducible refine Ou ?_ ?_ ?_ (fun wk k1=>?_)); rotate_left; (rfl); (first | exact rv rfl | exact want_some rfl rfl rfl rfl))
     have F0:=Lib.hid ((Ext.drew _).trans k1)
     clear k1 r0 r1 p0
     go_simp
     have hq7:ds.length≤1000:=by have:=HDK.out; omega
     have hp7:∀ q∈ds,q.path.length≤1000000000:=fun q hq=>by
      have h1:q.path∈ps:=by rw [← HG.out.gd.paths]; exact List.mem_map_of_mem hq
      rw [HPS.out] at h1
      have:=Ls y _ h1
      omega
     have hqq:=(HOQ.out.ext F0.out).rd
     rw [HDK.out] at hqq
     (with_reducible refine (SY ds _ _ P _ hqq hq7 hp7).mono ?_)
     rintro e wk2 ⟨Ak,nk,ck,rfl,hnk,hok,hxk⟩
     refine ⟨hxk,?_⟩
     try simp only [Act.put,List.setIfInBounds_toArray,List.set_cons_zero,List.set_cons_succ]
     have F1:=Lib.hid (F0.out.trans hxk)
     obtain ⟨ks,hks⟩ : ∃ ks,ks=Ch ps[i] ps:=⟨_,rfl⟩
     have hkse:cz P.data.toList ds=ks:=by rw [EE,HP.out,HG.out.gd.paths,hks]
     rw [hkse] at hok hnk
     have HOK:=Lib.hid (Ef hok (show R≤_ by have:=F0.out.size; have:=HX.out.size; have:=HRR.out; omega))
     have hnk7:nk≤7:=by
      rw [hnk,hks]
      unfold Ch
      have:=List.length_filter_le (fun x=>decide (ps[i]≠[])&&decide (above x=ps[i])) ps
      have:=HNP.out
      omega
     have HNK:=Lib.hid hnk
     have HKS:=Lib.hid hks
     have HE4:=Lib.hid (show E4 sh xs nl ps i ks 0 ds by rw [hks]; exact E3.open HE.out hip (by have:=HNP.out; omega) HPS.out HG.out.gd.paths)
     clear hxk hok hnk hks hkse hqq hq7 hp7
     repeat first | ((with_reducible refine sM ?_ ?_ ?_ ?_ (fun wk k1=>?_) ?_); rotate_left 2; (rfl); (first | exact rv rfl | exact want_some rfl rfl rfl rfl); (go_simp; first | exact OkX.val); simp only [Act.put,List.setIfInBounds_toArray,List.set_cons_zero,List.set_cons_succ]) | ((with_reducible refine sched_skip ?_ ?_ ?_ ?_); rotate_left; (rfl); (exact want_not rfl rfl rfl rfl rfl); simp only [Act.put,List.setIfInBounds_toArray,List.set_cons_zero,List.set_cons_succ])
     refine xf (fun wz k1=>?_)
     have HOKz:=Lib.hid (lh HOK.out k1)
     have F2:=Lib.hid (F1.out.trans k1)
     obtain ⟨Ak',ck',eK,hck1,hck2⟩:=cC HOKz.out
     injection eK with eK1 eK2 eK3
     subst eK1 eK3
     clear k1 eK2
     go_wp2
     go_loopw [13] (fun l wr=>∃ (kk:Nat) (vq:Value) (ds:List QD) (qs:List QC),l = .int .i64 kk∧kk≤nl∧wr.heap[R]? = some (.cells #[.slice (some ⟨gl,0,none⟩) nl 2,vq] 34 (0,0))∧iK wr R vq ds qs∧GK nl ps i kk ds∧E4 sh xs nl ps i ks kk ds∧wr.ownsRow R 9 1 (.slice Ak nk ck) nk (ks.map sv)∧Ext W2 wr) (fun l _=>nl - (intOf l).toNat)
     case atStart=>exact ⟨0,_,_,_,rfl,by omega,(F2.out.block R (Array.getElem?_eq_some_iff.1 HRB.out).1).trans HRB.out,HOQ.out.ext F2.out,HG.out.toK,HE4.out,HOKz.out,HX.out.trans F2.out⟩
     case round =>
      obtain ⟨kk,vq,ds,qs,rfl,hkk,hRb,hOQ,hG,hE,hkr,hx⟩:=hrel
      clear HRB HOQ HG HX HDK HOKz HOK F0 F1 F2 HE HE4
      have HE:=Lib.hid hE
      clear hE
      have HRB:=Lib.hid hRb
      have HOQ:=Lib.hid hOQ
      have HG:=Lib.hid hG
      have HX:=Lib.hid hx
      have HKR:=Lib.hid hkr
      have r0:=de HRB.out 0 _ rfl
      clear hRb hOQ hG hx hkr
      have kk0:(0:Int)≤(kk:Int):=by omega
      by_cases hlk:kk < nl
      ·have kk1:(kk:Int) < (nl:Int):=by omega
       go_wp2
       go_loopw [14,15] (fun lf j wr=>∃ (jj:Nat) (left:Int) (vq:Value) (ds:List QD) (qs:List QC),lf = .int .i64 left∧j = .int .i64 jj∧jj≤nk∧wr.heap[R]? = some (.cells #[.slice (some ⟨gl,0,none⟩) nl 2,vq] 34 (0,0))∧iK wr R vq ds qs∧GJ nl ps i kk jj left ds∧E5 sh xs nl ps i ks kk jj left ds∧wr.ownsRow R 9 1 (.slice Ak nk ck) nk (ks.map sv)∧Ext W2 wr) (fun _ j _=>nk - (intOf j).toNat)
       case atStart=>exact ⟨0,10000,_,_,_,rfl,rfl,by omega,HRB.out,HOQ.out,HG.out.toJ,E4.open HE.out hlk hnl4,HKR.out,HX.out⟩
       case round =>
        obtain ⟨jj,left,vq,ds,qs,rfl,rfl,hjj,hRb,hOQ,hG,hE,hkr,hx⟩:=hrel
        clear HRB HOQ HG HX HKR r0 HE
        have HE:=Lib.hid hE
        clear hE
        obtain ⟨L,rfl⟩ : ∃ L:Nat,left=(L:Int):=⟨left.toNat,by have:=hG.lo; omega⟩
        have HRB:=Lib.hid hRb
        have HOQ:=Lib.hid hOQ
        have HG:=Lib.hid hG
        have HX:=Lib.hid hx
        have HKR:=Lib.hid hkr
        have l0:=hG.lo
        have l1:=hG.hi
        have j0:(0:Int)≤(jj:Int):=by omega
        clear hRb hOQ hG hx hkr
        by_cases hlj:jj < nk
        ·have j1:(jj:Int) < (nk:Int):=by omega
         go_upto_if 116 with fail
         go_cut [16] from 112 to 140 (fun s16 wx=>∃ n:Int,s16 = .int .i64 n∧0≤n∧n≤(L:Int)∧(jj + 1=nk→n=(L:Int))∧n=nV xs i jj kk ks.length (L:Int)∧Ext wr wx)
         case first =>
          by_cases hl2:jj + 1 < nk
          ·have n1:(jj:Int) < (nk:Int) - 1:=by omega
           have hrd:=HRD.out.ext (X2.out.trans HX.out)
           have HRX:=Lib.hid hrd
           clear hrd
           go_wp2_with fail
           (with_reducible refine (yx _ xs _ _ HRX.out (by omega) (by omega) (by omega)).mono ?_)
           rintro e w4 ⟨⟨z1,rfl,hz1⟩,rfl⟩
           have HZ1:=Lib.hid hz1
           clear hz1
           go_wp2_with fail
           (with_reducible refine (gA _ (L + 1) _ _ (by omega) (by omega)).mono ?_)
           rintro e w4 ⟨z,rfl,hz,hzl,rfl⟩
           have HZ:=Lib.hid hz
           clear hz
           have hz0:(0:Int)≤(z:Int):=by omega
           have hzl':(z:Int)≤(L:Int):=by omega
           go_wp2_with fail
           have HRX2:=Lib.hid (HRX.out.ext (aO _ (.cells #[.int .i64 0,.int .i64 ((L:Int) / 2),.int .i64 (L:Int),.int .i64 (z:Int)] 3)))
           obtain ⟨p,hp51,hpe,hw⟩:=Tb i jj kk (by omega) (by omega) (by omega)
           rw [hw]
           have HPE:=Lib.hid hpe
           clear hw hpe
           (with_reducible refine (yx _ xs _ _ HRX2.out (by omega) (by omega) (by omega)).mono ?_)
           rintro e w4 ⟨⟨z2,rfl,hz2⟩,rfl⟩
           have HZ2:=Lib.hid hz2
           clear hz2
           go_wp2_with fail
           (with_reducible refine (gA _ 4 4 _ rfl (by omega)).mono ?_)
           rintro e w4 ⟨y4,rfl,hyy,hy4,rfl⟩
           have HYY:=Lib.hid hyy
           clear hyy
           have hnv:=Z0 (show jj + 1 < ks.length by have:=HNK.out; omega) HZ1.out (by first | rfl | omega) HZ2.out HPE.out HZ.out HYY.out
           obtain ⟨n,hn,hn0,hnl,hnn⟩ : ∃ n:Int,(#[Value.int .i64 0,.int .i64 ((L:Int) / 2),.int .i64 (L:Int),.int .i64 (z:Int)] : Array Value)[y4]? = some (.int .i64 n)∧0≤n∧n≤(L:Int)∧n=nV xs i jj kk ks.length (L:Int):=by
            clear HYY
            rcases y4 with _ | _ | _ | _ | y4
            ·exact ⟨0,rfl,by omega,by omega,hnv⟩
            ·exact ⟨(L:Int) / 2,rfl,by omega,by omega,hnv⟩
            ·exact ⟨(L:Int),rfl,by omega,by omega,hnv⟩
            ·exact ⟨(z:Int),rfl,by omega,by omega,hnv⟩
            ·omega
           have hcc:=fun (W:World)=>de (heap_alloc_new W (.cells #[.int .i64 0,.int .i64 ((L:Int) / 2),.int .i64 (L:Int),.int .i64 (z:Int)] 3 (0,0))) y4 _ hn
           have hy0':(0:Int)≤(y4:Int):=by omega
           have hy4':(y4:Int) < 4:=by omega
           have HN4:=Lib.hid hn
           have HNN:=Lib.hid hnn
           clear hn hnn hnv
           go_wp2
           go_meet
           case rel=>exact ⟨n,rfl,hn0,hnl,fun h=>by omega,HNN.out,aO _ _⟩
          ·have n1 : ¬ (jj:Int) < (nk:Int) - 1:=by omega
           go_wp2
           go_meet
           case rel=>exact ⟨(L:Int),rfl,l0,by omega,fun _=>rfl,by unfold nV; rw [if_neg (by have:=HNK.out; omega)],Ext.refl _⟩
         case rest =>
          obtain ⟨n,rfl,hn0,hnL,hlast,hnv,hxc⟩:=hcut
          obtain ⟨n,rfl⟩ : ∃ n':Nat,n=(n':Int):=⟨n.toNat,by omega⟩
          have HNV:=Lib.hid hnv
          clear hnv
          have HLAST:=Lib.hid hlast
          have HRBc:=Lib.hid ((hxc.block R (Array.getElem?_eq_some_iff.1 HRB.out).1).trans HRB.out)
          have HOQc:=Lib.hid (HOQ.out.ext hxc)
          have HKRc:=Lib.hid (lh HKR.out hxc)
          have HXc:=Lib.hid (HX.out.trans hxc)
          have HRX:=Lib.hid (HRD.out.ext (X2.out.trans HXc.out))
          clear hlast hxc HRB HOQ HKR HX
          go_wp2_with fail
          (with_reducible refine (yx _ xs _ _ HRX.out (by omega) (by omega) (by omega)).mono ?_)
          rintro e w4 ⟨⟨z1,rfl,hz1⟩,rfl⟩
          have HZ1:=Lib.hid hz1
          clear hz1
          go_wp2_with fail
          (with_reducible refine (gA _ (10000 - n + 1) _ _ (by omega) (by omega)).mono ?_)
          rintro e w4 ⟨z,rfl,hz,hzl,rfl⟩
          have HZ:=Lib.hid hz
          clear hz
          have hz0:(0:Int)≤(z:Int):=by omega
          have hzl':(z:Int)≤10000 - (n:Int):=by omega
          go_wp2_with fail
          obtain ⟨WM,hWM⟩ : ∃ WM,WM=wc.alloc (.cells #[.int .i64 10000,.int .i64 (n:Int),.int .i64 ((n:Int) + (z:Int))] 3):=⟨_,rfl⟩
          rw [← hWM]
          have HXM:=Lib.hid (show Ext wc WM by rw [hWM]; exact aO _ _)
          have HHM:=Lib.hid (show WM.heap[wc.heap.size]? = some (.cells #[.int .i64 10000,.int .i64 (n:Int),.int .i64 ((n:Int) + (z:Int))] 3 (0,0)) by rw [hWM]; exact heap_alloc_new wc _)
          clear hWM
          (with_reducible refine (yx _ xs _ _ (HRX.out.ext HXM.out) (by omega) (by omega) (by omega)).mono ?_)
          rintro e w4 ⟨⟨z2,rfl,hz2⟩,rfl⟩
          have HZ2:=Lib.hid hz2
          clear hz2
          go_wp2_with fail
          (with_reducible refine (gA _ 3 3 _ rfl (by omega)).mono ?_)
          rintro e w4 ⟨y3,rfl,hyy,hy3,rfl⟩
          have HYY:=Lib.hid hyy
          clear hyy
          have hmv:=Z2 (show n≤10000 by omega) HZ1.out (by first | rfl | omega) HZ2.out (by first | rfl | omega) HZ.out HYY.out
          obtain ⟨mo,hmo,hmo1,hmo2,hmm⟩ : ∃ mo:Int,(#[Value.int .i64 10000,.int .i64 (n:Int),.int .i64 ((n:Int) + (z:Int))] : Array Value)[y3]? = some (.int .i64 mo)∧(n:Int)≤mo∧mo≤10000∧mo=mV xs i jj kk (n:Int):=by
           clear HYY
           rcases y3 with _ | _ | _ | y3
           ·exact ⟨10000,rfl,by omega,by omega,hmv⟩
           ·exact ⟨(n:Int),rfl,by omega,by omega,hmv⟩
           ·exact ⟨(n:Int) + (z:Int),rfl,by omega,by omega,hmv⟩
           ·omega
          have hcc:=de HHM.out y3 _ hmo
          have hy0':(0:Int)≤(y3:Int):=by omega
          have hy3':(y3:Int) < 3:=by omega
          have HRBm:=Lib.hid ((HXM.out.block R (Array.getElem?_eq_some_iff.1 HRBc.out).1).trans HRBc.out)
          have HOQm:=Lib.hid (HOQc.out.ext HXM.out)
          have HKRm:=Lib.hid (lh HKRc.out HXM.out)
          have HXm:=Lib.hid (HXc.out.trans HXM.out)
          have HMM:=Lib.hid hmm
          clear hmo hmm hmv HRBc HOQc HKRc HRX
          go_wp2
          clear hcc HHM
          have hjks:jj < ks.length:=by have:=HNK.out; omega
          go_loopw [18] (fun mi wr=>∃ (m:Nat) (vq:Value),mi = .int .i64 m∧m≤k∧wr.heap[R]? = some (.cells #[.slice (some ⟨gl,0,none⟩) nl 2,vq] 34 (0,0))∧iK wr R vq (eL ks[jj] kk n mo ds m) qs∧wr.ownsRow R 9 1 (.slice Ak nk ck) nk (ks.map sv)∧Ext W2 wr) (fun mi _=>k - (intOf mi).toNat)
          case atStart=>exact ⟨0,_,rfl,by omega,HRBm.out,by rw [D0]; exact HOQm.out,HKRm.out,HXm.out⟩
          case round =>
           obtain ⟨m,vq,rfl,hmk,hRb,hOQ,hkr,hx⟩:=hrel
           clear HRBm HOQm HKRm HXm HXc
           have hdk:ds.length=k:=by rw [HG.out.gk.gi.gd.len]; exact HNP.out.symm
           have m0:(0:Int)≤(m:Int):=by omega
           by_cases hmlt:m < k
           ·have m1:(m:Int) < (k:Int):=by omega
            have hmd:m < ds.length:=by omega
            have hml:m < (eL ks[jj] kk n mo ds m).length:=by rw [gF]; exact hmd
            have hsg:=AM ks[jj] kk n mo ds m hmd hml
            have hcl:(eL ks[jj] kk n mo ds m)[m].caps.length=nl:=by rw [hsg]; exact (HG.out.gk.gi.gd.each _ (List.getElem_mem hmd)).1
            obtain ⟨gq,cq',g,cc,ev,h1,hBg,hglt,⟨cur,hcur⟩,hfz,e1,e2,hput⟩:=hOQ.put hml (k:=kk) (by rw [hcl]; exact hlk)
            obtain ⟨q,hqm⟩ : ∃ q,qs[m]? = some q:=⟨qs[m]'(by rw [hOQ.len]; exact hml),zq _⟩
            have hqp:=(hOQ.each m q hml hqm).1
            rw [hsg] at hqp
            have hrow:=hOQ.row
            rw [ev] at hrow hRb
            have pc:=hrow.cellAt (m * 3) (by omega)
            rw [(uf qs m q hqm).1] at pc
            rw [gF,hdk] at hRb
            rw [hcl] at h1
            obtain ⟨gk,rfl⟩ : ∃ gk,Ak=some ⟨gk,0,none⟩:=by
             rcases hkr.2 with ⟨_,h0⟩ | ⟨gk,_,_,e,_⟩
             ·omega
             ·injection e with e; exact ⟨gk,e⟩
            have kc:=hkr.cellAt jj (by omega)
            rw [List.getElem?_map,zq hjks] at kc
            obtain ⟨Kb,hKb⟩ : ∃ Kb:ByteArray,Kb=⟨(ks[jj]).toArray⟩:=⟨_,rfl⟩
            have kc:wr.cell? ⟨gk,jj,none⟩=some (.string Kb):=by rw [hKb]; exact kc
            have HKB:=Lib.hid (show Kb.data.toList=ks[jj] by rw [hKb])
            have r1:=de hRb 1 _ rfl
            have HQP:=Lib.hid hqp
            have HOQ:=Lib.hid hOQ
            have HRB:=Lib.hid hRb
            have HKR:=Lib.hid hkr
            have HX:=Lib.hid hx
            have HPUT:=Lib.hid (hput n mo)
            have HCUR:=Lib.hid hcur
            have HEV:=Lib.hid ev
            clear hKb hqp hrow hqm ev hOQ hRb hkr hx hput hcur hsg
            generalize ((eL ks[jj] kk n mo ds m)[m].caps[kk]'(by rw [hcl]; exact hlk)).1=o1 at e1
            generalize ((eL ks[jj] kk n mo ds m)[m].caps[kk]'(by rw [hcl]; exact hlk)).2=o2 at e2
            have HCL:=Lib.hid hcl
            clear hcl hdk
            have hkn0:(kk:Int) < (nl:Int):=by omega
            by_cases heq:q.p=Kb
            ·have q1:(q.p.toList==Kb.toList)=true:=by rw [heq]; simp
             have HEQ:=Lib.hid (show ds[m].path=ks[jj] by rw [← HQP.out,heq,HKB.out])
             clear heq
             go_wp2
             refine nY Ext J6 [(0,true),(1,true),(2,true),(3,true),(4,true),(5,true),(6,true),(7,true),(8,true),(9,true),(10,true)] (by kernel_rfl) (by kernel_rfl) (fun _ _ _ _ _ h=>h) ?_
             repeat first | ((with_reducible refine sM ?_ ?_ ?_ ?_ (fun wk k1=>?_) ?_); rotate_left 2; (rfl); (first | exact rv rfl | exact want_some rfl rfl rfl rfl); (go_simp; first | exact OkX.val | (have c0':=k1.cell r1; have c1':=k1.cell pc; have c2':=k1.cell kc; go_simp; exact OkX.val)); simp only [Act.put,List.setIfInBounds_toArray,List.set_cons_zero,List.set_cons_succ]) | ((with_reducible refine sched_skip ?_ ?_ ?_ ?_); rotate_left; (rfl); (exact want_not rfl rfl rfl rfl rfl); simp only [Act.put,List.setIfInBounds_toArray,List.set_cons_zero,List.set_cons_succ])
             refine xf (fun wz k1=>?_)
             have FZ:=Lib.hid ((Ext.drew _).trans k1)
             clear k1
             have z1:=FZ.out.cell r1
             obtain ⟨gq2,cq2,g',cc',ev2,z2,hBg',hglt',⟨cur',hcur'⟩,hfz',z3,z4,hput'⟩:=(HOQ.out.ext FZ.out).put hml (k:=kk) (by rw [HCL.out]; exact hlk)
             have ee:=HEV.out.symm.trans ev2
             injection ee with ee1 ee2 ee3
             injection ee1 with ee1
             injection ee1 with ee1
             subst ee1
             rw [HCL.out] at z2
             generalize ((eL ks[jj] kk n mo ds m)[m].caps[kk]'(by rw [HCL.out]; exact hlk)).1=o1' at z3
             generalize ((eL ks[jj] kk n mo ds m)[m].caps[kk]'(by rw [HCL.out]; exact hlk)).2=o2' at z4
             have HP2:=Lib.hid (hput' n mo)
             have HCUR2:=Lib.hid hcur'
             have f1:=hfz' (kk * 2)
             have f2:=hfz' (kk * 2 + 1)
             have hneR:R≠g':=fun e=>by
              have h9:=(FZ.out.block R (Array.getElem?_eq_some_iff.1 HRB.out).1).trans HRB.out
              rw [e,hcur'] at h9
              injection h9 with h9
              injection h9 with _ h9
              exact absurd h9 (by decide)
             clear ee2 ee3 ev2 hput' hcur' hfz' pc kc r1 h1 e1 e2 hfz
             go_wp2
             go_roundw
             case rel =>
              refine ⟨m + 1,vq,by simp,by omega,?_,?_,?_,?_⟩
              ·rw [HP2.out.2.block R (by have:=FZ.out.size; have:=(Array.getElem?_eq_some_iff.1 HRB.out).1; omega) (fun e=>by injection e with e; exact hneR e),FZ.out.block R (Array.getElem?_eq_some_iff.1 HRB.out).1,HEV.out,gF,HG.out.gk.gi.gd.len,← HNP.out]
               exact HRB.out
              ·rw [HB hmd HEQ.out]; exact HP2.out.1
              ·exact (lh HKR.out FZ.out).kept HP2.out.2 (.inr (pb (lh HKR.out FZ.out) HCUR2.out (by decide)))
              ·exact (HX.out.trans FZ.out).trans' (cI HP2.out.2 (HX.out.trans FZ.out).size (fun k e=>by injection e with e; rw [← HRR.out,← e]; exact hBg'))
             case measure=>simp [intOf]; omega
            ·have q1:(q.p.toList==Kb.toList)=false:=Y4 heq
             have HNE:=Lib.hid (show ds[m].path≠ks[jj] from fun e=>heq (Y5 (by rw [HQP.out,e,HKB.out])))
             clear heq
             go_wp2
             refine nY Ext J6 [(0,true),(1,true),(2,true),(3,true),(4,true),(5,true),(6,true),(7,true),(8,true),(9,true),(10,true)] (by kernel_rfl) (by kernel_rfl) (fun _ _ _ _ _ h=>h) ?_
             repeat first | ((with_reducible refine sM ?_ ?_ ?_ ?_ (fun wk k1=>?_) ?_); rotate_left 2; (rfl); (first | exact rv rfl | exact want_some rfl rfl rfl rfl); (go_simp; first | exact OkX.val | (have c0':=k1.cell r1; have c1':=k1.cell pc; have c2':=k1.cell kc; go_simp; exact OkX.val)); simp only [Act.put,List.setIfInBounds_toArray,List.set_cons_zero,List.set_cons_succ]) | ((with_reducible refine sched_skip ?_ ?_ ?_ ?_); rotate_left; (rfl); (exact want_not rfl rfl rfl rfl rfl); simp only [Act.put,List.setIfInBounds_toArray,List.set_cons_zero,List.set_cons_succ])
             refine xf (fun wz k1=>?_)
             have FZ:=Lib.hid ((Ext.drew _).trans k1)
             clear k1
             go_wp2
             go_roundw
             case rel=>exact ⟨m + 1,vq,by simp,by omega,by rw [HEV.out,gF,HG.out.gk.gi.gd.len,← HNP.out]; exact (FZ.out.block R (Array.getElem?_eq_some_iff.1 HRB.out).1).trans HRB.out,by rw [LC hmd HNE.out]; exact HOQ.out.ext FZ.out,lh HKR.out FZ.out,HX.out.trans FZ.out⟩
             case measure=>simp [intOf]; omega
           ·obtain rfl:m=k:=by omega
            have m1 : ¬ (m:Int) < (m:Int):=by omega
            have hvl:∃ A' c',vq = .slice A' m c':=by
             obtain ⟨A',c',e,_,_⟩:=cC hOQ.row
             rw [gF,hdk] at e
             exact ⟨A',c',e⟩
            obtain ⟨A',c',rfl⟩:=hvl
            have hst:eL ks[jj] kk n mo ds m=iy ks[jj] kk n mo ds:=by
             rw [← HF,hdk]
            rw [hst] at hOQ
            have hr1:=de hRb 1 _ rfl
            have HRB:=Lib.hid hRb
            have HOQ:=Lib.hid hOQ
            have HKR:=Lib.hid hkr
            have HX:=Lib.hid hx
            have HGS:=Lib.hid (show GJ nl ps i kk (jj + 1) ((L:Int) - (n:Int)) (iy ks[jj] kk n mo ds) by
             have hkd:cz ps[i] ds=ks:=by rw [EE,HG.out.gk.gi.gd.paths,HKS.out]
             have h:=GJ.step (n:=(n:Int)) (mo:=mo) HG.out HNO.out hip (by rw [hkd]; exact hjks) hlk hn0 hnL (by rw [hkd,← HNK.out]; exact HLAST.out) hmo1 hmo2
             simp only [hkd] at h
             exact h)
            have HES:=Lib.hid (show E5 sh xs nl ps i ks kk (jj + 1) ((L:Int) - (n:Int)) (iy ks[jj] kk n mo ds) by
             have h:=E5.step HE.out hjks (by have:=HNK.out; omega) (by omega) hnl4 hlk l0 l1 (by omega) (fun q hq=>(HG.out.gk.gi.gd.each q hq).1)
             rw [← HNV.out,← HMM.out] at h
             exact h)
            clear hst hOQ hRb hkr hx hdk
            go_wp2
            go_roundw
            case rel=>exact ⟨jj + 1,(L:Int) - (n:Int),_,_,_,rfl,by simp,by omega,HRB.out,HOQ.out,HGS.out,HES.out,HKR.out,HX.out⟩
            case measure=>simp [intOf]; omega
        ·obtain rfl:jj=nk:=by omega
         have j1 : ¬ (jj:Int) < (jj:Int):=by omega
         have HGE:=Lib.hid (GJ.end HG.out (fun h=>by rw [EE,HG.out.gk.gi.gd.paths,← HKS.out]; exact HNK.out))
         have HEE:=Lib.hid (show E4 sh xs nl ps i ks (kk + 1) ds from E5.end (by have h:=HE.out; rw [HNK.out] at h; exact h) (by have:=HNK.out; omega))
         go_wp2
         go_roundw
         case rel=>exact ⟨kk + 1,_,_,_,by simp,by omega,HRB.out,HOQ.out,HGE.out,HEE.out,HKR.out,HX.out⟩
         case measure=>simp [intOf]; omega
      ·obtain rfl:kk=nl:=by omega
       have kk1 : ¬ (kk:Int) < (kk:Int):=by omega
       have HGE:=Lib.hid (GK.end HG.out)
       have HEE:=Lib.hid (E4.end HE.out hnl4)
       go_wp2
       go_roundw
       case rel=>exact ⟨i + 1,_,_,_,by simp,by omega,HRB.out,HOQ.out,HGE.out,HEE.out,HX.out⟩
       case measure=>simp [intOf]; omega
    ·obtain rfl:i=k:=by omega
     have i1 : ¬ (i:Int) < (i:Int):=by omega
     have HRES:=Lib.hid ((HX.out.block w.heap.size (Array.getElem?_eq_some_iff.1 HR0.out).1).trans HR0.out)
     have HLBX:=Lib.hid ((HX.out.block gl (Array.getElem?_eq_some_iff.1 HL2.out).1).trans HL2.out)
     have y0:=de HRES.out 0 _ rfl
     have y1:=de HRES.out 1 _ rfl
     have g0:=sa HRES.out 0
     have g1:=sa HRES.out 1
     have hRw:R≠w.heap.size:=by have:=HRR.out; have:=HS2.out; omega
     go_wp2
     refine bodyPost_ret (by simp [results,Tryz.results29,go_sem,y0,y1]; try rfl) rfl ?_
     have hgr:wr.grownBy ((wr.setCell ⟨w.heap.size,0,none⟩ (.slice (some ⟨gl,0,none⟩) nl 2)).setCell ⟨w.heap.size,1,none⟩ (.slice Aq i cq)) (some w.heap.size) :=
      ⟨rfl,rfl,rfl,by simp [World.setCell],fun k _ hk=>(Below.heap_setCell _ _ _ _ (fun e=>hk (by rw [e]))).trans (Below.heap_setCell _ _ _ _ (fun e=>hk (by rw [e])))⟩
     have hdk:=HDK.out
     refine ⟨nl,hnl5,hnl4,_,_,ds,qs,R,rfl,by have:=HRR.out; have:=HS2.out; omega,?_,?_,?_,?_,E3.end (by have h:=HE.out; rw [HNP.out] at h; exact h) (by have:=HNP.out; omega)⟩
     ·exact (RN w.heap.size gl nl HLBX.out HGL.out hnl4).kept hgr (.inr (pb (RN w.heap.size gl nl HLBX.out HGL.out hnl4) HRES.out (by decide)))
     ·have h:=HOQ.out.kept hgr HRES.out (by decide) (by decide)
      rw [hdk] at h
      exact h
     ·have e:(sh % 5).toNat=y:=by have:=HY.out; omega
      rw [e,← HPS.out,← HNP.out]
      exact HG.out
     ·exact yQ (yQ (X2.out.trans HX.out) (Nat.le_refl _) _) (Nat.le_refl _) _
def bj (oL:Int) (v_n:Int) : Option (Int) :=
 (CS oL v_n).bind fun b1=>let v_k:Int:=b1
 (if (decide (v_k < 0))=true then
 let v_k:Int:=(i64.wrap (v_k + v_n))
 some v_k
 else
 some v_k).bind fun j2=>let v_k:=j2
 some v_k
def iu (v_x:az) : Option (Bool) :=
 (if (decide ((v_x.fNs.length:Int)≤30))=true then some (decide ((v_x.jI.length:Int)≤80)) else some false).bind fun q1=>some q1
def vZ (v_n:Int) : Option (aw) :=
 (bj v_n 5).bind fun c1=>(au ([(⟨1,1⟩ : aw),(⟨2,1⟩ : aw),(⟨4,4⟩ : aw),(⟨3,2⟩ : aw),(⟨1,3⟩ : aw)] : (List aw)) c1).bind fun b2=>some b2
def ki (v_c:ax) (st:(List ByteArray)×Int) : Option (((List ByteArray)×Int)⊕(((List ByteArray)×Int))) :=
 let v_l:=st.1
 let v_i:=st.2
 if (decide (v_i < (v_c.ae.length:Int)))=true then
 (au v_c.ae v_i).bind fun b1=>(jV v_c b1.aI).bind fun c2=>if c2=true then
 (au v_c.ae v_i).bind fun b3=>(aX v_l [b3.aI]).bind fun b4=>let v_l:(List ByteArray):=b4
 let v_i:Int:=(i64.wrap (v_i + 1))
 some (.inl (v_l,v_i))
 else
 let v_i:Int:=(i64.wrap (v_i + 1))
 some (.inl (v_l,v_i))
 else
 some (.inr (v_l,v_i))
def v6 (v_c:ax) : Option ((List ByteArray)) :=
 let v_l:(List ByteArray):=[]
 let v_i:Int:=0
 (ah (ki v_c) ab (v_l,v_i)).bind fun r5 =>
 let v_l:=r5.1
 let v_i:=r5.2
 some v_l
def fG (v_s:aa) (v_p:aC) (v_a:aR) (st:aL×Int) : Option ((aL×Int)⊕((aL×Int))) :=
 let v_x:=st.1
 let v_i:=st.2
 if (decide (v_i < (v_s.ac.length:Int)))=true then
 (au v_s.ac v_i).bind fun b18=>(if (b18.bF==v_p.fId)=true then (bj (i64.wrap (v_a.fD + v_i)) 11).bind fun c19=>some (c19==10) else some false).bind fun q20=>if q20=true then
 (au v_s.ac v_i).bind fun b21=>(aX v_x.fQ [b21.fId]).bind fun b22=>let v_x:aL:={ v_x with fQ:=b22 }
 let v_i:Int:=(i64.wrap (v_i + 1))
 some (.inl (v_x,v_i))
 else
 let v_i:Int:=(i64.wrap (v_i + 1))
 some (.inl (v_x,v_i))
 else
 some (.inr (v_x,v_i))
def nz (v_a:aR) (v_s:aa) : Option (aL) :=
 let v_x:aL:=(⟨5,0,0,0,⟨#[]⟩,aA.zero,aC.zero,[],[],a8.zero⟩ : aL)
 if ((v_s.aq.length:Int)==0)=true then
 some v_x
 else
 (bj v_a.fA (v_s.aq.length:Int)).bind fun c1=>(au v_s.aq c1).bind fun b2=>let v_p:aC:=b2
 (bj v_a.fB 8).bind fun c3=>let t4:Int:=v_p.fId
 let t5:Int:=(i64.wrap ((i64.wrap (v_p.bD + 1)) - (i64.wrap (Int.tdiv c3 6))))
 let v_x:aL:={ v_x with fId:=t4 }
 let v_x:aL:={ v_x with bD:=t5 }
 (if (decide ((Int.tmod v_a.fC 3) > 0))=true then
 (bj v_a.fB 5).bind fun c7=>(bj v_a.fC (v_s.bC.ai.length:Int)).bind fun c8=>(vZ v_a.fD).bind fun c9=>(bj v_a.fD 7).bind fun c10=>let v_k:aQ:=(⟨c7,c8,c9,c10,(-1),(-1),0⟩ : aQ)
 (if ((Int.tmod v_a.fD 4)==1)=true then
 (bj v_a.fC 3).bind fun c12=>let v_k:aQ:={ v_k with da:=c12 }
 some (v_k,v_x)
 else
 some (v_k,v_x)).bind fun j11=>let v_k:=j11.1
 let v_x:=j11.2
 (if ((Int.tmod v_a.fD 4)==2)=true then
 (bj v_a.fC 3).bind fun c14=>(bj v_a.fB 6).bind fun c15=>let t16:Int:=c14
 let t17:Int:=c15
 let v_k:aQ:={ v_k with da:=t16 }
 let v_k:aQ:={ v_k with bH:=t17 }
 some (v_k,v_x)
 else
 some (v_k,v_x)).bind fun j13=>let v_k:=j13.1
 let v_x:=j13.2
 let v_x:aL:={ v_x with bL:=([v_k] : (List aQ)) }
 some v_x
 else
 some v_x).bind fun j6=>let v_x:=j6
 let v_i:Int:=0
 (ah (fG v_s v_p v_a) ab (v_x,v_i)).bind fun r23 =>
 let v_x:=r23.1
 let v_i:=r23.2
 some v_x
def gN (v_s:aa) (v_a:aR) (bA:Int) (st:aL×Int) : Option ((aL×Int)⊕((aL×Int))) :=
 let v_x:=st.1
 let v_i:=st.2
 if (decide (v_i < (v_s.aj.length:Int)))=true then
 (au v_s.aj v_i).bind fun b14=>if (b14.fId==bA)=true then
 (au v_s.aj v_i).bind fun b15=>(bj v_a.fB 8).bind fun c16=>let v_x:aL:={ v_x with bD:=(i64.wrap ((i64.wrap (b15.bD + 1)) - (i64.wrap (Int.tdiv c16 6)))) }
 let v_i:Int:=(i64.wrap (v_i + 1))
 some (.inl (v_x,v_i))
 else
 let v_i:Int:=(i64.wrap (v_i + 1))
 some (.inl (v_x,v_i))
 else
 some (.inr (v_x,v_i))
def gM (v_s:aa) (bA:Int) (v_a:aR) (st:aL×Int) : Option ((aL×Int)⊕((aL×Int))) :=
 let v_x:=st.1
 let aK:=st.2
 if (decide (aK < (v_s.ac.length:Int)))=true then
 (au v_s.ac aK).bind fun b18=>(if (b18.bH==bA)=true then (bj (i64.wrap (v_a.fC + aK)) 9).bind fun c19=>some (c19==8) else some false).bind fun q20=>if q20=true then
 (au v_s.ac aK).bind fun b21=>(aX v_x.fQ [b21.fId]).bind fun b22=>let v_x:aL:={ v_x with fQ:=b22 }
 let aK:Int:=(i64.wrap (aK + 1))
 some (.inl (v_x,aK))
 else
 let aK:Int:=(i64.wrap (aK + 1))
 some (.inl (v_x,aK))
 else
 some (.inr (v_x,aK))
def gO (v_a:aR) (v_s:aa) : Option (aL) :=
 (bj v_a.fA 6).bind fun c1=>let t2:Int:=c1
 let t3:Int:=(v_s.bC.ai.length:Int)
 let bA:Int:=t2
 let rx:Int:=t3
 (v6 v_s.bC).bind fun c4=>let jM:(List ByteArray):=c4
 (bj v_a.fB 4).bind fun c5=>let v_x:aL:=(⟨0,bA,0,(i64.wrap (1 + c5)),⟨#[]⟩,aA.zero,aC.zero,[],[],a8.zero⟩ : aL)
 (bj v_a.gX 16).bind fun c6=>((if (c6==0)=true then some true else some (c6==1))).bind fun q7=>(if q7=true then
 let v_x:aL:={ v_x with gX:=2 }
 (bj v_a.fB rx).bind fun c9=>(bj v_a.fC 3).bind fun c10=>(bj v_a.fD 12).bind fun c11=>(bj v_a.fD 8).bind fun c12=>let v_x:aL:={ v_x with bH:=(⟨bA,c9,c10,(⟨(i64.wrap (4 + c11)),(i64.wrap (4 + c12))⟩ : aw),0,0,false⟩ : aA) }
 some v_x
 else
 ((if (c6==2)=true then some true else if (c6==3)=true then some true else if (c6==4)=true then some true else some (c6==5))).bind fun q13=>if q13=true then
 let v_x:aL:={ v_x with gX:=3 }
 let v_i:Int:=0
 (ah (gN v_s v_a bA) ab (v_x,v_i)).bind fun r17 =>
 let v_x:=r17.1
 let v_i:=r17.2
 let aK:Int:=0
 (ah (gM v_s bA v_a) ab (v_x,aK)).bind fun r23 =>
 let v_x:=r23.1
 let aK:=r23.2
 some v_x
 else
 ((if (c6==6)=true then some true else some (c6==7))).bind fun q24=>if q24=true then
 let v_x:aL:={ v_x with gX:=4 }
 (bj v_a.fA 20).bind fun c25=>(bj v_a.fB (jM.length:Int)).bind fun c26=>(au jM c26).bind fun b27=>(bj v_a.fC 3).bind fun c28=>(bj v_a.fD 3).bind fun c29=>(vZ (i64.wrap (Int.tdiv v_a.fD 3))).bind fun c30=>let v_x:aL:={ v_x with bF:=(⟨c25,0,b27,c28,c29,c30,[],0,0,[],[],[],[]⟩ : aC) }
 some v_x
 else
 ((if (c6==8)=true then some true else if (c6==9)=true then some true else some (c6==10))).bind fun q31=>if q31=true then
 (nz v_a v_s).bind fun c32=>let v_x:aL:=c32
 some v_x
 else
 if (c6==11)=true then
 (bj v_a.fB 2).bind fun c33=>(au ([6,7] : (List Int)) c33).bind fun b34=>let v_x:aL:={ v_x with gX:=b34 }
 (bj v_a.fA 20).bind fun c35=>let v_x:aL:={ v_x with fId:=c35 }
 some v_x
 else
 ((if (c6==12)=true then some true else some (c6==13))).bind fun q36=>if q36=true then
 let v_x:aL:={ v_x with gX:=8 }
 (bj v_a.fA 5).bind fun c37=>let v_x:aL:={ v_x with fN:=(i64.wrap (1 + c37)) }
 some v_x
 else
 if (c6==14)=true then
 (bj v_a.fD 3).bind fun c38=>(au ([9,9,10] : (List Int)) c38).bind fun b39=>let v_x:aL:={ v_x with gX:=b39 }
 (bj v_a.fB rx).bind fun c40=>(bj v_a.fC 5).bind fun c41=>(vZ v_a.fD).bind fun c42=>let v_x:aL:={ v_x with pD:=(⟨bA,c40,(i64.wrap (v_s.bQ + c41)),(i64.wrap (v_s.bQ + 20)),c42⟩ : a8) }
 (bj v_a.fC 12).bind fun c43=>let v_x:aL:={ v_x with fN:=(i64.wrap (1 + c43)) }
 some v_x
 else
 if (c6==15)=true then
 (bj v_a.fA 3).bind fun c44=>(au ([11,1,1] : (List Int)) c44).bind fun b45=>let v_x:aL:={ v_x with gX:=b45 }
 (fH v_a.fB ([v_a.fC,v_a.fD] : (List Int))).bind fun c46=>(zn c46).bind fun c47=>let v_x:aL:={ v_x with My:=c47 }
 some v_x
 else
 some v_x).bind fun j8=>let v_x:=j8
 some v_x
def eJ (v_x:az) (st:aa×Int) : Option ((aa×Int)⊕((aa×Int))) :=
 let v_s:=st.1
 let v_i:=st.2
 if (decide (v_i < (v_x.jI.length:Int)))=true then
 (au v_x.jI v_i).bind fun b6=>(gO b6 v_s).bind fun c7=>(so v_s c7).bind fun c8=>let v_s:aa:=c8.1
 let v_i:Int:=(i64.wrap (v_i + 1))
 some (.inl (v_s,v_i))
 else
 some (.inr (v_s,v_i))
def cO (v_x:az) : Option (aa) :=
 (KP).bind fun c1=>let v_s:aa:=c1
 (fH v_x.J5 v_x.fNs).bind fun c2=>(zn c2).bind fun c3=>(so v_s (⟨1,0,0,0,c3,aA.zero,aC.zero,[],[],a8.zero⟩ : aL)).bind fun c4=>let v_t:aa:=c4.1
 let v_o:bt:=c4.2
 (if (v_o.ZD==0)=true then
 let v_s:aa:=v_t
 some v_s
 else
 some v_s).bind fun j5=>let v_s:=j5
 let v_i:Int:=0
 (ah (eJ v_x) ab (v_s,v_i)).bind fun r9 =>
 let v_s:=r9.1
 let v_i:=r9.2
 some v_s
def Jn:Ent:=⟨[.lf (.int .i64),.lf (.sl (.int .i64))],[.ag 5],fun x=>fH x.1 x.2.1⟩
def CO:Ent:=⟨[.lf (.int .i64),.lf (.int .i64)],[.lf (.int .i64)],fun x=>bj x.1 x.2.1⟩
theorem vt:EOk prog 56 CO:=aH (.s .n (.s .n (.s (.s .n (.j [.leaf 5 (.int .i64)] .n)) .n))) [] [] [] .nil Tryz.mixed Tryz.func56
def CP:Ent:=⟨[.ag 5],[.lf (.sl (.str))],fun x=>v6 x.1⟩
theorem N7:EOk prog 57 CP:=aH (.s .n (.s .n (.s (.s .n (.s (.lp [.row 3 3 9 1 (.str),.leaf 4 (.int .i64)] 0 false .n) .n)) .n))) [(5,[27,28])] [] [] (.cons BH .nil) Tryz.mixed Tryz.func57
def Jm:Ent:=⟨[.lf (.int .i64)],[.ag 0],fun x=>vZ x.1⟩
theorem Jl:EOk prog 58 Jm:=aH .n [] [2] [] (.cons vt .nil) Tryz.mixed Tryz.func58
def tQ:Ent:=⟨[.ag 15,.ag 12],[.ag 9],fun x=>nz x.1 x.2.1⟩
theorem Dg:EOk prog 59 tQ:=aH (.s .n (.s .n (.s .n (.s .n (.s .n (.s (.s .n (.j [.box 5 74 9 [(28,1128,3,1,.int .i64)]] (.s (.s .n (.s (.s .n (.j [.box 7 122 1 [],.box 5 74 9 [(28,1128,3,1,.int .i64)]] .n)) (.s (.s .n (.j [.box 7 122 1 [],.box 5 74 9 [(28,1128,3,1,.int .i64)]] .n)) .n))) .n))) (.s (.s .n (.s (.lp [.box 5 74 9 [(28,1128,3,1,.int .i64)],.leaf 8 (.int .i64)] 0 false .n) .n)) .n))))))) [(4,[79,113,114]),(5,[79,113,114]),(7,[79,113,114]),(9,[79,113,114]),(11,[79,113,114]),(16,[79,113,114])] [4] [] (.cons vt (.cons Jl .nil)) Tryz.mixed Tryz.func59
def GR:Ent:=⟨[.ag 15,.ag 12],[.ag 9],fun x=>gO x.1 x.2.1⟩
theorem GP (x:ct [.ag 15,.ag 12]) : gz ⟨prog,[(56,CO),(57,CP),(58,Jm),(59,tQ),(29,Jn),(28,BI)],230,[.ag 9],[.cell 4 74],[(1,[118,119,157,179,212,225]),(2,[118,119,157,179,212,225]),(3,[118,119,157,179,212,225]),(4,[118,119,157,179,212,225]),(8,[118,119,157,179,212,225]),(18,[118,119,157,179,212,225]),(22,[118,119,157,179,212,225]),(27,[118,119,157,179,212,225]),(31,[118,119,157,179,212,225]),(33,[118,119,179,212,225]),(34,[118,119,157,179,212,225]),(38,[118,119,157,179,212,225]),(40,[118,119,157,212,225]),(41,[118,119,157,179,212,225]),(42,[118,119,157,179,212,225]),(44,[118,119,157,179,225]),(45,[118,119,157,179,212])],[4],[]⟩ ((Tryz.f30).body.getD .skip) (.s (.n) (.s (.n) (.s (.n) (.s (.n) (.s (.s (.n) (.s (.s (.s (.n) (.j [.leaf 30 (.bool)] (.n))) (.j [.box 8 74 9 []] (.s (.n) (.s (.s (.n) (.j [.leaf 53 (.bool)] (.n))) (.s (.s (.n) (.s (.s (.n) (.s (.lp [.box 8 74 9 [(28,1188,3,1,.int .i64)],.leaf 9 (.int .i64)] 1 false (.n)) .n)) (.s (.n) (.s (.lp [.box 8 74 9 [(28,1188,3,1,.int .i64)],.leaf 10 (.int .i64)] 3 false (.n)) .n)))) (.s (.s (.n) (.j [.leaf 121 (.bool)] (.n))) (.s (.n) (.s (.s (.n) (.j [.leaf 148 (.bool)] (.n))) (.s (.n) (.s (.n) (.s (.n) (.s (.s (.n) (.j [.leaf 168 (.bool)] (.n))) (.n))))))))))))) .n)) (.n)))))) [.ag 15,.ag 12] x=gO x.1 x.2.1:=by kernel_rfl
theorem GQ (hG:bN prog 29 [.lf (.int .i64),.lf (.sl (.int .i64))] [.ag 5] (fun x=>fH x.1 x.2.1)) : bN prog 30 [.ag 15,.ag 12] [.ag 9] (fun x=>gO x.1 x.2.1):=cj (n:=230) (.cons (vt) (.cons (N7) (.cons (Jl) (.cons (Dg) (.cons hG (.cons (Jd) (.nil))))))) Tryz.mixed Tryz.func30 rfl (by kernel_rfl) rfl rfl rfl (GP)
def kh:Ent:=⟨[.ag 16],[.lf (.bool)],fun x=>iu x.1⟩
theorem oD:EOk prog 8 kh:=aH .n [] [] [] .nil Tryz.mixed Tryz.func8
theorem AA (x:ct [.ag 16]) : gz ⟨prog,[(26,BJ),(29,Jn),(28,BI),(27,F7),(30,GR)],44,[.ag 12],[.cell 2 41],[],[2],[]⟩ ((Tryz.f9).body.getD .skip) (.s (.n) (.s (.n) (.s (.n) (.s (.s (.n) (.j [.box 3 41 12 []] (.n))) (.s (.s (.n) (.s (.lp [.box 3 41 12 [],.leaf 6 (.int .i64)] 0 false (.n)) .n)) (.n)))))) [.ag 16] x=cO x.1:=by kernel_rfl
theorem AB (hG:bN prog 29 [.lf (.int .i64),.lf (.sl (.int .i64))] [.ag 5] (fun x=>fH x.1 x.2.1)) : bN prog 9 [.ag 16] [.ag 12] (fun x=>cO x.1):=cj (n:=44) (.cons (Jg) (.cons hG (.cons (Jd) (.cons (Qj) (.cons (GQ hG) (.nil)))))) Tryz.mixed Tryz.func9 rfl (by kernel_rfl) rfl rfl rfl (AA)
theorem Ee {w:World} {B e k n:Nat} {v:Value} {us:List Value} {es:List (List D)} {F:Nat→Prop} (h:w.ownsRow B e k v n us) (hn:n=es.length) (hk:∀ x∈es,x.length=k) (hl:us.length=es.flatten.length) (hF:∀ g,B≤g→g < w.heap.size→F g) (hr:∀ (j:Nat) u d,us[j]? = some u→es.flatten[j]? = some d→ed w F u d) : ed w F v (.sl es):=by
 have h':=h
 rcases h.2 with ⟨rfl,h0⟩ | ⟨g,cap,cur,rfl,hb,hg,hle,hmx,_⟩
 ·have:es = []:=List.eq_nil_of_length_eq_zero (by omega)
  subst this
  exact .sl none 0 0 0 [] (fun _=>undef) rfl (Nat.le_refl _) (by simp [maxLen]) (by simp) (by omega) (fun _=>rfl) (by simp) (by simp)
 ·have hlt:=(Array.getElem?_eq_some_iff.1 hg).1
  refine .sl (some ⟨g,0,none⟩) n cap k es (fun j=>(us[j]?).getD undef) hn hle hmx hk (fun _=>⟨_,rfl,hF g hb hlt⟩) (fun h=>by cases h) (fun a j d ha hj=>?_) (fun j d hj=>?_)
  ·injection ha with ha
   subst ha
   have hj2:j < us.length:=by have:=(zg.1 hj).1; omega
   have hadd:(⟨g,0,none⟩ : Addr).add j=⟨g,j,none⟩:=by unfold Addr.add; split <;> simp_all
   have hc:=h'.cellAt j (by have:=h'.1; omega)
   rw [hadd,hc,zq hj2]
   rfl
  ·have hj2:j < us.length:=by have:=(zg.1 hj).1; omega
   exact hr j _ d (by rw [zq hj2]; rfl) hj
theorem H7 {w:World} {F:Nat→Prop} : ∀ (l:List Tx) (j:Nat) (u:Value) (d:D),(l.map sv)[j]? = some u→(((l.map bT).map sD).flatten)[j]? = some d→ed w F u d
 | [],j,u,d,h,_=>by simp at h
 | x::l,0,u,d,h1,h2=>by
  simp [sD] at h1 h2
  subst h1
  subst h2
  exact .v _ rfl
 | x::l,j + 1,u,d,h1,h2=>H7 l j u d (by simpa using h1) (by simpa [sD] using h2)
theorem IW {w:World} {F:Nat→Prop} : ∀ (l:List (Int×Int)) (j:Nat) (u:Value) (d:D),(ce l)[j]? = some u→(((l.map gP).map ec.d).flatten)[j]? = some d→ed w F u d
 | [],j,u,d,h,_=>by simp [ce] at h
 | x::l,0,u,d,h1,h2=>by
  simp [ce,ec.d,gP] at h1 h2
  subst h1
  subst h2
  exact .v _ rfl
 | x::l,1,u,d,h1,h2=>by
  simp [ce,ec.d,gP] at h1 h2
  subst h1
  subst h2
  exact .v _ rfl
 | x::l,j + 2,u,d,h1,h2=>IW l j u d (by simpa [ce] using h1) (by simpa [ec.d] using h2)
theorem M1:∀ l:List (Int×Int),(ce l).length=(((l.map gP).map ec.d).flatten).length
 | []=>rfl
 | x::l=>by
  have:=M1 l
  simp [ce,ec.d] at this ⊢
  omega
theorem Ru {w:World} {B:Nat} {F:Nat→Prop} (hF:∀ g,B≤g→g < w.heap.size→F g) : ∀ (qs:List QC) (ds:List QD),qs.length=ds.length→(∀ (k:Nat) (q:QC) (h:k < ds.length),qs[k]? = some q→wY w B q ds[k])→∀ (j:Nat) (u:Value) (d:D),(fK qs)[j]? = some u→(((ds.map gQ).map aB.d).flatten)[j]? = some d→ed w F u d
 | [],_,_,_,j,u,d,h,_=>by simp [fK] at h
 | q::qs,[],hl,_,_,_,_,_,_=>by simp at hl
 | q::qs,x::ds,hl,he,j,u,d,h1,h2=>by
  obtain ⟨p1,p2,p3,p4⟩:=he 0 q (by simp) rfl
  dsimp only [List.getElem_cons_zero] at p1 p2 p3 p4
  match j with
  | 0 =>
   simp [fK,LQ,aB.d,gQ] at h1 h2
   subst h1
   subst h2
   have:q.p=bT x.path:=Y5 (by rw [p1]; simp [bT])
   rw [this]
   exact .v _ rfl
  | 1 =>
   simp [fK,LQ,aB.d,gQ] at h1 h2
   subst h1
   subst h2
   have:=Ee (F:=F) p4 (es:=(x.caps.map gP).map ec.d) (by rw [p3]; simp) (fun y hy=>by obtain ⟨z,_,rfl⟩:=List.mem_map.1 hy; rfl) (M1 _) hF (IW x.caps)
   simpa using this
  | 2 =>
   simp [fK,LQ,aB.d,gQ] at h1 h2
   subst h1
   subst h2
   rw [p2]
   exact .v _ rfl
  | j + 3 =>
   refine Ru hF qs ds (by simpa using hl) (fun k q' h hq=>?_) j u d (by simpa [fK,LQ] using h1) (by simpa [aB.d] using h2)
   have:=he (k + 1) q' (by simpa using h) (by simpa using hq)
   simpa using this
theorem Vr:∀ (qs:List QC) (ds:List QD),qs.length=ds.length→(fK qs).length=(((ds.map gQ).map aB.d).flatten).length
 | [],[],_=>rfl
 | [],_ :: _,h=>by simp at h
 | _ :: _,[],h=>by simp at h
 | q::qs,d::ds,h=>by
  have:=Vr qs ds (by simpa using h)
  simp [fK,LQ,aB.d] at this ⊢
  omega
theorem R1:∀ xs:List Int,(xs.map iD).flatten=xs.map (fun n=>D.v (.int .i64 n))
 | []=>rfl
 | x::xs=>by
  show [D.v (.int .i64 x)] ++ (xs.map iD).flatten = _
  rw [R1 xs]
  rfl
theorem XN {w:World} {G:Nat→Prop} {v:Value} {xs:List Int} (hG:∀ g,G g→g < w.heap.size) (h:ed w G v (.sl (xs.map iD))) : Rd w v (xs.map (Value.int .i64))∧xs.length≤9223372036854775807:=by
 have hfl:=R1 xs
 cases h with
 | sl A n c k es us hn hc hm hk hA hA0 hcell hrep =>
  have hn2:n=(xs.map (Value.int .i64)).length:=by rw [hn]; simp
  refine ⟨⟨A,c,by rw [hn2],by omega,hm,fun h0=>?_⟩,by have h9:maxLen=9223372036854775807:=(by decide); rw [List.length_map] at hn2; omega⟩
  obtain ⟨a,ha,hGa⟩:=hA (by omega)
  refine ⟨a,ha,hG _ hGa,fun j u hj=>?_⟩
  rw [List.getElem?_map] at hj
  cases hx:xs[j]? with
  | none=>rw [hx] at hj; cases hj
  | some x =>
   rw [hx] at hj
   injection hj with hj
   subst hj
   have hd:(xs.map iD).flatten[j]? = some (.v (.int .i64 x)):=by rw [hfl,List.getElem?_map,hx]; rfl
   have h1:=hcell a j _ ha hd
   have h2:=hrep j _ hd
   rw [h1]
   generalize us j=y at h2
   cases h2 with
   | v y hy=>rfl
theorem H6:∀ l:List Tx,(l.map sv).length=(((l.map bT).map sD).flatten).length
 | []=>rfl
 | x::l=>by
  simp only [List.map_cons,List.flatten_cons,List.length_append,List.length_cons]
  rw [H6 l]
  show _ = 1 + _
  omega
theorem UO:bN prog 29 [.lf (.int .i64),.lf (.sl (.int .i64))] [.ag 5] (fun x=>fH x.1 x.2.1):=by
 rintro ⟨sh,xs,⟨⟩⟩ z hF
 change Int at sh
 change List Int at xs
 refine ⟨fun _=>⟨by kernel_rfl,fun w G vs hG hr=>?_⟩,fun h=>(by cases h)⟩
 have hvl:vs.toList.length=2:=hr.len
 obtain ⟨a,v,hv⟩ : ∃ a v,vs = #[a,v]:=by
  match hv:vs.toList,hvl with
  | [a,v],_=>exact ⟨a,v,by apply Array.ext'; simpa using hv⟩
 subst hv
 have ha:a = .int .i64 sh:=(aM.vv (hr.rep 0 a _ rfl rfl)).1
 subst ha
 have hd:ed w G v (.sl (xs.map iD)):=by
  have h:=hr.rep 1 v _ rfl rfl
  cases h with
  | d _ _ h=>exact h
 obtain ⟨hrd,hlen⟩:=XN hG hd
 refine (UP sh v xs w hrd hlen).mono ?_
 rintro e w' ⟨nl,h1,h2,vl,vq,ds,qs,B,rfl,hB,hl,hq,hgi,hx,he⟩
 have hz:z=gC nl ds:=by
  have:fH sh xs=some z:=hF
  rw [he] at this
  injection this with this
  exact this.symm
 subst hz
 refine ⟨_,fun g=>G g∨(w.heap.size≤g∧g < w'.heap.size),rfl,hx,fun g hg=>.inl hg,fun g hg=>hg.elim (fun h=>Nat.lt_of_lt_of_le (hG g h) hx.size) (fun h=>h.2),fun g hg=>hg.elim .inl (fun h=>.inr h.1),?_⟩
 have dl:ed w' (fun g=>G g∨(w.heap.size≤g∧g < w'.heap.size)) vl (.sl (((CV nl).map bT).map sD)) :=
  Ee hl (by simp [qJ h2]) (fun x hx=>by obtain ⟨y,_,rfl⟩:=List.mem_map.1 hx; rfl) (H6 _) (fun g h3 h4=>.inr ⟨h3,h4⟩) (H7 _)
 have dq:ed w' (fun g=>G g∨(w.heap.size≤g∧g < w'.heap.size)) vq (.sl ((ds.map gQ).map aB.d)) :=
  Ee hq.row (by simp) (fun x hx=>by obtain ⟨y,_,rfl⟩:=List.mem_map.1 hx; rfl) (Vr _ _ hq.len) (fun g h3 h4=>.inr ⟨Nat.le_trans hB h3,h4⟩) (Ru (fun g h3 h4=>.inr ⟨Nat.le_trans hB h3,h4⟩) qs ds hq.len hq.each)
 show aM ρNone dM w' _ _ (.ag [.d (.sl (((CV nl).map bT).map sD)),.d (.sl ((ds.map gQ).map aB.d))])
 refine .ag #[vl,vq] _ rfl (fun x hx=>?_) (fun j x c h3 h4=>?_)
 ·simp at hx
  rcases hx with rfl | rfl
  ·exact dl.one
  ·exact dq.one
 ·match j with
  | 0 =>
   obtain rfl : _ = x:=by simpa using h3
   cases h4
   exact .d _ _ dl
  | 1 =>
   obtain rfl : _ = x:=by simpa using h3
   cases h4
   exact .d _ _ dq
  | j + 2=>simp at h3
noncomputable def GM:Ent:=⟨[.ag 16],[.ag 12],fun x=>cO x.1⟩
theorem GL:bN prog 9 [.ag 16] [.ag 12] (fun x=>cO x.1):=AB UO
noncomputable def qx (x:ct [.ag 16,.lf (.int .i64),.lf (.int .i64)]) : Option (bc [.lf (.bool)]):=gz ⟨prog,[(7,xZ),(8,kh),(9,GM),(10,vr),(16,jg),(17,I4),(18,vi),(19,I2),(20,vk),(21,I3),(23,BT),(24,Cv),(22,UN)],113,[.lf (.bool)],[.tmp 6],[],[],[]⟩ ((Tryz.f5).body.getD .skip) (.s (.n) (.s (.n) (.s (.n) (.s (.n) (.s (.n) (.s (.n) (.s (.s (.n) (.s (.lp [.row 8 29 3 1 (.int .i64),.leaf 9 (.int .i64)] 0 false (.n)) .n)) (.s (.s (.n) (.s (.lp [.leaf 6 (.bool),.row 8 29 3 1 (.int .i64),.leaf 10 (.int .i64)] 2 true (.n)) .n)) (.n))))))))) [.ag 16,.lf (.int .i64),.lf (.int .i64)] x
theorem GO:bN prog 5 [.ag 16,.lf (.int .i64),.lf (.int .i64)] [.lf (.bool)] qx:=cj (n:=113) (.cons (xX) (.cons (oD) (.cons (GL) (.cons (vo) (.cons (jf) (.cons (mQ) (.cons (vh) (.cons (I1) (.cons (vj) (.cons (BD) (.cons (BS) (.cons (Cu) (.cons (UM) (.nil)))))))))))))) Tryz.mixed Tryz.func5 rfl (by kernel_rfl) rfl rfl rfl (fun _=>rfl)
section
open Go.ChangeShapes Go.WideShapes Go.ChangeAt Go.RowKit Go.Deep
section
variable {H:Type} {enc:TypeId×Value→H} {P:Program} {w:World} {base:Nat} {spare:Nat→Bool} {held:Bool} {r:Reach} {b0:Nat}
end
end
section
open Go.ChangeShapes Go.WideShapes Go.ChangeAt Go.RowKit Go.Deep
instance :Inhabited D:=⟨.v (.int .i64 0)⟩
inductive Fm where
 | int | str | bool | u8
 | sl (es:List Fm)
inductive Shp:Fm→D→Prop
 | int (z:Int) (h:(Lit.int .i64 z).wf=true) : Shp .int (.v (.int .i64 z))
 | str (s:ByteArray) (h:s.size≤maxLen) : Shp .str (.v (.string s))
 | bool (b:Bool) : Shp .bool (.v (.bool b))
 | u8 (z:Int) (h:(Lit.int .u8 z).wf=true) : Shp .u8 (.v (.int .u8 z))
 | sl (ts:List Fm) (es:List (List D)) (hl:∀ e∈es,e.length=ts.length) (h:∀ (e:List D),e∈es→∀ (j:Nat) (T:Fm) (d:D),ts[j]? = some T→e[j]? = some d→Shp T d) (hm:es.length≤maxLen) : Shp (.sl ts) (.sl es)
def sB (P:Program) (t:TypeId) (ts:List Fm) : Prop :=
 ∀ (H:Type) (enc:TypeId×Value→H) (w:World) (base:Nat) (spare:Nat→Bool) (held:Bool) (fuel:Nat) (cs:List Value) (x:DataW H×List MemPlace),DataW.trod enc P w base spare held fuel t cs=some x →
  cs.length=ts.length∧∀ (j:Nat) (T:Fm),ts[j]? = some T→∃ c d,cs[j]? = some c∧ed w (· < w.heap.size) c d∧Shp T d
theorem dB {P:Program} {t:TypeId} (ht:P.underlying t=some (.int .i64)) : sB P t [.int]:=by
 intro H enc w base spare held fuel cs x h
 obtain ⟨z,rfl,_,hz⟩:=DataW.trod_int ht h
 refine ⟨rfl,fun j T hj=>?_⟩
 match j,hj with
 | 0,hj =>
  cases hj
  exact ⟨_,_,rfl,.v _ rfl,.int z hz⟩
theorem OM {P:Program} {t:TypeId} (ht:P.underlying t=some .bool) : sB P t [.bool]:=by
 intro H enc w base spare held fuel cs x h
 obtain ⟨z,rfl,_⟩:=DataW.trod_bool ht h
 refine ⟨rfl,fun j T hj=>?_⟩
 match j,hj with
 | 0,hj =>
  cases hj
  exact ⟨_,_,rfl,.v _ rfl,.bool z⟩
theorem oP {P:Program} {t:TypeId} {fs:Array Field} {ts:List Fm} (ht:P.underlying t=some (.struct fs)) (hk:P.cellsOf t=ts.length)
  (hcov:∀ j T,ts[j]? = some T→∃ (i:Nat) (f:Field) (kf:Nat) (us:List Fm),fs[i]? = some f∧f.offset≤j∧j < f.offset + kf∧P.cellsOf f.type=kf∧sB P f.type us∧us[j - f.offset]? = some T) : sB P t ts:=by
 intro H enc w base spare held fuel cs x h
 obtain ⟨xs,n,_,rfl,hl,hlen,hf⟩:=DataW.trod_struct ht h
 refine ⟨by rw [hl,hk],fun j T hj=>?_⟩
 obtain ⟨i,f,kf,us,hi,h1,h2,h3,h4,h5⟩:=hcov j T hj
 have hfi:=hf i f hi
 have hlt:i < xs.length:=by rw [hlen]; exact (Array.getElem?_eq_some_iff.1 hi).1
 rw [zq hlt,h3] at hfi
 obtain ⟨_,hz⟩:=h4 H enc w base spare held n _ _ hfi
 obtain ⟨c,d,hc,hd,hs⟩:=hz (j - f.offset) T h5
 rw [List.getElem?_take_of_lt (by omega),List.getElem?_drop,show f.offset + (j - f.offset)=j by omega] at hc
 exact ⟨c,d,hc,hd,hs⟩
theorem Yf {α : Type} (k:Nat) (es:List (List α)) (h:∀ e∈es,e.length=k) : es.flatten.length=es.length * k:=by
 induction es with
 | nil=>simp
 | cons e es ih =>
  rw [List.flatten_cons,List.length_append,ih (fun x hx=>h x (List.mem_cons_of_mem _ hx)),h e List.mem_cons_self,List.length_cons,Nat.add_mul]
  omega
theorem Cd {P:Program} {t e:TypeId} {ts:List Fm} (ht:P.underlying t=some (.slice e)) (hc:P.cellsOf e=ts.length) (hk : 0 < ts.length) (he:sB P e ts) : sB P t [.sl ts]:=by
 intro H enc w base spare held fuel cs x hf
 rcases open_slice ht hf with ⟨rfl,_⟩ | ⟨a,len,cap,m,n,Dz,Pl,rfl,hb,hl,hm,hmm,_,hx⟩
 ·refine ⟨rfl,fun j T hj=>?_⟩
  match j,hj with
  | 0,hj =>
   cases hj
   exact ⟨_,.sl [],rfl,.sl none 0 0 0 [] (fun _=>.int .i64 0) rfl (Nat.le_refl _) (by simp [maxLen]) (by simp) (fun h=>absurd h (by omega)) (fun _=>rfl) (by simp) (by simp),.sl ts [] (by simp) (by simp) (by simp)⟩
 ·have hlm:len≤m:=by rw [hmm]; split <;> omega
  have each:∀ i,i < m→∃ q:Nat→D,∀ j T,ts[j]? = some T→∃ c,w.cell? (a.add (i * ts.length + j))=some c∧ed w (· < w.heap.size) c (q j)∧Shp T (q j):=by
   intro i hi
   obtain ⟨cs',h1,h2⟩:=hx i hi
   rw [hc] at h1
   obtain ⟨_,hlen,hcell⟩:=World.cells?_some h1
   obtain ⟨_,hz⟩:=he _ _ _ _ _ _ _ _ _ h2
   have:∀ j,j < ts.length→∃ d,∀ T,ts[j]? = some T→∃ c,w.cell? (a.add (i * ts.length + j))=some c∧ed w (· < w.heap.size) c d∧Shp T d:=by
    intro j hj
    obtain ⟨c,d,c1,c2,c3⟩:=hz j ts[j] (zq hj)
    refine ⟨d,fun T hT=>⟨c,?_,c2,?_⟩⟩
    ·have c0:=hcell j hj
     rw [Go.Deep.add_add] at c0
     rw [c0,c1]
    ·rw [zq hj] at hT
     cases hT
     exact c3
   obtain ⟨q,hq⟩:=choose_lt this
   exact ⟨q,fun j T hT=>hq j (by rcases Nat.lt_or_ge j ts.length with h | h; exact h; rw [List.getElem?_eq_none h] at hT; cases hT) T hT⟩
  obtain ⟨q,hq⟩:=choose_lt each
  let row (i:Nat) : List D:=(List.range ts.length).map (q i)
  let es:=(List.range len).map row
  have hrow:∀ x∈es,x.length=ts.length:=by
   intro x hx
   obtain ⟨i,_,rfl⟩:=List.mem_map.1 hx
   simp [row]
  have hcell:∀ j d,es.flatten[j]? = some d→∃ c,w.cell? (a.add j)=some c∧ed w (· < w.heap.size) c d:=by
   intro j d hj
   have hlt:j < len * ts.length:=by
    have:=(zg.1 hj).1
    rw [Yf ts.length es hrow] at this
    simpa [es] using this
   have hi:j / ts.length < len:=(Nat.div_lt_iff_lt_mul hk).2 hlt
   have hmod:=Nat.mod_lt j hk
   have hdm:j / ts.length * ts.length + j % ts.length=j:=by rw [Nat.mul_comm]; exact Nat.div_add_mod j _
   have hfl:=yN ts.length es hrow (j / ts.length) (row (j / ts.length)) (by simp [es,hi]) (j % ts.length) hmod
   rw [hdm,hj] at hfl
   have hd:d=q (j / ts.length) (j % ts.length):=by simpa [row,hmod] using hfl
   obtain ⟨c,c1,c2,_⟩:=hq (j / ts.length) (by omega) (j % ts.length) _ (zq hmod)
   rw [hdm] at c1
   exact ⟨c,c1,hd ▸ c2⟩
  refine ⟨rfl,fun j T hj=>?_⟩
  match j,hj with
  | 0,hj =>
   cases hj
   refine ⟨_,.sl es,rfl,.sl (some a) len cap ts.length es (fun j=>(w.cell? (a.add j)).getD (.int .i64 0)) (by simp [es]) hl hm hrow (fun hn=>⟨a,rfl,?_⟩) (fun h=>by cases h) (fun a' j d ha hj=>?_) (fun j d hj=>?_),.sl ts es hrow (fun x hx j T d hT hd=>?_) (by simp [es]; omega)⟩
   ·obtain ⟨c,c1,_⟩:=hq 0 (by omega) 0 _ (zq hk)
    have:=World.block_lt_of_cell? w _ c1
    rwa [show (a.add (0 * ts.length + 0)).block=a.block by unfold Addr.add; split <;> rfl] at this
   ·cases ha
    obtain ⟨c,c1,_⟩:=hcell j d hj
    rw [c1]
    rfl
   ·obtain ⟨c,c1,c2⟩:=hcell j d hj
    rw [c1]
    exact c2
   ·obtain ⟨i,hi,rfl⟩:=List.mem_map.1 hx
    have hi:i < len:=List.mem_range.1 hi
    have hjt:j < ts.length:=(zg.1 hT).1
    have hd:d=q i j:=by simpa [row,hjt] using hd.symm
    obtain ⟨c,_,_,c3⟩:=hq i (by omega) j T hT
    exact hd ▸ c3
section
variable {H:Type} {enc:TypeId×Value→H} {P:Program} {w:World} {base:Nat} {spare:Nat→Bool} {held:Bool} {r:Reach} {b0:Nat}
theorem Dp {t:TypeId} {fs:Array Field} {ts:List Fm} {v:Value} {d:DataW H} {ps:List MemPlace} (ht:P.underlying t=some (.struct fs)) (ho:sB P t ts) (hv:Value.okWide P w r b0 t v) (h:DataW.Trod enc P w base spare held t v d ps) :
  ∃ ds:List D,ds.length=ts.length∧(∀ (j:Nat) (T:Fm),ts[j]? = some T→∃ e,ds[j]? = some e∧Shp T e)∧aM ρNone dM w (· < w.heap.size) v (.ag (ds.map .d)):=by
 obtain ⟨cs,rfl,_⟩:=okWide_struct ht hv
 obtain ⟨fuel,hf⟩:=h
 simp only [Value.cells] at hf
 obtain ⟨hl,hz⟩:=ho _ _ _ _ _ _ _ _ _ hf
 have:∀ j,j < ts.length→∃ d,∀ T,ts[j]? = some T→∃ c,cs.toList[j]? = some c∧ed w (· < w.heap.size) c d∧Shp T d:=by
  intro j hj
  obtain ⟨c,d,c1,c2,c3⟩:=hz j ts[j] (zq hj)
  refine ⟨d,fun T hT=>⟨c,c1,c2,?_⟩⟩
  rw [zq hj] at hT
  cases hT
  exact c3
 obtain ⟨q,hq⟩:=choose_lt this
 refine ⟨(List.range ts.length).map q,by simp,fun j T hT=>?_,.ag cs _ (by simp; simpa using hl) (fun x hx=>?_) (fun j x c hx hc=>?_)⟩
 ·have hj:j < ts.length:=(zg.1 hT).1
  obtain ⟨c,_,_,c3⟩:=hq j hj T hT
  exact ⟨q j,by simp [hj],c3⟩
 ·obtain ⟨j,hj,rfl⟩:=List.getElem_of_mem (Array.mem_toList_iff.2 hx)
  have hj':j < ts.length:=by rw [← hl]; exact hj
  obtain ⟨c,c1,c2,_⟩:=hq j hj' _ (zq hj')
  rw [zq hj] at c1
  cases c1
  exact c2.one
 ·have hj:j < ts.length:=by
   have:=(Array.getElem?_eq_some_iff.1 hx).1
   rw [← hl]
   simpa using this
  obtain ⟨c',c1,c2,_⟩:=hq j hj _ (zq hj)
  rw [Array.getElem?_toList,hx] at c1
  cases c1
  have:c = .d (q j):=by simpa [hj] using hc.symm
  subst this
  exact .d _ _ c2
end
theorem Rp {α : Type} {f : α→List D} {Q : α→Prop} : ∀ (es:List (List D)),(∀ e∈es,∃ x,e=f x∧Q x)→∃ l:List α,es=l.map f∧∀ x∈l,Q x
 | [],_=>⟨[],rfl,by simp⟩
 | e::es,h=>by
  obtain ⟨x,rfl,hq⟩:=h e List.mem_cons_self
  obtain ⟨l,rfl,hl⟩:=Rp es (fun y hy=>h y (List.mem_cons_of_mem _ hy))
  refine ⟨x::l,rfl,?_⟩
  intro y hy
  rcases List.mem_cons.1 hy with rfl | hy
  ·exact hq
  ·exact hl y hy
theorem JP {P:Program} {f:FuncId} {args:List PV} {b:Bool} (h:PC P f args (.d (.v (.bool b)))) (w:World) (vs:Array Value) (hr:cF ρNone dM w (· < w.heap.size) vs.toList args) :
  Calls P f vs w fun e w'=>e = .returned (.bool b)∧Below w.heap.size w w':=by
 refine (h.2 w _ vs (fun _ h=>h) hr).mono ?_
 rintro e w' ⟨v,F',rfl,hx,_,_,_,hp⟩
 refine ⟨?_,hx⟩
 cases hp with
 | d _ _ h=>cases h with
  | v=>rfl
end
section
open Go.ChangeShapes Go.WideShapes Go.ChangeAt Go.RowKit Go.Deep
theorem jk {d:D} (h:Shp .int d) : ∃ z,d = .v (.int .i64 z)∧(Lit.int .i64 z).wf=true:=by
 cases h with
 | int z h=>exact ⟨z,rfl,h⟩
theorem Vh {d:D} (h:Shp .bool d) : ∃ b,d = .v (.bool b):=by
 cases h with
 | bool z=>exact ⟨z,rfl⟩
def wfI (z:Int) : Prop:=(Lit.int .i64 z).wf=true
theorem wfI.hi {z:Int} (h:wfI z) : z≤9223372036854775807:=(bounds_i64 h).2
theorem Vn {α : Type} {f : α→List D} {Q : α→Prop} {ts:List Fm} {d:D} (hf:∀ e:List D,e.length=ts.length→(∀ (j:Nat) (T:Fm),ts[j]? = some T→∃ d,e[j]? = some d∧Shp T d)→∃ x,e=f x∧Q x) (h:Shp (.sl ts) d) : ∃ l:List α,d = .sl (l.map f)∧(∀ z∈l,Q z)∧l.length≤maxLen:=by
 cases h with
 | sl _ es hl h hm =>
  obtain ⟨l,rfl,hq⟩:=Rp (f:=f) (Q:=Q) es (fun e he=>hf e (hl e he) fun j T hT=>by
   have hj:j < e.length:=by rw [hl e he]; exact (zg.1 hT).1
   exact ⟨e[j],zq hj,h e he j T _ hT (zq hj)⟩)
  exact ⟨l,rfl,hq,by simpa using hm⟩
theorem Zu {e:List D} (hl:e.length=1) (h:∀ (j:Nat) (T:Fm),[Fm.int][j]? = some T→∃ d,e[j]? = some d∧Shp T d) : ∃ x:Int,e = [.v (.int .i64 x)]∧wfI x:=by
 match e,hl with
 | [d],_ =>
  obtain ⟨d',hd,s⟩:=h 0 _ rfl
  cases hd
  cases s with
  | int z hz=>exact ⟨z,rfl,hz⟩
theorem OL:sB prog 22 [.sl [.int]]:=Cd Tryz.underlying22 (by kernel_rfl) (by decide) (dB Tryz.underlying3)
theorem Vg {d:D} (h:Shp (.sl [.int]) d) : ∃ l:List Int,d = .sl (l.map iD)∧(∀ z∈l,wfI z)∧l.length≤maxLen:=Vn (ts:=[.int]) (f:=iD) (Q:=fun z=>wfI z) (fun _ hl h=>Zu hl h) h
def aR.ok (x:aR) : Prop:=wfI x.gX∧wfI x.fA∧wfI x.fB∧wfI x.fC∧wfI x.fD
theorem CU:sB prog 76 [.int,.int,.int,.int,.int]:=oP Tryz.underlying76 (by kernel_rfl) fun j T hj=>by
 match j,hj with
 | 0,hj=>exact ⟨0,_,1,[.int],rfl,by decide,by decide,by kernel_rfl,(dB Tryz.underlying3),hj⟩
 | 1,hj=>exact ⟨1,_,1,[.int],rfl,by decide,by decide,by kernel_rfl,(dB Tryz.underlying3),hj⟩
 | 2,hj=>exact ⟨2,_,1,[.int],rfl,by decide,by decide,by kernel_rfl,(dB Tryz.underlying3),hj⟩
 | 3,hj=>exact ⟨3,_,1,[.int],rfl,by decide,by decide,by kernel_rfl,(dB Tryz.underlying3),hj⟩
 | 4,hj=>exact ⟨4,_,1,[.int],rfl,by decide,by decide,by kernel_rfl,(dB Tryz.underlying3),hj⟩
theorem JR {e:List D} (hl:e.length=5) (h:∀ (j:Nat) (T:Fm),([.int,.int,.int,.int,.int] : List Fm)[j]? = some T→∃ d,e[j]? = some d∧Shp T d) : ∃ x:aR,e=aR.d x∧x.ok:=by
 match e,hl with
 | [d0,d1,d2,d3,d4],_ =>
  obtain ⟨_,e0,s0⟩:=h 0 _ rfl
  cases e0
  obtain ⟨_,e1,s1⟩:=h 1 _ rfl
  cases e1
  obtain ⟨_,e2,s2⟩:=h 2 _ rfl
  cases e2
  obtain ⟨_,e3,s3⟩:=h 3 _ rfl
  cases e3
  obtain ⟨_,e4,s4⟩:=h 4 _ rfl
  cases e4
  obtain ⟨z0,rfl,k0⟩:=jk s0
  obtain ⟨z1,rfl,k1⟩:=jk s1
  obtain ⟨z2,rfl,k2⟩:=jk s2
  obtain ⟨z3,rfl,k3⟩:=jk s3
  obtain ⟨z4,rfl,k4⟩:=jk s4
  exact ⟨⟨z0,z1,z2,z3,z4⟩,rfl,⟨k0,k1,k2,k3,k4⟩⟩
theorem AY:sB prog 23 [.sl [.int,.int,.int,.int,.int]]:=Cd Tryz.underlying23 (by kernel_rfl) (by decide) CU
theorem DZ {d:D} (h:Shp (.sl [.int,.int,.int,.int,.int]) d) : ∃ l:List aR,d = .sl (l.map aR.d)∧(∀ z∈l,aR.ok z)∧l.length≤maxLen:=Vn (ts:=[.int,.int,.int,.int,.int]) (f:=aR.d) (Q:=fun z=>aR.ok z) (fun _ hl h=>JR hl h) h
def az.ok (x:az) : Prop:=wfI x.J5∧(∀ z∈x.fNs,wfI z)∧x.fNs.length≤maxLen∧(∀ z∈x.jI,aR.ok z)∧x.jI.length≤maxLen
theorem kq:sB prog 25 [.int,.sl [.int],.sl [.int,.int,.int,.int,.int]]:=oP Tryz.underlying25 (by kernel_rfl) fun j T hj=>by
 match j,hj with
 | 0,hj=>exact ⟨0,_,1,[.int],rfl,by decide,by decide,by kernel_rfl,(dB Tryz.underlying3),hj⟩
 | 1,hj=>exact ⟨1,_,1,[.sl [.int]],rfl,by decide,by decide,by kernel_rfl,OL,hj⟩
 | 2,hj=>exact ⟨2,_,1,[.sl [.int,.int,.int,.int,.int]],rfl,by decide,by decide,by kernel_rfl,AY,hj⟩
theorem n6 {e:List D} (hl:e.length=3) (h:∀ (j:Nat) (T:Fm),([.int,.sl [.int],.sl [.int,.int,.int,.int,.int]] : List Fm)[j]? = some T→∃ d,e[j]? = some d∧Shp T d) : ∃ x:az,e=az.d x∧x.ok:=by
 match e,hl with
 | [d0,d1,d2],_ =>
  obtain ⟨_,e0,s0⟩:=h 0 _ rfl
  cases e0
  obtain ⟨_,e1,s1⟩:=h 1 _ rfl
  cases e1
  obtain ⟨_,e2,s2⟩:=h 2 _ rfl
  cases e2
  obtain ⟨z0,rfl,k0⟩:=jk s0
  obtain ⟨z1,rfl,k1,m1⟩:=Vg s1
  obtain ⟨z2,rfl,k2,m2⟩:=DZ s2
  exact ⟨⟨z0,z1,z2⟩,rfl,⟨k0,k1,m1,k2,m2⟩⟩
def aw.ok (x:aw) : Prop:=wfI x.br∧wfI x.aV
theorem Eg:sB prog 27 [.int,.int]:=oP Tryz.underlying27 (by kernel_rfl) fun j T hj=>by
 match j,hj with
 | 0,hj=>exact ⟨0,_,1,[.int],rfl,by decide,by decide,by kernel_rfl,(dB Tryz.underlying3),hj⟩
 | 1,hj=>exact ⟨1,_,1,[.int],rfl,by decide,by decide,by kernel_rfl,(dB Tryz.underlying3),hj⟩
def aA.ok (x:aA) : Prop:=wfI x.fId∧wfI x.aP∧wfI x.da∧aw.ok x.dL∧wfI x.bB∧wfI x.bD
theorem L3:sB prog 29 [.int,.int,.int,.int,.int,.int,.int,.bool]:=oP Tryz.underlying29 (by kernel_rfl) fun j T hj=>by
 match j,hj with
 | 0,hj=>exact ⟨0,_,1,[.int],rfl,by decide,by decide,by kernel_rfl,(dB Tryz.underlying3),hj⟩
 | 1,hj=>exact ⟨1,_,1,[.int],rfl,by decide,by decide,by kernel_rfl,(dB Tryz.underlying3),hj⟩
 | 2,hj=>exact ⟨2,_,1,[.int],rfl,by decide,by decide,by kernel_rfl,(dB Tryz.underlying3),hj⟩
 | 3,hj=>exact ⟨3,_,2,[.int,.int],rfl,by decide,by decide,by kernel_rfl,Eg,hj⟩
 | 4,hj=>exact ⟨3,_,2,[.int,.int],rfl,by decide,by decide,by kernel_rfl,Eg,hj⟩
 | 5,hj=>exact ⟨4,_,1,[.int],rfl,by decide,by decide,by kernel_rfl,(dB Tryz.underlying3),hj⟩
 | 6,hj=>exact ⟨5,_,1,[.int],rfl,by decide,by decide,by kernel_rfl,(dB Tryz.underlying3),hj⟩
 | 7,hj=>exact ⟨6,_,1,[.bool],rfl,by decide,by decide,by kernel_rfl,(OM Tryz.underlying4),hj⟩
theorem VI {e:List D} (hl:e.length=8) (h:∀ (j:Nat) (T:Fm),([.int,.int,.int,.int,.int,.int,.int,.bool] : List Fm)[j]? = some T→∃ d,e[j]? = some d∧Shp T d) : ∃ x:aA,e=aA.d x∧x.ok:=by
 match e,hl with
 | [d0,d1,d2,d3,d4,d5,d6,d7],_ =>
  obtain ⟨_,e0,s0⟩:=h 0 _ rfl
  cases e0
  obtain ⟨_,e1,s1⟩:=h 1 _ rfl
  cases e1
  obtain ⟨_,e2,s2⟩:=h 2 _ rfl
  cases e2
  obtain ⟨_,e3,s3⟩:=h 3 _ rfl
  cases e3
  obtain ⟨_,e4,s4⟩:=h 4 _ rfl
  cases e4
  obtain ⟨_,e5,s5⟩:=h 5 _ rfl
  cases e5
  obtain ⟨_,e6,s6⟩:=h 6 _ rfl
  cases e6
  obtain ⟨_,e7,s7⟩:=h 7 _ rfl
  cases e7
  obtain ⟨z0,rfl,k0⟩:=jk s0
  obtain ⟨z1,rfl,k1⟩:=jk s1
  obtain ⟨z2,rfl,k2⟩:=jk s2
  obtain ⟨z3,rfl,k3⟩:=jk s3
  obtain ⟨z4,rfl,k4⟩:=jk s4
  obtain ⟨z5,rfl,k5⟩:=jk s5
  obtain ⟨z6,rfl,k6⟩:=jk s6
  obtain ⟨z7,rfl⟩:=Vh s7
  exact ⟨⟨z0,z1,z2,⟨z3,z4⟩,z5,z6,z7⟩,rfl,⟨k0,k1,k2,⟨k3,k4⟩,k5,k6⟩⟩
end
noncomputable def Iq (s:aa) (id:Int) : Option (aA×Bool):=qq (s,(id,()))
noncomputable def Rf (s:aa) (id:Int) : Option aw:=qm (s,(id,()))
noncomputable def Wj (s:aa) (id:Int) : Option aw:=qp (s,(id,()))
noncomputable def JB (s:aa) : Option (List Int):=nf (s,())
noncomputable def Z7 (l:List aA) (id:Int) : Option Int:=vm (l,(((id,()),()),()))
noncomputable def O8 (l:List aA) (id:Int) : Option Int:=tB (l,(((id,()),()),()))
def Ml (p:aA→Bool) (l:List aA) : Option Int:=Option.bind (ah (fun st:Int×Int=>if decide (st.2 < (l.length:Int))=true then Option.bind (au l st.2) fun x=>if p x=true then some (.inr (.inr st.2)) else some (.inl (st.1,i64.wrap (st.2 + 1))) else some (.inr (.inl (st.1,st.2)))) ab ((0:Int),(0:Int))) fun o:(Int×Int)⊕Int=>match o with | .inl _=>some (-1) | .inr v=>some v
theorem V6 (l:List aA) (id:Int) : Z7 l id=Ml (fun x=>id==x.fId) l:=by kernel_rfl
theorem Mu (l:List aA) (id:Int) : O8 l id=Option.bind (Z7 l id) fun r=>if decide (r≥0)=true then some r else some (l.length:Int):=by kernel_rfl
theorem Yi (s:aa) (id:Int) : Iq s id=Option.bind (O8 s.aj id) fun r=>if (r==(s.aj.length:Int))=true then some (⟨0,0,0,⟨0,0⟩,0,0,false⟩,false) else Option.bind (au s.aj r) fun x=>some (x,true):=by kernel_rfl
theorem OX (p:aA→Bool) (l:List aA) (hl:l.length≤1000000) : (∃ i,∃ h:i < l.length,Ml p l=some (i:Int)∧p l[i] = true∧∀ j (hj:j < i),p l[j] = false)∨(Ml p l=some (-1)∧∀ x∈l,p x=false):=by
 have hp:∃ r,ah (fun st:Int×Int=>if decide (st.2 < (l.length:Int))=true then Option.bind (au l st.2) fun x=>if p x=true then some (.inr (.inr st.2)) else some (.inl (st.1,i64.wrap (st.2 + 1))) else some (.inr (.inl (st.1,st.2)))) ab ((0:Int),(0:Int))=some r∧((∃ i,∃ h:i < l.length,(r:(Int×Int)⊕Int) = .inr (i:Int)∧p l[i] = true∧∀ j (hj:j < i),p l[j] = false)∨((∃ q,r = .inl q)∧∀ x∈l,p x=false)):=by
  refine aJ (fun st=>∃ k:Nat,st.2=(k:Int)∧k≤l.length∧∀ j (hj:j < l.length),j < k→p l[j] = false) (fun st=>l.length - st.2.toNat) _ (fun st ⟨k,h1,h2,h3⟩=>?_) ab _ ⟨0,rfl,Nat.zero_le _,fun j _ h=>by omega⟩ (by have:=an hl; show l.length - (0:Int).toNat < ab; omega)
  simp only [h1]
  rcases Nat.lt_or_ge k l.length with hlt | hge
  ·have d1:decide ((k:Int) < (l.length:Int))=true:=by simpa using hlt
   rw [if_pos d1,aE (zq hlt)]
   simp only [zb]
   cases hpk:p l[k] with
   | true =>
    rw [if_pos rfl]
    exact .inr ⟨_,rfl,.inl ⟨k,hlt,rfl,hpk,fun j hj=>h3 j (by omega) hj⟩⟩
   | false =>
    rw [if_neg (by decide),aY hlt hl]
    refine .inl ⟨_,rfl,⟨k + 1,rfl,hlt,fun j hj hjk=>?_⟩,by simp only [zt]; omega⟩
    rcases Nat.lt_or_ge j k with h | h
    ·exact h3 j hj h
    ·obtain rfl:j=k:=by omega
     exact hpk
  ·have d1:decide ((k:Int) < (l.length:Int))=false:=by simp; omega
   rw [if_neg (by rw [d1]; decide)]
   refine .inr ⟨_,rfl,.inr ⟨⟨_,rfl⟩,fun x hx=>?_⟩⟩
   obtain ⟨j,hj,rfl⟩:=List.getElem_of_mem hx
   exact h3 j hj (by omega)
 obtain ⟨r,h1,h2⟩:=hp
 unfold Ml
 rw [h1]
 rcases h2 with ⟨i,h,rfl,h3,h4⟩ | ⟨⟨q,rfl⟩,h3⟩
 ·exact .inl ⟨i,h,rfl,h3,h4⟩
 ·exact .inr ⟨rfl,h3⟩
theorem yO (s:aa) (id:Int) (hl:s.aj.length≤1000000) : Iq s id=some (cd s id,ln s id):=by
 rw [Yi,Mu,V6]
 rcases OX (fun x=>id==x.fId) s.aj hl with ⟨i,h,h1,h2,h3⟩ | ⟨h1,h2⟩
 ·rw [h1]
  have d1:decide ((i:Int)≥0)=true:=by simp
  have d2:((i:Int)==(s.aj.length:Int))=false:=by simp; omega
  simp only [zb,d1,if_true,d2,zf,if_false,aE (zq h)]
  have hf:s.aj.find? (fun c=>c.fId==id)=some s.aj[i]:=by
   rw [List.find?_eq_some_iff_getElem]
   exact ⟨by rw [BEq.comm]; exact h2,i,h,rfl,fun j hj=>by rw [BEq.comm,h3 j hj]; rfl⟩
  unfold cd ln
  rw [hf]
  have:s.aj.any (fun c=>c.fId==id)=true:=List.any_eq_true.2 ⟨_,List.getElem_mem h,by rw [BEq.comm]; exact h2⟩
  rw [this]
  rfl
 ·rw [h1]
  have d1:decide ((-1:Int)≥0)=false:=by decide
  simp only [zb,d1,zf,if_false,BEq.rfl,if_true]
  have hf:s.aj.find? (fun c=>c.fId==id)=none:=by
   rw [List.find?_eq_none]
   intro x hx
   have:=h2 x hx
   rw [BEq.comm] at this
   simp [this]
  unfold cd ln
  rw [hf]
  have:s.aj.any (fun c=>c.fId==id)=false:=by
   rw [List.any_eq_false]
   intro x hx
   have:=h2 x hx
   rw [BEq.comm] at this
   simp [this]
  rw [this]
  rfl
theorem XC (s:aa) (id:Int) : Rf s id=Option.bind (ah (fun st:Int×aw=>if decide (st.1 < (s.ac.length:Int))=true then Option.bind (au s.ac st.1) fun x=>if (x.bH==id)=true then some (.inl (i64.wrap (st.1 + 1),(⟨i64.wrap (st.2.br + x.cp.br),i64.wrap (st.2.aV + x.cp.aV)⟩ : aw))) else some (.inl (i64.wrap (st.1 + 1),st.2)) else some (.inr (st.1,st.2))) ab ((0:Int),(⟨0,0⟩ : aw))) fun st:Int×aw=>some st.2:=by kernel_rfl
theorem Lr (s:aa) (id:Int) (hl:s.ac.length≤1000000) : Rf s id=some (U5 s id):=by
 rw [XC]
 have h:=ay s.ac (S:=Int×aw) (τ:=Int×aw) (f:=fun st:Int×aw=>if decide (st.1 < (s.ac.length:Int))=true then Option.bind (au s.ac st.1) fun x=>if (x.bH==id)=true then some (.inl (i64.wrap (st.1 + 1),(⟨i64.wrap (st.2.br + x.cp.br),i64.wrap (st.2.aV + x.cp.aV)⟩ : aw))) else some (.inl (i64.wrap (st.1 + 1),st.2)) else some (.inr (st.1,st.2))) (fun a_ k_=>(k_,a_)) (fun v c=>some (.inl (if (c.bH==id)=true then Pu v c.cp else v))) (fun a_=>((s.ac.length:Int),a_)) (an hl) (fun k a x hx=>by
  have hk:=(zg.1 hx).1
  simp only [bK hx,if_true,aE hx,zb,aY hk hl]
  split <;> rfl) (fun a=>by simp only [bE,zf,if_false]) (⟨0,0⟩ : aw)
 rw [show ((0:Int),(⟨0,0⟩ : aw))=(fun (a_:aw) (k_:Int)=>(k_,a_)) ⟨0,0⟩ 0 from rfl,h,sN]
 rfl
theorem Yc (s:aa) (id:Int) : Wj s id=Option.bind (Iq s id) fun r=>if (!r.1.fUp)=true then some ⟨0,0⟩ else Option.bind (Rf s id) fun u=>some ⟨if i64.wrap (r.1.dL.br - u.br) > 0 then i64.wrap (r.1.dL.br - u.br) else 0,if i64.wrap (r.1.dL.aV - u.aV) > 0 then i64.wrap (r.1.dL.aV - u.aV) else 0⟩:=by kernel_rfl
theorem aaD (w:Int) : (if w > 0 then w else 0)=if 0 > w then 0 else w:=by split <;> split <;> omega
theorem Wi (s:aa) (id:Int) (hl:s.aj.length≤1000000) (hc:s.ac.length≤1000000) : Wj s id=some (RX s id):=by
 rw [Yc,yO s id hl,Lr s id hc]
 simp only [zb]
 unfold RX
 cases hu:ln s id with
 | false =>
  have:(cd s id).fUp=false:=by
   unfold cd
   have hf:s.aj.find? (fun c=>c.fId==id)=none:=by
    rw [List.find?_eq_none]
    unfold ln at hu
    rw [List.any_eq_false] at hu
    exact hu
   rw [hf]
   rfl
  rw [this]
  rfl
 | true =>
  cases hp:(cd s id).fUp with
  | false=>rfl
  | true =>
   simp only [Bool.not_true,zf,if_false,Bool.or_false,aaD]
   rfl
theorem SK (s:aa) : JB s=Option.bind (ah (fun st:List Int×Int=>if decide (st.2 < (s.aj.length:Int))=true then Option.bind (au s.aj st.2) fun x=>Option.bind (Option.bind (if x.fUp=true then some (decide (x.bB≤s.bQ)) else some false) fun q=>Option.bind (if q=true then some (decide (IntKind.u64.wrap (IntKind.u64.wrap s.bQ - IntKind.u64.wrap x.bB)≥10)) else some false) fun q=>some q) fun r=>if r=true then Option.bind (aX st.1 [x.fId]) fun zs=>some (.inl (zs,i64.wrap (st.2 + 1))) else some (.inl (st.1,i64.wrap (st.2 + 1))) else some (.inr (st.1,st.2))) ab (([] : List Int),(0:Int))) fun st:List Int×Int=>some st.1:=by kernel_rfl
def H5 (s:aa) (b:aA) : Bool:=b.fUp&&decide (i64.wrap (s.bQ - b.bB)≥10)
theorem X8 {s:aa} (hs : 0≤s.bQ∧s.bQ≤2000000000) {x:aA} (hx : 0≤x.bB∧x.bB≤1000000000) : (Option.bind (if x.fUp=true then some (decide (x.bB≤s.bQ)) else some false) fun q=>Option.bind (if q=true then some (decide (IntKind.u64.wrap (IntKind.u64.wrap s.bQ - IntKind.u64.wrap x.bB)≥10)) else some false) fun q=>some q)=some (H5 s x):=by
 unfold H5
 cases x.fUp with
 | false=>rfl
 | true =>
  simp only [if_true,zb,Bool.true_and]
  have e1:i64.wrap (s.bQ - x.bB)=s.bQ - x.bB:=by rw [IntKind.wrap_i64]; omega
  rw [e1]
  rcases Int.lt_or_le s.bQ x.bB with h | h
  ·have d1:decide (x.bB≤s.bQ)=false:=by simp; omega
   have d2:decide (s.bQ - x.bB≥10)=false:=by simp; omega
   simp only [d1,d2,zf,if_false,zb]
  ·have d1:decide (x.bB≤s.bQ)=true:=by simp; omega
   have e2:IntKind.u64.wrap (IntKind.u64.wrap s.bQ - IntKind.u64.wrap x.bB)=s.bQ - x.bB:=by
    rw [IntKind.wrap_u64,IntKind.wrap_u64,IntKind.wrap_u64]; omega
   simp only [d1,e2,if_true,zb]
theorem Oo {s:aa} (hl:s.aj.length≤1000000) (hs : 0≤s.bQ∧s.bQ≤2000000000) (hx:∀ x∈s.aj,0≤x.bB∧x.bB≤1000000000) : JB s=some ((s.aj.filter (H5 s)).map aA.fId):=by
 rw [SK]
 have h:=ay s.aj (S:=List Int×Int) (τ:=List Int×Int) (f:=fun st:List Int×Int=>if decide (st.2 < (s.aj.length:Int))=true then Option.bind (au s.aj st.2) fun x=>Option.bind (Option.bind (if x.fUp=true then some (decide (x.bB≤s.bQ)) else some false) fun q=>Option.bind (if q=true then some (decide (IntKind.u64.wrap (IntKind.u64.wrap s.bQ - IntKind.u64.wrap x.bB)≥10)) else some false) fun q=>some q) fun r=>if r=true then Option.bind (aX st.1 [x.fId]) fun zs=>some (.inl (zs,i64.wrap (st.2 + 1))) else some (.inl (st.1,i64.wrap (st.2 + 1))) else some (.inr (st.1,st.2))) (fun a_ k_=>(a_,k_)) (fun acc x=>if H5 s x=true then (aX acc [x.fId]).map (fun a=>(.inl a:List Int⊕(List Int×Int))) else some (.inl acc)) (fun a_=>(a_,(s.aj.length:Int))) (an hl) (fun k a x hk0=>by
  have hk:=(zg.1 hk0).1
  simp only [bK hk0,if_true,aE hk0,zb,aY hk hl,X8 hs (hx x (List.mem_of_getElem? hk0))]
  split
  ·cases aX a [x.fId] <;> rfl
  ·rfl) (fun a=>by simp only [bE,zf,if_false]) ([] : List Int)
 rw [show (([] : List Int),(0:Int))=(fun (a_:List Int) (k_:Int)=>(a_,k_)) [] 0 from rfl,h,cr (H5 s) aA.fId _ s.aj [] (by simpa using hl)]
 rfl
def er (v_s:aa) (v_c:ax) (st:Unit) (v_i:Int) (x_:ByteArray) : Option ((Unit)⊕((Int)⊕(aa×bt))) :=
 (au v_c.ai v_i).bind fun b9=>if (!(b9.toList==x_.toList))=true then
 (dE v_s 14).bind fun c10=>some (.inr (.inr c10))
 else
 some (.inl ())
theorem wn (v_s:aa) (v_c:ax) (a_:Unit) (hl:v_s.bC.ai.length≤1000000) : ah (jv v_s v_c) ab (0)=nB (er v_s v_c) (fun a_=>(.inl ((v_s.bC.ai.length:Int)))) a_ 0 v_s.bC.ai :=
 eV v_s.bC.ai (S:=Int) (fun a_ k_=>(k_)) (er v_s v_c) (fun a_=>(.inl ((v_s.bC.ai.length:Int)))) (an hl) (fun k a x hx=>by
  unfold jv er; exact bI)
  (fun a=>by unfold jv; exact cE) a_
def ep (v_s:aa) (v_c:ax) (st:Unit) (x_:aC) : Option ((Unit)⊕((Int)⊕(aa×bt))) :=
 (dx x_).bind fun c17=>(if c17=true then (jV v_c x_.bP).bind fun c18=>some (!c18) else some false).bind fun q19=>if q19=true then
 (dE v_s 14).bind fun c20=>some (.inr (.inr c20))
 else
 some (.inl ())
theorem wm (v_s:aa) (v_c:ax) (a_:Unit) (hl:v_s.aq.length≤1000000) : ah (ju v_s v_c) ab (0)=bk (ep v_s v_c) (fun a_=>(.inl ((v_s.aq.length:Int)))) a_ v_s.aq :=
 ay v_s.aq (S:=Int) (fun a_ k_=>(k_)) (ep v_s v_c) (fun a_=>(.inl ((v_s.aq.length:Int)))) (an hl) (fun k a x hx=>by
  unfold ju ep; exact bI)
  (fun a=>by unfold ju; exact cE) a_
def iZ (v_s:aa) (cu:Int) (st:(List Int)) (x_:am) : Option (((List Int))⊕(((List Int)×Int))) :=
 let v_l:=st
 if (x_.bH==cu)=true then
 (aX v_l [x_.fId]).bind fun b4=>let v_l:(List Int):=b4
 some (.inl v_l)
 else
 some (.inl v_l)
theorem C2 (v_s:aa) (cu:Int) (a_:(List Int)) (hl:v_s.ac.length≤1000000) : ah (o0 v_s cu) ab (a_,(0))=bk (iZ v_s cu) (fun a_=>(a_,((v_s.ac.length:Int)))) a_ v_s.ac :=
 ay v_s.ac (S:=(List Int)×Int) (fun a_ k_=>(a_,(k_))) (iZ v_s cu) (fun a_=>(a_,((v_s.ac.length:Int)))) (an hl) (fun k a x hx=>by
  unfold o0 iZ; exact bI)
  (fun a=>by unfold o0; exact cE) a_
def fZ (v_x:aL) (v_t:aa) (st:(List Int)) (x_:Int) : Option (((List Int))⊕(((List Int)×Int))) :=
 let cm:=st
 (eH v_t x_).bind fun c11=>let v_c:am:=c11.1
 let yl:Bool:=c11.2
 (if yl=true then some (v_c.bH==v_x.fId) else some false).bind fun q12=>if q12=true then
 (aX cm [v_c.fId]).bind fun b13=>let cm:(List Int):=b13
 some (.inl cm)
 else
 some (.inl cm)
theorem zE (v_x:aL) (v_t:aa) (a_:(List Int)) (hl:v_x.fQ.length≤1000000) : ah (lI v_x v_t) ab (a_,(0))=bk (fZ v_x v_t) (fun a_=>(a_,((v_x.fQ.length:Int)))) a_ v_x.fQ :=
 ay v_x.fQ (S:=(List Int)×Int) (fun a_ k_=>(a_,(k_))) (fZ v_x v_t) (fun a_=>(a_,((v_x.fQ.length:Int)))) (an hl) (fun k a x hx=>by
  unfold lI fZ; exact bI)
  (fun a=>by unfold lI; exact cE) a_
def eZ (cm:(List Int)) (v_s:aa) (st:(List am)) (x_:Int) : Option (((List am))⊕(((List am)×Int))) :=
 let v_l:=st
 (eH v_s x_).bind fun c4=>let v_c:am:=c4.1
 let bS:Bool:=c4.2
 if bS=true then
 (aX v_l [v_c]).bind fun b5=>let v_l:(List am):=b5
 some (.inl v_l)
 else
 some (.inl v_l)
theorem xM (cm:(List Int)) (v_s:aa) (a_:(List am)) (hl:cm.length≤1000000) : ah (jX cm v_s) ab (a_,(0))=bk (eZ cm v_s) (fun a_=>(a_,((cm.length:Int)))) a_ cm :=
 ay cm (S:=(List am)×Int) (fun a_ k_=>(a_,(k_))) (eZ cm v_s) (fun a_=>(a_,((cm.length:Int)))) (an hl) (fun k a x hx=>by
  unfold jX eZ; exact bI)
  (fun a=>by unfold jX; exact cE) a_
def dQ (v_s:aa) (eR:Int) (st:(List Int)) (x_:am) : Option (((List Int))⊕(((List Int)×Int))) :=
 let v_l:=st
 (if (x_.bF==eR)=true then some (x_.jn != 0) else some false).bind fun q6=>if q6=true then
 (aX v_l [x_.fId]).bind fun b7=>let v_l:(List Int):=b7
 some (.inl v_l)
 else
 some (.inl v_l)
theorem uS (v_s:aa) (eR:Int) (a_:(List Int)) (hl:v_s.ac.length≤1000000) : ah (iG v_s eR) ab (a_,(0))=bk (dQ v_s eR) (fun a_=>(a_,((v_s.ac.length:Int)))) a_ v_s.ac :=
 ay v_s.ac (S:=(List Int)×Int) (fun a_ k_=>(a_,(k_))) (dQ v_s eR) (fun a_=>(a_,((v_s.ac.length:Int)))) (an hl) (fun k a x hx=>by
  unfold iG dQ; exact bI)
  (fun a=>by unfold iG; exact cE) a_
def eY (ko:(List aQ)) (v_s:aa) (st:(List aQ)) (x_:aQ) : Option (((List aQ))⊕(((List aQ)×Int)⊕((List aQ)×Int))) :=
 let v_l:=st
 (pK x_ (v_s.bC.ai.length:Int)).bind fun c5=>let v_e:Int:=c5
 if (v_e != 0)=true then
 some (.inr (.inr ([],v_e)))
 else
 (FO v_l x_).bind fun c6=>let v_l:(List aQ):=c6.1
 let v_e:Int:=c6.2
 if (v_e != 0)=true then
 some (.inr (.inr ([],v_e)))
 else
 some (.inl v_l)
theorem xK (ko:(List aQ)) (v_s:aa) (a_:(List aQ)) (hl:ko.length≤1000000) : ah (jW ko v_s) ab (a_,(0))=bk (eY ko v_s) (fun a_=>(.inl (a_,((ko.length:Int))))) a_ ko :=
 ay ko (S:=(List aQ)×Int) (fun a_ k_=>(a_,(k_))) (eY ko v_s) (fun a_=>(.inl (a_,((ko.length:Int))))) (an hl) (fun k a x hx=>by
  unfold jW eY; exact bI)
  (fun a=>by unfold jW; exact cE) a_
def eo (v_x:aL) (st:aa×aC) (x_:Int) : Option ((aa×aC)⊕((aa×aC×Int))) :=
 let v_s:=st.1
 let v_a:=st.2
 (eH v_s x_).bind fun c17=>let v_c:am:=c17.1
 let yl:Bool:=c17.2
 (if yl=true then some (v_c.bF==v_a.fId) else some false).bind fun q18=>(if q18=true then some (!v_c.bG) else some false).bind fun q19=>if q19=true then
 (ql v_s v_c.fId).bind fun c20=>let v_s:aa:=c20
 (jd v_a.ca v_c.fId).bind fun c21=>let v_a:aC:={ v_a with ca:=c21.1 }
 some (.inl (v_s,v_a))
 else
 some (.inl (v_s,v_a))
theorem wl (v_x:aL) (a_:aa×aC) (hl:v_x.fQ.length≤1000000) : ah (jt v_x) ab (a_.1,a_.2,(0))=bk (eo v_x) (fun a_=>(a_.1,a_.2,((v_x.fQ.length:Int)))) a_ v_x.fQ :=
 ay v_x.fQ (S:=aa×aC×Int) (fun a_ k_=>(a_.1,a_.2,(k_))) (eo v_x) (fun a_=>(a_.1,a_.2,((v_x.fQ.length:Int)))) (an hl) (fun k a x hx=>by
  unfold jt eo; exact bI)
  (fun a=>by unfold jt; exact cE) a_
def fY (v_s:aa) (eR:Int) (st:Unit) (x_:am) : Option ((Unit)⊕((Int)⊕(Int))) :=
 (if (x_.bF==eR)=true then some x_.bG else some false).bind fun q5=>if q5=true then
 some (.inr (.inr x_.fId))
 else
 some (.inl ())
theorem zD (v_s:aa) (eR:Int) (a_:Unit) (hl:v_s.ac.length≤1000000) : ah (lH v_s eR) ab (0)=bk (fY v_s eR) (fun a_=>(.inl ((v_s.ac.length:Int)))) a_ v_s.ac :=
 ay v_s.ac (S:=Int) (fun a_ k_=>(k_)) (fY v_s eR) (fun a_=>(.inl ((v_s.ac.length:Int)))) (an hl) (fun k a x hx=>by
  unfold lH fY; exact bI)
  (fun a=>by unfold lH; exact cE) a_
def fX (v_l:(List Int)) (st:aa) (x_:Int) : Option ((aa)⊕((aa×Int))) :=
 let v_s:=st
 (zc v_s x_).bind fun c12=>(fv c12 x_).bind fun c13=>let v_s:aa:=c13
 (xL v_s x_).bind fun c14=>(je v_s c14).bind fun c15=>let v_s:aa:=c15
 some (.inl v_s)
theorem zA (v_l:(List Int)) (a_:aa) (hl:v_l.length≤1000000) : ah (lG v_l) ab (a_,(0))=bk (fX v_l) (fun a_=>(a_,((v_l.length:Int)))) a_ v_l :=
 ay v_l (S:=aa×Int) (fun a_ k_=>(a_,(k_))) (fX v_l) (fun a_=>(a_,((v_l.length:Int)))) (an hl) (fun k a x hx=>by
  unfold lG fX; exact bI)
  (fun a=>by unfold lG; exact cE) a_
def fW (v_l:(List Int)) (st:aa) (x_:Int) : Option ((aa)⊕((aa×Int))) :=
 let v_s:=st
 (uT v_s x_).bind fun c17=>(je v_s ([c17] : (List Int))).bind fun c18=>let v_s:aa:=c18
 some (.inl v_s)
theorem zy (v_l:(List Int)) (a_:aa) (hl:v_l.length≤1000000) : ah (lD v_l) ab (a_,(0))=bk (fW v_l) (fun a_=>(a_,((v_l.length:Int)))) a_ v_l :=
 ay v_l (S:=aa×Int) (fun a_ k_=>(a_,(k_))) (fW v_l) (fun a_=>(a_,((v_l.length:Int)))) (an hl) (fun k a x hx=>by
  unfold lD fW; exact bI)
  (fun a=>by unfold lD; exact cE) a_
def fV (v_s:aa) (st:(List a8)) (x_:a8) : Option (((List a8))⊕(((List a8)×Int))) :=
 let yi:=st
 if (decide (x_.jK > v_s.bQ))=true then
 (aX yi [x_]).bind fun b21=>let yi:(List a8):=b21
 some (.inl yi)
 else
 some (.inl yi)
theorem zx (v_s:aa) (a_:(List a8)) (hl:v_s.bh.length≤1000000) : ah (lC v_s) ab (a_,(0))=bk (fV v_s) (fun a_=>(a_,((v_s.bh.length:Int)))) a_ v_s.bh :=
 ay v_s.bh (S:=(List a8)×Int) (fun a_ k_=>(a_,(k_))) (fV v_s) (fun a_=>(a_,((v_s.bh.length:Int)))) (an hl) (fun k a x hx=>by
  unfold lC fV; exact bI)
  (fun a=>by unfold lC; exact cE) a_
def i7 (v_l:(List a8)) (af:Int) (v_t:Int) (st:aw) (x_:a8) : Option ((aw)⊕((aw×Int))) :=
 let v_v:=st
 (if (x_.aP==af)=true then some (decide (x_.nL≤v_t)) else some false).bind fun q8=>(if q8=true then some (decide (v_t < x_.jK)) else some false).bind fun q9=>if q9=true then
 (db v_v x_.iC).bind fun c10=>let v_v:aw:=c10
 some (.inl v_v)
 else
 some (.inl v_v)
theorem C4 (v_l:(List a8)) (af:Int) (v_t:Int) (a_:aw) (hl:v_l.length≤1000000) : ah (o5 v_l af v_t) ab (a_,(0))=bk (i7 v_l af v_t) (fun a_=>(a_,((v_l.length:Int)))) a_ v_l :=
 ay v_l (S:=aw×Int) (fun a_ k_=>(a_,(k_))) (i7 v_l af v_t) (fun a_=>(a_,((v_l.length:Int)))) (an hl) (fun k a x hx=>by
  unfold o5 i7; exact bI)
  (fun a=>by unfold o5; exact cE) a_
def gf (v_l:(List a8)) (v_t:Int) (gD:Int) (v_p:a8) (fx:aw) (st:Unit) (x_:a8) : Option ((Unit)⊕((Int)⊕(Bool))) :=
 let v_u:Int:=x_.nL
 (if (decide (v_u > v_t))=true then some (decide ((i64.wrap (v_u - v_t)) < gD)) else some false).bind fun q10=>(if q10=true then (u4 v_l v_p.aP v_u).bind fun c11=>(db c11 v_p.iC).bind fun c12=>(fF c12 fx).bind fun c13=>some (!c13) else some false).bind fun q14=>if q14=true then
 some (.inr (.inr false))
 else
 some (.inl ())
theorem zO (v_l:(List a8)) (v_t:Int) (gD:Int) (v_p:a8) (fx:aw) (a_:Unit) (hl:v_l.length≤1000000) : ah (lR v_l v_t gD v_p fx) ab (0)=bk (gf v_l v_t gD v_p fx) (fun a_=>(.inl ((v_l.length:Int)))) a_ v_l :=
 ay v_l (S:=Int) (fun a_ k_=>(k_)) (gf v_l v_t gD v_p fx) (fun a_=>(.inl ((v_l.length:Int)))) (an hl) (fun k a x hx=>by
  unfold lR gf; exact bI)
  (fun a=>by unfold lR; exact cE) a_
def hH (v_s:aa) (v_p:a8) (st:Int) (v_i:Int) (x_:a8) : Option ((Int)⊕((Int×Int)⊕(aa×Int×Int))) :=
 let v_k:=st
 if (x_.fId==v_p.fId)=true then
 some (.inr (.inr (v_s,0,7)))
 else
 if (decide (x_.fId < v_p.fId))=true then
 let v_k:Int:=(i64.wrap (v_i + 1))
 some (.inl v_k)
 else
 some (.inl v_k)
theorem BL (v_s:aa) (v_p:a8) (a_:Int) (hl:v_s.bh.length≤1000000) : ah (nx v_s v_p) ab (a_,(0))=nB (hH v_s v_p) (fun a_=>(.inl (a_,((v_s.bh.length:Int))))) a_ 0 v_s.bh :=
 eV v_s.bh (S:=Int×Int) (fun a_ k_=>(a_,(k_))) (hH v_s v_p) (fun a_=>(.inl (a_,((v_s.bh.length:Int))))) (an hl) (fun k a x hx=>by
  unfold nx hH; exact bI)
  (fun a=>by unfold nx; exact cE) a_
def gg (v_s:aa) (bA:Int) (st:(List a8)) (x_:a8) : Option (((List a8))⊕(((List a8)×Int))) :=
 let v_l:=st
 if (x_.fId != bA)=true then
 (aX v_l [x_]).bind fun b4=>let v_l:(List a8):=b4
 some (.inl v_l)
 else
 some (.inl v_l)
theorem zP (v_s:aa) (bA:Int) (a_:(List a8)) (hl:v_s.bh.length≤1000000) : ah (lS v_s bA) ab (a_,(0))=bk (gg v_s bA) (fun a_=>(a_,((v_s.bh.length:Int)))) a_ v_s.bh :=
 ay v_s.bh (S:=(List a8)×Int) (fun a_ k_=>(a_,(k_))) (gg v_s bA) (fun a_=>(a_,((v_s.bh.length:Int)))) (an hl) (fun k a x hx=>by
  unfold lS gg; exact bI)
  (fun a=>by unfold lS; exact cE) a_
theorem UA (l:List a8) (k t:Int) (hl:l.length≤1000000) : ∃ r,u4 l k t=some r:=by
 unfold u4
 dsimp only
 rw [C4 l k t _ hl]
 obtain ⟨r,e1,_⟩:=aW (g:=i7 l k t) (fin:=fun b=>(b,(l.length:Int))) (fun _ _=>True) (fun _=>True) l 0 (⟨0,0⟩ : aw) (fun j b x hx _=>by
  unfold i7
  simp only [ek,zb,dN]
  split <;> exact ⟨_,rfl,fun _ _=>trivial,fun _ _=>trivial⟩) (fun _ _=>trivial) trivial
 rw [e1]
 exact ⟨_,rfl⟩
def AtV (l:List a8) (k t:Int) : aw:=(u4 l k t).getD ⟨0,0⟩
theorem Ji (l:List a8) (k t:Int) (hl:l.length≤1000000) : u4 l k t=some (AtV l k t):=by
 obtain ⟨r,e⟩:=UA l k t hl
 unfold AtV
 rw [e]
 rfl
theorem NH (n:Int) : uY n=some (decide (n≥0)&&decide (n≤1073741824)):=by unfold uY; simp only [dN,zb]
def YZ (l:List a8) (v:aw) (p:a8) (t n:Int) : Bool:=(sq l v p t n).getD false
theorem NI (l:List a8) (v:aw) (p:a8) (t n:Int) (hl:l.length≤1000000) : sq l v p t n=some (YZ l v p t n):=by
 have:∃ r,sq l v p t n=some r:=by
  unfold sq
  simp only [Ji l _ _ hl,ek,kC,zb]
  split
  ·exact ⟨_,rfl⟩
  rw [zO l t n p v () hl]
  obtain ⟨r,e1,_⟩:=aW (g:=gf l t n p v) (fin:=fun _=>(.inl (l.length:Int))) (fun _ _=>True) (fun _=>True) l 0 () (fun j b x hx _=>by
   unfold gf
   simp only [Ji l _ _ hl,ek,kC,zb,dN]
   split <;> exact ⟨_,rfl,fun _ _=>trivial,fun _ _=>trivial⟩) (fun _ _=>trivial) trivial
  rw [e1]
  cases r <;> exact ⟨_,rfl⟩
 obtain ⟨r,e⟩:=this
 unfold YZ
 rw [e]
 rfl
theorem K0 (l:List a8) (v:aw) (p:a8) (n:Int) (hl:l.length≤1000000) : ∃ r,vT l v p n=some r:=by
 unfold vT
 simp only [NH,zb,orB]
 split
 ·exact ⟨_,rfl⟩
 have hw:∀ k:Int,-1≤k→k≤1000000000→i64.wrap (k + 1)=k + 1:=fun k h1 h2=>Ht (by omega) (by omega)
 obtain ⟨r,e1,_⟩:=aJ (f:=ot l p n v) (fun st=>-1≤st.2∧st.2≤(l.length:Int)) (fun st=>((l.length:Int) - st.2).toNat) (fun _=>True) (fun st ⟨h1,h2⟩=>by
  unfold ot
  by_cases hlt:st.2 < (l.length:Int)
  ·have hn:((l.length:Int) - (st.2 + 1)).toNat < ((l.length:Int) - st.2).toNat:=by omega
   simp only [hlt,decide_true,if_true,NI l _ _ _ _ hl,dN,orB,zb,hw _ h1 (by omega)]
   by_cases h0:st.2≥0
   ·obtain ⟨x,hx,_⟩:=Mj h0 hlt
    simp only [h0,decide_true,if_true,hx,zb]
    split <;> exact .inl ⟨_,rfl,⟨by show -1≤st.2 + 1; omega,by show st.2 + 1≤_; omega⟩,hn⟩
   ·simp only [h0,decide_false,zf,if_false,zb]
    split <;> exact .inl ⟨_,rfl,⟨by show -1≤st.2 + 1; omega,by show st.2 + 1≤_; omega⟩,hn⟩
  ·simp only [hlt,decide_false,zf,if_false]
   exact .inr ⟨_,rfl,trivial⟩) ab (-1,-1) ⟨by simp,by show (-1:Int)≤_; omega⟩ (by show ((l.length:Int) - (-1)).toNat < ab; unfold ab; omega)
 rw [e1]
 simp only [zb]
 split <;> exact ⟨_,rfl⟩
theorem SzS.plan {B:Nat} {s:aa} (h:SzS B s) {l:List a8} (hl:l.length≤B) : SzS B { s with bh:=l } := ⟨h.conf,h.nodes,h.apps,h.conts,h.slots,hl,h.app⟩
theorem QF {B:Nat} {s:aa} (h:SzS B s) (hB:B + 1≤1000000) (p:a8) (n:Int) : ∃ r,zQ s p n=some r∧SzS (B + 1) r.1∧r.1.ac=s.ac∧r.1.aq=s.aq:=by
 have k1:=h.plans; have k2:=h.nodes.1
 have hm:=h.mono (Nat.le_succ B)
 unfold zQ
 simp only [zb,orB]
 split
 ·exact ⟨_,rfl,hm,rfl,rfl⟩
 rw [BL s p 0 (by omega)]
 obtain ⟨r,e1,e2⟩:=mD (g:=hH s p) (fin:=fun b=>(.inl (b,(s.bh.length:Int)))) (fun j b=>∃ K:Nat,b=(K:Int)∧K≤j) (fun r=>match r with | .inl m=>∃ K:Nat,m.1=(K:Int)∧K≤s.bh.length | .inr m=>m.1=s) s.bh 0 0 (fun j b x hx ⟨K,hK,hj⟩=>by
  have hj2:=(zg.1 hx).1
  unfold hH
  dsimp only
  split
  ·exact ⟨_,rfl,fun a' e=>(by cases e),fun r e=>(by injection e with e; subst e; rfl)⟩
  split
  ·refine ⟨_,rfl,fun a' e=>?_,fun r e=>by cases e⟩
   injection e with e
   subst e
   exact ⟨0 + j + 1,aY (by omega : 0 + j < 1000000) (Nat.le_refl _),Nat.le_refl _⟩
  ·refine ⟨_,rfl,fun a' e=>?_,fun r e=>by cases e⟩
   injection e with e
   subst e
   exact ⟨K,hK,by omega⟩) (fun b ⟨K,hK,hj⟩=>⟨K,hK,by omega⟩) ⟨0,rfl,Nat.le_refl _⟩
 rw [e1]
 simp only [zb]
 cases r with
 | inr m=>exact ⟨_,rfl,by rw [show m.1=s from e2]; exact hm,by rw [show m.1=s from e2],by rw [show m.1=s from e2]⟩
 | inl m =>
  obtain ⟨K,hK,hK2⟩:=e2
  obtain ⟨c,hc⟩:=K0 s.bh (uK s p.aP) p n (by omega)
  simp only [hK,nP s _ (Nat.le_trans k2 (by omega)),hc,zb]
  split
  ·exact ⟨_,rfl,hm,rfl,rfl⟩
  split
  ·exact ⟨_,rfl,hm,rfl,rfl⟩
  split
  ·exact ⟨_,rfl,hm,rfl,rfl⟩
  rw [oa hK2]
  simp only [zb]
  rw [aF (by simp; omega)]
  simp only [zb]
  rw [aF (by simp; omega)]
  simp only [zb]
  rw [kt hK2]
  simp only [zb]
  rw [aF (by simp; omega)]
  exact ⟨_,rfl,hm.plan (by simp; omega),rfl,rfl⟩
theorem NL {B:Nat} {s:aa} (h:SzS B s) (hB:B≤1000000) (id:Int) : ∃ r,uZ s id=some r∧SzS B r.1∧r.1.ac=s.ac∧r.1.aq=s.aq:=by
 have k1:=h.plans
 unfold uZ
 dsimp only
 have e:gg s id=fun acc x=>if (x.fId != id)=true then (aX acc [id' x]).map (fun a=>(.inl a:List a8⊕(List a8×Int))) else some (.inl acc):=by
  funext acc x
  unfold gg
  dsimp only [id']
  split
  ·cases aX acc [x] <;> rfl
  ·rfl
 rw [zP s id [] (by omega),e,cr (fun c:a8=>c.fId != id) id' _ s.bh [] (by simp; omega)]
 simp only [zb,List.nil_append,yF]
 split
 ·exact ⟨_,rfl,h,rfl,rfl⟩
 ·exact ⟨_,rfl,h.plan (Nat.le_trans (List.length_filter_le _ _) k1),rfl,rfl⟩
theorem kD (s:aa) (e:Int) : dE s e=some (s,⟨e,[],[],[],0⟩):=rfl
theorem OkS.node {M:Nat} {s:aa} (h:OkS M s) {l:List aA} (hl:l.length≤s.aj.length + 1) (hs:iM aA.fId l) (hn:∀ n∈l,(0≤n.bB∧n.bB≤1000000000)∧0≤n.bD) : OkS (M + 1) { s with aj:=l } := by
 obtain ⟨⟨B,h1,h2⟩,h3⟩:=h
 have k:=h1.mono (Nat.le_succ B)
 have k1:=h1.nodes
 exact ⟨⟨B + 1,⟨k.conf,⟨by show l.length≤B + 1; omega,hs,k1.2.2.1,hn⟩,k.apps,k.conts,k.slots,k.plans,k.app⟩,by show B + 1 + s.ac.length≤_; omega⟩,h3⟩
theorem OkS.nodeIn {M:Nat} {s:aa} (h:OkS M s) {n:aA} (hi:ln s n.fId=true) (hn:(0≤n.bB∧n.bB≤1000000000)∧0≤n.bD) : OkS M { s with aj:=cU aA.fId s.aj n } := by
 obtain ⟨⟨B,h1,h2⟩,h3⟩:=h
 have k1:=h1.nodes
 unfold ln at hi
 rw [List.any_eq_true] at hi
 obtain ⟨x,hx,hxe⟩:=hi
 have hlen:=qW aA.fId n s.aj k1.2.1 ⟨x,hx,by simpa using hxe⟩
 exact ⟨⟨B,⟨h1.conf,⟨by show (cU _ _ _).length≤B; omega,iQ _ _ _ k1.2.1,k1.2.2.1,fun y hy=>by rcases py hy with rfl | hy; exact hn; exact k1.2.2.2 y hy⟩,h1.apps,h1.conts,h1.slots,h1.plans,h1.app⟩,h2⟩,h3⟩
theorem OkS.small {M:Nat} {s:aa} (h:OkS M s) : s.aj.length≤M∧s.aq.length≤M∧s.ac.length≤M∧s.aU.length≤M∧s.bh.length≤M:=⟨h.sz.nodes.1,h.sz.apps,h.sz.conts,h.sz.slots,h.sz.plans⟩
theorem Mh {s:aa} {id:Int} (h:ln s id=true) : (cd s id).fId=id:=by
 unfold ln at h
 rw [List.any_eq_true] at h
 obtain ⟨x,hx,e⟩:=h
 unfold cd
 cases hf:s.aj.find? fun c=>c.fId==id with
 | none=>have:=List.find?_eq_none.1 hf x hx; exact absurd e (by simpa using this)
 | some a=>simpa using List.find?_some hf
theorem Vi {M:Nat} {s:aa} (h:OkS M s) {id:Int} : (0≤(cd s id).bB∧(cd s id).bB≤1000000000)∧0≤(cd s id).bD:=by
 unfold cd
 cases hf:s.aj.find? fun c=>c.fId==id with
 | none=>exact ⟨⟨Int.le_refl _,by decide⟩,Int.le_refl _⟩
 | some a=>exact h.sz.nodes.2.2.2 a (List.mem_of_find?_eq_some hf)
theorem Vp {M:Nat} {s:aa} (h:OkS M s) (n:aA) : OkS (M + 1) (OB s n).1:=by
 unfold OB
 split
 ·exact h.mono (Nat.le_succ _)
 split
 ·exact h.mono (Nat.le_succ _)
 split
 ·exact h.mono (Nat.le_succ _)
 ·exact h.node (D7 _ _ _) (iQ _ _ _ h.sz.nodes.2.1) (fun y hy=>by rcases py hy with rfl | hy; exact ⟨h.sz.nodes.2.2.1,Int.le_refl _⟩; exact h.sz.nodes.2.2.2 y hy)
theorem Sp {M:Nat} {s:aa} (h:OkS M s) (id b:Int) : OkS M (Cr s id b).1:=by
 unfold Cr
 split
 ·exact h
 split
 ·exact h
 split
 ·exact h
 split
 ·exact h
 split
 ·exact h
 ·rename_i hu _ hb _ _
  have hu:ln s id=true:=by simpa using hu
  exact h.nodeIn (n:={ cd s id with bB:=s.bQ,bD:=b }) (by show ln s (cd s id).fId=true; rw [Mh hu]; exact hu) ⟨h.sz.nodes.2.2.1,by simpa using hb⟩
theorem Yq {M:Nat} {s:aa} (h:OkS M s) (id:Int) : OkS M (Sd s id):=by
 unfold Sd
 split
 ·rename_i hu
  exact h.nodeIn (n:={ cd s id with fUp:=false }) (by show ln s (cd s id).fId=true; rw [Mh hu]; exact hu) (Vi h)
 ·exact h
theorem OkS.fewer {M:Nat} {s:aa} (h:OkS M s) {c:List am} {l:List bu} (hc:c.length≤s.ac.length) (hl:l.length≤s.aU.length) : OkS M { s with ac:=c,aU:=l } := by
 obtain ⟨⟨B,h1,h2⟩,h3⟩:=h
 exact ⟨⟨B,h1.fewer hc hl,by show B + c.length≤M; omega⟩,h3⟩
theorem OkS.put {M:Nat} {s:aa} (h:OkS M s) {a:aC} {k:Nat} (ha:∀ B,SzS B s→SzA (B + k) a) : OkS (M + k + 1) { s with aq:=cU aC.fId s.aq a } := by
 obtain ⟨⟨B,h1,h2⟩,h3⟩:=h
 have k1:=(h1.mono (Nat.le_add_right B k)).put ((ha B h1).mono (Nat.le_succ _))
 exact ⟨⟨B + k + 1,k1,by show B + k + 1 + s.ac.length≤_; omega⟩,iQ _ _ _ h3⟩
theorem OkS.now {M:Nat} {s:aa} (h:OkS M s) {n:Int} (hn : 0≤n∧n≤1000000000) : OkS M { s with bQ:=n } := by
 obtain ⟨⟨B,h1,h2⟩,h3⟩:=h
 exact ⟨⟨B,⟨h1.conf,⟨h1.nodes.1,h1.nodes.2.1,hn,h1.nodes.2.2.2⟩,h1.apps,h1.conts,h1.slots,h1.plans,h1.app⟩,h2⟩,h3⟩
theorem OkS.epoch {M:Nat} {s:aa} (h:OkS M s) (n k:Int) : OkS M { s with pF:=n,rT:=k } := by
 obtain ⟨⟨B,h1,h2⟩,h3⟩:=h
 exact ⟨⟨B,⟨h1.conf,h1.nodes,h1.apps,h1.conts,h1.slots,h1.plans,h1.app⟩,h2⟩,h3⟩
theorem OkS.newConf {M:Nat} {s:aa} (h:OkS M s) {c:ax} (hc:AD c) : OkS M { s with bC:=c } := by
 obtain ⟨⟨B,h1,h2⟩,h3⟩:=h
 exact ⟨⟨B,⟨hc,h1.nodes,h1.apps,h1.conts,h1.slots,h1.plans,h1.app⟩,h2⟩,h3⟩
theorem OkS.plans {M:Nat} {s:aa} (h:OkS M s) {l:List a8} (hl:l.length≤s.bh.length) : OkS M { s with bh:=l } := by
 obtain ⟨⟨B,h1,h2⟩,h3⟩:=h
 exact ⟨⟨B,h1.plan (Nat.le_trans hl h1.plans),h2⟩,h3⟩
theorem OkS.lose {M:Nat} {s:aa} (h:OkS M s) (ids:List Int) (hI:ids.length≤1000000) (hM:M + 1≤1000000) : ∃ r,je s ids=some r∧OkS M r:=by
 obtain ⟨r,h1,h2,h3,_⟩:=Gu h.m h.srt ids hI hM
 exact ⟨r,h1,h2,h3⟩
theorem OkS.r14 {M:Nat} {s:aa} (h:OkS M s) (hM:M + 100≤1000000) (id:Int) : ∃ r,qk s id=some r∧OkS (M + 40) r.1:=by
 obtain ⟨⟨B,h1,h2⟩,h3⟩:=h
 obtain ⟨r,r1,r2,_⟩:=NW h1 h3 (by omega) id
 have r4:=Gi r1
 exact ⟨r,r1,⟨B + 24 + 2,r2.1,by omega⟩,r2.2⟩
theorem TP {M:Nat} {s:aa} (h:OkS M s) (hM:M≤1000000) (text:ByteArray) : ∃ r,tr s text=some r∧OkS M r.1:=by
 obtain ⟨p,p1,p2⟩:=Nn text
 have k1:=h.small
 have kc:=h.sz.conf.sz.labels
 unfold tr
 simp only [p1,zb]
 have hchk:∃ e,(if (p.2==0)=true then Option.bind (uP p.1) fun c3=>some c3 else some p.2)=some e∧(e=0→AD p.1):=by
  split
  ·obtain ⟨c,c1,c2⟩:=Nh p2
   rw [c1]
   exact ⟨c,rfl,fun e=>(c2 e).form⟩
  ·rename_i hne
   exact ⟨_,rfl,fun e=>absurd (by rw [e]; rfl) hne⟩
 obtain ⟨e,e1,e2⟩:=hchk
 rw [e1]
 simp only [zb,kD]
 split
 ·exact ⟨_,rfl,h⟩
 rename_i hz
 have hf:=e2 (by simpa using hz)
 split
 ·exact ⟨_,rfl,h⟩
 rename_i hlab
 have hlab:s.bC.ai.length≤p.1.ai.length:=by have:=of_decide_eq_false (by simpa using hlab:decide ((p.1.ai.length:Int) < (s.bC.ai.length:Int))=false); omega
 rw [wn s p.1 () (by omega)]
 obtain ⟨r,r1,r2⟩:=mD (g:=er s p.1) (fin:=fun _=>(.inl (s.bC.ai.length:Int))) (fun _ _=>True) (fun r=>∀ m,r = .inr m→OkS M m.1) s.bC.ai 0 () (fun j a x hx _=>by
  have hj:=(zg.1 hx).1
  unfold er
  simp only [Nat.zero_add,aE (zq (show j < p.1.ai.length by omega)),zb,kD]
  split
  ·exact ⟨_,rfl,fun a' e=>(by cases e),fun r e m em=>(by injection e with e; subst e; injection em with em; subst em; exact h)⟩
  ·exact ⟨_,rfl,fun a' e=>trivial,fun r e=>(by cases e)⟩) (fun b _ m em=>by cases em) trivial
 rw [r1]
 simp only [zb]
 cases r with
 | inr m=>exact ⟨m,rfl,r2 m rfl⟩
 | inl m =>
  dsimp only
  rw [wm s p.1 () (by omega)]
  obtain ⟨q,q1,q2⟩:=aW (g:=ep s p.1) (fin:=fun _=>(.inl (s.aq.length:Int))) (fun _ _=>True) (fun r=>∀ m,r = .inr m→OkS M m.1) s.aq 0 () (fun j a x hx _=>by
   unfold ep
   simp only [fg,xJ _ _ hf.sz,zb,kD,dN]
   split
   ·exact ⟨_,rfl,fun a' e=>(by cases e),fun r e m em=>(by injection e with e; subst e; injection em with em; subst em; exact h)⟩
   ·exact ⟨_,rfl,fun a' e=>trivial,fun r e=>(by cases e)⟩) (fun b _ m em=>by cases em) trivial
  rw [q1]
  simp only [zb]
  cases q with
  | inr m=>exact ⟨m,rfl,q2 m rfl⟩
  | inl m=>exact ⟨_,rfl,h.newConf hf⟩
theorem VH (s:aa) (n:Int) (hl:s.ac.length≤1000000) : ∃ r,xL s n=some r∧r.length≤s.ac.length:=by
 unfold xL
 dsimp only
 rw [C2 s n [] hl]
 obtain ⟨r,r1,r2⟩:=aW (g:=iZ s n) (fin:=fun b=>(b,(s.ac.length:Int))) (fun k b=>b.length≤k) (fun r=>r.1.length≤s.ac.length) s.ac 0 [] (fun j b x hx hb=>by
  have hj:=(zg.1 hx).1
  unfold iZ
  dsimp only
  split
  ·rw [aF (by simp; omega)]
   exact ⟨_,rfl,fun a' e=>(by injection e with e; subst e; simp; omega),fun r e=>(by cases e)⟩
  ·exact ⟨_,rfl,fun a' e=>(by injection e with e; subst e; omega),fun r e=>(by cases e)⟩) (fun b hb=>(by simpa using hb)) (by simp)
 rw [r1]
 exact ⟨_,rfl,r2⟩
theorem Em (s:aa) (n:Int) (hl:s.ac.length≤1000000) : ∃ r,nT s n=some r:=by
 unfold nT
 dsimp only
 rw [uS s n [] hl]
 obtain ⟨r,r1,r2⟩:=aW (g:=dQ s n) (fin:=fun b=>(b,(s.ac.length:Int))) (fun k b=>b.length≤k) (fun _=>True) s.ac 0 [] (fun j b x hx hb=>by
  have hj:=(zg.1 hx).1
  unfold dQ
  simp only [dN,zb]
  split
  ·rw [aF (by simp; omega)]
   exact ⟨_,rfl,fun a' e=>(by injection e with e; subst e; simp; omega),fun r e=>(by cases e)⟩
  ·exact ⟨_,rfl,fun a' e=>(by injection e with e; subst e; omega),fun r e=>(by cases e)⟩) (fun b hb=>trivial) (by simp)
 rw [r1]
 exact ⟨_,rfl⟩
theorem MZ (ids:List Int) (s:aa) (hl:s.ac.length≤1000000) (hi:ids.length≤1000000) : ∃ r,sn s ids=some r:=by
 unfold sn
 dsimp only
 rw [xM ids s [] hi]
 obtain ⟨r,r1,r2⟩:=aW (g:=eZ ids s) (fin:=fun b=>(b,(ids.length:Int))) (fun k b=>b.length≤k) (fun _=>True) ids 0 [] (fun j b x hx hb=>by
  have hj:=(zg.1 hx).1
  unfold eZ
  simp only [kP s x hl,zb]
  split
  ·rw [aF (by simp; omega)]
   exact ⟨_,rfl,fun a' e=>(by injection e with e; subst e; simp; omega),fun r e=>(by cases e)⟩
  ·exact ⟨_,rfl,fun a' e=>(by injection e with e; subst e; omega),fun r e=>(by cases e)⟩) (fun b hb=>trivial) (by simp)
 rw [r1]
 exact ⟨_,rfl⟩
theorem U1 (s:aa) (l more:List aQ) (hl:l.length≤100000) (hm:more.length≤1000000) : ∃ r,vQ s l more=some r∧r.1.length≤l.length + 8:=by
 unfold vQ
 dsimp only
 rw [xK more s l hm]
 obtain ⟨r,r1,r2⟩:=aW (g:=eY more s) (fin:=fun b=>(.inl (b,(more.length:Int)))) (fun _ b=>b.length≤l.length + 8∧b.length≤100000) (fun r=>(∀ m,r = .inl m→m.1.length≤l.length + 8)∧∀ m,r = .inr m→m.1.length≤l.length + 8) more 0 l (fun j b x hx hb=>by
  unfold eY
  simp only [Na,zb]
  split
  ·exact ⟨_,rfl,fun a' e=>(by cases e),fun r e=>(by injection e with e; subst e; exact ⟨fun m em=>(by cases em),fun m em=>(by injection em with em; subst em; exact Nat.zero_le _)⟩)⟩
  obtain ⟨t,t1,t2⟩:=TZ b x hb.2
  simp only [t1,zb]
  split
  ·exact ⟨_,rfl,fun a' e=>(by cases e),fun r e=>(by injection e with e; subst e; exact ⟨fun m em=>(by cases em),fun m em=>(by injection em with em; subst em; exact Nat.zero_le _)⟩)⟩
  ·exact ⟨_,rfl,fun a' e=>(by injection e with e; subst e; exact ⟨by omega,by omega⟩),fun r e=>(by cases e)⟩) (fun b hb=>⟨fun m em=>(by injection em with em; subst em; exact hb.1),fun m em=>(by cases em)⟩) ⟨by omega,hl⟩
 rw [r1]
 simp only [zb]
 cases r with
 | inr m=>exact ⟨_,rfl,r2.2 _ rfl⟩
 | inl m=>exact ⟨_,rfl,r2.1 m rfl⟩
theorem YG (s:aa) (n:Int) (hl:s.ac.length≤1000000) : ∃ r,uT s n=some r:=by
 unfold uT
 dsimp only
 rw [zD s n () hl]
 obtain ⟨r,r1,r2⟩:=aW (g:=fY s n) (fin:=fun _=>(.inl (s.ac.length:Int))) (fun _ _=>True) (fun _=>True) s.ac 0 () (fun j b x hx hb=>by
  unfold fY
  simp only [dN,zb]
  split
  ·exact ⟨_,rfl,fun a' e=>trivial,fun r e=>trivial⟩
  ·exact ⟨_,rfl,fun a' e=>trivial,fun r e=>trivial⟩) (fun b hb=>trivial) trivial
 rw [r1]
 simp only [zb]
 cases r <;> exact ⟨_,rfl⟩
theorem L5 {M:Nat} {s:aa} (h:OkS M s) (hM:M + 100≤1000000) (x:aL) (hx:x.fQ.length≤1000000) : ∃ r,zF s x=some r∧OkS (M + 40) r.1:=by
 have k1:=h.small
 unfold zF
 simp only [kA s _ (show s.aj.length≤1000000 by omega),zb,dN]
 obtain ⟨o,o1,_⟩:=VH s x.fId (by omega)
 split
 ·rw [o1]
  exact ⟨_,rfl,h.mono (by omega)⟩
 rw [FR s _ _ (by omega)]
 simp only [zb,kD]
 split
 ·exact ⟨_,rfl,h.mono (by omega)⟩
 have hb:=Sp h x.fId x.bD
 generalize (Cr s x.fId x.bD).1=t at hb
 have k2:=hb.small
 rw [zE x t [] hx]
 obtain ⟨r,r1,r2⟩:=aW (g:=fZ x t) (fin:=fun b=>(b,(x.fQ.length:Int))) (fun k b=>b.length≤k) (fun r=>r.1.length≤x.fQ.length) x.fQ 0 [] (fun j b y hy hb=>by
  have hj:=(zg.1 hy).1
  unfold fZ
  simp only [kP t y (show t.ac.length≤1000000 by omega),zb,dN]
  split
  ·rw [aF (by simp; omega)]
   exact ⟨_,rfl,fun a' e=>(by injection e with e; subst e; simp; omega),fun r e=>(by cases e)⟩
  ·exact ⟨_,rfl,fun a' e=>(by injection e with e; subst e; omega),fun r e=>(by cases e)⟩) (fun b hb=>(by simpa using hb)) (by simp)
 rw [r1]
 simp only [zb]
 obtain ⟨a,a1,a2⟩:=hb.lose r.1 (by omega) (by omega)
 obtain ⟨c,c1,c2⟩:=a2.r14 (by omega) x.fId
 have k3:=c2.small
 obtain ⟨o,o1,_⟩:=VH c.1 x.fId (by omega)
 simp only [a1,c1,o1,zb]
 exact ⟨_,rfl,c2⟩
theorem mO {α : Type} (p : α→Bool) (l:List α) : (l.filter p).length≤l.length:=List.length_filter_le _ _
theorem Tc {M:Nat} {s:aa} (h:OkS M s) (hM:M + 100≤100000) (x:aL) (hx:x.fQ.length≤1000000) (ha:x.bL.length≤1000000) : ∃ r,tq s x=some r∧OkS (M + 10) r.1:=by
 have k1:=h.small
 unfold tq
 simp only [dY s _ (show s.aq.length≤1000000 by omega),zb,kD]
 have stay:OkS (M + 10) s:=h.mono (by omega)
 split
 ·exact ⟨_,rfl,stay⟩
 split
 ·exact ⟨_,rfl,stay⟩
 split
 ·exact ⟨_,rfl,stay⟩
 have hA:=h.sz.get x.fId
 obtain ⟨n,hn⟩:=Em s (ch s x.fId).fId (by omega)
 have q1:=hA.told; have q2:=hA.lost; have q3:=hA.asks; have q4:=hA.grants; have q5:=hA.kills
 split
 ·obtain ⟨c,hc⟩:=MZ (ch s x.fId).oE s (by omega) (by omega)
  simp only [hc,hn,zb]
  rw [aF (by simp; omega)]
  exact ⟨_,rfl,stay⟩
 split
 ·exact ⟨_,rfl,stay⟩
 obtain ⟨w,w1,w2⟩:=U1 s (ch s x.fId).bL x.bL (by omega) ha
 simp only [w1,zb]
 split
 ·exact ⟨_,rfl,stay⟩
 rw [wl x (s,ch s x.fId) hx]
 obtain ⟨r,r1,l,g,r2,r3,r4,r5⟩:=aW (g:=eo x) (fin:=fun b=>(b.1,b.2,(x.fQ.length:Int))) (fun _ b=>∃ (l:List am) (g:List Int),b.1 = { s with ac:=l } ∧ l.length≤s.ac.length∧b.2 = { ch s x.fId with ca:=g } ∧ g.length≤(ch s x.fId).ca.length) (fun r=>∃ (l:List am) (g:List Int),r.1 = { s with ac:=l } ∧ l.length≤s.ac.length∧r.2.1 = { ch s x.fId with ca:=g } ∧ g.length≤(ch s x.fId).ca.length) x.fQ 0 (s,ch s x.fId) (fun j b y hy ⟨l,g,b1,b2,b3,b4⟩=>by
  obtain ⟨bs,ba⟩:=b
  dsimp only at b1 b3
  subst b1
  subst b3
  unfold eo
  dsimp only
  rw [kP { s with ac:=l } y (show l.length≤1000000 by omega)]
  simp only [zb,dN]
  split
  ·rw [CN { s with ac:=l } _ (show l.length≤1000000 by omega),ve g _ (by omega)]
   simp only [zb]
   exact ⟨_,rfl,fun a' e=>(by injection e with e; subst e; exact ⟨_,_,rfl,Nat.le_trans (mO _ _) b2,rfl,Nat.le_trans (mO _ _) b4⟩),fun r e=>(by cases e)⟩
  ·exact ⟨_,rfl,fun a' e=>(by injection e with e; subst e; exact ⟨l,g,rfl,b2,rfl,b4⟩),fun r e=>(by cases e)⟩) (fun b hb=>hb) ⟨s.ac,(ch s x.fId).ca,rfl,Nat.le_refl _,rfl,Nat.le_refl _⟩
 rw [r1]
 obtain ⟨rs,ra,ri⟩:=r
 dsimp only at r2 r4
 subst r2
 subst r4
 have ht:OkS M { s with ac:=l } := h.fewer (c:=l) (l:=s.aU) r3 (Nat.le_refl _)
 simp only [zb]
 obtain ⟨c,hc⟩:=MZ g { s with ac:=l } (show l.length≤1000000 by omega) (by omega)
 obtain ⟨n,hn⟩:=Em { s with ac:=l } (ch s x.fId).fId (show l.length≤1000000 by omega)
 simp only [hc,hn,zb]
 rw [aF (by simp; omega)]
 simp only [zb]
 rw [kF { s with ac:=l } _ (by show s.aq.length + 1≤_; omega)]
 refine ⟨_,rfl,OkS.mono (ht.put (k:=8) (fun B hB=>?_)) (by omega)⟩
 have hb:SzA B (ch s x.fId):=hB.get x.fId
 have p1:=hb.asks; have p2:=hb.grants; have p3:=hb.kills
 exact ⟨⟨hb.queue.1,hB.nodes.2.2.1⟩,by show w.1.length≤_; omega,Nat.zero_le _,Nat.zero_le _,by show g.length≤_; omega,by show (ch s x.fId).fp.length≤_; omega⟩
theorem Wq {M:Nat} {s:aa} (h:OkS M s) (hM:M + 100≤100000) (id st:Int) : ∃ r,zC s id st=some r∧OkS (M + 10) r.1:=by
 have k1:=h.small
 unfold zC
 simp only [dY s _ (show s.aq.length≤1000000 by omega),zb,kD,fg]
 split
 ·exact ⟨_,rfl,h.mono (by omega)⟩
 split
 ·exact ⟨_,rfl,h.mono (by omega)⟩
 unfold Ld
 simp only [dY s id (show s.aq.length≤1000000 by omega),zb,fg,orB]
 split
 ·exact ⟨_,rfl,h.mono (by omega)⟩
 ·rw [kF s _ (by omega)]
  simp only [zb]
  rw [CL _ _ (by show s.ac.length≤_; omega) (by show s.aU.length≤_; omega)]
  have ht:=h.put (k:=0) (a:={ ch s id with dr:=st,bL:=[],ca:=[],fp:=[],oE:=[],pE:=[] }) (fun B hB=>⟨(hB.get id).queue,Nat.zero_le _,Nat.zero_le _,Nat.zero_le _,Nat.zero_le _,Nat.zero_le _⟩)
  exact ⟨_,rfl,(ht.fewer (c:=s.ac.filter fun c=>!(c.bF==id)) (l:=s.aU.filter fun c=>c.bF != id) (mO _ _) (mO _ _)).mono (by omega)⟩
theorem O7 (s:aa) (hl:s.aq.length≤1000000) : ∃ l,tv s=some { s with aq:=l } ∧ l.Sublist s.aq:=by
 unfold tv
 dsimp only
 rw [wv s (false,[]) hl]
 obtain ⟨r,h1,h2⟩:=aW (g:=eD s) (fin:=fun b=>(b.1,b.2,(s.aq.length:Int))) (fun k b=>b.2.length≤k∧b.2.Sublist (s.aq.take k)) (fun r=>r.2.1.Sublist s.aq) s.aq 0 (false,[]) (fun j b x hx ⟨hb,hm⟩=>by
  have hj:=(zg.1 hx).1
  have hmono:∀ {l:List aC},l.Sublist (s.aq.take (0 + j))→l.Sublist (s.aq.take (0 + j + 1)):=fun hk=>hk.trans (List.take_sublist_take_left (by omega))
  unfold eD
  simp only [fg,dN,zb]
  split
  ·exact ⟨_,rfl,fun a' e=>(by injection e with e; subst e; exact ⟨by show b.2.length≤_; omega,hmono hm⟩),fun r e=>(by cases e)⟩
  ·rw [aF (by simp; omega)]
   refine ⟨_,rfl,fun a' e=>?_,fun r e=>(by cases e)⟩
   injection e with e
   subst e
   refine ⟨by simp; omega,?_⟩
   show (b.2 ++ [x]).Sublist _
   rw [List.take_add_one,show s.aq[0 + j]? = some x by rw [Nat.zero_add]; exact hx]
   exact hm.append (List.Sublist.refl _)) (fun b ⟨hb,hm⟩=>by simpa using hm) ⟨by simp,by simp⟩
 rw [h1]
 exact ⟨_,rfl,h2⟩
theorem OkS.apps {M:Nat} {s:aa} (h:OkS M s) {l:List aC} (hl:l.Sublist s.aq) : OkS M { s with aq:=l } := by
 obtain ⟨⟨B,h1,h2⟩,h3⟩:=h
 exact ⟨⟨B,⟨h1.conf,h1.nodes,Nat.le_trans hl.length_le h1.apps,h1.conts,h1.slots,h1.plans,fun x hx=>h1.app x (hl.subset hx)⟩,h2⟩,List.Pairwise.sublist hl h3⟩
theorem SG {M:Nat} {s:aa} (h:OkS M s) (hM:M + 100≤100000) (a:aC) (hq:a.bP.size≤1000000) : ∃ r,tz s a=some r∧OkS (M + 10) r.1:=by
 have k1:=h.small
 have stay:OkS (M + 10) s:=h.mono (by omega)
 unfold tz
 simp only [N3,orB,zb,dY s _ (show s.aq.length≤1000000 by omega),xJ _ _ h.sz.conf.sz]
 split
 ·exact ⟨_,rfl,stay⟩
 split
 ·exact ⟨_,rfl,stay⟩
 rw [ww s 0 (by omega)]
 obtain ⟨r,hr,_⟩:=aW (g:=eE s) (fin:=fun b=>(b,(s.aq.length:Int))) (fun _ _=>True) (fun _=>True) s.aq 0 0 (fun j b x hx _=>by
  unfold eE
  simp only [fg,zb,sJ]
  exact ⟨_,rfl,fun _ _=>trivial,fun _ _=>trivial⟩) (fun _ _=>trivial) trivial
 rw [hr]
 simp only [zb]
 split
 ·exact ⟨_,rfl,stay⟩
 split
 ·exact ⟨_,rfl,stay⟩
 obtain ⟨l,hl,hl1⟩:=O7 s (by omega)
 have fin:∀ t:aa,OkS M t→∃ r,Option.bind (pj a) (fun c17=>Option.bind (eI t ⟨a.fId,1,a.bP,a.cZ,a.bw,a.bG,c17,t.bQ,0,[],[],[],[]⟩) fun c18=>some (c18,(0:Int)))=some r∧OkS (M + 10) r.1:=by
  intro t ht
  have h5:=ht.small
  rw [Al]
  simp only [zb]
  rw [kF t _ (by omega)]
  exact ⟨_,rfl,(ht.put (k:=1) (a:=⟨a.fId,1,a.bP,a.cZ,a.bw,a.bG,[⟨0,0,a.bG,1,-1,-1,0⟩],t.bQ,0,[],[],[],[]⟩) fun B hB=>⟨⟨hq,hB.nodes.2.2.1⟩,by simp,Nat.zero_le _,Nat.zero_le _,Nat.zero_le _,Nat.zero_le _⟩).mono (by omega)⟩
 split
 ·rw [hl]
  simp only [zb]
  exact fin { s with aq:=l } (h.apps hl1)
 ·exact fin s h
theorem OkS.noSlot {M:Nat} {s:aa} (h:OkS M s) (hM:M≤1000000) (n:Int) : ∃ r,fv s n=some r∧OkS M r:=by
 have k1:=h.small
 exact ⟨_,wQ s n (by omega),h.fewer (c:=s.ac) (Nat.le_refl _) (mO _ _)⟩
theorem XD {M:Nat} {s:aa} (h:OkS M s) (hM:M + 100≤100000) (n:Int) : ∃ r,zB s n=some r∧OkS (M + 10) r.1:=by
 have k1:=h.small
 have stay:OkS (M + 10) s:=h.mono (by omega)
 unfold zB
 simp only [orB,zb,kD]
 split
 ·exact ⟨_,rfl,stay⟩
 split
 ·exact ⟨_,rfl,stay⟩
 rename_i hq1 hq2
 have hq1 : 1≤n∧n≤100:=by
  have h9:(decide (n < 1)||decide (n > 100))=false:=by simpa using hq1
  simp at h9
  omega
 have hnow:=h.sz.nodes.2.2.1
 have hq2:i64.wrap (s.bQ + n)=s.bQ + n∧s.bQ + n≤1000000000:=by
  have e:i64.wrap (s.bQ + n)=s.bQ + n:=by rw [IntKind.wrap_i64]; omega
  have h9 : ¬ (i64.wrap (s.bQ + n) > 1000000000):=fun h=>hq2 (by simpa using h)
  exact ⟨e,by omega⟩
 have h1:=h.now (n:=i64.wrap (s.bQ + n)) (by rw [hq2.1]; omega)
 have hconts:({ s with bQ:=i64.wrap (s.bQ + n) } : aa).ac.length≤M:=h1.small.2.2.1
 generalize ({ s with bQ:=i64.wrap (s.bQ + n) } : aa)=t at h1
 have k2:=h1.small
 rw [za t (by omega)]
 simp only [zb]
 have hl:((t.aj.filter fun b=>b.fUp&&decide (i64.wrap (t.bQ - b.bB)≥10)).map aA.fId).length≤1000000:=by
  rw [List.length_map]
  exact Nat.le_trans (mO _ _) (by omega)
 generalize ((t.aj.filter fun b=>b.fUp&&decide (i64.wrap (t.bQ - b.bB)≥10)).map aA.fId)=l at hl
 rw [zA l t hl]
 obtain ⟨r,r1,r2⟩:=aW (g:=fX l) (fin:=fun b=>(b,(l.length:Int))) (fun _ b=>OkS M b) (fun r=>OkS M r.1) l 0 t (fun j b y hy hb=>by
  have k3:=hb.small
  unfold fX
  dsimp only
  rw [PG b y (by omega)]
  simp only [zb]
  obtain ⟨c,c1,c2⟩:=(Yq hb y).noSlot (by omega) y
  have k4:=c2.small
  obtain ⟨o,o1,o2⟩:=VH c y (by omega)
  obtain ⟨z,z1,z2⟩:=c2.lose o (by omega) (by omega)
  simp only [c1,o1,z1,zb]
  exact ⟨_,rfl,fun a' e=>(by injection e with e; subst e; exact z2),fun r e=>(by cases e)⟩) (fun b hb=>hb) h1
 rw [r1]
 simp only [zb]
 have k5:=r2.small
 rw [Hl r.1 (by omega)]
 simp only [zb]
 have hl2:((r.1.aq.filter fun b=>b.dr==2&&decide (i64.wrap (r.1.bQ - b.bB)≥15)).map aC.fId).length≤1000000:=by
  rw [List.length_map]
  exact Nat.le_trans (mO _ _) (by omega)
 generalize ((r.1.aq.filter fun b=>b.dr==2&&decide (i64.wrap (r.1.bQ - b.bB)≥15)).map aC.fId)=l2 at hl2
 rw [zy l2 r.1 hl2]
 obtain ⟨q,q1,q2⟩:=aW (g:=fW l2) (fin:=fun b=>(b,(l2.length:Int))) (fun _ b=>OkS M b) (fun r=>OkS M r.1) l2 0 r.1 (fun j b y hy hb=>by
  have k3:=hb.small
  unfold fW
  dsimp only
  obtain ⟨c,c1⟩:=YG b y (by omega)
  obtain ⟨z,z1,z2⟩:=hb.lose [c] (by simp) (by omega)
  simp only [c1,z1,zb]
  exact ⟨_,rfl,fun a' e=>(by injection e with e; subst e; exact z2),fun r e=>(by cases e)⟩) (fun b hb=>hb) r2
 rw [q1]
 simp only [zb]
 have k6:=q2.small
 rw [zx q.1 [] (by omega)]
 obtain ⟨p,p1,p2⟩:=aW (g:=fV q.1) (fin:=fun b=>(b,(q.1.bh.length:Int))) (fun k b=>b.length≤k) (fun r=>r.1.length≤q.1.bh.length) q.1.bh 0 [] (fun j b y hy hb=>by
  have hj:=(zg.1 hy).1
  unfold fV
  dsimp only
  split
  ·rw [aF (by simp; omega)]
   exact ⟨_,rfl,fun a' e=>(by injection e with e; subst e; simp; omega),fun r e=>(by cases e)⟩
  ·exact ⟨_,rfl,fun a' e=>(by injection e with e; subst e; omega),fun r e=>(by cases e)⟩) (fun b hb=>(by simpa using hb)) (by simp)
 rw [p1]
 simp only [zb]
 obtain ⟨z,z1,z2,z3⟩:=KX (q2.plans p2) (by omega)
 have k7:=z2.small
 simp only [z1,zb]
 rw [CB s z.1 (by omega) (by omega)]
 exact ⟨_,rfl,z2.mono (by omega)⟩
theorem ZN {M:Nat} {s:aa} (h:OkS M s) (hM:M + 100≤100000) (p:a8) (n:Int) : ∃ r,zQ s p n=some r∧OkS (M + 10) r.1:=by
 obtain ⟨⟨B,h1,h2⟩,h3⟩:=h
 obtain ⟨r,r1,r2,r3,r4⟩:=QF h1 (by omega) p n
 exact ⟨r,r1,⟨B + 1,r2,by rw [r3]; omega⟩,by rw [r4]; exact h3⟩
theorem Yp {M:Nat} {s:aa} (h:OkS M s) (hM:M + 100≤100000) (id:Int) : ∃ r,uZ s id=some r∧OkS (M + 10) r.1:=by
 obtain ⟨⟨B,h1,h2⟩,h3⟩:=h
 obtain ⟨r,r1,r2,r3,r4⟩:=NL h1 (by omega) id
 exact ⟨r,r1,⟨B,r2,by rw [r3]; omega⟩,by rw [r4]; exact h3⟩
structure InP (x:aL) : Prop where
 ids:x.fQ.length≤1000000
 asks:x.bL.length≤1000000
 queue:x.bF.bP.size≤1000000
theorem n9 {α : Type} {c:Prop} [Decidable c] {a b:Option α} {Q : α→Prop} (h1:∃ r,a=some r∧Q r) (h2:∃ r,b=some r∧Q r) : ∃ r,(if c then a else b)=some r∧Q r:=by
 by_cases h:c
 ·rw [if_pos h]; exact h1
 ·rw [if_neg h]; exact h2
theorem Sr {M:Nat} {s:aa} (h:OkS M s) (hM:M + 100≤100000) {x:aL} (hx:InP x) : ∃ r,so s x=some r∧OkS (M + 40) r.1:=by
 have k1:=h.small
 have up:∀ {o:Option (aa×bt)},(∃ r,o=some r∧OkS (M + 10) r.1)→∃ r,(Option.bind o fun c=>some c)=some r∧OkS (M + 40) r.1:=fun ⟨r,e,hr⟩=>by
  rw [e]
  exact ⟨r,rfl,hr.mono (by omega)⟩
 unfold so
 refine n9 ?_ ?_
 ·obtain ⟨r,r1,r2⟩:=TP h (by omega) x.My
  exact up ⟨r,r1,r2.mono (by omega)⟩
 refine n9 ?_ ?_
 ·rw [uM s _ (by omega)]
  exact ⟨_,rfl,(Vp h x.bH).mono (by omega)⟩
 refine n9 ?_ ?_
 ·obtain ⟨r,r1,r2⟩:=L5 h (by omega) x hx.ids
  rw [r1]
  exact ⟨_,rfl,r2⟩
 refine n9 ?_ ?_
 ·obtain ⟨r,r1,r2⟩:=SG h hM x.bF hx.queue
  rw [r1]
  exact ⟨_,rfl,r2.mono (by omega)⟩
 refine n9 ?_ ?_
 ·exact up (Tc h hM x hx.ids hx.asks)
 refine n9 ?_ ?_
 ·exact up (Wq h hM x.fId 3)
 refine n9 ?_ ?_
 ·exact up (Wq h hM x.fId 4)
 refine n9 ?_ ?_
 ·exact up (XD h hM x.fN)
 refine n9 ?_ ?_
 ·obtain ⟨r,r1,r2⟩:=ZN h hM x.pD x.fN
  rw [r1]
  exact ⟨_,rfl,r2.mono (by omega)⟩
 refine n9 ?_ ?_
 ·obtain ⟨r,r1,r2⟩:=Yp h hM x.fId
  rw [r1]
  exact ⟨_,rfl,r2.mono (by omega)⟩
 refine n9 ?_ ?_
 ·refine n9 ?_ ?_
  ·exact ⟨_,rfl,h.mono (by omega)⟩
  ·exact ⟨_,rfl,(h.epoch (i64.wrap (s.pF + 1)) 0).mono (by omega)⟩
 ·exact ⟨_,rfl,h.mono (by omega)⟩
def Eo:aa:=⟨⟨[⟨#[]⟩],[⟨⟨#[114,111,111,116]⟩,[⟨10000,10000⟩],10000⟩]⟩,[],[],[],[],[],0,0,0⟩
theorem Qk:KP=some Eo:=rfl
theorem XJ:zi ⟨#[114,111,111,116]⟩=some [⟨#[114,111,111,116]⟩]:=by kernel_rfl
theorem RF:OkS 1 Eo:=by
 refine ⟨⟨0,⟨⟨⟨by decide,by decide,?_,?_⟩,?_,?_,⟨by decide,?_⟩,by decide,?_,?_⟩,⟨by decide,List.Pairwise.nil,by decide,fun n hn=>by cases hn⟩,by decide,by decide,by decide,by decide,?_⟩,by decide⟩,List.Pairwise.nil⟩
 ·intro q hq; simp only [Eo,List.mem_singleton] at hq; subst hq; decide
 ·intro q hq; simp only [Eo,List.mem_singleton] at hq; subst hq; decide
 ·intro q hq; simp only [Eo,List.mem_singleton] at hq; subst hq; rfl
 ·intro q hq r hr x hx
  simp only [Eo,List.mem_singleton] at hq
  subst hq
  rw [XJ] at hr
  injection hr with hr
  subst hr
  simp only [List.mem_singleton] at hx
  subst hx
  exact Du (c:=Eo.bC) (q:=⟨⟨#[114,111,111,116]⟩,[⟨10000,10000⟩],10000⟩) (by simp [Eo])
 ·intro q hq; simp only [Eo,List.mem_singleton] at hq; subst hq; show du 6 _≤4; rw [show du 6 ⟨#[114,111,111,116]⟩=1 by kernel_rfl]; decide
 ·exact ⟨⟨⟨#[114,111,111,116]⟩,[⟨10000,10000⟩],10000⟩,by simp [Eo],by kernel_rfl⟩
 ·intro x hx; simp only [Eo,List.mem_singleton] at hx; subst hx; decide
 ·intro a ha; cases ha
def fh (v_c:ax) (st:(List ByteArray)) (x_:aB) : Option (((List ByteArray))⊕(((List ByteArray)×Int))) :=
 let v_l:=st
 (jV v_c x_.aI).bind fun c5=>if c5=true then
 (aX v_l [x_.aI]).bind fun b6=>let v_l:(List ByteArray):=b6
 some (.inl v_l)
 else
 some (.inl v_l)
theorem yc (v_c:ax) (a_:(List ByteArray)) (hl:v_c.ae.length≤1000000) : ah (ki v_c) ab (a_,(0))=bk (fh v_c) (fun a_=>(a_,((v_c.ae.length:Int)))) a_ v_c.ae :=
 ay v_c.ae (S:=(List ByteArray)×Int) (fun a_ k_=>(a_,(k_))) (fh v_c) (fun a_=>(a_,((v_c.ae.length:Int)))) (an hl) (fun k a x hx=>by
  unfold ki fh; exact bI)
  (fun a=>by unfold ki; exact cE) a_
def df (v_s:aa) (v_p:aC) (v_a:aR) (st:aL) (v_i:Int) (x_:am) : Option ((aL)⊕((aL×Int))) :=
 let v_x:=st
 (if (x_.bF==v_p.fId)=true then (bj (i64.wrap (v_a.fD + v_i)) 11).bind fun c23=>some (c23==10) else some false).bind fun q24=>if q24=true then
 (aX v_x.fQ [x_.fId]).bind fun b25=>let v_x:aL:={ v_x with fQ:=b25 }
 some (.inl v_x)
 else
 some (.inl v_x)
theorem tC (v_s:aa) (v_p:aC) (v_a:aR) (a_:aL) (hl:v_s.ac.length≤1000000) : ah (fG v_s v_p v_a) ab (a_,(0))=nB (df v_s v_p v_a) (fun a_=>(a_,((v_s.ac.length:Int)))) a_ 0 v_s.ac :=
 eV v_s.ac (S:=aL×Int) (fun a_ k_=>(a_,(k_))) (df v_s v_p v_a) (fun a_=>(a_,((v_s.ac.length:Int)))) (an hl) (fun k a x hx=>by
  unfold fG df; exact bI)
  (fun a=>by unfold fG; exact cE) a_
def dz (v_s:aa) (v_a:aR) (bA:Int) (st:aL) (x_:aA) : Option ((aL)⊕((aL×Int))) :=
 let v_x:=st
 if (x_.fId==bA)=true then
 (bj v_a.fB 8).bind fun c17=>let v_x:aL:={ v_x with bD:=(i64.wrap ((i64.wrap (x_.bD + 1)) - (i64.wrap (Int.tdiv c17 6)))) }
 some (.inl v_x)
 else
 some (.inl v_x)
theorem tU (v_s:aa) (v_a:aR) (bA:Int) (a_:aL) (hl:v_s.aj.length≤1000000) : ah (gN v_s v_a bA) ab (a_,(0))=bk (dz v_s v_a bA) (fun a_=>(a_,((v_s.aj.length:Int)))) a_ v_s.aj :=
 ay v_s.aj (S:=aL×Int) (fun a_ k_=>(a_,(k_))) (dz v_s v_a bA) (fun a_=>(a_,((v_s.aj.length:Int)))) (an hl) (fun k a x hx=>by
  unfold gN dz; exact bI)
  (fun a=>by unfold gN; exact cE) a_
def dy (v_s:aa) (bA:Int) (v_a:aR) (st:aL) (aK:Int) (x_:am) : Option ((aL)⊕((aL×Int))) :=
 let v_x:=st
 (if (x_.bH==bA)=true then (bj (i64.wrap (v_a.fC + aK)) 9).bind fun c23=>some (c23==8) else some false).bind fun q24=>if q24=true then
 (aX v_x.fQ [x_.fId]).bind fun b25=>let v_x:aL:={ v_x with fQ:=b25 }
 some (.inl v_x)
 else
 some (.inl v_x)
theorem tT (v_s:aa) (bA:Int) (v_a:aR) (a_:aL) (hl:v_s.ac.length≤1000000) : ah (gM v_s bA v_a) ab (a_,(0))=nB (dy v_s bA v_a) (fun a_=>(a_,((v_s.ac.length:Int)))) a_ 0 v_s.ac :=
 eV v_s.ac (S:=aL×Int) (fun a_ k_=>(a_,(k_))) (dy v_s bA v_a) (fun a_=>(a_,((v_s.ac.length:Int)))) (an hl) (fun k a x hx=>by
  unfold gM dy; exact bI)
  (fun a=>by unfold gM; exact cE) a_
def cS (v_x:az) (st:aa) (x_:aR) : Option ((aa)⊕((aa×Int))) :=
 let v_s:=st
 (gO x_ v_s).bind fun c9=>(so v_s c9).bind fun c10=>let v_s:aa:=c10.1
 some (.inl v_s)
theorem rt (v_x:az) (a_:aa) (hl:v_x.jI.length≤1000000) : ah (eJ v_x) ab (a_,(0))=bk (cS v_x) (fun a_=>(a_,((v_x.jI.length:Int)))) a_ v_x.jI :=
 ay v_x.jI (S:=aa×Int) (fun a_ k_=>(a_,(k_))) (cS v_x) (fun a_=>(a_,((v_x.jI.length:Int)))) (an hl) (fun k a x hx=>by
  unfold eJ cS; exact bI)
  (fun a=>by unfold eJ; exact cE) a_
theorem aZ (a:Int) {n:Int} (h0 : 0 < n) (h1:n≤1000000000) : Ok (bj a n) (fun k=>0≤k∧k < n):=by
 unfold bj CS
 rw [if_neg (by omega)]
 have h:=Di (a:=a) h0
 simp only [zb]
 refine Ok.bind (P:=fun k=>0≤k∧k < n) (Ok.ite (fun hc=>?_) fun hc=>?_) fun r hr=>Ok.pure hr
 ·have:=zd hc
  refine Ok.pure ?_
  rw [IntKind.wrap_i64]; omega
 ·have:=of_decide_eq_false (by simpa using hc:decide (a.tmod n < 0)=false)
  exact Ok.pure (by omega)
theorem yb (n:Int) : Ok (vZ n) (fun _=>True):=by
 unfold vZ
 exact Ok.bind (aZ _ (by omega) (by omega)) fun k hk=>Ok.bind (jm hk.1 hk.2) fun b _=>Ok.pure trivial
theorem Lh {c:ax} (h:AD c) : Ok (v6 c) (fun l=>0 < l.length∧l.length≤1000∧∀ x∈l,x.size≤1000000):=by
 have hq:=h.sz.queues
 unfold v6
 dsimp only
 have e:fh c=fun acc x=>if Cf c x.aI=true then (aX acc [x.aI]).map (fun a=>(.inl a:List ByteArray⊕(List ByteArray×Int))) else some (.inl acc):=by
  funext acc x
  unfold fh
  simp only [xJ _ _ h.sz,zb]
  split
  ·cases aX acc [x.aI] <;> rfl
  ·rfl
 rw [yc c [] (by omega),e,cr (fun q:aB=>Cf c q.aI) aB.aI _ c.ae [] (by simp; omega)]
 simp only [zb,List.nil_append]
 refine Ok.pure ⟨?_,?_,fun x hx=>?_⟩
 ·obtain ⟨q,hq,hl⟩:=h.leaf
  rw [List.length_map]
  exact List.length_pos_of_mem (List.mem_filter.2 ⟨hq,hl⟩)
 ·rw [List.length_map]
  exact Nat.le_trans (List.length_filter_le _ _) hq
 ·obtain ⟨q,hq,rfl⟩:=List.mem_map.1 hx
  exact h.sz.paths q (List.mem_filter.1 hq).1
theorem Lg {M:Nat} {s:aa} (h:OkS M s) (hM:M≤100000) (a:aR) : Ok (nz a s) InP:=by
 have k1:=h.small
 have hlab:=h.sz.conf.lab1
 have hlab2:=h.sz.conf.sz.labels
 unfold nz
 dsimp only
 refine Ok.ite (fun _=>Ok.pure ⟨by simp,by simp,by decide⟩) fun hc=>?_
 have hn:(s.aq.length:Int)≠0:=fun e=>hc (by rw [e]; rfl)
 refine Ok.bind (aZ _ (by omega) (by omega)) fun w hw=>Ok.bind (jm hw.1 hw.2) fun p _=>Ok.bind (aZ _ (by omega) (by omega)) fun u _=>?_
 refine Ok.bind (P:=fun x:aL=>x.fQ = []∧x.bL.length≤1∧x.bF.bP.size=0) (Ok.ite (fun _=>?_) fun _=>Ok.pure ⟨rfl,by simp,rfl⟩) fun x ⟨x1,x2,x3⟩=>?_
 ·refine Ok.bind (aZ _ (by omega) (by omega)) fun c7 _=>Ok.bind (aZ _ (by omega) (by omega)) fun c8 _=>Ok.bind (yb _) fun c9 _=>Ok.bind (aZ _ (by omega) (by omega)) fun c10 _=>?_
  refine Ok.bind (P:=fun j:aQ×aL=>j.2.fQ = []∧j.2.bF.bP.size=0) (Ok.ite (fun _=>Ok.bind (aZ _ (by omega) (by omega)) fun _ _=>Ok.pure ⟨rfl,rfl⟩) fun _=>Ok.pure ⟨rfl,rfl⟩) fun j1 ⟨j2,j3⟩=>?_
  refine Ok.bind (P:=fun j:aQ×aL=>j.2.fQ = []∧j.2.bF.bP.size=0) (Ok.ite (fun _=>Ok.bind (aZ _ (by omega) (by omega)) fun _ _=>Ok.bind (aZ _ (by omega) (by omega)) fun _ _=>Ok.pure ⟨j2,j3⟩) fun _=>Ok.pure ⟨j2,j3⟩) fun j4 ⟨j5,j6⟩=>Ok.pure ⟨j5,by simp,j6⟩
 ·rw [tC s p a x (by omega)]
  refine Ok.bind (ub (g:=df s p a) (fin:=fun a_=>(a_,((s.ac.length:Int)))) (fun k b=>b.fQ.length≤k∧b.bL.length≤1∧b.bF.bP.size=0) s.ac x (fun j b y hy ⟨b1,b2,b3⟩=>?_) ⟨by rw [x1]; simp,x2,x3⟩) fun r ⟨q,e,q1,q2,q3⟩=>?_
  ·have hj:=(zg.1 hy).1
   unfold df
   dsimp only
   refine Ok.bind (P:=fun _=>True) (Ok.ite (fun _=>Ok.bind (aZ _ (by omega) (by omega)) fun _ _=>Ok.pure trivial) fun _=>Ok.pure trivial) fun t _=>Ok.ite (fun _=>?_) fun _=>Ok.pure ⟨_,rfl,by omega,b2,b3⟩
   rw [aF (by simp; omega)]
   exact Ok.pure ⟨_,rfl,by simp; omega,b2,b3⟩
  ·subst e
   exact Ok.pure ⟨by dsimp only; omega,by dsimp only; omega,by dsimp only; omega⟩
theorem N8 {M:Nat} {s:aa} (h:OkS M s) (hM:M≤100000) (a:aR) : Ok (gO a s) InP:=by
 have k1:=h.small
 have hlab:=h.sz.conf.lab1
 have hlab2:=h.sz.conf.sz.labels
 have orOk:∀ {c:Prop} [Decidable c] {d:Bool},Ok (if c then some true else some d) (fun _=>True):=fun {c} _ {d} => Ok.ite (fun _=>Ok.pure trivial) fun _=>Ok.pure trivial
 have hx0:∀ k id b n t nd ap pl,ap.bP.size≤1000000→InP (⟨k,id,b,n,t,nd,ap,[],[],pl⟩ : aL):=fun k id b n t nd ap pl hq=>⟨by simp,by simp,hq⟩
 unfold gO
 dsimp only
 refine Ok.bind (aZ _ (by omega) (by omega)) fun c1 _=>Ok.bind (Lh h.sz.conf) fun lv ⟨l1,l2,l3⟩=>Ok.bind (aZ _ (by omega) (by omega)) fun c5 _=>Ok.bind (aZ _ (by omega) (by omega)) fun c6 _=>Ok.bind orOk fun q7 _=>?_
 refine Ok.bind (P:=InP) (Ok.ite (fun _=>?_) fun _=>?_) fun r hr=>Ok.pure hr
 ·exact Ok.bind (aZ _ (by omega) (by omega)) fun _ _=>Ok.bind (aZ _ (by omega) (by omega)) fun _ _=>Ok.bind (aZ _ (by omega) (by omega)) fun _ _=>Ok.bind (aZ _ (by omega) (by omega)) fun _ _=>Ok.pure (hx0 _ _ _ _ _ _ _ _ (by decide))
 refine Ok.bind (P:=fun _=>True) (Ok.ite (fun _=>Ok.pure trivial) fun _=>Ok.ite (fun _=>Ok.pure trivial) fun _=>orOk) fun q13 _=>Ok.ite (fun _=>?_) fun _=>?_
 ·rw [tU s a c1 _ (by omega)]
  refine Ok.bind (D1 (g:=dz s a c1) (fin:=fun a_=>(a_,((s.aj.length:Int)))) (fun k b=>b.fQ = []∧b.bL = []∧b.bF.bP.size=0) s.aj _ (fun j b y hy ⟨b1,b2,b3⟩=>?_) ⟨rfl,rfl,rfl⟩) fun r ⟨q,e,q1,q2,q3⟩=>?_
  ·unfold dz
   dsimp only
   exact Ok.ite (fun _=>Ok.bind (aZ _ (by omega) (by omega)) fun _ _=>Ok.pure ⟨_,rfl,b1,b2,b3⟩) fun _=>Ok.pure ⟨_,rfl,b1,b2,b3⟩
  subst e
  dsimp only
  rw [tT s c1 a q (by omega)]
  refine Ok.bind (ub (g:=dy s c1 a) (fin:=fun a_=>(a_,((s.ac.length:Int)))) (fun k b=>b.fQ.length≤k∧b.bL = []∧b.bF.bP.size=0) s.ac q (fun j b y hy ⟨b1,b2,b3⟩=>?_) ⟨by rw [q1]; simp,q2,q3⟩) fun r ⟨q,e,q1,q2,q3⟩=>?_
  ·have hj:=(zg.1 hy).1
   unfold dy
   dsimp only
   refine Ok.bind (P:=fun _=>True) (Ok.ite (fun _=>Ok.bind (aZ _ (by omega) (by omega)) fun _ _=>Ok.pure trivial) fun _=>Ok.pure trivial) fun t _=>Ok.ite (fun _=>?_) fun _=>Ok.pure ⟨_,rfl,by omega,b2,b3⟩
   rw [aF (by simp; omega)]
   exact Ok.pure ⟨_,rfl,by simp; omega,b2,b3⟩
  ·subst e
   exact Ok.pure ⟨by dsimp only; omega,by dsimp only; rw [q2]; simp,by dsimp only; omega⟩
 refine Ok.bind orOk fun q24 _=>Ok.ite (fun _=>?_) fun _=>?_
 ·exact Ok.bind (aZ _ (by omega) (by omega)) fun _ _=>Ok.bind (aZ _ (by omega) (by omega)) fun w hw=>Ok.bind (jm hw.1 hw.2) fun b hb=>Ok.bind (aZ _ (by omega) (by omega)) fun _ _=>Ok.bind (aZ _ (by omega) (by omega)) fun _ _=>Ok.bind (yb _) fun _ _=>Ok.pure (hx0 _ _ _ _ _ _ _ _ (l3 b hb))
 refine Ok.bind (P:=fun _=>True) (Ok.ite (fun _=>Ok.pure trivial) fun _=>orOk) fun q31 _=>Ok.ite (fun _=>?_) fun _=>?_
 ·exact Ok.bind (Lg h hM a) fun x hx=>Ok.pure hx
 refine Ok.ite (fun _=>?_) fun _=>?_
 ·exact Ok.bind (aZ _ (by omega) (by omega)) fun w hw=>Ok.bind (jm hw.1 hw.2) fun _ _=>Ok.bind (aZ _ (by omega) (by omega)) fun _ _=>Ok.pure (hx0 _ _ _ _ _ _ _ _ (by decide))
 refine Ok.bind orOk fun q36 _=>Ok.ite (fun _=>?_) fun _=>?_
 ·exact Ok.bind (aZ _ (by omega) (by omega)) fun _ _=>Ok.pure (hx0 _ _ _ _ _ _ _ _ (by decide))
 refine Ok.ite (fun _=>?_) fun _=>?_
 ·exact Ok.bind (aZ _ (by omega) (by omega)) fun w hw=>Ok.bind (jm hw.1 hw.2) fun _ _=>Ok.bind (aZ _ (by omega) (by omega)) fun _ _=>Ok.bind (aZ _ (by omega) (by omega)) fun _ _=>Ok.bind (yb _) fun _ _=>Ok.bind (aZ _ (by omega) (by omega)) fun _ _=>Ok.pure (hx0 _ _ _ _ _ _ _ _ (by decide))
 refine Ok.ite (fun _=>?_) fun _=>?_
 ·refine Ok.bind (aZ _ (by omega) (by omega)) fun w hw=>Ok.bind (jm hw.1 hw.2) fun _ _=>Ok.bind (GS _ _) fun c hc=>?_
  obtain ⟨t,ht⟩:=F3 hc
  exact Ok.bind (P:=fun _=>True) ⟨t,ht,trivial⟩ fun _ _=>Ok.pure (hx0 _ _ _ _ _ _ _ _ (by decide))
 ·exact Ok.pure (hx0 _ _ _ _ _ _ _ _ (by decide))
theorem FL (x:az) (hx:x.jI.length≤80) : Ok (cO x) (OkS 10000):=by
 unfold cO
 rw [Qk]
 simp only [zb]
 refine Ok.bind (GS _ _) fun c hc=>?_
 obtain ⟨t,ht⟩:=F3 hc
 refine Ok.bind (P:=fun _=>True) ⟨t,ht,trivial⟩ fun t _=>Ok.bind (P:=fun r:aa×bt=>OkS 41 r.1) (Sr (M:=1) (x:=⟨1,0,0,0,t,aA.zero,aC.zero,[],[],a8.zero⟩) RF (by omega) ⟨by simp,by simp,Nat.zero_le _⟩) fun r hr=>?_
 refine Ok.bind (P:=OkS 41) (Ok.ite (fun _=>Ok.pure hr) fun _=>Ok.pure (RF.mono (by omega))) fun s hs=>?_
 rw [rt x s (by omega)]
 refine Ok.bind (D1 (g:=cS x) (fin:=fun a_=>(a_,((x.jI.length:Int)))) (fun k b=>OkS (41 + 40 * k) b) x.jI s (fun j b y hy hb=>?_) hs) fun r ⟨q,e,hq⟩=>?_
 ·have hj:=(zg.1 hy).1
  unfold cS
  dsimp only
  exact Ok.bind (N8 hb (by omega) y) fun i hi=>Ok.bind (Sr hb (by omega) hi) fun r hr=>Ok.pure ⟨_,rfl,hr.mono (by omega)⟩
 ·subst e
  exact Ok.pure (hq.mono (by omega))
noncomputable def oI (a n:Int) : Option Int:=vp (a,(n,()))
noncomputable def V5 (a b:List Int) : Option Bool:=BW (a,(b,()))
noncomputable def JY:Option Bool:=xY ()
theorem A8:JY=some true:=by kernel_rfl
theorem Sy (a n:Int) : oI a n=Option.bind (CS a n) fun q=>if decide (q < 0)=true then some (i64.wrap (q + n)) else some q:=by kernel_rfl
theorem kl (a:Int) {n:Int} (h0 : 0 < n) (h1:n≤1000000000) : Ok (oI a n) (fun k=>0≤k∧k < n):=by
 rw [Sy]
 unfold CS
 rw [if_neg (by omega)]
 have h:=Di (a:=a) h0
 simp only [zb]
 refine Ok.ite (fun hc=>?_) fun hc=>?_
 ·have:=zd hc
  refine Ok.pure ?_
  rw [IntKind.wrap_i64]; omega
 ·have:=of_decide_eq_false (by simpa using hc:decide (a.tmod n < 0)=false)
  exact Ok.pure (by omega)
theorem Ya (a b:List Int) : V5 a b=if ((a.length:Int) != (b.length:Int))=true then some false else Option.bind (ah (fun st:Bool×Int=>if decide (st.2 < (a.length:Int))=true then Option.bind (au a st.2) fun x=>Option.bind (au b st.2) fun y=>if (x != y)=true then some (.inr (.inr false)) else some (.inl (st.1,i64.wrap (st.2 + 1))) else some (.inr (.inl (st.1,st.2)))) ab (false,(0:Int))) fun o:(Bool×Int)⊕Bool=>match o with | .inl _=>some true | .inr v=>some v:=by kernel_rfl
theorem OW (a:List Int) (hl:a.length≤1000000) : V5 a a=some true:=by
 rw [Ya,if_neg (by simp)]
 have hp:∃ r,ah (fun st:Bool×Int=>if decide (st.2 < (a.length:Int))=true then Option.bind (au a st.2) fun x=>Option.bind (au a st.2) fun y=>if (x != y)=true then some (.inr (.inr false)) else some (.inl (st.1,i64.wrap (st.2 + 1))) else some (.inr (.inl (st.1,st.2)))) ab (false,(0:Int))=some r∧∃ q,(r:(Bool×Int)⊕Bool) = .inl q:=by
  refine aJ (fun st=>∃ k:Nat,st.2=(k:Int)∧k≤a.length) (fun st=>a.length - st.2.toNat) _ (fun st ⟨k,h1,h2⟩=>?_) ab _ ⟨0,rfl,Nat.zero_le _⟩ (by have:=an hl; show a.length - (0:Int).toNat < ab; omega)
  simp only [h1]
  rcases Nat.lt_or_ge k a.length with hlt | hge
  ·have d1:decide ((k:Int) < (a.length:Int))=true:=by simpa using hlt
   rw [if_pos d1,aE (zq hlt)]
   simp only [zb,bne_self_eq_false,zf,if_false,aY hlt hl]
   exact .inl ⟨_,rfl,⟨k + 1,rfl,hlt⟩,by simp only [zt]; omega⟩
  ·have d1:decide ((k:Int) < (a.length:Int))=false:=by simp; omega
   rw [if_neg (by rw [d1]; decide)]
   exact .inr ⟨_,rfl,_,rfl⟩
 obtain ⟨r,h1,q,rfl⟩:=hp
 rw [h1]
 rfl
theorem Pa (x:az) : iu x=some (decide ((x.fNs.length:Int)≤30)&&decide ((x.jI.length:Int)≤80)):=by
 unfold iu
 simp only [dN,zb]
theorem OkS.later {M:Nat} {s:aa} (h:OkS M s) : (s.aj.length≤M∧s.ac.length≤M)∧(0≤s.bQ∧s.bQ≤1000000000)∧∀ x∈s.aj,0≤x.bB∧x.bB≤1000000000:=⟨⟨h.small.1,h.small.2.2.1⟩,h.sz.nodes.2.2.1,fun x hx=>(h.sz.nodes.2.2.2 x hx).1⟩
def n8 (s:aa) (w:Int) : aa:={ s with bQ:=i64.wrap (s.bQ + w) }
noncomputable def ZK (s:aa) (st:Bool×List Int×Int) : Option ((Bool×List Int×Int)⊕((Bool×List Int×Int)⊕Bool)) :=
 if decide (st.2.2 < (st.2.1.length:Int))=true then
  Option.bind (au st.2.1 st.2.2) fun x=>Option.bind (Iq s x) fun a=>Option.bind (au st.2.1 st.2.2) fun y=>Option.bind (ly s y) fun b =>
  Option.bind (if (!(a.1.fId==b.1.fId&&(a.1.aP==b.1.aP&&(a.1.da==b.1.da&&(a.1.dL.br==b.1.dL.br&&(a.1.dL.aV==b.1.dL.aV&&(a.1.bB==b.1.bB&&(a.1.bD==b.1.bD&&a.1.fUp==b.1.fUp))))))))=true then some true else some (!(a.2==b.2))) fun q =>
  Option.bind (if q=true then some true else Option.bind (au st.2.1 st.2.2) fun x=>Option.bind (Rf s x) fun u=>Option.bind (au st.2.1 st.2.2) fun y=>Option.bind (y9 s y) fun v=>some (!(u.br==v.br&&u.aV==v.aV))) fun q =>
  Option.bind (if q=true then some true else Option.bind (au st.2.1 st.2.2) fun x=>Option.bind (Wj s x) fun u=>Option.bind (au st.2.1 st.2.2) fun y=>Option.bind (vK s y) fun v=>some (!(u.br==v.br&&u.aV==v.aV))) fun q =>
  if q=true then some (.inr (.inr false)) else some (.inl (st.1,st.2.1,i64.wrap (st.2.2 + 1)))
 else some (.inr (.inl (st.1,st.2.1,st.2.2)))
def ZJ (s:aa) (st:List Int×Int) : Option ((List Int×Int)⊕(List Int×Int)) :=
 if decide (st.2 < (s.aj.length:Int))=true then Option.bind (au s.aj st.2) fun n=>Option.bind (aX st.1 [n.fId]) fun zs=>some (.inl (zs,i64.wrap (st.2 + 1))) else some (.inr (st.1,st.2))
theorem YL (x:az) (id more:Int) : qx (x,(id,(more,())))=Option.bind JY fun r=>if (!r)=true then some false else Option.bind (iu x) fun r=>if (!r)=true then some true else Option.bind (cO x) fun s=>Option.bind (oI more 15) fun w=>Option.bind (ah (ZJ s) ab ([id],0)) fun st=>Option.bind (ah (ZK (n8 s w)) ab (false,st.1,0)) fun o=>match o with | .inl _=>Option.bind (JB (n8 s w)) fun a=>Option.bind (sg (n8 s w)) fun b=>Option.bind (V5 a b) fun r=>some r | .inr v=>some v:=by kernel_rfl
theorem YD (s:aa) (id:Int) (hl:s.aj.length≤100000) : Ok (ah (ZJ s) ab ([id],0)) (fun r=>r.1.length≤100001):=by
 refine aJ (fun st=>∃ k:Nat,st.2=(k:Int)∧k≤s.aj.length∧st.1.length≤k + 1) (fun st=>s.aj.length - st.2.toNat) _ (fun st ⟨k,h1,h2,h3⟩=>?_) ab _ ⟨0,rfl,Nat.zero_le _,by simp⟩ (by have:=an (show s.aj.length≤1000000 by omega); show s.aj.length - (0:Int).toNat < ab; omega)
 unfold ZJ
 simp only [h1]
 rcases Nat.lt_or_ge k s.aj.length with hlt | hge
 ·have d1:decide ((k:Int) < (s.aj.length:Int))=true:=by simpa using hlt
  rw [if_pos d1,aE (zq hlt)]
  simp only [zb]
  rw [aF (by simp; omega)]
  simp only [zb,aY hlt (show s.aj.length≤1000000 by omega)]
  exact .inl ⟨_,rfl,⟨k + 1,rfl,hlt,by simp; omega⟩,by simp only [zt]; omega⟩
 ·have d1:decide ((k:Int) < (s.aj.length:Int))=false:=by simp; omega
  rw [if_neg (by rw [d1]; decide)]
  exact .inr ⟨_,rfl,by dsimp only; omega⟩
theorem YE {s:aa} (hn:s.aj.length≤1000000) (hc:s.ac.length≤1000000) (ids:List Int) (hl:ids.length≤1000000) : Ok (ah (ZK s) ab (false,ids,0)) (fun r=>∃ q,r = .inl q):=by
 refine aJ (fun st=>∃ k:Nat,st.2.2=(k:Int)∧k≤ids.length∧st.2.1=ids) (fun st=>ids.length - st.2.2.toNat) _ (fun st ⟨k,h1,h2,h3⟩=>?_) ab _ ⟨0,rfl,Nat.zero_le _,rfl⟩ (by have:=an hl; show ids.length - (0:Int).toNat < ab; omega)
 unfold ZK
 simp only [h1,h3]
 rcases Nat.lt_or_ge k ids.length with hlt | hge
 ·have d1:decide ((k:Int) < (ids.length:Int))=true:=by simpa using hlt
  rw [if_pos d1]
  simp only [aE (zq hlt),zb,yO s _ hn,kA s _ hn,Lr s _ hc,FQ s _ hc,Wi s _ hn hc,xH s _ hn hc,BEq.rfl,Bool.and_self,Bool.not_true,zf,if_false,aY hlt hl]
  exact .inl ⟨_,rfl,⟨k + 1,rfl,hlt,rfl⟩,by simp only [zt]; omega⟩
 ·have d1:decide ((k:Int) < (ids.length:Int))=false:=by simp; omega
  rw [if_neg (by rw [d1]; decide)]
  exact .inr ⟨_,rfl,_,rfl⟩
theorem NodesAsks.plain (a0:az) (_k0:az.ok a0) (a1:Int) (_k1:wfI a1) (a2:Int) (_k2:wfI a2) : qx (a0,(a1,(a2,())))=some true:=by
 rw [YL,A8,Pa]
 simp only [zb,Bool.not_true,zf,if_false]
 cases hf:(decide ((a0.fNs.length:Int)≤30)&&decide ((a0.jI.length:Int)≤80)) with
 | false=>rfl
 | true =>
  simp only [Bool.not_true,zf,if_false]
  rw [Bool.and_eq_true] at hf
  have hacts:a0.jI.length≤80:=by have:=zd hf.2; omega
  obtain ⟨s,h1,h2⟩:=FL a0 hacts
  obtain ⟨w,w1,w2⟩:=kl a2 (n:=15) (by decide) (by decide)
  obtain ⟨⟨k1,k2⟩,k3,k4⟩:=h2.later
  rw [h1]
  simp only [zb]
  rw [w1]
  simp only [zb]
  obtain ⟨r,r1,r2⟩:=YD s a1 (by omega)
  rw [r1]
  simp only [zb]
  have n1:(n8 s w).aj.length≤1000000:=by show s.aj.length≤_; omega
  have n2:(n8 s w).ac.length≤1000000:=by show s.ac.length≤_; omega
  have n3 : 0≤(n8 s w).bQ∧(n8 s w).bQ≤2000000000:=by
   show 0≤i64.wrap (s.bQ + w)∧i64.wrap (s.bQ + w)≤2000000000
   rw [IntKind.wrap_i64]; omega
  obtain ⟨o,o1,q,rfl⟩:=YE n1 n2 r.1 (by omega)
  rw [o1]
  simp only [zb]
  rw [Oo n1 n3 (show ∀ x∈(n8 s w).aj,_ from k4),za _ n1]
  simp only [zb]
  have e:((n8 s w).aj.filter (H5 (n8 s w))).map aA.fId=((n8 s w).aj.filter fun b=>b.fUp&&decide (i64.wrap ((n8 s w).bQ - b.bB)≥10)).map aA.fId:=rfl
  rw [← e,OW _ (by rw [List.length_map]; exact Nat.le_trans (List.length_filter_le _ _) n1)]
  rfl
section
set_option maxHeartbeats 0
theorem sE:∀ (w r:List Char),(∀ c∈w,c≠(Char.ofNat 32))→wordsSigns (w++(Char.ofNat 32)::r)=w::wordsSigns r
 | [],r,_=>by simp [wordsSigns]
 | c::w,r,h=>by
  have h1:c≠(Char.ofNat 32):=h c (List.mem_cons_self ..)
  have h2:=sE w r (fun d hd=>h d (List.mem_cons_of_mem _ hd))
  rw [List.cons_append,wordsSigns.eq_3 _ _ (fun e=>h1 e),h2]
theorem Fu (R:List (List Char)) : stripLifts liftWords ([(Char.ofNat 99),(Char.ofNat 117),(Char.ofNat 116)] :: R)=([],[(Char.ofNat 99),(Char.ofNat 117),(Char.ofNat 116)] :: R):=by kernel_rfl
theorem VQ (P:Program) {R:List (List Char)} (h:behindMainWord (wordsSigns P.initOrder.toList) = [(Char.ofNat 99),(Char.ofNat 117),(Char.ofNat 116)] :: R) : P.make=some .cut:=by
 unfold Program.make
 rw [h]
 rfl
theorem V7 (P:Program) {R:List (List Char)} (h:behindMainWord (wordsSigns P.initOrder.toList) = [(Char.ofNat 99),(Char.ofNat 117),(Char.ofNat 116)] :: R) : P.headLifts = []:=by
 unfold Program.headLifts
 rw [h,Fu]
 rfl
theorem Te (P:Program) {R:List (List Char)} (h:behindMainWord (wordsSigns P.initOrder.toList) = [(Char.ofNat 99),(Char.ofNat 117),(Char.ofNat 116)] :: R) : P.liftsFinal=false:=by
 unfold Program.liftsFinal
 rw [h,V7 P h]
 rfl
theorem TB (P:Program) {R:List (List Char)} (h:behindMainWord (wordsSigns P.initOrder.toList) = [(Char.ofNat 99),(Char.ofNat 117),(Char.ofNat 116)] :: R) (h1:P.laysLater=false) (h2:P.bearsReflect=false) (h3:P.doorFits [] = true) : P.mayEnter=true:=by
 unfold Program.mayEnter
 rw [h]
 dsimp only
 rw [Fu,h1,h2]
 dsimp only
 rw [h3]
 rfl
theorem Yr (P:Program) (h:P.doorRows = []) : P.doorFits [] = true:=by
 unfold Program.doorFits
 rw [h]
 rfl
theorem io:prog.initOrder=(String.ofList [Char.ofNat 104,Char.ofNat 97,Char.ofNat 114,Char.ofNat 110,Char.ofNat 101,Char.ofNat 115,Char.ofNat 115,Char.ofNat 32,Char.ofNat 53,Char.ofNat 56,Char.ofNat 97,Char.ofNat 50,Char.ofNat 48,Char.ofNat 99,Char.ofNat 54,Char.ofNat 50,Char.ofNat 50,Char.ofNat 51,Char.ofNat 53,Char.ofNat 100,Char.ofNat 57,Char.ofNat 56,Char.ofNat 48,Char.ofNat 57,Char.ofNat 101,Char.ofNat 98,Char.ofNat 99,Char.ofNat 97,Char.ofNat 102,Char.ofNat 101,Char.ofNat 55,Char.ofNat 49,Char.ofNat 52,Char.ofNat 99,Char.ofNat 97,Char.ofNat 53,Char.ofNat 54,Char.ofNat 54,Char.ofNat 51,Char.ofNat 50,Char.ofNat 51,Char.ofNat 56,Char.ofNat 98,Char.ofNat 48,Char.ofNat 98,Char.ofNat 51,Char.ofNat 55,Char.ofNat 49,Char.ofNat 102,Char.ofNat 50,Char.ofNat 99,Char.ofNat 53,Char.ofNat 101,Char.ofNat 56,Char.ofNat 50,Char.ofNat 57,Char.ofNat 49,Char.ofNat 55,Char.ofNat 99,Char.ofNat 100,Char.ofNat 100,Char.ofNat 101,Char.ofNat 48,Char.ofNat 52,Char.ofNat 57,Char.ofNat 51,Char.ofNat 50,Char.ofNat 55,Char.ofNat 56,Char.ofNat 49,Char.ofNat 50,Char.ofNat 51,Char.ofNat 32,Char.ofNat 99,Char.ofNat 117,Char.ofNat 116,Char.ofNat 32,Char.ofNat 97,Char.ofNat 116,Char.ofNat 32,Char.ofNat 100,Char.ofNat 105,Char.ofNat 115,Char.ofNat 112,Char.ofNat 97,Char.ofNat 116,Char.ofNat 99,Char.ofNat 104,Char.ofNat 47,Char.ofNat 100,Char.ofNat 105,Char.ofNat 115,Char.ofNat 112,Char.ofNat 97,Char.ofNat 116,Char.ofNat 99,Char.ofNat 104,Char.ofNat 108,Char.ofNat 97,Char.ofNat 119,Char.ofNat 56,Char.ofNat 46,Char.ofNat 78,Char.ofNat 111,Char.ofNat 100,Char.ofNat 101,Char.ofNat 115,Char.ofNat 82,Char.ofNat 101,Char.ofNat 103,Char.ofNat 105,Char.ofNat 115,Char.ofNat 116,Char.ofNat 101,Char.ofNat 114,Char.ofNat 32,Char.ofNat 100,Char.ofNat 105,Char.ofNat 115,Char.ofNat 112,Char.ofNat 97,Char.ofNat 116,Char.ofNat 99,Char.ofNat 104,Char.ofNat 47,Char.ofNat 100,Char.ofNat 105,Char.ofNat 115,Char.ofNat 112,Char.ofNat 97,Char.ofNat 116,Char.ofNat 99,Char.ofNat 104,Char.ofNat 108,Char.ofNat 97,Char.ofNat 119,Char.ofNat 56,Char.ofNat 46,Char.ofNat 78,Char.ofNat 111,Char.ofNat 100,Char.ofNat 101,Char.ofNat 115,Char.ofNat 66,Char.ofNat 101,Char.ofNat 97,Char.ofNat 116,Char.ofNat 32,Char.ofNat 100,Char.ofNat 105,Char.ofNat 115,Char.ofNat 112,Char.ofNat 97,Char.ofNat 116,Char.ofNat 99,Char.ofNat 104,Char.ofNat 47,Char.ofNat 100,Char.ofNat 105,Char.ofNat 115,Char.ofNat 112,Char.ofNat 97,Char.ofNat 116,Char.ofNat 99,Char.ofNat 104,Char.ofNat 108,Char.ofNat 97,Char.ofNat 119,Char.ofNat 56,Char.ofNat 46,Char.ofNat 78,Char.ofNat 111,Char.ofNat 100,Char.ofNat 101,Char.ofNat 115,Char.ofNat 65,Char.ofNat 115,Char.ofNat 107,Char.ofNat 115,Char.ofNat 32,Char.ofNat 100,Char.ofNat 105,Char.ofNat 115,Char.ofNat 112,Char.ofNat 97,Char.ofNat 116,Char.ofNat 99,Char.ofNat 104,Char.ofNat 47,Char.ofNat 100,Char.ofNat 105,Char.ofNat 115,Char.ofNat 112,Char.ofNat 97,Char.ofNat 116,Char.ofNat 99,Char.ofNat 104,Char.ofNat 108,Char.ofNat 97,Char.ofNat 119,Char.ofNat 56,Char.ofNat 46,Char.ofNat 78,Char.ofNat 111,Char.ofNat 100,Char.ofNat 101,Char.ofNat 115,Char.ofNat 70,Char.ofNat 114,Char.ofNat 101,Char.ofNat 101]):=by kernel_rfl
theorem ioL:prog.initOrder.toList = [(Char.ofNat 104),(Char.ofNat 97),(Char.ofNat 114),(Char.ofNat 110),(Char.ofNat 101),(Char.ofNat 115),(Char.ofNat 115)] ++ (Char.ofNat 32)::([(Char.ofNat 53),(Char.ofNat 56),(Char.ofNat 97),(Char.ofNat 50),(Char.ofNat 48),(Char.ofNat 99),(Char.ofNat 54),(Char.ofNat 50),(Char.ofNat 50),(Char.ofNat 51),(Char.ofNat 53),(Char.ofNat 100),(Char.ofNat 57),(Char.ofNat 56),(Char.ofNat 48),(Char.ofNat 57),(Char.ofNat 101),(Char.ofNat 98),(Char.ofNat 99),(Char.ofNat 97),(Char.ofNat 102),(Char.ofNat 101),(Char.ofNat 55),(Char.ofNat 49),(Char.ofNat 52),(Char.ofNat 99),(Char.ofNat 97),(Char.ofNat 53),(Char.ofNat 54),(Char.ofNat 54),(Char.ofNat 51),(Char.ofNat 50),(Char.ofNat 51),(Char.ofNat 56),(Char.ofNat 98),(Char.ofNat 48),(Char.ofNat 98),(Char.ofNat 51),(Char.ofNat 55),(Char.ofNat 49),(Char.ofNat 102),(Char.ofNat 50),(Char.ofNat 99),(Char.ofNat 53),(Char.ofNat 101),(Char.ofNat 56),(Char.ofNat 50),(Char.ofNat 57),(Char.ofNat 49),(Char.ofNat 55),(Char.ofNat 99),(Char.ofNat 100),(Char.ofNat 100),(Char.ofNat 101),(Char.ofNat 48),(Char.ofNat 52),(Char.ofNat 57),(Char.ofNat 51),(Char.ofNat 50),(Char.ofNat 55),(Char.ofNat 56),(Char.ofNat 49),(Char.ofNat 50),(Char.ofNat 51)] ++ (Char.ofNat 32)::([(Char.ofNat 99),(Char.ofNat 117),(Char.ofNat 116)] ++ (Char.ofNat 32) :: [(Char.ofNat 97),(Char.ofNat 116),(Char.ofNat 32),(Char.ofNat 100),(Char.ofNat 105),(Char.ofNat 115),(Char.ofNat 112),(Char.ofNat 97),(Char.ofNat 116),(Char.ofNat 99),(Char.ofNat 104),(Char.ofNat 47),(Char.ofNat 100),(Char.ofNat 105),(Char.ofNat 115),(Char.ofNat 112),(Char.ofNat 97),(Char.ofNat 116),(Char.ofNat 99),(Char.ofNat 104),(Char.ofNat 108),(Char.ofNat 97),(Char.ofNat 119),(Char.ofNat 56),(Char.ofNat 46),(Char.ofNat 78),(Char.ofNat 111),(Char.ofNat 100),(Char.ofNat 101),(Char.ofNat 115),(Char.ofNat 82),(Char.ofNat 101),(Char.ofNat 103),(Char.ofNat 105),(Char.ofNat 115),(Char.ofNat 116),(Char.ofNat 101),(Char.ofNat 114),(Char.ofNat 32),(Char.ofNat 100),(Char.ofNat 105),(Char.ofNat 115),(Char.ofNat 112),(Char.ofNat 97),(Char.ofNat 116),(Char.ofNat 99),(Char.ofNat 104),(Char.ofNat 47),(Char.ofNat 100),(Char.ofNat 105),(Char.ofNat 115),(Char.ofNat 112),(Char.ofNat 97),(Char.ofNat 116),(Char.ofNat 99),(Char.ofNat 104),(Char.ofNat 108),(Char.ofNat 97),(Char.ofNat 119),(Char.ofNat 56),(Char.ofNat 46),(Char.ofNat 78),(Char.ofNat 111),(Char.ofNat 100),(Char.ofNat 101),(Char.ofNat 115),(Char.ofNat 66),(Char.ofNat 101),(Char.ofNat 97),(Char.ofNat 116),(Char.ofNat 32),(Char.ofNat 100),(Char.ofNat 105),(Char.ofNat 115),(Char.ofNat 112),(Char.ofNat 97),(Char.ofNat 116),(Char.ofNat 99),(Char.ofNat 104),(Char.ofNat 47),(Char.ofNat 100),(Char.ofNat 105),(Char.ofNat 115),(Char.ofNat 112),(Char.ofNat 97),(Char.ofNat 116),(Char.ofNat 99),(Char.ofNat 104),(Char.ofNat 108),(Char.ofNat 97),(Char.ofNat 119),(Char.ofNat 56),(Char.ofNat 46),(Char.ofNat 78),(Char.ofNat 111),(Char.ofNat 100),(Char.ofNat 101),(Char.ofNat 115),(Char.ofNat 65),(Char.ofNat 115),(Char.ofNat 107),(Char.ofNat 115),(Char.ofNat 32),(Char.ofNat 100),(Char.ofNat 105),(Char.ofNat 115),(Char.ofNat 112),(Char.ofNat 97),(Char.ofNat 116),(Char.ofNat 99),(Char.ofNat 104),(Char.ofNat 47),(Char.ofNat 100),(Char.ofNat 105),(Char.ofNat 115),(Char.ofNat 112),(Char.ofNat 97),(Char.ofNat 116),(Char.ofNat 99),(Char.ofNat 104),(Char.ofNat 108),(Char.ofNat 97),(Char.ofNat 119),(Char.ofNat 56),(Char.ofNat 46),(Char.ofNat 78),(Char.ofNat 111),(Char.ofNat 100),(Char.ofNat 101),(Char.ofNat 115),(Char.ofNat 70),(Char.ofNat 114),(Char.ofNat 101),(Char.ofNat 101)])):=by rw [io]; exact String.toList_ofList
theorem ioW:∃ R,wordsSigns prog.initOrder.toList = [(Char.ofNat 104),(Char.ofNat 97),(Char.ofNat 114),(Char.ofNat 110),(Char.ofNat 101),(Char.ofNat 115),(Char.ofNat 115)] :: [(Char.ofNat 53),(Char.ofNat 56),(Char.ofNat 97),(Char.ofNat 50),(Char.ofNat 48),(Char.ofNat 99),(Char.ofNat 54),(Char.ofNat 50),(Char.ofNat 50),(Char.ofNat 51),(Char.ofNat 53),(Char.ofNat 100),(Char.ofNat 57),(Char.ofNat 56),(Char.ofNat 48),(Char.ofNat 57),(Char.ofNat 101),(Char.ofNat 98),(Char.ofNat 99),(Char.ofNat 97),(Char.ofNat 102),(Char.ofNat 101),(Char.ofNat 55),(Char.ofNat 49),(Char.ofNat 52),(Char.ofNat 99),(Char.ofNat 97),(Char.ofNat 53),(Char.ofNat 54),(Char.ofNat 54),(Char.ofNat 51),(Char.ofNat 50),(Char.ofNat 51),(Char.ofNat 56),(Char.ofNat 98),(Char.ofNat 48),(Char.ofNat 98),(Char.ofNat 51),(Char.ofNat 55),(Char.ofNat 49),(Char.ofNat 102),(Char.ofNat 50),(Char.ofNat 99),(Char.ofNat 53),(Char.ofNat 101),(Char.ofNat 56),(Char.ofNat 50),(Char.ofNat 57),(Char.ofNat 49),(Char.ofNat 55),(Char.ofNat 99),(Char.ofNat 100),(Char.ofNat 100),(Char.ofNat 101),(Char.ofNat 48),(Char.ofNat 52),(Char.ofNat 57),(Char.ofNat 51),(Char.ofNat 50),(Char.ofNat 55),(Char.ofNat 56),(Char.ofNat 49),(Char.ofNat 50),(Char.ofNat 51)] :: [(Char.ofNat 99),(Char.ofNat 117),(Char.ofNat 116)] :: R:=by
 rw [ioL,sE _ _ (by decide),sE _ _ (by decide),sE _ _ (by decide)]
 exact ⟨_,rfl⟩
theorem ioB:∃ R,behindMainWord (wordsSigns prog.initOrder.toList) = [(Char.ofNat 99),(Char.ofNat 117),(Char.ofNat 116)] :: R:=by
 obtain ⟨R,h⟩:=ioW
 rw [h]
 exact ⟨R,by kernel_rfl⟩
theorem Z5:prog.laysLater=false:=by kernel_rfl
theorem aaj:prog.bearsReflect=false:=by kernel_rfl
theorem aae:prog.doorRows = []:=by kernel_rfl
theorem Pb:prog.mayEnter=true:=by
 obtain ⟨R,h⟩:=ioB
 exact TB _ h Z5 aaj (Yr _ aae)
theorem VV:prog.liftsFinal=false:=by
 obtain ⟨R,h⟩:=ioB
 exact Te _ h
theorem VP:prog.make=some .cut:=by
 obtain ⟨R,h⟩:=ioB
 exact VQ _ h
end
noncomputable def jL (x:ct [.ag 12,.lf (.int .i64),.lf (.int .i64)]) : Option (bc [.lf (.int .i64)]):=gz ⟨prog,[(16,jg),(71,tN)],33,[.lf (.int .i64)],[.tmp 6],[],[],[]⟩ ((Tryz.f38).body.getD .skip) (.n) [.ag 12,.lf (.int .i64),.lf (.int .i64)] x
noncomputable def wB:Ent:=⟨[.ag 12,.lf (.int .i64),.lf (.int .i64)],[.lf (.int .i64)],jL⟩
theorem wA:bN prog 38 [.ag 12,.lf (.int .i64),.lf (.int .i64)] [.lf (.int .i64)] jL:=cj (n:=33) (.cons (jf) (.cons (tM) (.nil))) Tryz.mixed Tryz.func38 rfl (by kernel_rfl) rfl rfl rfl (fun _=>rfl)
noncomputable def qr (x:ct [.ag 12,.lf (.int .i64),.lf (.int .i64)]) : Option (bc [.ag 12,.lf (.int .i64)]):=gz ⟨prog,[(31,tP),(38,wB),(39,Az)],38,[.ag 12,.lf (.int .i64)],[.cell 6 41,.tmp 7],[],[6],[]⟩ ((Tryz.f14).body.getD .skip) (.n) [.ag 12,.lf (.int .i64),.lf (.int .i64)] x
noncomputable def GA:Ent:=⟨[.ag 12,.lf (.int .i64),.lf (.int .i64)],[.ag 12,.lf (.int .i64)],qr⟩
theorem Gz:bN prog 14 [.ag 12,.lf (.int .i64),.lf (.int .i64)] [.ag 12,.lf (.int .i64)] qr:=cj (n:=38) (.cons (tO) (.cons (wA) (.cons (Ay) (.nil)))) Tryz.mixed Tryz.func14 rfl (by kernel_rfl) rfl rfl rfl (fun _=>rfl)
noncomputable def kI (x:ct [.ag 16,.ag 7,.lf (.bool)]) : Option (bc [.lf (.bool)]):=gz ⟨prog,[(7,xZ),(8,kh),(9,GM),(10,vr),(11,qo),(12,wN),(13,xN)],75,[.lf (.bool)],[.tmp 6],[],[],[]⟩ ((Tryz.f3).body.getD .skip) (.n) [.ag 16,.ag 7,.lf (.bool)] x
theorem ya:bN prog 3 [.ag 16,.ag 7,.lf (.bool)] [.lf (.bool)] kI:=cj (n:=75) (.cons (xX) (.cons (oD) (.cons (GL) (.cons (vo) (.cons (qn) (.cons (wM) (.cons (F8) (.nil)))))))) Tryz.mixed Tryz.func3 rfl (by kernel_rfl) rfl rfl rfl (fun _=>rfl)
noncomputable def qw (x:ct [.ag 16,.lf (.int .i64),.lf (.int .i64),.lf (.int .i64)]) : Option (bc [.lf (.bool)]):=gz ⟨prog,[(7,xZ),(8,kh),(9,GM),(10,vr),(14,GA),(15,I6),(13,xN)],81,[.lf (.bool)],[.tmp 8],[],[],[]⟩ ((Tryz.f4).body.getD .skip) (.n) [.ag 16,.lf (.int .i64),.lf (.int .i64),.lf (.int .i64)] x
theorem GN:bN prog 4 [.ag 16,.lf (.int .i64),.lf (.int .i64),.lf (.int .i64)] [.lf (.bool)] qw:=cj (n:=81) (.cons (xX) (.cons (oD) (.cons (GL) (.cons (vo) (.cons (Gz) (.cons (I5) (.cons (F8) (.nil)))))))) Tryz.mixed Tryz.func4 rfl (by kernel_rfl) rfl rfl rfl (fun _=>rfl)
theorem fM {α S τ : Type} (l:List α) (mk:Int→S) {f:S→Option (S⊕τ)} {r : τ} (hl:l.length≤1000000)
  (hstep:∀ (k:Nat) (x : α),l[k]? = some x→k < l.length→x∈l→f (mk (k:Int))=some (.inl (mk ((k + 1:Nat) : Int)))) (hend:f (mk (l.length:Int))=some (.inr r)) : ah f ab (mk 0)=some r:=by
 rw [ay l (σ:=Unit) (fun _ k=>mk k) (fun _ _=>some (.inl ())) (fun _=>r) (an hl) (fun k _ x hx=>by rw [hstep k x hx (zg.1 hx).1 (List.mem_of_getElem? hx)]; rfl) (fun _=>hend) ()]
 rw [sN (fun _ _=>())]
theorem qK (l:List Int) (hl:l.length≤1000000) : pY l l=some true:=by
 unfold pY
 simp only [bne_self_eq_false,zf,if_false]
 rw [fM l (fun k=>k) (r:=.inl (l.length:Int)) hl (fun k x hx hk _=>by
  unfold pX
  simp only [bK hx,if_true,aE hx,zb,bne_self_eq_false,zf,if_false,aY hk hl]) (by unfold pX; simp only [bE,zf,if_false])]
 rfl
structure SzL (a:aC) : Prop where
 queue:a.bP.size≤1000000
 asks:a.bL.length≤1000000
 grants:a.ca.length≤1000000
 kills:a.fp.length≤1000000
 told:a.oE.length≤1000000
 lost:a.pE.length≤1000000
theorem SzA.shorts {B:Nat} {a:aC} (h:SzA B a) (hB:B≤1000000) : SzL a:=⟨h.queue.1,Nat.le_trans h.asks hB,Nat.le_trans h.grants hB,Nat.le_trans h.kills hB,Nat.le_trans h.told hB,Nat.le_trans h.lost hB⟩
theorem Pt (a:aC) (h:SzL a) : DF a a=some true:=by
 unfold DF
 have h1:a.bL.length≤1000000:=h.asks
 simp only [bne_self_eq_false,BEq.rfl,Bool.and_self,Bool.not_true,zf,if_false,zb]
 rw [fM a.bL (fun k=>k) (r:=.inl (a.bL.length:Int)) h1 (fun k x hx hk _=>by
  unfold rp
  simp only [bK hx,if_true,aE hx,zb,BEq.rfl,Bool.and_self,Bool.not_true,zf,if_false,aY hk h1]) (by unfold rp; simp only [bE,zf,if_false])]
 simp only [zb,qK _ h.grants,qK _ h.kills,qK _ h.told,qK _ h.lost,if_true]
theorem Pk (c:ax) (h:SzC c) : DE c c=some true:=by
 unfold DE
 have h1:c.ai.length≤1000000:=Nat.le_trans h.labels (by decide)
 have h2:c.ae.length≤1000000:=Nat.le_trans h.queues (by decide)
 simp only [bne_self_eq_false,zf,if_false,zb]
 rw [fM c.ai (fun k=>k) (r:=.inl (c.ai.length:Int)) h1 (fun k x hx hk _=>by
  unfold rm
  simp only [bK hx,if_true,aE hx,zb,BEq.rfl,Bool.not_true,zf,if_false,aY hk h1]) (by unfold rm; simp only [bE,zf,if_false])]
 simp only [zb]
 rw [fM c.ae (fun k=>k) (r:=.inl (c.ae.length:Int)) h2 (fun k x hx hk hm=>by
  have h3:x.bl.length≤1000000:=Nat.le_trans (h.caps x hm) (by decide)
  unfold rl
  simp only [bK hx,if_true,aE hx,zb,BEq.rfl,bne_self_eq_false,Bool.not_true,zf,if_false,aY hk h2]
  rw [fM x.bl (fun k=>k) (r:=.inl (x.bl.length:Int)) h3 (fun k y hy hk _=>by
   unfold rj
   simp only [bK hy,if_true,aE hy,zb,BEq.rfl,Bool.and_self,Bool.not_true,zf,if_false,aY hk h3]) (by unfold rj; simp only [bE,zf,if_false])]
  rfl) (by unfold rl; simp only [bE,zf,if_false])]
 rfl
structure uL (s:aa) : Prop where
 conf:SzC s.bC
 nodes:s.aj.length≤1000000
 apps:s.aq.length≤1000000
 conts:s.ac.length≤1000000
 slots:s.aU.length≤1000000
 plans:s.bh.length≤1000000
 app:∀ a∈s.aq,SzL a
 lab:∀ x∈s.bC.ai,x.size≤1000000
theorem SzS.short {B:Nat} {s:aa} (h:SzS B s) (hB:B≤1000000) : uL s:=⟨h.conf.sz,Nat.le_trans h.nodes.1 hB,Nat.le_trans h.apps hB,Nat.le_trans h.conts hB,Nat.le_trans h.slots hB,Nat.le_trans h.plans hB,fun a ha=>(h.app a ha).shorts hB,h.conf.lsz⟩
theorem Vj (s:aa) (h:uL s) : uU s s=some true:=by
 unfold uU
 simp only [Pk _ h.conf,zb,bne_self_eq_false,Bool.not_true,zf,if_false]
 rw [fM s.aj (fun k=>(true,k)) (r:=(true,(s.aj.length:Int))) h.nodes (fun k x hx hk _=>by
  unfold p8
  simp only [bK hx,if_true,aE hx,zb,BEq.rfl,Bool.and_self,aY hk h.nodes]) (by unfold p8; simp only [bE,zf,if_false])]
 simp only [zb]
 rw [fM s.aq (fun k=>(true,k)) (r:=(true,(s.aq.length:Int))) h.apps (fun k x hx hk hm=>by
  unfold p7
  simp only [bK hx,if_true,aE hx,zb,Pt x (h.app x hm),aY hk h.apps]) (by unfold p7; simp only [bE,zf,if_false])]
 simp only [zb]
 rw [fM s.ac (fun k=>(true,k)) (r:=(true,(s.ac.length:Int))) h.conts (fun k x hx hk _=>by
  unfold p6
  simp only [bK hx,if_true,aE hx,zb,BEq.rfl,Bool.and_self,aY hk h.conts]) (by unfold p6; simp only [bE,zf,if_false])]
 simp only [zb]
 rw [fM s.aU (fun k=>(true,k)) (r:=(true,(s.aU.length:Int))) h.slots (fun k x hx hk _=>by
  unfold p5
  simp only [bK hx,if_true,aE hx,zb,BEq.rfl,Bool.and_self,aY hk h.slots]) (by unfold p5; simp only [bE,zf,if_false])]
 simp only [zb]
 rw [fM s.bh (fun k=>(true,k)) (r:=(true,(s.bh.length:Int))) h.plans (fun k x hx hk _=>by
  unfold pZ
  simp only [bK hx,if_true,aE hx,zb,BEq.rfl,Bool.and_self,aY hk h.plans]) (by unfold pZ; simp only [bE,zf,if_false])]
 rfl
theorem aaF {α : Type} (lo hi:List α) (z n : α) (hl:lo.length + hi.length≤900000) :
  (Option.bind (mkO z (i64.wrap (i64.wrap ((lo.length:Int) + 1) + (hi.length:Int)))) fun xs=>Option.bind (yU xs 0 xs.length lo) fun zs=>Option.bind (au zs (lo.length:Int)) fun _=>Option.bind (vwO (zs.set ((lo.length:Int)).toNat n).length (i64.wrap ((lo.length:Int) + 1)) ((zs.set ((lo.length:Int)).toNat n).length:Int)) fun _=>Option.bind (yU (zs.set ((lo.length:Int)).toNat n) (i64.wrap ((lo.length:Int) + 1)).toNat (((zs.set ((lo.length:Int)).toNat n).length:Int)).toNat hi) fun r=>some r)=some (lo++n::hi):=by
 have e1:i64.wrap ((lo.length:Int) + 1)=((lo.length + 1:Nat) : Int):=by rw [IntKind.wrap_i64]; omega
 have e2:i64.wrap (((lo.length + 1:Nat) : Int) + (hi.length:Int))=((lo.length + 1 + hi.length:Nat) : Int):=by rw [IntKind.wrap_i64]; omega
 rw [e1,e2]
 have e3:mkO z ((lo.length + 1 + hi.length:Nat) : Int)=some (List.replicate (lo.length + 1 + hi.length) z):=by
  unfold mkO
  rw [if_pos ⟨by omega,by omega⟩,zt]
 rw [e3]
 simp only [zb]
 have e4:yU (List.replicate (lo.length + 1 + hi.length) z) 0 (List.replicate (lo.length + 1 + hi.length) z).length lo=some (lo++List.replicate (1 + hi.length) z):=by
  unfold yU
  rw [if_pos ⟨by omega,Nat.le_refl _⟩]
  unfold ld
  simp only [List.length_replicate,Nat.sub_zero]
  rw [List.take_of_length_le (show lo.length≤lo.length + 1 + hi.length by omega)]
  simp only [List.take_zero,List.nil_append,Nat.zero_add,List.drop_replicate]
  rw [show lo.length + 1 + hi.length - lo.length=1 + hi.length by omega]
 rw [e4]
 simp only [zb]
 have e5:(lo++List.replicate (1 + hi.length) z)[lo.length]? = some z:=by
  rw [List.getElem?_append_right (Nat.le_refl _),Nat.sub_self,Nat.add_comm 1]
  rfl
 rw [aE e5]
 simp only [zb,zt]
 have e6:(lo++List.replicate (1 + hi.length) z).set lo.length n=lo++n::List.replicate hi.length z:=by
  rw [List.set_append_right _ _ (Nat.le_refl _),Nat.sub_self,Nat.add_comm 1]
  rfl
 rw [e6]
 have e7:(lo++n::List.replicate hi.length z).length=lo.length + 1 + hi.length:=by simp; omega
 rw [e7]
 have e8:vwO (lo.length + 1 + hi.length) ((lo.length + 1:Nat) : Int) ((lo.length + 1 + hi.length:Nat) : Int)=some ():=by
  unfold vwO
  rw [if_pos ⟨by omega,by omega,by omega,by omega⟩]
 rw [e8]
 simp only [zb]
 unfold yU
 rw [if_pos ⟨by omega,by rw [e7]; exact Nat.le_refl _⟩]
 unfold ld
 have h1:(lo++n::List.replicate hi.length z).take (lo.length + 1)=lo ++ [n]:=by
  rw [List.take_append,List.take_of_length_le (Nat.le_succ _)]
  simp
 have h2:lo.length + 1 + hi.length - (lo.length + 1)=hi.length:=by omega
 rw [h1,h2,List.take_of_length_le (Nat.le_refl _)]
 have h3:(lo++n::List.replicate hi.length z).drop (lo.length + 1 + hi.length) = []:=List.drop_of_length_le (by rw [e7]; exact Nat.le_refl _)
 rw [h3]
 simp
theorem sI {α : Type} (p : α→Bool) : ∀ (l:List α) (i:Nat) (h:i < l.length),(∀ j (hj:j < i),p l[j] = true)→p l[i] = false→(l.takeWhile p).length=i
 | [],i,h,_,_=>absurd h (Nat.not_lt_zero _)
 | x::l,0,h,_,h2=>by
  have h2:p x=false:=h2
  rw [List.takeWhile_cons,h2]
  rfl
 | x::l,i + 1,h,h1,h2=>by
  have h0:p x=true:=h1 0 (Nat.succ_pos _)
  rw [List.takeWhile_cons,h0]
  simp only [if_true,List.length_cons]
  rw [sI p l i (by simpa using h) (fun j hj=>by have:=h1 (j + 1) (Nat.succ_lt_succ hj); simpa using this) (by simpa using h2)]
theorem wF {α : Type} (p : α→Bool) : ∀ (l:List α),(∀ x∈l,p x=true)→(l.takeWhile p).length=l.length
 | [],_=>rfl
 | x::l,h=>by
  rw [List.takeWhile_cons,h x List.mem_cons_self]
  simp only [if_true,List.length_cons]
  rw [wF p l fun y hy=>h y (List.mem_cons_of_mem _ hy)]
theorem Rg {α : Type} (key : α→Int) (k:Int) : ∀ (l:List α),iM key l→(l.takeWhile fun x=>!decide (k < key x)).length=(match l[(l.takeWhile fun x=>decide (key x < k)).length]? with | some x=>if (key x==k)=true then (l.takeWhile fun x=>decide (key x < k)).length + 1 else (l.takeWhile fun x=>decide (key x < k)).length | none=>(l.takeWhile fun x=>decide (key x < k)).length)
 | [],_=>rfl
 | x::l,h=>by
  have hx:=List.pairwise_cons.1 h
  rcases Int.lt_trichotomy (key x) k with h1 | h1 | h1
  ·have d1:decide (key x < k)=true:=by simpa using h1
   have d2:(!decide (k < key x))=true:=by simp; omega
   rw [List.takeWhile_cons,List.takeWhile_cons,d1,d2]
   simp only [if_true,List.length_cons,List.getElem?_cons_succ]
   rw [Rg key k l hx.2]
   cases hq:l[(l.takeWhile fun x=>decide (key x < k)).length]? with
   | none=>rfl
   | some y=>dsimp only; split <;> rfl
  ·have d1:decide (key x < k)=false:=by simp; omega
   have d2:(!decide (k < key x))=true:=by simp; omega
   have d3:(key x==k)=true:=by simpa using h1
   rw [List.takeWhile_cons,List.takeWhile_cons,d1,d2]
   simp only [if_true,zf,if_false,List.length_cons,List.length_nil,List.getElem?_cons_zero,d3]
   have:(l.takeWhile fun x=>!decide (k < key x)) = []:=by
    cases l with
    | nil=>rfl
    | cons y l =>
     have:=hx.1 y List.mem_cons_self
     have d4:(!decide (k < key y))=false:=by simp; omega
     rw [List.takeWhile_cons,d4]
     rfl
   rw [this]
   rfl
  ·have d1:decide (key x < k)=false:=by simp; omega
   have d2:(!decide (k < key x))=false:=by simp; omega
   have d3:(key x==k)=false:=by simp; omega
   rw [List.takeWhile_cons,List.takeWhile_cons,d1,d2]
   simp only [zf,if_false,List.length_nil,List.getElem?_cons_zero,d3]
theorem S3 {α : Type} (key : α→Int) (l:List α) (a : α) (h:iM key l) : l.take (l.takeWhile fun x=>decide (key x < key a)).length++a::l.drop (l.takeWhile fun x=>!decide (key a < key x)).length=cU key l a:=by
 rw [Rg key (key a) l h]
 unfold cU
 congr 2
theorem TO {α : Type} (l:List α) (f : α→Option α) (hf:∀ x∈l,f x=some x) (hl:l.length≤1000000) :
  ah (fun st:List α×List α×Int=>if decide (st.2.2 < (l.length:Int))=true then Option.bind (au st.1 st.2.2) fun x=>Option.bind (f x) fun y=>Option.bind (au st.1 st.2.2) fun _=>some (.inl (st.1.set st.2.2.toNat y,st.1.set st.2.2.toNat y,i64.wrap (st.2.2 + 1))) else some (.inr (st.1,st.1,st.2.2))) ab (l,l,0)=some (l,l,(l.length:Int)):=by
 rw [fM l (fun k=>(l,l,k)) (r:=(l,l,(l.length:Int))) hl (fun k x hx hk hm=>by
  have e:l.set k x=l:=by
   obtain ⟨h1,h2⟩:=zg.1 hx
   rw [← h2]
   exact List.set_getElem_self h1
  simp only [bK hx,if_true,aE hx,zb,hf x hm,zt,e,aY hk hl]) (by simp only [bE,zf,if_false])]
theorem Ot {α : Type} (key : α→Int) (l:List α) (hs:iM key l) (i:Nat) (h:i < l.length) (a : α) (e:key l[i] = key a) : l.set i a=cU key l a:=by
 have hp:∀ j (hj:j < i),key l[j] < key l[i]:=fun j hj=>by
  have:=(List.pairwise_iff_getElem.1 hs) j i (by omega) h hj
  exact this
 have k:(l.takeWhile fun x=>decide (key x < key a)).length=i:=sI _ l i h (fun j hj=>by have:=hp j hj; simp; omega) (by simp; omega)
 unfold cU
 rw [k,zq h]
 have d:(key l[i] == key a)=true:=by simpa using e
 simp only [d,if_true]
 rw [List.set_eq_take_append_cons_drop,if_pos h]
def Vc (x:ByteArray) : Option ByteArray:=if x.size≤1000000000 then some x else none
theorem Jv {x:ByteArray} (h:x.size≤1000000) : Vc x=some x:=by unfold Vc; rw [if_pos (by omega)]
def kx {α : Type} (xs:List α) : Option ((Unit×Unit)×List α):=Option.bind (Fz xs) fun z=>some (((),()),z)
theorem d9 {α : Type} {xs:List α} (h:xs.length≤1000000) : kx xs=some (((),()),xs):=by unfold kx Fz; rw [if_pos h]; rfl
noncomputable def O6 (a:aC) : Option aC:=rr (a,())
theorem Wh (a:aC) : O6 a=Option.bind (Vc a.bP) fun q=>Option.bind (kx a.bL) fun r1=>Option.bind (kx a.ca) fun r2=>Option.bind (kx a.fp) fun r3=>Option.bind (kx a.oE) fun r4=>Option.bind (kx a.pE) fun r5=>some ⟨a.fId,a.dr,q,a.cZ,a.bw,a.bG,r1.2,a.bB,a.bD,r2.2,r3.2,r4.2,r5.2⟩:=by kernel_rfl
theorem Tu {a:aC} (h:SzL a) : O6 a=some a:=by
 rw [Wh,Jv h.queue,d9 h.asks,d9 h.grants,d9 h.kills,d9 h.told,d9 h.lost]
 rfl
def Sc {α : Type} (f : α→Option α) (l:List α) (st:List α×List α×Int) : Option ((List α×List α×Int)⊕(List α×List α×Int)):=if decide (st.2.2 < (l.length:Int))=true then Option.bind (au st.1 st.2.2) fun x=>Option.bind (f x) fun y=>Option.bind (au st.1 st.2.2) fun _=>some (.inl (st.1.set st.2.2.toNat y,st.1.set st.2.2.toNat y,i64.wrap (st.2.2 + 1))) else some (.inr (st.1,st.1,st.2.2))
theorem Fk {α : Type} {f : α→Option α} {l:List α} (hf:∀ x∈l,f x=some x) (hl:l.length≤1000000) : ah (Sc f l) ab (l,l,0)=some (l,l,(l.length:Int)):=TO l f hf hl
noncomputable def J2 (l:List aC) : Option ((Unit×Unit×Unit)×List aC):=oA (l,(((),()),()))
theorem Ts (l:List aC) : J2 l=Option.bind (kx l) fun r=>Option.bind (ah (Sc O6 r.2) ab (r.2,r.2,0)) fun st=>some (((),(),()),st.1):=by kernel_rfl
theorem O4 {l:List aC} (hl:l.length≤1000000) (h:∀ a∈l,SzL a) : J2 l=some (((),(),()),l):=by
 rw [Ts,d9 hl]
 simp only [zb]
 rw [Fk (fun a ha=>Tu (h a ha)) hl]
 rfl
noncomputable def RU (l:List ByteArray) : Option (List ByteArray):=oy (l,(((),()),()))
theorem Tq (l:List ByteArray) : RU l=Option.bind (kx l) fun r=>Option.bind (ah (Sc Vc r.2) ab (r.2,r.2,0)) fun st=>some st.1:=by kernel_rfl
noncomputable def O3 (q:aB) : Option aB:=ow (q,())
theorem Wf (q:aB) : O3 q=Option.bind (Vc q.aI) fun p=>Option.bind (kx q.bl) fun r=>some ⟨p,r.2,q.cZ⟩:=by kernel_rfl
noncomputable def RV (l:List aB) : Option (List aB):=oz (l,(((),()),()))
theorem Tr (l:List aB) : RV l=Option.bind (kx l) fun r=>Option.bind (ah (Sc O3 r.2) ab (r.2,r.2,0)) fun st=>some st.1:=by kernel_rfl
noncomputable def O5 (c:ax) : Option ax:=qt (c,())
theorem Wg (c:ax) : O5 c=Option.bind (RU c.ai) fun l=>Option.bind (RV c.ae) fun q=>some ⟨l,q⟩:=by kernel_rfl
theorem Tt {c:ax} (h:SzC c) (hl:∀ x∈c.ai,x.size≤1000000) : O5 c=some c:=by
 have h1:c.ai.length≤1000000:=Nat.le_trans h.labels (by decide)
 have h2:c.ae.length≤1000000:=Nat.le_trans h.queues (by decide)
 have hq:∀ q∈c.ae,O3 q=some q:=fun q hq=>by
  rw [Wf,Jv (h.paths q hq),d9 (Nat.le_trans (h.caps q hq) (by decide))]
  rfl
 rw [Wg,Tq,Tr,d9 h1,d9 h2]
 simp only [zb]
 rw [Fk (fun x hx=>Jv (hl x hx)) h1]
 simp only [zb]
 rw [Fk hq h2]
 rfl
noncomputable def J1 (s:aa) : Option ((Unit×Unit)×aa):=oB (s,())
theorem We (s:aa) : J1 s=Option.bind (O5 s.bC) fun c=>Option.bind (kx s.aj) fun r1=>Option.bind (J2 s.aq) fun r2=>Option.bind (kx s.ac) fun r3=>Option.bind (kx s.aU) fun r4=>Option.bind (kx s.bh) fun r5=>some (((),()),⟨c,r1.2,r2.2,r3.2,r4.2,r5.2,s.bQ,s.pF,s.rT⟩):=by kernel_rfl
theorem Ii {s:aa} (h:uL s) : J1 s=some (((),()),s):=by
 rw [We,Tt h.conf h.lab,d9 h.nodes,O4 h.apps h.app,d9 h.conts,d9 h.slots,d9 h.plans]
 rfl
noncomputable def R2 (l:List aA) (id:Int) : Option Int:=qu (l,(((id,()),()),()))
noncomputable def R3 (l:List aA) (id:Int) : Option Int:=oC (l,(((id,()),()),()))
theorem Tv (l:List aA) (id:Int) : R2 l id=Option.bind (Ml (fun x=>decide (id≤x.fId)) l) fun r=>if decide (r≥0)=true then some r else some (l.length:Int):=by kernel_rfl
theorem Tw (l:List aA) (id:Int) : R3 l id=Option.bind (Ml (fun x=>decide (id < x.fId)) l) fun r=>if decide (r≥0)=true then some r else some (l.length:Int):=by kernel_rfl
theorem Mt (p:aA→Bool) (l:List aA) (hl:l.length≤1000000) : (Option.bind (Ml p l) fun r=>if decide (r≥0)=true then some r else some (l.length:Int))=some ((l.takeWhile fun x=>!p x).length:Int):=by
 rcases OX p l hl with ⟨i,h,h1,h2,h3⟩ | ⟨h1,h2⟩
 ·rw [h1]
  have d1:decide ((i:Int)≥0)=true:=by simp
  simp only [zb,d1,if_true]
  rw [sI (fun x=>!p x) l i h (fun j hj=>by simp [h3 j hj]) (by simp [h2])]
 ·rw [h1]
  have d1:decide ((-1:Int)≥0)=false:=by decide
  simp only [zb,d1,zf,if_false]
  rw [wF (fun x=>!p x) l fun x hx=>by simp [h2 x hx]]
noncomputable def Zq (l:List aA) (n:aA) : Option (List aA):=rq (l,(n,()))
theorem Zp (l:List aA) (n:aA) : Zq l n=Option.bind (R2 l n.fId) fun a=>Option.bind (hiO l a) fun lo=>Option.bind (R3 l n.fId) fun b=>Option.bind (loO l b) fun hi =>
  Option.bind (mkO (⟨0,0,0,⟨0,0⟩,0,0,false⟩ : aA) (i64.wrap (i64.wrap ((lo.length:Int) + 1) + (hi.length:Int)))) fun xs=>Option.bind (yU xs 0 xs.length lo) fun zs=>Option.bind (au zs (lo.length:Int)) fun _=>Option.bind (vwO (zs.set ((lo.length:Int)).toNat n).length (i64.wrap ((lo.length:Int) + 1)) ((zs.set ((lo.length:Int)).toNat n).length:Int)) fun _=>Option.bind (yU (zs.set ((lo.length:Int)).toNat n) (i64.wrap ((lo.length:Int) + 1)).toNat (((zs.set ((lo.length:Int)).toNat n).length:Int)).toNat hi) fun r=>some r:=by kernel_rfl
theorem XQ {l:List aA} (n:aA) (hl:l.length≤400000) (hs:iM aA.fId l) : Zq l n=some (cU aA.fId l n):=by
 rw [Zp,Tv,Tw,Mt _ l (by omega),Mt _ l (by omega)]
 simp only [zb]
 rw [oa (k8 _ _)]
 simp only [zb]
 rw [kt (k8 _ _)]
 simp only [zb]
 rw [aaF _ _ _ n (by simp; omega)]
 have e:(fun x:aA=>!decide (n.fId≤x.fId))=fun x=>decide (x.fId < n.fId):=funext fun x=>by
  by_cases h:n.fId≤x.fId
  ·have d1:decide (n.fId≤x.fId)=true:=by simpa using h
   have d2:decide (x.fId < n.fId)=false:=by simp; omega
   rw [d1,d2]; rfl
  ·have d1:decide (n.fId≤x.fId)=false:=by simpa using h
   have d2:decide (x.fId < n.fId)=true:=by simp; omega
   rw [d1,d2]; rfl
 rw [e,S3 aA.fId l n hs]
noncomputable def yY (n:aA) (k:Int) : Option Bool:=mg (n,(k,()))
def Bu (n m:Int) : Bool:=decide (0≤n)&&decide (n≤m)
noncomputable def sF (n m:Int) : Option Bool:=nc (n,(m,()))
theorem Sx (n m:Int) : sF n m=Option.bind (if decide (0≤n)=true then some (decide (n≤m)) else some false) fun q=>some q:=by kernel_rfl
theorem Ob (n m:Int) : sF n m=some (Bu n m):=by
 rw [Sx]
 unfold Bu
 cases decide (0≤n) <;> rfl
theorem Pn (n:aA) (k:Int) : yY n k=Option.bind (sF n.fId 999) fun r=>Option.bind (if r=true then Option.bind (sF n.aP (i64.wrap (k - 1))) fun r=>some r else some false) fun q=>Option.bind (if q=true then Option.bind (sF n.da 99) fun r=>some r else some false) fun q=>Option.bind (if q=true then Option.bind (sF n.dL.br 1073741824) fun r=>some r else some false) fun q=>Option.bind (if q=true then Option.bind (sF n.dL.aV 1073741824) fun r=>some r else some false) fun q=>some q:=by kernel_rfl
theorem M5 (n:aA) (k:Int) : yY n k=some (Bu n.fId 999&&Bu n.aP (i64.wrap (k - 1))&&Bu n.da 99&&Bu n.dL.br 1073741824&&Bu n.dL.aV 1073741824):=by
 rw [Pn]
 simp only [Ob,zb]
 cases Bu n.fId 999 <;> cases Bu n.aP (i64.wrap (k - 1)) <;> cases Bu n.da 99 <;> cases Bu n.dL.br 1073741824 <;> cases Bu n.dL.aV 1073741824 <;> rfl
theorem XZ (s:aa) (n:aA) (h1 : 1≤s.bC.ai.length) (h2:s.bC.ai.length≤1000) : yY n (s.bC.ai.length:Int)=some (VL s n):=by
 rw [M5]
 have e:i64.wrap ((s.bC.ai.length:Int) - 1)=(s.bC.ai.length:Int) - 1:=by rw [IntKind.wrap_i64]; omega
 rw [e]
 unfold VL Bu
 congr 1
 rw [Bool.eq_iff_iff]
 simp only [Bool.and_eq_true,Bool.not_eq_true',Bool.or_eq_false_iff,decide_eq_true_eq,decide_eq_false_iff_not,Bool.not_eq_false']
 omega
noncomputable def IR (s:aa) (n:aA) : Option Int:=kG (s,(n,()))
theorem M0 (s:aa) (n:aA) : IR s n=Option.bind (Iq s n.fId) fun r=>Option.bind (yY n (s.bC.ai.length:Int)) fun b=>if (!b)=true then some 1 else if r.1.fUp=true then some 7 else Option.bind (if (!r.2)=true then some (decide ((s.aj.length:Int)≥12)) else some false) fun q=>if q=true then some 4 else some 0:=by kernel_rfl
noncomputable def AQ (s:aa) (n:aA) : Option (aa×Int):=kH (s,(n,()))
theorem LL (s:aa) (n:aA) : AQ s n=Option.bind (J1 s) fun r=>Option.bind (IR s n) fun e=>if (e==0)=true then Option.bind (Zq s.aj ⟨n.fId,n.aP,n.da,n.dL,s.bQ,0,true⟩) fun l=>some ({ r.2 with aj:=l },e) else some (r.2,e):=by kernel_rfl
theorem JH {s:aa} (n:aA) (h:uL s) (hl:s.aj.length≤400000) (hs:iM aA.fId s.aj) (h1 : 1≤s.bC.ai.length) : AQ s n=some (OB s n):=by
 rw [LL,Ii h,M0,yO s _ h.nodes,XZ s n h1 h.conf.labels,XQ _ hl hs]
 simp only [zb]
 unfold OB
 have hz:ln s n.fId=false→(cd s n.fId).fUp=false:=fun hu=>by
  unfold cd
  have hf:s.aj.find? (fun c=>c.fId==n.fId)=none:=by
   rw [List.find?_eq_none]
   unfold ln at hu
   rw [List.any_eq_false] at hu
   exact hu
  rw [hf]
  rfl
 cases VL s n with
 | false=>rfl
 | true =>
  cases hu:ln s n.fId with
  | false =>
   rw [hz hu]
   cases decide ((s.aj.length:Int)≥12) <;> rfl
  | true =>
   cases (cd s n.fId).fUp <;> cases decide ((s.aj.length:Int)≥12) <;> rfl
noncomputable def WV (a b:Int) : Option Int:=ou (a,(b,()))
theorem WU (a b:Int) : WV a b=some (IntKind.u64.wrap (IntKind.u64.wrap a - IntKind.u64.wrap b)):=by kernel_rfl
noncomputable def FD (s:aa) (id b:Int) : Option Int:=jL (s,(id,(b,())))
theorem Ku (s:aa) (id b:Int) : FD s id b=Option.bind (Iq s id) fun r=>if (!r.2)=true then some 2 else if (!r.1.fUp)=true then some 18 else if decide (b < r.1.bD)=true then some 15 else Option.bind (WV b r.1.bD) fun u=>if decide (u > 1)=true then some 1 else some 0:=by kernel_rfl
noncomputable def WO (s:aa) (id b:Int) : Option (aa×Int):=qr (s,(id,(b,())))
theorem YJ (s:aa) (id b:Int) : WO s id b=Option.bind (J1 s) fun r=>Option.bind (FD s id b) fun e=>if (e==0)=true then Option.bind (O8 r.2.aj id) fun i=>Option.bind (au r.2.aj i) fun x=>some ({ r.2 with aj:=(r.2.aj.set i.toNat { x with bB:=s.bQ }).set i.toNat { x with bB:=s.bQ,bD:=b } },e) else some (r.2,e):=by kernel_rfl
theorem Yh {s:aa} {id:Int} {i:Nat} (h:i < s.aj.length) (h2:(id==s.aj[i].fId)=true) (h3:∀ j (hj:j < i),(id==s.aj[j].fId)=false) : cd s id=s.aj[i]:=by
 have hf:s.aj.find? (fun c=>c.fId==id)=some s.aj[i]:=by
  rw [List.find?_eq_some_iff_getElem]
  exact ⟨by rw [BEq.comm]; exact h2,i,h,rfl,fun j hj=>by rw [BEq.comm,h3 j hj]; rfl⟩
 unfold cd
 rw [hf]
 rfl
theorem WN {s:aa} {id b:Int} (h:uL s) (hs:iM aA.fId s.aj) (hn:∀ n∈s.aj,0≤n.bD) (hb:b≤9223372036854775807) : WO s id b=some (Cr s id b):=by
 rw [YJ,Ii h,Ku,yO s id h.nodes]
 simp only [zb]
 unfold Cr
 cases hu:ln s id with
 | false=>rfl
 | true =>
  cases hup:(cd s id).fUp with
  | false=>rfl
  | true =>
   obtain ⟨i,hi,g1,g2,g3⟩ : ∃ i,∃ h:i < s.aj.length,Ml (fun x=>id==x.fId) s.aj=some (i:Int)∧(id==s.aj[i].fId)=true∧∀ j (hj:j < i),(id==s.aj[j].fId)=false:=by
    rcases OX (fun x=>id==x.fId) s.aj h.nodes with hh | ⟨_,h2⟩
    ·exact hh
    ·exfalso
     unfold ln at hu
     rw [List.any_eq_true] at hu
     obtain ⟨x,hx,hxe⟩:=hu
     have:=h2 x hx
     rw [BEq.comm,hxe] at this
     cases this
   have hg:=Yh hi g2 g3
   have hb0 : 0≤(cd s id).bD:=by rw [hg]; exact hn _ (List.getElem_mem hi)
   simp only [Bool.not_true,zf,if_false]
   by_cases hlt:b < (cd s id).bD
   ·have d1:decide (b < (cd s id).bD)=true:=by simpa using hlt
    rw [d1]
    cases decide (b < 0) <;> rfl
   ·have d1:decide (b < (cd s id).bD)=false:=by simpa using hlt
    have d2:decide (b < 0)=false:=by simp; omega
    have e1:IntKind.u64.wrap (IntKind.u64.wrap b - IntKind.u64.wrap (cd s id).bD)=b - (cd s id).bD:=by
     rw [IntKind.wrap_u64,IntKind.wrap_u64,IntKind.wrap_u64]; omega
    have e2:i64.wrap (b - (cd s id).bD)=b - (cd s id).bD:=by rw [IntKind.wrap_i64]; omega
    rw [d1,d2,WU,e1,e2]
    simp only [zb,zf,if_false]
    by_cases h1:b - (cd s id).bD > 1
    ·have d3:decide (b - (cd s id).bD > 1)=true:=by simpa using h1
     rw [d3]
     rfl
    ·have d3:decide (b - (cd s id).bD > 1)=false:=by simpa using h1
     rw [d3]
     simp only [zf,if_false]
     rw [Mu,V6,g1]
     have d4:decide ((i:Int)≥0)=true:=by simp
     simp only [zb,d4,if_true,aE (zq hi),zt,List.set_set]
     rw [Ot aA.fId s.aj hs i hi { s.aj[i] with bB:=s.bQ,bD:=b } rfl,← hg]
     rfl
def Rj (s:aa) (p q:aa×Int) : Option Bool:=Option.bind (if (p.2==q.2)=true then Option.bind (uU p.1 q.1) fun r=>some r else some false) fun b=>Option.bind (if b=true then Option.bind (if (p.2==0)=true then some true else Option.bind (uU p.1 s) fun r=>some r) fun r=>some r else some false) fun b=>some b
theorem LG {s:aa} {p:aa×Int} (hp:uL p.1) (h:p.2≠0→p.1=s) : Rj s p p=some true:=by
 unfold Rj
 simp only [BEq.rfl,if_true,Vj _ hp,zb]
 by_cases h0:p.2=0
 ·have d:(p.2==0)=true:=by simpa using h0
  simp only [d,if_true,zb]
 ·have d:(p.2==0)=false:=by simpa using h0
  have e:=h h0
  have hs:uL s:=by rw [← e]; exact hp
  simp only [d,zf,if_false,e,Vj _ hs,zb]
noncomputable def Yj (s:aa) (n:aA) : Option Bool:=Option.bind (AQ s n) fun p=>Option.bind (nN s n) fun q=>Rj s p q
noncomputable def Wm (s:aa) (id b:Int) : Option Bool:=Option.bind (WO s id b) fun p=>Option.bind (ze s id b) fun q=>Rj s p q
theorem Zo (x:az) (n:aA) (good:Bool) : kI (x,(n,(good,())))=Option.bind JY fun r=>if (!r)=true then some false else Option.bind (iu x) fun r=>if (!r)=true then some true else Option.bind (cO x) fun s=>if good=true then Option.bind (oI n.fId 15) fun a=>Option.bind (oI n.aP (s.bC.ai.length:Int)) fun b=>Option.bind (oI n.da 100) fun c=>Option.bind (oI n.dL.br 100) fun d=>Option.bind (oI n.dL.aV 100) fun e=>Yj s ⟨a,b,c,⟨d,e⟩,n.bB,n.bD,n.fUp⟩ else Yj s n:=by kernel_rfl
theorem YK (x:az) (id beat wh:Int) : qw (x,(id,(beat,(wh,()))))=Option.bind JY fun r=>if (!r)=true then some false else Option.bind (iu x) fun r=>if (!r)=true then some true else Option.bind (cO x) fun s=>Option.bind (if decide ((s.aj.length:Int) > 0)=true then some (decide (Int.tmod id 3 > 0)) else some false) fun q=>if q=true then Option.bind (oI id (s.aj.length:Int)) fun k=>Option.bind (au s.aj k) fun n=>if decide (Int.tmod wh 4 > 0)=true then Wm s n.fId (i64.wrap (n.bD + Int.tmod wh 3)) else Wm s n.fId beat else Wm s id beat:=by kernel_rfl
theorem OkS.short {M:Nat} {s:aa} (h:OkS M s) (hM:M≤1000000) : uL s:=h.sz.short hM
theorem R4 {M:Nat} {s:aa} (h:OkS M s) (hM:M≤100000) (n:aA) : Yj s n=some true:=by
 have hl:=h.small.1
 unfold Yj
 rw [JH n (h.short (by omega)) (by omega) h.sz.nodes.2.1 h.sz.conf.lab1,uM s n (by omega)]
 simp only [zb]
 refine LG ((Vp h n).short (by omega)) fun hne=>?_
 unfold OB at hne ⊢
 split
 ·rfl
 ·rename_i c1
  rw [if_neg c1] at hne
  split
  ·rfl
  ·rename_i c2
   rw [if_neg c2] at hne
   split
   ·rfl
   ·rename_i c3
    rw [if_neg c3] at hne
    exact absurd rfl hne
theorem J3 {M:Nat} {s:aa} (h:OkS M s) (hM:M≤100000) (id b:Int) (hb:b≤9223372036854775807) : Wm s id b=some true:=by
 have hl:=h.small.1
 unfold Wm
 rw [WN (h.short (by omega)) h.sz.nodes.2.1 (fun n hn=>(h.sz.nodes.2.2.2 n hn).2) hb,FR s id b (by omega)]
 simp only [zb]
 refine LG ((Sp h id b).short (by omega)) fun hne=>?_
 unfold Cr at hne ⊢
 split
 ·rfl
 ·rename_i c1
  rw [if_neg c1] at hne
  split
  ·rfl
  ·rename_i c2
   rw [if_neg c2] at hne
   split
   ·rfl
   ·rename_i c3
    rw [if_neg c3] at hne
    split
    ·rfl
    ·rename_i c4
     rw [if_neg c4] at hne
     split
     ·rfl
     ·rename_i c5
      rw [if_neg c5] at hne
      exact absurd rfl hne
theorem NodesRegister.plain (a0:az) (_k0:az.ok a0) (a1:aA) (_k1:aA.ok a1) (a2:Bool) : kI (a0,(a1,(a2,())))=some true:=by
 rw [Zo,A8,Pa]
 simp only [zb,Bool.not_true,zf,if_false]
 cases hf:(decide ((a0.fNs.length:Int)≤30)&&decide ((a0.jI.length:Int)≤80)) with
 | false=>rfl
 | true =>
  simp only [Bool.not_true,zf,if_false]
  rw [Bool.and_eq_true] at hf
  have hacts:a0.jI.length≤80:=by have:=zd hf.2; omega
  obtain ⟨s,h1,h2⟩:=FL a0 hacts
  rw [h1]
  simp only [zb]
  cases a2 with
  | false=>exact R4 h2 (by decide) a1
  | true =>
   simp only [if_true]
   have hlab:=h2.sz.conf.lab1
   have hlab2:=h2.sz.conf.sz.labels
   obtain ⟨w1,e1,_⟩:=kl a1.fId (n:=15) (by decide) (by decide)
   obtain ⟨w2,e2,_⟩:=kl a1.aP (n:=(s.bC.ai.length:Int)) (by omega) (by omega)
   obtain ⟨w3,e3,_⟩:=kl a1.da (n:=100) (by decide) (by decide)
   obtain ⟨w4,e4,_⟩:=kl a1.dL.br (n:=100) (by decide) (by decide)
   obtain ⟨w5,e5,_⟩:=kl a1.dL.aV (n:=100) (by decide) (by decide)
   rw [e1,e2,e3,e4,e5]
   simp only [zb]
   exact R4 h2 (by decide) _
theorem NodesBeat.plain (a0:az) (_k0:az.ok a0) (a1:Int) (_k1:wfI a1) (a2:Int) (k2:wfI a2) (a3:Int) (_k3:wfI a3) : qw (a0,(a1,(a2,(a3,()))))=some true:=by
 rw [YK,A8,Pa]
 simp only [zb,Bool.not_true,zf,if_false]
 cases hf:(decide ((a0.fNs.length:Int)≤30)&&decide ((a0.jI.length:Int)≤80)) with
 | false=>rfl
 | true =>
  simp only [Bool.not_true,zf,if_false]
  rw [Bool.and_eq_true] at hf
  have hacts:a0.jI.length≤80:=by have:=zd hf.2; omega
  obtain ⟨s,h1,h2⟩:=FL a0 hacts
  rw [h1]
  simp only [zb,dN]
  have hb2:=k2.hi
  cases hq:(decide ((s.aj.length:Int) > 0)&&decide (Int.tmod a1 3 > 0)) with
  | false=>exact J3 h2 (by decide) a1 a2 hb2
  | true =>
   rw [Bool.and_eq_true] at hq
   have hpos:=zd hq.1
   have hl:=h2.small.1
   obtain ⟨k,e1,e2⟩:=kl a1 (n:=(s.aj.length:Int)) (by omega) (by omega)
   obtain ⟨n,n1,_⟩:=jm e2.1 e2.2
   simp only [if_true]
   rw [e1]
   simp only [zb]
   rw [n1]
   simp only [zb]
   cases decide (Int.tmod a3 4 > 0) with
   | false=>exact J3 h2 (by decide) _ a2 hb2
   | true=>exact J3 h2 (by decide) _ _ (by rw [IntKind.wrap_i64]; omega)
end Go.Proofs.YtchddofjajgopaaGreat
