/- My texts, in one. -/
import Derived.Test.YtmjkjaahbgikjaaGreatZF
set_option linter.all false
set_option maxRecDepth 100000
set_option maxHeartbeats 4000000
namespace Go.Proofs.YtmjkjaahbgikjaaGreat
open Go.RowKit
open IntKind (i64)
open Go.Proofs.Tryz (prog)
section
set_option maxHeartbeats 0
theorem tB:∀ (w r:List Char),(∀ c∈w,c≠(Char.ofNat 32))→wordsSigns (w++(Char.ofNat 32)::r)=w::wordsSigns r
 | [],r,_=>by simp [wordsSigns]
 | c::w,r,h=>by
  have h1:c≠(Char.ofNat 32):=h c (List.mem_cons_self ..)
  have h2:=tB w r (fun d hd=>h d (List.mem_cons_of_mem _ hd))
  rw [List.cons_append,wordsSigns.eq_3 _ _ (fun e=>h1 e),h2]
theorem GF (R:List (List Char)) : stripLifts liftWords ([(Char.ofNat 99),(Char.ofNat 117),(Char.ofNat 116)] :: R)=([],[(Char.ofNat 99),(Char.ofNat 117),(Char.ofNat 116)] :: R):=by kernel_rfl
theorem XC (P:Program) {R:List (List Char)} (h:behindMainWord (wordsSigns P.initOrder.toList) = [(Char.ofNat 99),(Char.ofNat 117),(Char.ofNat 116)] :: R) : P.make=some .cut:=by
 unfold Program.make
 rw [h]
 rfl
theorem XZ (P:Program) {R:List (List Char)} (h:behindMainWord (wordsSigns P.initOrder.toList) = [(Char.ofNat 99),(Char.ofNat 117),(Char.ofNat 116)] :: R) : P.headLifts = []:=by
 unfold Program.headLifts
 rw [h,GF]
 rfl
theorem UK (P:Program) {R:List (List Char)} (h:behindMainWord (wordsSigns P.initOrder.toList) = [(Char.ofNat 99),(Char.ofNat 117),(Char.ofNat 116)] :: R) : P.liftsFinal=false:=by
 unfold Program.liftsFinal
 rw [h,XZ P h]
 rfl
theorem Va (P:Program) {R:List (List Char)} (h:behindMainWord (wordsSigns P.initOrder.toList) = [(Char.ofNat 99),(Char.ofNat 117),(Char.ofNat 116)] :: R) (h1:P.laysLater=false) (h2:P.bearsReflect=false) (h3:P.doorFits [] = true) : P.mayEnter=true:=by
 unfold Program.mayEnter
 rw [h]
 dsimp only
 rw [GF,h1,h2]
 dsimp only
 rw [h3]
 rfl
theorem aal (P:Program) (h:P.doorRows = []) : P.doorFits [] = true:=by
 unfold Program.doorFits
 rw [h]
 rfl
theorem io:prog.initOrder=(String.ofList [Char.ofNat 104,Char.ofNat 97,Char.ofNat 114,Char.ofNat 110,Char.ofNat 101,Char.ofNat 115,Char.ofNat 115,Char.ofNat 32,Char.ofNat 101,Char.ofNat 99,Char.ofNat 98,Char.ofNat 51,Char.ofNat 54,Char.ofNat 99,Char.ofNat 48,Char.ofNat 97,Char.ofNat 102,Char.ofNat 51,Char.ofNat 57,Char.ofNat 52,Char.ofNat 100,Char.ofNat 52,Char.ofNat 54,Char.ofNat 98,Char.ofNat 99,Char.ofNat 97,Char.ofNat 53,Char.ofNat 55,Char.ofNat 51,Char.ofNat 97,Char.ofNat 99,Char.ofNat 101,Char.ofNat 55,Char.ofNat 102,Char.ofNat 49,Char.ofNat 48,Char.ofNat 101,Char.ofNat 102,Char.ofNat 50,Char.ofNat 52,Char.ofNat 102,Char.ofNat 54,Char.ofNat 100,Char.ofNat 102,Char.ofNat 97,Char.ofNat 48,Char.ofNat 52,Char.ofNat 48,Char.ofNat 102,Char.ofNat 52,Char.ofNat 53,Char.ofNat 56,Char.ofNat 51,Char.ofNat 53,Char.ofNat 102,Char.ofNat 53,Char.ofNat 102,Char.ofNat 100,Char.ofNat 52,Char.ofNat 52,Char.ofNat 52,Char.ofNat 53,Char.ofNat 102,Char.ofNat 51,Char.ofNat 52,Char.ofNat 97,Char.ofNat 50,Char.ofNat 48,Char.ofNat 55,Char.ofNat 99,Char.ofNat 56,Char.ofNat 99,Char.ofNat 32,Char.ofNat 99,Char.ofNat 117,Char.ofNat 116,Char.ofNat 32,Char.ofNat 97,Char.ofNat 116,Char.ofNat 32,Char.ofNat 100,Char.ofNat 105,Char.ofNat 115,Char.ofNat 112,Char.ofNat 97,Char.ofNat 116,Char.ofNat 99,Char.ofNat 104,Char.ofNat 47,Char.ofNat 100,Char.ofNat 105,Char.ofNat 115,Char.ofNat 112,Char.ofNat 97,Char.ofNat 116,Char.ofNat 99,Char.ofNat 104,Char.ofNat 108,Char.ofNat 97,Char.ofNat 119,Char.ofNat 49,Char.ofNat 48,Char.ofNat 46,Char.ofNat 65,Char.ofNat 112,Char.ofNat 112,Char.ofNat 115,Char.ofNat 83,Char.ofNat 117,Char.ofNat 98,Char.ofNat 109,Char.ofNat 105,Char.ofNat 116,Char.ofNat 32,Char.ofNat 100,Char.ofNat 105,Char.ofNat 115,Char.ofNat 112,Char.ofNat 97,Char.ofNat 116,Char.ofNat 99,Char.ofNat 104,Char.ofNat 47,Char.ofNat 100,Char.ofNat 105,Char.ofNat 115,Char.ofNat 112,Char.ofNat 97,Char.ofNat 116,Char.ofNat 99,Char.ofNat 104,Char.ofNat 108,Char.ofNat 97,Char.ofNat 119,Char.ofNat 49,Char.ofNat 48,Char.ofNat 46,Char.ofNat 65,Char.ofNat 112,Char.ofNat 112,Char.ofNat 115,Char.ofNat 65,Char.ofNat 115,Char.ofNat 107,Char.ofNat 115,Char.ofNat 32,Char.ofNat 100,Char.ofNat 105,Char.ofNat 115,Char.ofNat 112,Char.ofNat 97,Char.ofNat 116,Char.ofNat 99,Char.ofNat 104,Char.ofNat 47,Char.ofNat 100,Char.ofNat 105,Char.ofNat 115,Char.ofNat 112,Char.ofNat 97,Char.ofNat 116,Char.ofNat 99,Char.ofNat 104,Char.ofNat 108,Char.ofNat 97,Char.ofNat 119,Char.ofNat 49,Char.ofNat 48,Char.ofNat 46,Char.ofNat 65,Char.ofNat 112,Char.ofNat 112,Char.ofNat 115,Char.ofNat 81,Char.ofNat 117,Char.ofNat 101,Char.ofNat 117,Char.ofNat 101]):=by kernel_rfl
theorem ioL:prog.initOrder.toList = [(Char.ofNat 104),(Char.ofNat 97),(Char.ofNat 114),(Char.ofNat 110),(Char.ofNat 101),(Char.ofNat 115),(Char.ofNat 115)] ++ (Char.ofNat 32)::([(Char.ofNat 101),(Char.ofNat 99),(Char.ofNat 98),(Char.ofNat 51),(Char.ofNat 54),(Char.ofNat 99),(Char.ofNat 48),(Char.ofNat 97),(Char.ofNat 102),(Char.ofNat 51),(Char.ofNat 57),(Char.ofNat 52),(Char.ofNat 100),(Char.ofNat 52),(Char.ofNat 54),(Char.ofNat 98),(Char.ofNat 99),(Char.ofNat 97),(Char.ofNat 53),(Char.ofNat 55),(Char.ofNat 51),(Char.ofNat 97),(Char.ofNat 99),(Char.ofNat 101),(Char.ofNat 55),(Char.ofNat 102),(Char.ofNat 49),(Char.ofNat 48),(Char.ofNat 101),(Char.ofNat 102),(Char.ofNat 50),(Char.ofNat 52),(Char.ofNat 102),(Char.ofNat 54),(Char.ofNat 100),(Char.ofNat 102),(Char.ofNat 97),(Char.ofNat 48),(Char.ofNat 52),(Char.ofNat 48),(Char.ofNat 102),(Char.ofNat 52),(Char.ofNat 53),(Char.ofNat 56),(Char.ofNat 51),(Char.ofNat 53),(Char.ofNat 102),(Char.ofNat 53),(Char.ofNat 102),(Char.ofNat 100),(Char.ofNat 52),(Char.ofNat 52),(Char.ofNat 52),(Char.ofNat 53),(Char.ofNat 102),(Char.ofNat 51),(Char.ofNat 52),(Char.ofNat 97),(Char.ofNat 50),(Char.ofNat 48),(Char.ofNat 55),(Char.ofNat 99),(Char.ofNat 56),(Char.ofNat 99)] ++ (Char.ofNat 32)::([(Char.ofNat 99),(Char.ofNat 117),(Char.ofNat 116)] ++ (Char.ofNat 32) :: [(Char.ofNat 97),(Char.ofNat 116),(Char.ofNat 32),(Char.ofNat 100),(Char.ofNat 105),(Char.ofNat 115),(Char.ofNat 112),(Char.ofNat 97),(Char.ofNat 116),(Char.ofNat 99),(Char.ofNat 104),(Char.ofNat 47),(Char.ofNat 100),(Char.ofNat 105),(Char.ofNat 115),(Char.ofNat 112),(Char.ofNat 97),(Char.ofNat 116),(Char.ofNat 99),(Char.ofNat 104),(Char.ofNat 108),(Char.ofNat 97),(Char.ofNat 119),(Char.ofNat 49),(Char.ofNat 48),(Char.ofNat 46),(Char.ofNat 65),(Char.ofNat 112),(Char.ofNat 112),(Char.ofNat 115),(Char.ofNat 83),(Char.ofNat 117),(Char.ofNat 98),(Char.ofNat 109),(Char.ofNat 105),(Char.ofNat 116),(Char.ofNat 32),(Char.ofNat 100),(Char.ofNat 105),(Char.ofNat 115),(Char.ofNat 112),(Char.ofNat 97),(Char.ofNat 116),(Char.ofNat 99),(Char.ofNat 104),(Char.ofNat 47),(Char.ofNat 100),(Char.ofNat 105),(Char.ofNat 115),(Char.ofNat 112),(Char.ofNat 97),(Char.ofNat 116),(Char.ofNat 99),(Char.ofNat 104),(Char.ofNat 108),(Char.ofNat 97),(Char.ofNat 119),(Char.ofNat 49),(Char.ofNat 48),(Char.ofNat 46),(Char.ofNat 65),(Char.ofNat 112),(Char.ofNat 112),(Char.ofNat 115),(Char.ofNat 65),(Char.ofNat 115),(Char.ofNat 107),(Char.ofNat 115),(Char.ofNat 32),(Char.ofNat 100),(Char.ofNat 105),(Char.ofNat 115),(Char.ofNat 112),(Char.ofNat 97),(Char.ofNat 116),(Char.ofNat 99),(Char.ofNat 104),(Char.ofNat 47),(Char.ofNat 100),(Char.ofNat 105),(Char.ofNat 115),(Char.ofNat 112),(Char.ofNat 97),(Char.ofNat 116),(Char.ofNat 99),(Char.ofNat 104),(Char.ofNat 108),(Char.ofNat 97),(Char.ofNat 119),(Char.ofNat 49),(Char.ofNat 48),(Char.ofNat 46),(Char.ofNat 65),(Char.ofNat 112),(Char.ofNat 112),(Char.ofNat 115),(Char.ofNat 81),(Char.ofNat 117),(Char.ofNat 101),(Char.ofNat 117),(Char.ofNat 101)])):=by rw [io]; exact String.toList_ofList
theorem ioW:∃ R,wordsSigns prog.initOrder.toList = [(Char.ofNat 104),(Char.ofNat 97),(Char.ofNat 114),(Char.ofNat 110),(Char.ofNat 101),(Char.ofNat 115),(Char.ofNat 115)] :: [(Char.ofNat 101),(Char.ofNat 99),(Char.ofNat 98),(Char.ofNat 51),(Char.ofNat 54),(Char.ofNat 99),(Char.ofNat 48),(Char.ofNat 97),(Char.ofNat 102),(Char.ofNat 51),(Char.ofNat 57),(Char.ofNat 52),(Char.ofNat 100),(Char.ofNat 52),(Char.ofNat 54),(Char.ofNat 98),(Char.ofNat 99),(Char.ofNat 97),(Char.ofNat 53),(Char.ofNat 55),(Char.ofNat 51),(Char.ofNat 97),(Char.ofNat 99),(Char.ofNat 101),(Char.ofNat 55),(Char.ofNat 102),(Char.ofNat 49),(Char.ofNat 48),(Char.ofNat 101),(Char.ofNat 102),(Char.ofNat 50),(Char.ofNat 52),(Char.ofNat 102),(Char.ofNat 54),(Char.ofNat 100),(Char.ofNat 102),(Char.ofNat 97),(Char.ofNat 48),(Char.ofNat 52),(Char.ofNat 48),(Char.ofNat 102),(Char.ofNat 52),(Char.ofNat 53),(Char.ofNat 56),(Char.ofNat 51),(Char.ofNat 53),(Char.ofNat 102),(Char.ofNat 53),(Char.ofNat 102),(Char.ofNat 100),(Char.ofNat 52),(Char.ofNat 52),(Char.ofNat 52),(Char.ofNat 53),(Char.ofNat 102),(Char.ofNat 51),(Char.ofNat 52),(Char.ofNat 97),(Char.ofNat 50),(Char.ofNat 48),(Char.ofNat 55),(Char.ofNat 99),(Char.ofNat 56),(Char.ofNat 99)] :: [(Char.ofNat 99),(Char.ofNat 117),(Char.ofNat 116)] :: R:=by
 rw [ioL,tB _ _ (by decide),tB _ _ (by decide),tB _ _ (by decide)]
 exact ⟨_,rfl⟩
theorem ioB:∃ R,behindMainWord (wordsSigns prog.initOrder.toList) = [(Char.ofNat 99),(Char.ofNat 117),(Char.ofNat 116)] :: R:=by
 obtain ⟨R,h⟩:=ioW
 rw [h]
 exact ⟨R,by kernel_rfl⟩
theorem ab2:prog.laysLater=false:=by kernel_rfl
theorem acg:prog.bearsReflect=false:=by kernel_rfl
theorem aca:prog.doorRows = []:=by kernel_rfl
theorem QK:prog.mayEnter=true:=by
 obtain ⟨R,h⟩:=ioB
 exact Va _ h ab2 acg (aal _ aca)
theorem XG:prog.liftsFinal=false:=by
 obtain ⟨R,h⟩:=ioB
 exact UK _ h
theorem XB:prog.make=some .cut:=by
 obtain ⟨R,h⟩:=ioB
 exact XC _ h
end
noncomputable def pf (x:cg [.ag 16,.lf (.str)]) : Option (aX [.lf (.bool)]):=fj ⟨prog,[(6,wh),(7,kE),(9,H7),(18,kq),(10,rM),(12,pb)],115,[.lf (.bool)],[.tmp 4],[],[],[]⟩ ((Tryz.f5).body.getD .skip) ((.s (.n) (.s (.n) (.s (.n) (.s (.n) (.s (.n) (.s (.s (.n) (.s (.lp [.leaf 6 (.int .i64),.leaf 7 (.int .i64)] 0 false (.n)) .n)) (.s (.n) (.s (.n) (.s (.n) (.s (.s (.n) (.s (.lp [.row 9 49 9 1 (.str),.leaf 10 (.int .i64)] 2 false (.n)) .n)) (.s (.s (.n) (.s (.lp [.leaf 4 (.bool),.leaf 11 (.int .i64)] 4 true (.s (.n) (.s (.s (.s (.n) (.s (.s (.n) (.s (.lp [.leaf 12 (.bool),.leaf 13 (.int .i64)] 6 false (.n)) .n)) (.n))) .n) (.n)))) .n)) (.n))))))))))))) [.ag 16,.lf (.str)] x
theorem D6:bI prog 5 [.ag 16,.lf (.str)] [.lf (.bool)] pf:=cd (n:=115) (.cons (we) (.cons (pe) (.cons (H6) (.cons (kp) (.cons (wd) (.cons (o9) (.nil))))))) Tryz.mixed Tryz.func5 rfl (by kernel_rfl) rfl rfl rfl (fun _=>rfl)
theorem UM {c:ax} (h:wi c) : lg c=some ((c.ae.filter fun q=>jf c q.aB).map av.aB):=by
 have hq:=h.sz.queues
 unfold lg
 dsimp only
 have e:di c=fun acc x=>if jf c x.aB=true then (aP acc [x.aB]).map (fun a=>(.inl a:List ByteArray⊕(List ByteArray×Int))) else some (.inl acc):=by
  funext acc x
  unfold di
  simp only [kR _ _ h.sz,zb]
  split
  ·cases aP acc [x.aB] <;> rfl
  ·rfl
 rw [rl c [] (by omega),e,bV (fun q:av=>jf c q.aB) av.aB _ c.ae [] (by simp; omega)]
 simp only [zb,List.nil_append]
theorem XJ {c:ax} {p:ByteArray} (h:SzC c) (hl:jf c p=true) : ∃ q∈c.ae,q.aB=p:=by
 have e:=kR c p h
 unfold iY at e
 rw [jn c p h,hl] at e
 simp only [zb] at e
 cases hu:isQ c p with
 | false =>
  rw [hu] at e
  simp at e
 | true =>
  obtain ⟨q,hq,hq2⟩:=List.any_eq_true.1 hu
  exact ⟨q,hq,oy hq2⟩
theorem YM {c:ax} (h:SzC c) (p:ByteArray) : (((c.ae.filter fun q=>jf c q.aB).map av.aB).any fun x=>x.toList==p.toList)=jf c p:=by
 rw [Bool.eq_iff_iff]
 constructor
 ·intro k
  obtain ⟨x,hx,hxe⟩:=List.any_eq_true.1 k
  obtain ⟨q,hq,rfl⟩:=List.mem_map.1 hx
  have h2:=(List.mem_filter.1 hq).2
  rw [oy hxe] at h2
  exact h2
 ·intro k
  obtain ⟨q,hq,rfl⟩:=XJ h k
  exact List.any_eq_true.2 ⟨_,List.mem_map.2 ⟨q,List.mem_filter.2 ⟨hq,k⟩,rfl⟩,BEq.rfl⟩
noncomputable def abB (l:List ak) : Option (Int×Int):=ai (fun st:Int×Int=>if decide (st.2 < (l.length:Int))=true then Option.bind (ar l st.2) fun x=>Option.bind (CQ x) fun r=>if r=true then some (.inl (i64.wrap (st.1 + 1),i64.wrap (st.2 + 1))) else some (.inl (st.1,i64.wrap (st.2 + 1))) else some (.inr (st.1,st.2))) ab ((0:Int),(0:Int))
theorem aay {l:List ak} (hl:l.length≤1000000) : ∃ n,abB l=some ((((l.filter dg).length:Nat) : Int),n):=by
 have h:=B5 hl
 rw [Ol] at h
 unfold abB
 cases hx:ai (fun st:Int×Int=>if decide (st.2 < (l.length:Int))=true then Option.bind (ar l st.2) fun x=>Option.bind (CQ x) fun r=>if r=true then some (.inl (i64.wrap (st.1 + 1),i64.wrap (st.2 + 1))) else some (.inl (st.1,i64.wrap (st.2 + 1))) else some (.inr (st.1,st.2))) ab ((0:Int),(0:Int)) with
 | none =>
  rw [hx] at h
  simp at h
 | some r =>
  rw [hx] at h
  exact ⟨r.2,by rw [← Option.some.inj h]⟩
noncomputable def Xa (qs:List av) (p:ByteArray) : Option (List ByteArray×Int):=ai (fun st:List ByteArray×Int=>if decide (st.2 < (qs.length:Int))=true then Option.bind (ar qs st.2) fun x=>Option.bind (aP st.1 [x.aB]) fun zs=>some (.inl (zs,i64.wrap (st.2 + 1))) else some (.inr (st.1,st.2))) ab ([p],(0:Int))
theorem W9 {qs:List av} (p:ByteArray) (hl:qs.length≤1000) : Xa qs p=some ([p] ++ qs.map av.aB,(qs.length:Int)):=by
 have hl':qs.length≤1000000:=by omega
 unfold Xa
 have h:=ay qs (S:=List ByteArray×Int) (τ:=List ByteArray×Int) (f:=fun st:List ByteArray×Int=>if decide (st.2 < (qs.length:Int))=true then Option.bind (ar qs st.2) fun x=>Option.bind (aP st.1 [x.aB]) fun zs=>some (.inl (zs,i64.wrap (st.2 + 1))) else some (.inr (st.1,st.2))) (fun a k=>(a,k)) (fun acc x=>if (fun _:av=>true) x=true then (aP acc [x.aB]).map (fun a=>(.inl a:List ByteArray⊕(List ByteArray×Int))) else some (.inl acc)) (fun a=>(a,(qs.length:Int))) (an hl') (fun k a x hk0=>by
  have hk:=(zg.1 hk0).1
  simp only [bG hk0,if_true,aD hk0,zb,aR hk hl']
  cases aP a [x.aB] <;> rfl) (fun a=>by simp only [bv,zf,if_false]) [p]
 rw [show (([p] : List ByteArray),(0:Int))=(fun (a_:List ByteArray) (k_:Int)=>(a_,k_)) [p] 0 from rfl,h,bV (fun _:av=>true) av.aB _ qs [p] (by simp; omega),List.filter_eq_self.2 (fun _ _=>rfl)]
theorem NN {α : Type} (f : α→Bool) : ∀ (l:List α) (a:Bool),l.foldl (fun a x=>a||f x) a=(a||l.any f)
 | [],a=>by simp
 | x::l,a=>by
  rw [List.foldl_cons,NN f l,List.any_cons,Bool.or_assoc]
noncomputable def XM (l rows:List ByteArray) (i:Int) : Option (Bool×Int):=ai (fun st:Bool×Int=>if decide (st.2 < (l.length:Int))=true then Option.bind (if st.1=true then some true else Option.bind (ar l st.2) fun x=>Option.bind (ar rows i) fun y=>some (x.toList==y.toList)) fun q=>some (.inl (q,i64.wrap (st.2 + 1))) else some (.inr (st.1,st.2))) ab (false,(0:Int))
theorem XL {l rows:List ByteArray} {i:Int} {y:ByteArray} (hl:l.length≤1000000) (hy:ar rows i=some y) : XM l rows i=some (l.any (fun x=>x.toList==y.toList),(l.length:Int)):=by
 unfold XM
 have h:=ay l (S:=Bool×Int) (τ:=Bool×Int) (f:=fun st:Bool×Int=>if decide (st.2 < (l.length:Int))=true then Option.bind (if st.1=true then some true else Option.bind (ar l st.2) fun x=>Option.bind (ar rows i) fun y=>some (x.toList==y.toList)) fun q=>some (.inl (q,i64.wrap (st.2 + 1))) else some (.inr (st.1,st.2))) (fun a k=>(a,k)) (fun (a:Bool) x=>some (.inl (a||x.toList==y.toList))) (fun a=>(a,(l.length:Int))) (an hl) (fun k a x hk0=>by
  have hk:=(zg.1 hk0).1
  simp only [bG hk0,if_true,aD hk0,hy,zb,aR hk hl]
  cases a <;> rfl) (fun a=>by simp only [bv,zf,if_false]) false
 rw [show (false,(0:Int))=(fun (a_:Bool) (k_:Int)=>(a_,k_)) false 0 from rfl,h,p7 (fun (a:Bool) (x:ByteArray)=>a||x.toList==y.toList),NN,Bool.false_or]
def Vr (p:ByteArray) : ak:=⟨9000,0,p,0,0,⟨1,1⟩,[],0,0,[],[],[],[]⟩
theorem abC {s:aa} {p:ByteArray} (hs:lS s) (hid:∀ x∈s.ah,x.fId < 9000) (hc:(s.ah.filter dg).length < 16) : Er s (Vr p)=some (if jf s.bB p=true then 0 else 19):=by
 have hb:GY (Vr p)=true:=rfl
 rw [JZ,C5,hb,wy]
 simp only [zb,Bool.not_true,zf,if_false]
 rcases wA (fun x:ak=>x.fId==(Vr p).fId) s.ah hs.apps with ⟨i,hi,_,g2,_⟩ | ⟨g1,_⟩
 ·have h1:=hid _ (List.getElem_mem hi)
  have h2:s.ah[i].fId=9000:=by simpa [Vr] using g2
  omega
 ·have d:decide ((-1:Int)≥0)=false:=by decide
  have d2:decide ((((s.ah.filter dg).length:Nat) : Int)≥16)=false:=decide_eq_false (by omega)
  rw [g1]
  simp only [zb,d,zf,if_false,B5 hs.apps,d2]
  rw [Nw _ _ hs.conf]
  simp only [zb]
  show (if (!jf s.bB p)=true then some (19:Int) else some 0) = _
  cases jf s.bB p <;> rfl
noncomputable def quF (s:aa) (l rows:List ByteArray) : Option ((Bool×Int)⊕Bool):=ai (fun st:Bool×Int=>if decide (st.2 < (rows.length:Int))=true then Option.bind (XM l rows st.2) fun f=>Option.bind (ar rows st.2) fun y=>Option.bind (uV s (Vr y)) fun r=>Option.bind (if (!((r.2==0)==f.1))=true then some true else Option.bind (if (!f.1)=true then some (r.2 != 19) else some false) fun q=>some q) fun q=>if q=true then some (.inr (.inr false)) else some (.inl (st.1,i64.wrap (st.2 + 1))) else some (.inr (.inl (st.1,st.2)))) ab (false,(0:Int))
theorem abh {s:aa} {rows:List ByteArray} (hs:lS s) (hf:wi s.bB) (hl:s.ah.length≤900000) (hid:∀ x∈s.ah,x.fId < 9000) (hc:(s.ah.filter dg).length < 16) (hr:rows.length≤1000000) (hz:∀ x∈rows,x.size≤1000000) : quF s ((s.bB.ae.filter fun q=>jf s.bB q.aB).map av.aB) rows=some (.inl (false,(rows.length:Int))):=by
 unfold quF
 have hq:=hf.sz.queues
 have hll:((s.bB.ae.filter fun q=>jf s.bB q.aB).map av.aB).length≤1000000:=by
  rw [List.length_map]
  exact Nat.le_trans (List.length_filter_le _ _) (by omega)
 rw [ew rows (fun k=>(false,k)) (r:=.inl (false,(rows.length:Int))) hr (fun k y hy hk hm=>by
  obtain ⟨r,h1,_⟩:=CF hs hl (a:=Vr y) ⟨hz y hm,Nat.zero_le _,Nat.zero_le _,Nat.zero_le _,Nat.zero_le _,Nat.zero_le _⟩
  have h2:r.2=if jf s.bB y=true then 0 else 19:=Option.some.inj ((KE h1).symm.trans (abC hs hid hc))
  simp only [bG hy,if_true,XL hll (aD hy),YM hf.sz,zb,aD hy,h1,h2,aR hk hr]
  cases jf s.bB y <;> rfl) (by simp only [bv,zf,if_false])]
theorem Ut (x:aA) (p:ByteArray) : pf (x,(p,()))=Option.bind Ej fun r=>if (!r)=true then some false else Option.bind (iQ x) fun r=>Option.bind (if (!r)=true then some true else some (decide ((p.size:Int) > 60))) fun q=>if q=true then some true else Option.bind (cV x) fun s=>Option.bind (abB s.ah) fun st=>if decide (st.1≥16)=true then some true else Option.bind (lg s.bB) fun l=>Option.bind (Xa s.bB.ae p) fun st=>Option.bind (quF s l st.1) fun o:(Bool×Int)⊕Bool=>match o with | .inl _=>some true | .inr v=>some v:=by kernel_rfl
theorem AppsQueue.plain (a0:aA) (_k0:aA.ok a0) (a1:ByteArray) (_k1:a1.size≤maxLen) : pf (a0,(a1,()))=some true:=by
 rw [Ut,yc,QJ]
 simp only [zb,Bool.not_true,zf,if_false]
 cases hf:(decide ((a0.fNs.length:Int)≤30)&&decide ((a0.jV.length:Int)≤80)) with
 | false=>rfl
 | true =>
  simp only [Bool.not_true,zf,if_false,zb]
  cases hp:decide ((a1.size:Int) > 60) with
  | true=>rfl
  | false =>
   have hp':=of_decide_eq_false hp
   simp only [zf,if_false]
   rw [Bool.and_eq_true] at hf
   have hacts:a0.jV.length≤80:=by have:=zd hf.2; omega
   obtain ⟨s,h1,h2⟩:=G2 a0 hacts
   have hs:=h2.sz.short (show 10000≤1000000 by decide)
   have hF:=h2.sz.conf
   have hQ:=hF.sz.queues
   have hA:=h2.sz.apps
   rw [h1]
   simp only [zb]
   obtain ⟨n,hn⟩:=aay hs.apps
   rw [hn]
   simp only [zb]
   cases hc:decide ((((s.ah.filter dg).length:Nat) : Int)≥16) with
   | true=>rfl
   | false =>
    have hc':=of_decide_eq_false hc
    simp only [zf,if_false]
    rw [UM hF,W9 a1 (by omega)]
    simp only [zb]
    rw [abh hs hF (by omega) (fun x hx=>(h2.sz.app x hx).queue.2.2.2) (by omega) (by simp; omega) (fun x hx=>by
     rcases List.mem_append.1 hx with hx | hx
     ·obtain rfl:x=a1:=by simpa using hx
      omega
     ·obtain ⟨q,hq,rfl⟩:=List.mem_map.1 hx
      exact hF.sz.paths q hq)]
    rfl
end Go.Proofs.YtmjkjaahbgikjaaGreat
