/- My texts, in one. -/
import Derived.Test.YtaknepbdbappdaaGreatZE
set_option linter.all false
set_option maxRecDepth 100000
set_option maxHeartbeats 4000000
namespace Go.Proofs.YtaknepbdbappdaaGreat
open Go.RowKit
open IntKind (i64)
open Go.Proofs.Tryz (prog)
theorem Tryz.infoCap:(prog.info? 98).map (fun i=>(i.zero,i.size,i.bytes))=some (some (.agg #[.int .i64 0,.int .i64 0]),2,16):=by kernel_rfl
theorem Jo (w:World) (x y:Value) (t:TypeId) : ∀ j u,[x,y][j]? = some u→(w.alloc (.cells #[x,y] t)).cell? ((⟨w.heap.size,0,none⟩ : Addr).add j)=some u:=by
 intro j u hu
 have hadd:(⟨w.heap.size,0,none⟩ : Addr).add j=⟨w.heap.size,j,none⟩:=by unfold Addr.add; split <;> simp_all
 rw [hadd,cell_of_row _ w.heap.size j _ t (0,0) (heap_alloc_new w _),← Array.getElem?_toList]
 exact hu
theorem Zz {a b:Int} : ∀ u∈[Value.int .i64 a,Value.int .i64 b],u.oneCell' = true:=by
 intro u hu
 simp only [List.mem_cons,List.mem_nil_iff,or_false] at hu
 rcases hu with rfl | rfl <;> rfl
theorem Jr {w:World} {b:Nat} {cs:Array Value} {t:TypeId} (h:w.heap[b]? = some (.cells cs t (0,0))) (j:Nat) (v:Value) : (w.setCell ⟨b,j,none⟩ v).heap[b]? = some (.cells (cs.setIfInBounds j v) t (0,0)):=by
 rw [heap_setCell_same w b j _ _ _ h]
theorem EN (cs:List (Int×Int)) : bV (cs ++ [qO])=bV cs ++ [.int .i64 10000,.int .i64 10000]:=Gb cs 10000 10000
theorem v8 (w:World) (R i:Nat) (u:Value) : w.grownBy (w.setCell ⟨R,i,none⟩ u) (some R) :=
 ⟨rfl,rfl,rfl,by simp [World.setCell],fun k _ hk=>Below.heap_setCell _ _ _ _ (fun e=>hk (by rw [e]))⟩
theorem Qq {w:World} (B gl nl:Nat) (h:w.heap[gl]? = some (.cells #[.string ⟨#[]⟩,.string ⟨#[103,112,117]⟩] 9 (0,0))) (hB:B≤gl) (h2:nl≤2) : w.ownsRow B 9 1 (.slice (some ⟨gl,0,none⟩) nl 2) nl ((B9 nl).map sv):=by
 refine ⟨by simp [B9]; omega,.inr ⟨gl,2,_,rfl,hB,h,h2,by simp [maxLen],rfl,?_⟩⟩
 rcases nl with _ | _ | _ | nl
 ·rfl
 ·rfl
 ·rfl
 ·omega
theorem QW {w V w5:World} {row:Option Nat} {Q:Nat} {o:Obj} (hV:Ext w V) (hg:V.grownBy w5 row) (hb:w.heap[Q]? = some o) (hne:row≠some Q) : w5.heap[Q]? = some o:=by
 have hlt:=(Array.getElem?_eq_some_iff.1 hb).1
 rw [hg.block Q (Nat.lt_of_lt_of_le hlt hV.size) (fun e=>hne e.symm),hV.block Q hlt]
 exact hb
theorem RC (i j k:Nat) (hi:i≤7) (hj:j≤7) (hk:k≤2) : ∃ p:Nat,p≤51∧(p:Int)=(i:Int) * (j:Int) + (k:Int)∧wrap64 (wrap64 ((i:Int) * (j:Int)) + (k:Int))=(p:Int):=by
 have h:i * j≤7 * 7:=Nat.mul_le_mul hi hj
 obtain ⟨p,hp⟩ : ∃ p:Nat,p=i * j:=⟨_,rfl⟩
 rw [← hp] at h
 refine ⟨p + k,by omega,by rw [hp]; simp [Int.natCast_add,Int.natCast_mul],?_⟩
 rw [show (i:Int) * (j:Int)=(p:Int) by rw [hp]; exact (Int.natCast_mul i j).symm]
 rw [show wrap64 (p:Int)=(p:Int) from IntWalk.wrap64_in _ ⟨by omega,by omega⟩]
 rw [show wrap64 ((p:Int) + (k:Int))=(p:Int) + (k:Int) from IntWalk.wrap64_in _ ⟨by omega,by omega⟩]
 omega
def Th (sh:Int) (xs:List Int) (y nl:Nat) (w:World) (e:Ending) (w':World) : Prop:=∃ vl vq ds qs B,e = .returned (.agg #[vl,vq])∧w.heap.size≤B∧w'.ownsRow w.heap.size 9 1 vl nl ((B9 nl).map sv)∧iV w' B vq ds qs∧GI nl (mu y) (mu y).length ds∧Ext w w'∧fO sh xs=some (gC nl ds)
theorem Q0 (a:Int) : wrap64 a=i64.wrap a:=by rw [IntKind.wrap_i64]; unfold wrap64; rfl
theorem YM {xs:List Int} {i jj kk nk L:Nat} {z1 z2 a b:Int} {z y:Nat} (hl:jj + 1 < nk) (e3:z1=g8 xs a) (ha:a=(i:Int) + jj + kk) (e4:z2=g8 xs b) (hb:b=(i:Int) * jj + kk) (e1:(z:Int)=z1 % ((L + 1:Nat) : Int)) (e2:(y:Int)=z2 % ((4:Nat) : Int)) : [0,(L:Int) / 2,(L:Int),(z:Int)].getD y 0=nV xs i jj kk nk (L:Int):=by
 unfold nV
 rw [if_pos hl,← ha,← hb,← e3,← e4]
 have e5:z1 % ((L:Int) + 1)=(z:Int):=by rw [e1]; rfl
 have e6:z2 % 4=(y:Int):=by rw [e2]; rfl
 rw [e5,e6]
 rfl
theorem YP {xs:List Int} {i jj kk n:Nat} {z1 z2 a b:Int} {z y:Nat} (hn:n≤10000) (e3:z1=g8 xs a) (ha:a=(jj:Int) + kk) (e4:z2=g8 xs b) (hb:b=(i:Int) + 2 * jj) (e1:(z:Int)=z1 % ((10000 - n + 1:Nat) : Int)) (e2:(y:Int)=z2 % ((3:Nat) : Int)) : [10000,(n:Int),(n:Int) + (z:Int)].getD y 0=mV xs i jj kk (n:Int):=by
 unfold mV
 rw [← ha,← hb,← e3,← e4]
 have e5:z1 % (10000 - (n:Int) + 1)=(z:Int):=by rw [e1]; congr 1; omega
 have e6:z2 % 3=(y:Int):=by rw [e2]; rfl
 rw [e5,e6]
 rfl
set_option maxHeartbeats 12800000 in
theorem Tg (sh:Int) (v:Value) (xs:List Int) (w:World) (r0:Rd w v (xs.map (Value.int .i64))) (hx30:xs.length≤9223372036854775807) :
  Calls prog 23 #[.int .i64 sh,v] w fun e w'=>∃ nl,1≤nl∧nl≤2∧Th sh xs (sh % 5).toNat nl w e w':=by
 obtain ⟨c0,hc,hcz0,hcz1,hcz2⟩:=info_parts Tryz.infoCap
 obtain ⟨q0,hq,hqz0,hqz1,hqz2⟩:=info_parts Tryz.infoQ
 obtain ⟨i0,hi,hz0,hz1,hz2⟩:=info_parts Tryz.infoStr
 obtain ⟨W2,hW2⟩ : ∃ W2,W2=rh w:=⟨_,rfl⟩
 have X2:=Lib.hid (show Ext w W2 by rw [hW2]; exact RO w)
 have HS2:=Lib.hid (show W2.heap.size=w.heap.size + 8 by rw [hW2]; exact NG w)
 have HR0:=Lib.hid (show W2.heap[w.heap.size]? = some (.cells #[.slice none 0 0,.slice none 0 0] 34 (0,0)) by rw [hW2]; exact RN w)
 have HLB:=Lib.hid (show W2.heap[w.heap.size + 1 + 1 + 1 + 1 + 1 + 1 + 1]? = some (.cells #[.string ⟨#[]⟩,.string ⟨#[103,112,117]⟩] 9 (0,0)) by rw [hW2]; exact NI w)
 have HTR:=Lib.hid (show ∀ y,y < 5→W2.cell? ⟨w.heap.size + 1 + 1 + 1 + 1 + 1 + 1,y,none⟩=some (.slice (some ⟨w.heap.size + 1 + y,0,none⟩) (mu y).length (mu y).length) by rw [hW2]; exact NF w)
 have HPA:=Lib.hid (show ∀ y,y < 5→∀ i (hi:i < (mu y).length),W2.cell? ⟨w.heap.size + 1 + y,i,none⟩=some (.string ⟨((mu y)[i]).toArray⟩) by rw [hW2]; exact NH w)
 obtain ⟨A,N,c,rfl,hN,hc1,hc2,hcell⟩:=G2 r0
 have HC:=Lib.hid hcell
 have HN:=Lib.hid hN
 have HRD:=Lib.hid r0
 have hN30:N≤9223372036854775807:=by omega
 clear hcell hN r0
 have hW2':W2 = _:=hW2
 unfold rh at hW2'
 go_enter Tryz.func23,Tryz.ntmps23
 go_wp2_with fail
 rw [← hW2']
 clear hW2 hW2'
 (with_reducible refine (gK _ 2 2 _ rfl (by omega)).mono ?_)
 rintro e w2 ⟨nl',rfl,hny,hnl,rfl⟩
 have HNY:=Lib.hid hny
 clear hny
 have hnl1:(1 + (nl':Int)).toNat=nl' + 1:=by omega
 have hnl2:(0:Int)≤1 + (nl':Int):=by omega
 have hnl3 : 1 + (nl':Int)≤2:=by omega
 go_wp2_with fail
 (with_reducible refine (gK _ 5 5 _ rfl (by omega)).mono ?_)
 rintro e w3 ⟨y,rfl,hny,hy5,rfl⟩
 have HY:=Lib.hid hny
 clear hny hnl1
 obtain ⟨nl,hnl'⟩ : ∃ nl,nl=nl' + 1:=⟨_,rfl⟩
 rw [← hnl']
 have HNL:=Lib.hid hnl'
 have hnl4:nl≤2:=by omega
 have hnl5 : 1≤nl:=by omega
 clear hnl' hnl2 hnl3 hnl
 obtain ⟨gt,hgt⟩ : ∃ gt,gt=w.heap.size + 1 + y:=⟨_,rfl⟩
 obtain ⟨ps,hps⟩ : ∃ ps,ps=mu y:=⟨_,rfl⟩
 obtain ⟨NP,hNP⟩ : ∃ NP,NP=ps.length:=⟨_,rfl⟩
 have hNP7:NP≤7:=by rw [hNP,hps]; exact Kq y
 have HPX:=Lib.hid (show ∀ i (hi:i < ps.length),W2.cell? ⟨gt,i,none⟩=some (.string ⟨(ps[i]).toArray⟩) by rw [hgt]; subst hps; exact HPA.out y hy5)
 have HTX:=HTR.out y hy5
 rw [← hgt,← hps,← hNP] at HTX
 have HTX':∀ o,(W2.alloc o).cell? ⟨w.heap.size + 1 + 1 + 1 + 1 + 1 + 1,y,none⟩=some (.slice (some ⟨gt,0,none⟩) NP NP):=fun o=>(aP W2 o).cell HTX
 have HPS:=Lib.hid hps
 have HNP:=Lib.hid hNP
 have HNO:=Lib.hid (show ps.Nodup by rw [hps]; exact M6 y)
 have HE0:=Lib.hid (show E1 sh xs nl ps 0 [] by rw [hps]; exact E1.start sh xs (by have h1:=HNY.out; have h2:=HNL.out; rw [h2]; first | omega | (rw [show (((nl' + 1:Nat)) : Int)=1 + (nl':Int) by omega,h1,Q0]; rfl)) (by have:=HY.out; omega))
 have hy0:(0:Int)≤(y:Int):=by omega
 have hy5':(y:Int) < 5:=by omega
 clear hgt hps hNP HTX
 go_wp2
 obtain ⟨gl,hgl⟩ : ∃ gl,gl=w.heap.size + 1 + 1 + 1 + 1 + 1 + 1 + 1:=⟨_,rfl⟩
 rw [← hgl]
 have HGL:=Lib.hid (show w.heap.size≤gl by omega)
 have HL2:=Lib.hid (show W2.heap[gl]? = some (.cells #[.string ⟨#[]⟩,.string ⟨#[103,112,117]⟩] 9 (0,0)) by rw [hgl]; exact HLB.out)
 clear hgl HLB HTX' HTR HPA
 obtain ⟨R,hR⟩ : ∃ R,R=W2.heap.size:=⟨_,rfl⟩
 have HR3:=Lib.hid (show (W2.alloc (.cells #[.slice (some ⟨gl,0,none⟩) nl 2,.slice none 0 0] 34)).heap[R]? = some (.cells #[.slice (some ⟨gl,0,none⟩) nl 2,.slice none 0 0] 34 (0,0)) by rw [hR]; exact heap_alloc_new W2 _)
 rw [← hR]
 have HRR:=Lib.hid hR
 clear hR
 go_loopw [8] (fun i wr=>∃ (k:Nat) (vq:Value) (ds:List QD) (qs:List QC),i = .int .i64 k∧k≤NP∧wr.heap[R]? = some (.cells #[.slice (some ⟨gl,0,none⟩) nl 2,vq] 34 (0,0))∧iV wr R vq ds qs∧G1 nl ps k ds∧E1 sh xs nl ps k ds∧Ext W2 wr) (fun i _=>NP - (intOf i).toNat)
 case atStart=>exact ⟨0,_,[],[],rfl,by omega,HR3.out,iV.nil _ _,G1.nil nl ps,HE0.out,aP _ _⟩
 case round =>
  obtain ⟨k,vq,ds,qs,rfl,hk,hRb,hOQ,hG,hE,hx⟩:=hrel
  have HE:=Lib.hid hE
  clear hE HE0
  have HRB:=Lib.hid hRb
  have HOQ:=Lib.hid hOQ
  have HG:=Lib.hid hG
  have HX:=Lib.hid hx
  clear hRb hOQ hG hx
  have k0:(0:Int)≤(k:Int):=by omega
  by_cases hlt:k < NP
  ·have k1:(k:Int) < (NP:Int):=by omega
   have hkp:k < ps.length:=by have:=HNP.out; omega
   have p0:=HX.out.cell (HPX.out k hkp)
   obtain ⟨P,hP⟩ : ∃ P:ByteArray,P=⟨(ps[k]).toArray⟩:=⟨_,rfl⟩
   rw [← hP] at p0
   have HP:=Lib.hid (show P.data.toList=ps[k] by rw [hP])
   clear hP
   obtain ⟨WQ,hWQ⟩ : ∃ WQ,WQ=wr.alloc (.cells #[.string P,.slice none 0 0,.int .i64 1000000] 101):=⟨_,rfl⟩
   obtain ⟨Q,hQ⟩ : ∃ Q,Q=wr.heap.size:=⟨_,rfl⟩
   have HQR:=Lib.hid (show R≤Q by rw [hQ,HRR.out]; exact HX.out.size)
   have HQB:=Lib.hid (show WQ.heap[Q]? = some (.cells #[.string P,.slice none 0 0,.int .i64 1000000] 101 (0,0)) by rw [hWQ,hQ]; exact heap_alloc_new wr _)
   have HXQ:=Lib.hid (show Ext wr WQ by rw [hWQ]; exact aP _ _)
   go_upto_region 8 with fail
   rw [← hWQ,← hQ]
   have HQQ:=Lib.hid hQ
   clear hWQ hQ p0
   go_cut [59] from 48 to 59 (fun s59 wx=>(∃ b:Bool,s59 = .bool b∧b=D1 xs k)∧wx=WQ)
   case first =>
    by_cases hkN:k < N
    ·have n1:(k:Int) < (N:Int):=by omega
     obtain ⟨a,rfl,hb,hcs⟩:=HC.out (by omega)
     have h3:=(X2.out.trans (HX.out.trans HXQ.out)).cell' (hcs k (by have:=HN.out; omega))
     have hxg:xs.getD k 0=xs[k]'(by have:=HN.out; omega):=by simp [List.getD,zq (show k < xs.length by have:=HN.out; omega)]
     generalize xs[k]'(by have:=HN.out; omega)=x at h3 hxg
     have HGT:=Lib.hid (show (x.tmod 3==0)=D1 xs k by unfold D1; rw [decide_eq_true (show k < xs.length by have:=HN.out; omega),hxg]; rfl)
     clear hcs hb hxg
     go_wp2
     go_meet
     case rel=>exact ⟨⟨_,rfl,by first | exact HGT.out | (rw [← HGT.out]; simp)⟩,rfl⟩
    ·have n1 : ¬ (k:Int) < (N:Int):=by omega
     go_wp2
     go_meet
     case rel=>exact ⟨⟨_,rfl,by unfold D1; rw [decide_eq_false (show ¬ k < xs.length by have:=HN.out; omega)]; rfl⟩,rfl⟩
   case rest =>
    obtain ⟨⟨b,rfl,hbN⟩,rfl⟩:=hcut
    have HBN:=Lib.hid hbN
    clear hbN
    go_upto_if 59 with fail
    go_cut [] from 60 to 66 (fun wx=>∃ u:Int,1≤u∧u≤1000000∧u=G5 xs k∧wx.heap[Q]? = some (.cells #[.string P,.slice none 0 0,.int .i64 u] 101 (0,0))∧Ext wr wx)
    case first =>
     cases b with
     | true =>
      have hkN:k < N:=by
       have h:=HBN.out
       unfold D1 at h
       have h2:=(Bool.and_eq_true_iff.1 h.symm).1
       have h3:=zd h2
       have:=HN.out
       omega
      have n1:(k:Int) < (N:Int):=by omega
      obtain ⟨a,rfl,hb,hcs⟩:=HC.out (by omega)
      have h3:=(X2.out.trans (HX.out.trans HXQ.out)).cell' (hcs k (by have:=HN.out; omega))
      have hxg:xs.getD k 0=xs[k]'(by have:=HN.out; omega):=by simp [List.getD,zq (show k < xs.length by have:=HN.out; omega)]
      generalize xs[k]'(by have:=HN.out; omega)=x at h3 hxg
      have HXG:=Lib.hid hxg
      clear hxg
      have u2:=df HQB.out 2 _ rfl
      have f2:=rx HQB.out 2
      clear hcs hb
      go_wp2_with fail
      (with_reducible refine (gK _ 20000 20000 _ rfl (by omega)).mono ?_)
      rintro e w4 ⟨z,rfl,hz,hz2,rfl⟩
      have HZ:=Lib.hid hz
      clear hz
      go_wp2
      go_meet
      case rel =>
       refine ⟨1 + (z:Int),by omega,by omega,by rw [G5,if_pos HBN.out.symm,HXG.out,HZ.out]; rfl,?_,?_⟩
       ·rw [Jr HQB.out]; rfl
       ·exact yl HXQ.out (by rw [HQQ.out]; exact Nat.le_refl _) _
     | false =>
      go_wp2
      go_meet
      case rel=>exact ⟨1000000,by omega,by omega,by rw [G5,if_neg (by rw [← HBN.out]; decide)],HQB.out,HXQ.out⟩
    case rest =>
     obtain ⟨u,hu1,hu2,hu3,hqb,hxq⟩:=hcut
     have HU3:=Lib.hid hu3
     clear hu3
     have HQC:=Lib.hid hqb
     have HXC:=Lib.hid hxq
     clear hqb hxq HBN HQB
     go_wp2
     go_loopw [10] (fun i2 wx=>∃ (kk:Nat) (vc:Value),i2 = .int .i64 kk∧kk≤nl∧wx.heap[Q]? = some (.cells #[.string P,vc,.int .i64 u] 101 (0,0))∧wx.ownsRow (Q + 1) 98 2 vc kk (bV (List.replicate kk qO))∧Ext wr wx) (fun i2 _=>nl - (intOf i2).toNat)
     case atStart=>exact ⟨0,_,rfl,by omega,HQC.out,World.ownsRow_nil _ _ _ 2,HXC.out⟩
     case round =>
      obtain ⟨kk,vc,rfl,hkk,hqb,ho,hxx⟩:=hrel
      obtain ⟨Av,cv,rfl,hv1,hv2⟩:=cx ho
      have HQX:=Lib.hid hqb
      have HO:=Lib.hid ho
      have HXX:=Lib.hid hxx
      clear hqb ho hxx
      have r0:=HXX.out.cell (df HRB.out 0 _ rfl)
      have kk0:(0:Int)≤(kk:Int):=by omega
      by_cases hlk:kk < nl
      ·have kk1:(kk:Int) < (nl:Int):=by omega
       have q1:=df HQX.out 1 _ rfl
       have f1:=rx HQX.out 1
       go_wp2_with (at_builtin; go_loud (refine wpList_append_own_at _ rfl (.tmp 75) (.tmp 77) 99 rfl (Q + 1) 98 c0 _ 2 16 Tryz.underlying99 hc hcz0 hcz1 hcz2 rfl (by decide) _ kk (bV (List.replicate kk qO)) rfl (HO.out.alloc _) ⟨_,0,none⟩ 1 1 [.int .i64 10000,.int .i64 10000] rfl rfl (Jo _ _ _ _) Zz ?c3 ?c4 ?c5 ?_))
       case c3=>simp [maxLen]; omega
       case c4=>omega
       case c5 =>
        have:=(Array.getElem?_eq_some_iff.1 HQX.out).1
        simp; omega
       intro v' w5 ho5 hg5 _ hat5
       have HQ5:=Lib.hid (QW (aP _ _) hg5 HQX.out (fun e=>by have:=(HO.out.lt Q e).1; omega))
       have HO5:=Lib.hid (show w5.ownsRow (Q + 1) 98 2 v' (kk + 1) (bV (List.replicate (kk + 1) qO)) by
        rw [List.replicate_succ',EN ]; exact ho5)
       have HX5:=Lib.hid ((HXX.out.trans (aP _ _)).trans' (cE hg5 (by have:=HXX.out.size; simp; omega) (Nt HO.out (by have:=HQQ.out; omega))))
       have q5:=df HQ5.out 1 _ rfl
       have f5:=rx HQ5.out 1
       obtain ⟨A5,c5,rfl,_,_⟩:=cx ho5
       clear ho5 hg5 hat5 q1 f1 r0
       go_wp2
       go_roundw
       case rel =>
        refine ⟨kk + 1,_,by simp,by omega,by rw [Jr HQ5.out]; rfl,?_,?_⟩
        ·exact HO5.out.kept (v8 _ Q 1 _) (.inr fun e=>by have:=(HO5.out.lt Q e).1; omega)
        ·exact yl HX5.out (by rw [HQQ.out]; exact Nat.le_refl _) _
       case measure=>simp [intOf]; omega
      ·obtain rfl:kk=nl:=by omega
       have kk1 : ¬ (kk:Int) < (kk:Int):=by omega
       have HROW:=Lib.hid (ld HOQ.out.row HXX.out)
       obtain ⟨Aq,cq,rfl,hcq1,hcq2⟩:=cx HROW.out
       obtain ⟨DL,hDL⟩ : ∃ DL,DL=ds.length:=⟨_,rfl⟩
       have hDL7:DL≤7:=by
        have h1:=congrArg List.length HG.out.paths
        rw [List.length_map,List.length_take] at h1
        omega
       have HROW2:=Lib.hid (show (_:World).ownsRow R 101 3 (.slice Aq DL cq) DL (fR qs) by have h:=HROW.out; rw [← hDL] at h; exact h)
       have r1:=HXX.out.cell (df HRB.out 1 _ rfl)
       rw [← hDL] at r1
       have q2:=df HQX.out 0 _ rfl
       have q3:=df HQX.out 1 _ rfl
       have q4:=df HQX.out 2 _ rfl
       have HDL:=Lib.hid hDL
       clear hDL HROW
       go_wp2_with (at_builtin; go_loud (refine wpList_append_own_at _ rfl (.tmp 81) (.tmp 83) 32 rfl R 101 q0 _ 3 48 Tryz.underlying32 hq hqz0 hqz1 hqz2 rfl (by decide) _ DL (fR qs) rfl (HROW2.out.alloc _) ⟨_,0,none⟩ 1 1 [.string P,.slice Av kk cv,.int .i64 u] rfl rfl (EM _ _ _ _ _) Zy ?e3 ?e4 ?e5 ?_))
       case e3=>simp [maxLen]; omega
       case e4=>omega
       case e5 =>
        have:=(Array.getElem?_eq_some_iff.1 HQX.out).1
        have:=HQR.out
        simp; omega
       intro v' w5 ho5 hg5 _ hat5
       have HRX:=Lib.hid ((HXX.out.block R (Array.getElem?_eq_some_iff.1 HRB.out).1).trans HRB.out)
       have hneR:(Value.slice Aq DL cq).ownBlock≠some R:=oU HROW2.out HRX.out (by decide)
       have HR5:=Lib.hid (QW (aP _ _) hg5 HRX.out hneR)
       have HX5:=Lib.hid (((HX.out.trans HXX.out).trans (aP _ _)).trans' (cE hg5 (by have:=(HX.out.trans HXX.out).size; simp; omega) (Nt HROW2.out (by rw [HRR.out]; exact Nat.le_refl _))))
       rw [HDL.out] at ho5 hg5
       have HOQ5:=Lib.hid (iV.snoc (q:=⟨P,Av,kk,cv,u⟩) (d:=⟨ps[k],List.replicate kk qO,u⟩) HOQ.out (HXX.out.trans (aP _ _)) ⟨HP.out,rfl,by simp,Dw (HO.out.alloc _) (by have:=HQR.out; omega)⟩
        (fun g hg i qi hqi e=>by
         have h1:=(HO.out.lt g hg).1
         have hil:i < ds.length:=by rw [← HOQ.out.len]; exact (zg.1 hqi).1
         have h2:=((HOQ.out.each i qi hil hqi).2.2.2.lt g e).2
         have:=HQQ.out
         omega) ho5 hg5)
       have q5:=df HR5.out 1 _ rfl
       have f5:=rx HR5.out 1
       obtain ⟨A5,c5,rfl,_,_⟩:=cx ho5
       have HG5:=Lib.hid (G1.snoc HG.out hkp hu1 hu2)
       have HE5:=Lib.hid (show E1 sh xs _ ps (k + 1) (ds ++ [⟨ps[k],List.replicate kk qO,u⟩]) by rw [HU3.out]; exact E1.step HE.out (by omega) hkp (by have:=HNP.out; omega) (by have:=HDL.out; omega))
       clear ho5 hg5 hat5 q2 q3 q4 r1 r0
       go_wp2
       go_roundw
       case rel =>
        refine ⟨k + 1,_,_,qs ++ [⟨P,Av,kk,cv,u⟩],by simp,by omega,by rw [Jr HR5.out]; rfl,?_,HG5.out,HE5.out,?_⟩
        ·exact HOQ5.out.kept (v8 _ R 1 _) HR5.out (by decide) (by decide)
        ·exact yl HX5.out (by rw [HRR.out]; exact Nat.le_refl _) _
       case measure=>simp [intOf]; omega
  ·obtain rfl:k=NP:=by omega
   have k1 : ¬ (k:Int) < (k:Int):=by omega
   have HGI:=Lib.hid (G1.start (HNP.out ▸ HG.out))
   have HE3:=Lib.hid (show E3 sh xs nl ps 0 ds from E1.end (by have h:=HE.out; rw [HNP.out] at h; exact h) (by have:=HNP.out; omega))
   clear HG HE
   go_wp2
   go_loopw [11] (fun i wr=>∃ (k':Nat) (vq:Value) (ds:List QD) (qs:List QC),i = .int .i64 k'∧k'≤k∧wr.heap[R]? = some (.cells #[.slice (some ⟨gl,0,none⟩) nl 2,vq] 34 (0,0))∧iV wr R vq ds qs∧GI nl ps k' ds∧E3 sh xs nl ps k' ds∧Ext W2 wr) (fun i _=>k - (intOf i).toNat)
   case atStart=>exact ⟨0,_,_,_,rfl,by omega,HRB.out,HOQ.out,HGI.out,HE3.out,HX.out⟩
   case round =>
    obtain ⟨i,vq,ds,qs,rfl,hik,hRb,hOQ,hG,hE,hx⟩:=hrel
    clear HRB HOQ HGI HX HE3
    have HE:=Lib.hid hE
    clear hE
    obtain ⟨Aq,cq,rfl,hcq1,hcq2⟩:=cx hOQ.row
    have HRB:=Lib.hid hRb
    have HOQ:=Lib.hid hOQ
    have HG:=Lib.hid hG
    have HX:=Lib.hid hx
    have HDK:=Lib.hid (show ds.length=k by rw [hG.gd.len]; exact HNP.out.symm)
    have r0:=df HRB.out 0 _ rfl
    have r1:=df HRB.out 1 _ rfl
    rw [HDK.out] at r1
    clear hRb hOQ hG hx k1 hcq1
    have i0:(0:Int)≤(i:Int):=by omega
    by_cases hlt:i < k
    ·have i1:(i:Int) < (k:Int):=by omega
     have hip:i < ps.length:=by have:=HNP.out; omega
     have p0:=HX.out.cell (HPX.out i hip)
     obtain ⟨P,hP⟩ : ∃ P:ByteArray,P=⟨(ps[i]).toArray⟩:=⟨_,rfl⟩
     rw [← hP] at p0
     have HP:=Lib.hid (show P.data.toList=ps[i] by rw [hP])
     clear hP
     go_wp2
     refine n7 Ext I1 [(0,true),(1,true),(2,true),(3,true),(4,true),(5,false),(6,true)] (by kernel_rfl) (by kernel_rfl) (fun _ _ _ _ _ h=>h) ?_
     repeat first | ((with_reducible refine rY ?_ ?_ ?_ ?_ (fun wk k1=>?_) ?_); rotate_left 2; (rfl); (first | exact qP rfl | exact want_some rfl rfl rfl rfl); (go_simp; first | exact OkX.val | (have c0':=k1.cell r0; have c1':=k1.cell r1; have c2':=k1.cell p0; go_simp; exact OkX.val)); simp only [Act.put,List.setIfInBounds_toArray,List.set_cons_zero,List.set_cons_succ]) | ((with_reducible refine sched_skip ?_ ?_ ?_ ?_); rotate_left; (rfl); (exact want_not rfl rfl rfl rfl rfl); simp only [Act.put,List.setIfInBounds_toArray,List.set_cons_zero,List.set_cons_succ])
     ((with_reducible refine Nf ?_ ?_ ?_ (fun wk k1=>?_)); rotate_left; (rfl); (first | exact qP rfl | exact want_some rfl rfl rfl rfl))
     have F0:=Lib.hid ((Ext.drew _).trans k1)
     clear k1 r0 r1 p0
     go_simp
     have hq7:ds.length≤1000:=by have:=HDK.out; omega
     have hp7:∀ q∈ds,q.path.length≤1000000000:=fun q hq=>by
      have h1:q.path∈ps:=by rw [← HG.out.gd.paths]; exact List.mem_map_of_mem hq
      rw [HPS.out] at h1
      have:=Kp y _ h1
      omega
     have hqq:=(HOQ.out.ext F0.out).rd
     rw [HDK.out] at hqq
     (with_reducible refine (Rp ds _ _ P _ hqq hq7 hp7).mono ?_)
     rintro e wk2 ⟨Ak,nk,ck,rfl,hnk,hok,hxk⟩
     refine ⟨hxk,?_⟩
     try simp only [Act.put,List.setIfInBounds_toArray,List.set_cons_zero,List.set_cons_succ]
     have F1:=Lib.hid (F0.out.trans hxk)
     obtain ⟨ks,hks⟩ : ∃ ks,ks=Bu ps[i] ps:=⟨_,rfl⟩
     have hkse:cu P.data.toList ds=ks:=by rw [DV,HP.out,HG.out.gd.paths,hks]
     rw [hkse] at hok hnk
     have HOK:=Lib.hid (Dw hok (show R≤_ by have:=F0.out.size; have:=HX.out.size; have:=HRR.out; omega))
     have hnk7:nk≤7:=by
      rw [hnk,hks]
      unfold Bu
      have:=List.length_filter_le (fun x=>decide (ps[i]≠[])&&decide (above x=ps[i])) ps
      have:=HNP.out
      omega
     have HNK:=Lib.hid hnk
     have HKS:=Lib.hid hks
     have HE4:=Lib.hid (show E4 sh xs nl ps i ks 0 ds by rw [hks]; exact E3.open HE.out hip (by have:=HNP.out; omega) HPS.out HG.out.gd.paths)
     clear hxk hok hnk hks hkse hqq hq7 hp7
     repeat first | ((with_reducible refine rY ?_ ?_ ?_ ?_ (fun wk k1=>?_) ?_); rotate_left 2; (rfl); (first | exact qP rfl | exact want_some rfl rfl rfl rfl); (go_simp; first | exact OkX.val); simp only [Act.put,List.setIfInBounds_toArray,List.set_cons_zero,List.set_cons_succ]) | ((with_reducible refine sched_skip ?_ ?_ ?_ ?_); rotate_left; (rfl); (exact want_not rfl rfl rfl rfl rfl); simp only [Act.put,List.setIfInBounds_toArray,List.set_cons_zero,List.set_cons_succ])
     refine wF (fun wz k1=>?_)
     have HOKz:=Lib.hid (ld HOK.out k1)
     have F2:=Lib.hid (F1.out.trans k1)
     obtain ⟨Ak',ck',eK,hck1,hck2⟩:=cx HOKz.out
     injection eK with eK1 eK2 eK3
     subst eK1 eK3
     clear k1 eK2
     go_wp2
     go_loopw [13] (fun l wr=>∃ (kk:Nat) (vq:Value) (ds:List QD) (qs:List QC),l = .int .i64 kk∧kk≤nl∧wr.heap[R]? = some (.cells #[.slice (some ⟨gl,0,none⟩) nl 2,vq] 34 (0,0))∧iV wr R vq ds qs∧GK nl ps i kk ds∧E4 sh xs nl ps i ks kk ds∧wr.ownsRow R 9 1 (.slice Ak nk ck) nk (ks.map sv)∧Ext W2 wr) (fun l _=>nl - (intOf l).toNat)
     case atStart=>exact ⟨0,_,_,_,rfl,by omega,(F2.out.block R (Array.getElem?_eq_some_iff.1 HRB.out).1).trans HRB.out,HOQ.out.ext F2.out,HG.out.toK,HE4.out,HOKz.out,HX.out.trans F2.out⟩
     case round =>
      obtain ⟨kk,vq,ds,qs,rfl,hkk,hRb,hOQ,hG,hE,hkr,hx⟩:=hrel
      clear HRB HOQ HG HX HDK HOKz HOK F0 F1 F2 HE HE4
      have HE:=Lib.hid hE
      clear hE
      have HRB:=Lib.hid hRb
      have HOQ:=Lib.hid hOQ
      have HG:=Lib.hid hG
      have HX:=Lib.hid hx
      have HKR:=Lib.hid hkr
      have r0:=df HRB.out 0 _ rfl
      clear hRb hOQ hG hx hkr
      have kk0:(0:Int)≤(kk:Int):=by omega
      by_cases hlk:kk < nl
      ·have kk1:(kk:Int) < (nl:Int):=by omega
       go_wp2
       go_loopw [14,15] (fun lf j wr=>∃ (jj:Nat) (left:Int) (vq:Value) (ds:List QD) (qs:List QC),lf = .int .i64 left∧j = .int .i64 jj∧jj≤nk∧wr.heap[R]? = some (.cells #[.slice (some ⟨gl,0,none⟩) nl 2,vq] 34 (0,0))∧iV wr R vq ds qs∧GJ nl ps i kk jj left ds∧E5 sh xs nl ps i ks kk jj left ds∧wr.ownsRow R 9 1 (.slice Ak nk ck) nk (ks.map sv)∧Ext W2 wr) (fun _ j _=>nk - (intOf j).toNat)
       case atStart=>exact ⟨0,10000,_,_,_,rfl,rfl,by omega,HRB.out,HOQ.out,HG.out.toJ,E4.open HE.out hlk hnl4,HKR.out,HX.out⟩
       case round =>
        obtain ⟨jj,left,vq,ds,qs,rfl,rfl,hjj,hRb,hOQ,hG,hE,hkr,hx⟩:=hrel
        clear HRB HOQ HG HX HKR r0 HE
        have HE:=Lib.hid hE
        clear hE
        obtain ⟨L,rfl⟩ : ∃ L:Nat,left=(L:Int):=⟨left.toNat,by have:=hG.lo; omega⟩
        have HRB:=Lib.hid hRb
        have HOQ:=Lib.hid hOQ
        have HG:=Lib.hid hG
        have HX:=Lib.hid hx
        have HKR:=Lib.hid hkr
        have l0:=hG.lo
        have l1:=hG.hi
        have j0:(0:Int)≤(jj:Int):=by omega
        clear hRb hOQ hG hx hkr
        by_cases hlj:jj < nk
        ·have j1:(jj:Int) < (nk:Int):=by omega
         go_upto_if 116 with fail
         go_cut [16] from 112 to 140 (fun s16 wx=>∃ n:Int,s16 = .int .i64 n∧0≤n∧n≤(L:Int)∧(jj + 1=nk→n=(L:Int))∧n=nV xs i jj kk ks.length (L:Int)∧Ext wr wx)
         case first =>
          by_cases hl2:jj + 1 < nk
          ·have n1:(jj:Int) < (nk:Int) - 1:=by omega
           have hrd:=HRD.out.ext (X2.out.trans HX.out)
           have HRX:=Lib.hid hrd
           clear hrd
           go_wp2_with fail
           (with_reducible refine (xS _ xs _ _ HRX.out (by omega) (by omega) (by omega)).mono ?_)
           rintro e w4 ⟨⟨z1,rfl,hz1⟩,rfl⟩
           have HZ1:=Lib.hid hz1
           clear hz1
           go_wp2_with fail
           (with_reducible refine (gK _ (L + 1) _ _ (by omega) (by omega)).mono ?_)
           rintro e w4 ⟨z,rfl,hz,hzl,rfl⟩
           have HZ:=Lib.hid hz
           clear hz
           have hz0:(0:Int)≤(z:Int):=by omega
           have hzl':(z:Int)≤(L:Int):=by omega
           go_wp2_with fail
           have HRX2:=Lib.hid (HRX.out.ext (aP _ (.cells #[.int .i64 0,.int .i64 ((L:Int) / 2),.int .i64 (L:Int),.int .i64 (z:Int)] 3)))
           obtain ⟨p,hp51,hpe,hw⟩:=RC i jj kk (by omega) (by omega) (by omega)
           rw [hw]
           have HPE:=Lib.hid hpe
           clear hw hpe
           (with_reducible refine (xS _ xs _ _ HRX2.out (by omega) (by omega) (by omega)).mono ?_)
           rintro e w4 ⟨⟨z2,rfl,hz2⟩,rfl⟩
           have HZ2:=Lib.hid hz2
           clear hz2
           go_wp2_with fail
           (with_reducible refine (gK _ 4 4 _ rfl (by omega)).mono ?_)
           rintro e w4 ⟨y4,rfl,hyy,hy4,rfl⟩
           have HYY:=Lib.hid hyy
           clear hyy
           have hnv:=YM (show jj + 1 < ks.length by have:=HNK.out; omega) HZ1.out (by first | rfl | omega) HZ2.out HPE.out HZ.out HYY.out
           obtain ⟨n,hn,hn0,hnl,hnn⟩ : ∃ n:Int,(#[Value.int .i64 0,.int .i64 ((L:Int) / 2),.int .i64 (L:Int),.int .i64 (z:Int)] : Array Value)[y4]? = some (.int .i64 n)∧0≤n∧n≤(L:Int)∧n=nV xs i jj kk ks.length (L:Int):=by
            clear HYY
            rcases y4 with _ | _ | _ | _ | y4
            ·exact ⟨0,rfl,by omega,by omega,hnv⟩
            ·exact ⟨(L:Int) / 2,rfl,by omega,by omega,hnv⟩
            ·exact ⟨(L:Int),rfl,by omega,by omega,hnv⟩
            ·exact ⟨(z:Int),rfl,by omega,by omega,hnv⟩
            ·omega
           have hcc:=fun (W:World)=>df (heap_alloc_new W (.cells #[.int .i64 0,.int .i64 ((L:Int) / 2),.int .i64 (L:Int),.int .i64 (z:Int)] 3 (0,0))) y4 _ hn
           have hy0':(0:Int)≤(y4:Int):=by omega
           have hy4':(y4:Int) < 4:=by omega
           have HN4:=Lib.hid hn
           have HNN:=Lib.hid hnn
           clear hn hnn hnv
           go_wp2
           go_meet
           case rel=>exact ⟨n,rfl,hn0,hnl,fun h=>by omega,HNN.out,aP _ _⟩
          ·have n1 : ¬ (jj:Int) < (nk:Int) - 1:=by omega
           go_wp2
           go_meet
           case rel=>exact ⟨(L:Int),rfl,l0,by omega,fun _=>rfl,by unfold nV; rw [if_neg (by have:=HNK.out; omega)],Ext.refl _⟩
         case rest =>
          obtain ⟨n,rfl,hn0,hnL,hlast,hnv,hxc⟩:=hcut
          obtain ⟨n,rfl⟩ : ∃ n':Nat,n=(n':Int):=⟨n.toNat,by omega⟩
          have HNV:=Lib.hid hnv
          clear hnv
          have HLAST:=Lib.hid hlast
          have HRBc:=Lib.hid ((hxc.block R (Array.getElem?_eq_some_iff.1 HRB.out).1).trans HRB.out)
          have HOQc:=Lib.hid (HOQ.out.ext hxc)
          have HKRc:=Lib.hid (ld HKR.out hxc)
          have HXc:=Lib.hid (HX.out.trans hxc)
          have HRX:=Lib.hid (HRD.out.ext (X2.out.trans HXc.out))
          clear hlast hxc HRB HOQ HKR HX
          go_wp2_with fail
          (with_reducible refine (xS _ xs _ _ HRX.out (by omega) (by omega) (by omega)).mono ?_)
          rintro e w4 ⟨⟨z1,rfl,hz1⟩,rfl⟩
          have HZ1:=Lib.hid hz1
          clear hz1
          go_wp2_with fail
          (with_reducible refine (gK _ (10000 - n + 1) _ _ (by omega) (by omega)).mono ?_)
          rintro e w4 ⟨z,rfl,hz,hzl,rfl⟩
          have HZ:=Lib.hid hz
          clear hz
          have hz0:(0:Int)≤(z:Int):=by omega
          have hzl':(z:Int)≤10000 - (n:Int):=by omega
          go_wp2_with fail
          obtain ⟨WM,hWM⟩ : ∃ WM,WM=wc.alloc (.cells #[.int .i64 10000,.int .i64 (n:Int),.int .i64 ((n:Int) + (z:Int))] 3):=⟨_,rfl⟩
          rw [← hWM]
          have HXM:=Lib.hid (show Ext wc WM by rw [hWM]; exact aP _ _)
          have HHM:=Lib.hid (show WM.heap[wc.heap.size]? = some (.cells #[.int .i64 10000,.int .i64 (n:Int),.int .i64 ((n:Int) + (z:Int))] 3 (0,0)) by rw [hWM]; exact heap_alloc_new wc _)
          clear hWM
          (with_reducible refine (xS _ xs _ _ (HRX.out.ext HXM.out) (by omega) (by omega) (by omega)).mono ?_)
          rintro e w4 ⟨⟨z2,rfl,hz2⟩,rfl⟩
          have HZ2:=Lib.hid hz2
          clear hz2
          go_wp2_with fail
          (with_reducible refine (gK _ 3 3 _ rfl (by omega)).mono ?_)
          rintro e w4 ⟨y3,rfl,hyy,hy3,rfl⟩
          have HYY:=Lib.hid hyy
          clear hyy
          have hmv:=YP (show n≤10000 by omega) HZ1.out (by first | rfl | omega) HZ2.out (by first | rfl | omega) HZ.out HYY.out
          obtain ⟨mo,hmo,hmo1,hmo2,hmm⟩ : ∃ mo:Int,(#[Value.int .i64 10000,.int .i64 (n:Int),.int .i64 ((n:Int) + (z:Int))] : Array Value)[y3]? = some (.int .i64 mo)∧(n:Int)≤mo∧mo≤10000∧mo=mV xs i jj kk (n:Int):=by
           clear HYY
           rcases y3 with _ | _ | _ | y3
           ·exact ⟨10000,rfl,by omega,by omega,hmv⟩
           ·exact ⟨(n:Int),rfl,by omega,by omega,hmv⟩
           ·exact ⟨(n:Int) + (z:Int),rfl,by omega,by omega,hmv⟩
           ·omega
          have hcc:=df HHM.out y3 _ hmo
          have hy0':(0:Int)≤(y3:Int):=by omega
          have hy3':(y3:Int) < 3:=by omega
          have HRBm:=Lib.hid ((HXM.out.block R (Array.getElem?_eq_some_iff.1 HRBc.out).1).trans HRBc.out)
          have HOQm:=Lib.hid (HOQc.out.ext HXM.out)
          have HKRm:=Lib.hid (ld HKRc.out HXM.out)
          have HXm:=Lib.hid (HXc.out.trans HXM.out)
          have HMM:=Lib.hid hmm
          clear hmo hmm hmv HRBc HOQc HKRc HRX
          go_wp2
          clear hcc HHM
          have hjks:jj < ks.length:=by have:=HNK.out; omega
          go_loopw [18] (fun mi wr=>∃ (m:Nat) (vq:Value),mi = .int .i64 m∧m≤k∧wr.heap[R]? = some (.cells #[.slice (some ⟨gl,0,none⟩) nl 2,vq] 34 (0,0))∧iV wr R vq (eU ks[jj] kk n mo ds m) qs∧wr.ownsRow R 9 1 (.slice Ak nk ck) nk (ks.map sv)∧Ext W2 wr) (fun mi _=>k - (intOf mi).toNat)
          case atStart=>exact ⟨0,_,rfl,by omega,HRBm.out,by rw [De]; exact HOQm.out,HKRm.out,HXm.out⟩
          case round =>
           obtain ⟨m,vq,rfl,hmk,hRb,hOQ,hkr,hx⟩:=hrel
           clear HRBm HOQm HKRm HXm HXc
           have hdk:ds.length=k:=by rw [HG.out.gk.gi.gd.len]; exact HNP.out.symm
           have m0:(0:Int)≤(m:Int):=by omega
           by_cases hmlt:m < k
           ·have m1:(m:Int) < (k:Int):=by omega
            have hmd:m < ds.length:=by omega
            have hml:m < (eU ks[jj] kk n mo ds m).length:=by rw [gN]; exact hmd
            have hsg:=zT ks[jj] kk n mo ds m hmd hml
            have hcl:(eU ks[jj] kk n mo ds m)[m].caps.length=nl:=by rw [hsg]; exact (HG.out.gk.gi.gd.each _ (List.getElem_mem hmd)).1
            obtain ⟨gq,cq',g,cc,ev,h1,hBg,hglt,⟨cur,hcur⟩,hfz,e1,e2,hput⟩:=hOQ.put hml (k:=kk) (by rw [hcl]; exact hlk)
            obtain ⟨q,hqm⟩ : ∃ q,qs[m]? = some q:=⟨qs[m]'(by rw [hOQ.len]; exact hml),zq _⟩
            have hqp:=(hOQ.each m q hml hqm).1
            rw [hsg] at hqp
            have hrow:=hOQ.row
            rw [ev] at hrow hRb
            have pc:=hrow.cellAt (m * 3) (by omega)
            rw [(tF qs m q hqm).1] at pc
            rw [gN,hdk] at hRb
            rw [hcl] at h1
            obtain ⟨gk,rfl⟩ : ∃ gk,Ak=some ⟨gk,0,none⟩:=by
             rcases hkr.2 with ⟨_,h0⟩ | ⟨gk,_,_,e,_⟩
             ·omega
             ·injection e with e; exact ⟨gk,e⟩
            have kc:=hkr.cellAt jj (by omega)
            rw [List.getElem?_map,zq hjks] at kc
            obtain ⟨Kb,hKb⟩ : ∃ Kb:ByteArray,Kb=⟨(ks[jj]).toArray⟩:=⟨_,rfl⟩
            have kc:wr.cell? ⟨gk,jj,none⟩=some (.string Kb):=by rw [hKb]; exact kc
            have HKB:=Lib.hid (show Kb.data.toList=ks[jj] by rw [hKb])
            have r1:=df hRb 1 _ rfl
            have HQP:=Lib.hid hqp
            have HOQ:=Lib.hid hOQ
            have HRB:=Lib.hid hRb
            have HKR:=Lib.hid hkr
            have HX:=Lib.hid hx
            have HPUT:=Lib.hid (hput n mo)
            have HCUR:=Lib.hid hcur
            have HEV:=Lib.hid ev
            clear hKb hqp hrow hqm ev hOQ hRb hkr hx hput hcur hsg
            generalize ((eU ks[jj] kk n mo ds m)[m].caps[kk]'(by rw [hcl]; exact hlk)).1=o1 at e1
            generalize ((eU ks[jj] kk n mo ds m)[m].caps[kk]'(by rw [hcl]; exact hlk)).2=o2 at e2
            have HCL:=Lib.hid hcl
            clear hcl hdk
            have hkn0:(kk:Int) < (nl:Int):=by omega
            by_cases heq:q.p=Kb
            ·have q1:(q.p.toList==Kb.toList)=true:=by rw [heq]; simp
             have HEQ:=Lib.hid (show ds[m].path=ks[jj] by rw [← HQP.out,heq,HKB.out])
             clear heq
             go_wp2
             refine n7 Ext I1 [(0,true),(1,true),(2,true),(3,true),(4,true),(5,true),(6,true),(7,true),(8,true),(9,true),(10,true)] (by kernel_rfl) (by kernel_rfl) (fun _ _ _ _ _ h=>h) ?_
             repeat first | ((with_reducible refine rY ?_ ?_ ?_ ?_ (fun wk k1=>?_) ?_); rotate_left 2; (rfl); (first | exact qP rfl | exact want_some rfl rfl rfl rfl); (go_simp; first | exact OkX.val | (have c0':=k1.cell r1; have c1':=k1.cell pc; have c2':=k1.cell kc; go_simp; exact OkX.val)); simp only [Act.put,List.setIfInBounds_toArray,List.set_cons_zero,List.set_cons_succ]) | ((with_reducible refine sched_skip ?_ ?_ ?_ ?_); rotate_left; (rfl); (exact want_not rfl rfl rfl rfl rfl); simp only [Act.put,List.setIfInBounds_toArray,List.set_cons_zero,List.set_cons_succ])
             refine wF (fun wz k1=>?_)
             have FZ:=Lib.hid ((Ext.drew _).trans k1)
             clear k1
             have z1:=FZ.out.cell r1
             obtain ⟨gq2,cq2,g',cc',ev2,z2,hBg',hglt',⟨cur',hcur'⟩,hfz',z3,z4,hput'⟩:=(HOQ.out.ext FZ.out).put hml (k:=kk) (by rw [HCL.out]; exact hlk)
             have ee:=HEV.out.symm.trans ev2
             injection ee with ee1 ee2 ee3
             injection ee1 with ee1
             injection ee1 with ee1
             subst ee1
             rw [HCL.out] at z2
             generalize ((eU ks[jj] kk n mo ds m)[m].caps[kk]'(by rw [HCL.out]; exact hlk)).1=o1' at z3
             generalize ((eU ks[jj] kk n mo ds m)[m].caps[kk]'(by rw [HCL.out]; exact hlk)).2=o2' at z4
             have HP2:=Lib.hid (hput' n mo)
             have HCUR2:=Lib.hid hcur'
             have f1:=hfz' (kk * 2)
             have f2:=hfz' (kk * 2 + 1)
             have hneR:R≠g':=fun e=>by
              have h9:=(FZ.out.block R (Array.getElem?_eq_some_iff.1 HRB.out).1).trans HRB.out
              rw [e,hcur'] at h9
              injection h9 with h9
              injection h9 with _ h9
              exact absurd h9 (by decide)
             clear ee2 ee3 ev2 hput' hcur' hfz' pc kc r1 h1 e1 e2 hfz
             go_wp2
             go_roundw
             case rel =>
              refine ⟨m + 1,vq,by simp,by omega,?_,?_,?_,?_⟩
              ·rw [HP2.out.2.block R (by have:=FZ.out.size; have:=(Array.getElem?_eq_some_iff.1 HRB.out).1; omega) (fun e=>by injection e with e; exact hneR e),FZ.out.block R (Array.getElem?_eq_some_iff.1 HRB.out).1,HEV.out,gN,HG.out.gk.gi.gd.len,← HNP.out]
               exact HRB.out
              ·rw [GL hmd HEQ.out]; exact HP2.out.1
              ·exact (ld HKR.out FZ.out).kept HP2.out.2 (.inr (oU (ld HKR.out FZ.out) HCUR2.out (by decide)))
              ·exact (HX.out.trans FZ.out).trans' (cE HP2.out.2 (HX.out.trans FZ.out).size (fun k e=>by injection e with e; rw [← HRR.out,← e]; exact hBg'))
             case measure=>simp [intOf]; omega
            ·have q1:(q.p.toList==Kb.toList)=false:=XA heq
             have HNE:=Lib.hid (show ds[m].path≠ks[jj] from fun e=>heq (XB (by rw [HQP.out,e,HKB.out])))
             clear heq
             go_wp2
             refine n7 Ext I1 [(0,true),(1,true),(2,true),(3,true),(4,true),(5,true),(6,true),(7,true),(8,true),(9,true),(10,true)] (by kernel_rfl) (by kernel_rfl) (fun _ _ _ _ _ h=>h) ?_
             repeat first | ((with_reducible refine rY ?_ ?_ ?_ ?_ (fun wk k1=>?_) ?_); rotate_left 2; (rfl); (first | exact qP rfl | exact want_some rfl rfl rfl rfl); (go_simp; first | exact OkX.val | (have c0':=k1.cell r1; have c1':=k1.cell pc; have c2':=k1.cell kc; go_simp; exact OkX.val)); simp only [Act.put,List.setIfInBounds_toArray,List.set_cons_zero,List.set_cons_succ]) | ((with_reducible refine sched_skip ?_ ?_ ?_ ?_); rotate_left; (rfl); (exact want_not rfl rfl rfl rfl rfl); simp only [Act.put,List.setIfInBounds_toArray,List.set_cons_zero,List.set_cons_succ])
             refine wF (fun wz k1=>?_)
             have FZ:=Lib.hid ((Ext.drew _).trans k1)
             clear k1
             go_wp2
             go_roundw
             case rel=>exact ⟨m + 1,vq,by simp,by omega,by rw [HEV.out,gN,HG.out.gk.gi.gd.len,← HNP.out]; exact (FZ.out.block R (Array.getElem?_eq_some_iff.1 HRB.out).1).trans HRB.out,by rw [Ky hmd HNE.out]; exact HOQ.out.ext FZ.out,ld HKR.out FZ.out,HX.out.trans FZ.out⟩
             case measure=>simp [intOf]; omega
           ·obtain rfl:m=k:=by omega
            have m1 : ¬ (m:Int) < (m:Int):=by omega
            have hvl:∃ A' c',vq = .slice A' m c':=by
             obtain ⟨A',c',e,_,_⟩:=cx hOQ.row
             rw [gN,hdk] at e
             exact ⟨A',c',e⟩
            obtain ⟨A',c',rfl⟩:=hvl
            have hst:eU ks[jj] kk n mo ds m=iJ ks[jj] kk n mo ds:=by
             rw [← GM,hdk]
            rw [hst] at hOQ
            have hr1:=df hRb 1 _ rfl
            have HRB:=Lib.hid hRb
            have HOQ:=Lib.hid hOQ
            have HKR:=Lib.hid hkr
            have HX:=Lib.hid hx
            have HGS:=Lib.hid (show GJ nl ps i kk (jj + 1) ((L:Int) - (n:Int)) (iJ ks[jj] kk n mo ds) by
             have hkd:cu ps[i] ds=ks:=by rw [DV,HG.out.gk.gi.gd.paths,HKS.out]
             have h:=GJ.step (n:=(n:Int)) (mo:=mo) HG.out HNO.out hip (by rw [hkd]; exact hjks) hlk hn0 hnL (by rw [hkd,← HNK.out]; exact HLAST.out) hmo1 hmo2
             simp only [hkd] at h
             exact h)
            have HES:=Lib.hid (show E5 sh xs nl ps i ks kk (jj + 1) ((L:Int) - (n:Int)) (iJ ks[jj] kk n mo ds) by
             have h:=E5.step HE.out hjks (by have:=HNK.out; omega) (by omega) hnl4 hlk l0 l1 (by omega) (fun q hq=>(HG.out.gk.gi.gd.each q hq).1)
             rw [← HNV.out,← HMM.out] at h
             exact h)
            clear hst hOQ hRb hkr hx hdk
            go_wp2
            go_roundw
            case rel=>exact ⟨jj + 1,(L:Int) - (n:Int),_,_,_,rfl,by simp,by omega,HRB.out,HOQ.out,HGS.out,HES.out,HKR.out,HX.out⟩
            case measure=>simp [intOf]; omega
        ·obtain rfl:jj=nk:=by omega
         have j1 : ¬ (jj:Int) < (jj:Int):=by omega
         have HGE:=Lib.hid (GJ.end HG.out (fun h=>by rw [DV,HG.out.gk.gi.gd.paths,← HKS.out]; exact HNK.out))
         have HEE:=Lib.hid (show E4 sh xs nl ps i ks (kk + 1) ds from E5.end (by have h:=HE.out; rw [HNK.out] at h; exact h) (by have:=HNK.out; omega))
         go_wp2
         go_roundw
         case rel=>exact ⟨kk + 1,_,_,_,by simp,by omega,HRB.out,HOQ.out,HGE.out,HEE.out,HKR.out,HX.out⟩
         case measure=>simp [intOf]; omega
      ·obtain rfl:kk=nl:=by omega
       have kk1 : ¬ (kk:Int) < (kk:Int):=by omega
       have HGE:=Lib.hid (GK.end HG.out)
       have HEE:=Lib.hid (E4.end HE.out hnl4)
       go_wp2
       go_roundw
       case rel=>exact ⟨i + 1,_,_,_,by simp,by omega,HRB.out,HOQ.out,HGE.out,HEE.out,HX.out⟩
       case measure=>simp [intOf]; omega
    ·obtain rfl:i=k:=by omega
     have i1 : ¬ (i:Int) < (i:Int):=by omega
     have HRES:=Lib.hid ((HX.out.block w.heap.size (Array.getElem?_eq_some_iff.1 HR0.out).1).trans HR0.out)
     have HLBX:=Lib.hid ((HX.out.block gl (Array.getElem?_eq_some_iff.1 HL2.out).1).trans HL2.out)
     have y0:=df HRES.out 0 _ rfl
     have y1:=df HRES.out 1 _ rfl
     have g0:=rx HRES.out 0
     have g1:=rx HRES.out 1
     have hRw:R≠w.heap.size:=by have:=HRR.out; have:=HS2.out; omega
     go_wp2
     refine bodyPost_ret (by simp [results,Tryz.results23,go_sem,y0,y1]; try rfl) rfl ?_
     have hgr:wr.grownBy ((wr.setCell ⟨w.heap.size,0,none⟩ (.slice (some ⟨gl,0,none⟩) nl 2)).setCell ⟨w.heap.size,1,none⟩ (.slice Aq i cq)) (some w.heap.size) :=
      ⟨rfl,rfl,rfl,by simp [World.setCell],fun k _ hk=>(Below.heap_setCell _ _ _ _ (fun e=>hk (by rw [e]))).trans (Below.heap_setCell _ _ _ _ (fun e=>hk (by rw [e])))⟩
     have hdk:=HDK.out
     refine ⟨nl,hnl5,hnl4,_,_,ds,qs,R,rfl,by have:=HRR.out; have:=HS2.out; omega,?_,?_,?_,?_,E3.end (by have h:=HE.out; rw [HNP.out] at h; exact h) (by have:=HNP.out; omega)⟩
     ·exact (Qq w.heap.size gl nl HLBX.out HGL.out hnl4).kept hgr (.inr (oU (Qq w.heap.size gl nl HLBX.out HGL.out hnl4) HRES.out (by decide)))
     ·have h:=HOQ.out.kept hgr HRES.out (by decide) (by decide)
      rw [hdk] at h
      exact h
     ·have e:(sh % 5).toNat=y:=by have:=HY.out; omega
      rw [e,← HPS.out,← HNP.out]
      exact HG.out
     ·exact yl (yl (X2.out.trans HX.out) (Nat.le_refl _) _) (Nat.le_refl _) _
def bj (oy:Int) (v_n:Int) : Option (Int) :=
 (FV oy v_n).bind fun b1=>let v_k:Int:=b1
 (if (decide (v_k < 0))=true then
 let v_k:Int:=(i64.wrap (v_k + v_n))
 some v_k
 else
 some v_k).bind fun j2=>let v_k:=j2
 some v_k
def nz (v_x:aE) : Option (Bool) :=
 (if (decide ((v_x.fNs.length:Int)≤30))=true then some (decide ((v_x.mp.length:Int)≤80)) else some false).bind fun q1=>some q1
def vy (v_n:Int) : Option (av) :=
 (bj v_n 5).bind fun c1=>(aw ([(⟨1,1⟩ : av),(⟨2,1⟩ : av),(⟨4,4⟩ : av),(⟨3,2⟩ : av),(⟨1,3⟩ : av)] : (List av)) c1).bind fun b2=>some b2
def ku (v_c:ay) (st:(List ByteArray)×Int) : Option (((List ByteArray)×Int)⊕(((List ByteArray)×Int))) :=
 let v_l:=st.1
 let v_i:=st.2
 if (decide (v_i < (v_c.ae.length:Int)))=true then
 (aw v_c.ae v_i).bind fun b1=>(kh v_c b1.aK).bind fun c2=>if c2=true then
 (aw v_c.ae v_i).bind fun b3=>(aW v_l [b3.aK]).bind fun b4=>let v_l:(List ByteArray):=b4
 let v_i:Int:=(i64.wrap (v_i + 1))
 some (.inl (v_l,v_i))
 else
 let v_i:Int:=(i64.wrap (v_i + 1))
 some (.inl (v_l,v_i))
 else
 some (.inr (v_l,v_i))
def vz (v_c:ay) : Option ((List ByteArray)) :=
 let v_l:(List ByteArray):=[]
 let v_i:Int:=0
 (ah (ku v_c) ac (v_l,v_i)).bind fun r5 =>
 let v_l:=r5.1
 let v_i:=r5.2
 some v_l
def fM (v_s:aa) (v_p:az) (v_a:aQ) (st:aH×Int) : Option ((aH×Int)⊕((aH×Int))) :=
 let v_x:=st.1
 let v_i:=st.2
 if (decide (v_i < (v_s.ab.length:Int)))=true then
 (aw v_s.ab v_i).bind fun b18=>(if (b18.bz==v_p.fId)=true then (bj (i64.wrap (v_a.fD + v_i)) 11).bind fun c19=>some (c19==10) else some false).bind fun q20=>if q20=true then
 (aw v_s.ab v_i).bind fun b21=>(aW v_x.fW [b21.fId]).bind fun b22=>let v_x:aH:={ v_x with fW:=b22 }
 let v_i:Int:=(i64.wrap (v_i + 1))
 some (.inl (v_x,v_i))
 else
 let v_i:Int:=(i64.wrap (v_i + 1))
 some (.inl (v_x,v_i))
 else
 some (.inr (v_x,v_i))
def nA (v_a:aQ) (v_s:aa) : Option (aH) :=
 let v_x:aH:=(⟨5,0,0,0,⟨#[]⟩,aB.zero,az.zero,[],[],a6.zero⟩ : aH)
 if ((v_s.ao.length:Int)==0)=true then
 some v_x
 else
 (bj v_a.fA (v_s.ao.length:Int)).bind fun c1=>(aw v_s.ao c1).bind fun b2=>let v_p:az:=b2
 (bj v_a.fB 8).bind fun c3=>let t4:Int:=v_p.fId
 let t5:Int:=(i64.wrap ((i64.wrap (v_p.co + 1)) - (i64.wrap (Int.tdiv c3 6))))
 let v_x:aH:={ v_x with fId:=t4 }
 let v_x:aH:={ v_x with co:=t5 }
 (if (decide ((Int.tmod v_a.fC 3) > 0))=true then
 (bj v_a.fB 5).bind fun c7=>(bj v_a.fC (v_s.bL.al.length:Int)).bind fun c8=>(vy v_a.fD).bind fun c9=>(bj v_a.fD 7).bind fun c10=>let v_k:aJ:=(⟨c7,c8,c9,c10,(-1),(-1),0⟩ : aJ)
 (if ((Int.tmod v_a.fD 4)==1)=true then
 (bj v_a.fC 3).bind fun c12=>let v_k:aJ:={ v_k with fV:=c12 }
 some (v_k,v_x)
 else
 some (v_k,v_x)).bind fun j11=>let v_k:=j11.1
 let v_x:=j11.2
 (if ((Int.tmod v_a.fD 4)==2)=true then
 (bj v_a.fC 3).bind fun c14=>(bj v_a.fB 6).bind fun c15=>let t16:Int:=c14
 let t17:Int:=c15
 let v_k:aJ:={ v_k with fV:=t16 }
 let v_k:aJ:={ v_k with bf:=t17 }
 some (v_k,v_x)
 else
 some (v_k,v_x)).bind fun j13=>let v_k:=j13.1
 let v_x:=j13.2
 let v_x:aH:={ v_x with bQ:=([v_k] : (List aJ)) }
 some v_x
 else
 some v_x).bind fun j6=>let v_x:=j6
 let v_i:Int:=0
 (ah (fM v_s v_p v_a) ac (v_x,v_i)).bind fun r23 =>
 let v_x:=r23.1
 let v_i:=r23.2
 some v_x
def gZ (v_s:aa) (v_a:aQ) (bC:Int) (st:aH×Int) : Option ((aH×Int)⊕((aH×Int))) :=
 let v_x:=st.1
 let v_i:=st.2
 if (decide (v_i < (v_s.ar.length:Int)))=true then
 (aw v_s.ar v_i).bind fun b14=>if (b14.fId==bC)=true then
 (aw v_s.ar v_i).bind fun b15=>(bj v_a.fB 8).bind fun c16=>let v_x:aH:={ v_x with co:=(i64.wrap ((i64.wrap (b15.co + 1)) - (i64.wrap (Int.tdiv c16 6)))) }
 let v_i:Int:=(i64.wrap (v_i + 1))
 some (.inl (v_x,v_i))
 else
 let v_i:Int:=(i64.wrap (v_i + 1))
 some (.inl (v_x,v_i))
 else
 some (.inr (v_x,v_i))
def gY (v_s:aa) (bC:Int) (v_a:aQ) (st:aH×Int) : Option ((aH×Int)⊕((aH×Int))) :=
 let v_x:=st.1
 let aU:=st.2
 if (decide (aU < (v_s.ab.length:Int)))=true then
 (aw v_s.ab aU).bind fun b18=>(if (b18.bf==bC)=true then (bj (i64.wrap (v_a.fC + aU)) 9).bind fun c19=>some (c19==8) else some false).bind fun q20=>if q20=true then
 (aw v_s.ab aU).bind fun b21=>(aW v_x.fW [b21.fId]).bind fun b22=>let v_x:aH:={ v_x with fW:=b22 }
 let aU:Int:=(i64.wrap (aU + 1))
 some (.inl (v_x,aU))
 else
 let aU:Int:=(i64.wrap (aU + 1))
 some (.inl (v_x,aU))
 else
 some (.inr (v_x,aU))
def g5 (v_a:aQ) (v_s:aa) : Option (aH) :=
 (bj v_a.fA 6).bind fun c1=>let t2:Int:=c1
 let t3:Int:=(v_s.bL.al.length:Int)
 let bC:Int:=t2
 let qQ:Int:=t3
 (vz v_s.bL).bind fun c4=>let jQ:(List ByteArray):=c4
 (bj v_a.fB 4).bind fun c5=>let v_x:aH:=(⟨0,bC,0,(i64.wrap (1 + c5)),⟨#[]⟩,aB.zero,az.zero,[],[],a6.zero⟩ : aH)
 (bj v_a.hZ 16).bind fun c6=>((if (c6==0)=true then some true else some (c6==1))).bind fun q7=>(if q7=true then
 let v_x:aH:={ v_x with hZ:=2 }
 (bj v_a.fB qQ).bind fun c9=>(bj v_a.fC 3).bind fun c10=>(bj v_a.fD 12).bind fun c11=>(bj v_a.fD 8).bind fun c12=>let v_x:aH:={ v_x with bf:=(⟨bC,c9,c10,(⟨(i64.wrap (4 + c11)),(i64.wrap (4 + c12))⟩ : av),0,0,false⟩ : aB) }
 some v_x
 else
 ((if (c6==2)=true then some true else if (c6==3)=true then some true else if (c6==4)=true then some true else some (c6==5))).bind fun q13=>if q13=true then
 let v_x:aH:={ v_x with hZ:=3 }
 let v_i:Int:=0
 (ah (gZ v_s v_a bC) ac (v_x,v_i)).bind fun r17 =>
 let v_x:=r17.1
 let v_i:=r17.2
 let aU:Int:=0
 (ah (gY v_s bC v_a) ac (v_x,aU)).bind fun r23 =>
 let v_x:=r23.1
 let aU:=r23.2
 some v_x
 else
 ((if (c6==6)=true then some true else some (c6==7))).bind fun q24=>if q24=true then
 let v_x:aH:={ v_x with hZ:=4 }
 (bj v_a.fA 20).bind fun c25=>(bj v_a.fB (jQ.length:Int)).bind fun c26=>(aw jQ c26).bind fun b27=>(bj v_a.fC 3).bind fun c28=>(bj v_a.fD 3).bind fun c29=>(vy (i64.wrap (Int.tdiv v_a.fD 3))).bind fun c30=>let v_x:aH:={ v_x with bz:=(⟨c25,0,b27,c28,c29,c30,[],0,0,[],[],[],[]⟩ : az) }
 some v_x
 else
 ((if (c6==8)=true then some true else if (c6==9)=true then some true else some (c6==10))).bind fun q31=>if q31=true then
 (nA v_a v_s).bind fun c32=>let v_x:aH:=c32
 some v_x
 else
 if (c6==11)=true then
 (bj v_a.fB 2).bind fun c33=>(aw ([6,7] : (List Int)) c33).bind fun b34=>let v_x:aH:={ v_x with hZ:=b34 }
 (bj v_a.fA 20).bind fun c35=>let v_x:aH:={ v_x with fId:=c35 }
 some v_x
 else
 ((if (c6==12)=true then some true else some (c6==13))).bind fun q36=>if q36=true then
 let v_x:aH:={ v_x with hZ:=8 }
 (bj v_a.fA 5).bind fun c37=>let v_x:aH:={ v_x with fN:=(i64.wrap (1 + c37)) }
 some v_x
 else
 if (c6==14)=true then
 (bj v_a.fD 3).bind fun c38=>(aw ([9,9,10] : (List Int)) c38).bind fun b39=>let v_x:aH:={ v_x with hZ:=b39 }
 (bj v_a.fB qQ).bind fun c40=>(bj v_a.fC 5).bind fun c41=>(vy v_a.fD).bind fun c42=>let v_x:aH:={ v_x with pv:=(⟨bC,c40,(i64.wrap (v_s.cP + c41)),(i64.wrap (v_s.cP + 20)),c42⟩ : a6) }
 (bj v_a.fC 12).bind fun c43=>let v_x:aH:={ v_x with fN:=(i64.wrap (1 + c43)) }
 some v_x
 else
 if (c6==15)=true then
 (bj v_a.fA 3).bind fun c44=>(aw ([11,1,1] : (List Int)) c44).bind fun b45=>let v_x:aH:={ v_x with hZ:=b45 }
 (fO v_a.fB ([v_a.fC,v_a.fD] : (List Int))).bind fun c46=>(yG c46).bind fun c47=>let v_x:aH:={ v_x with Lm:=c47 }
 some v_x
 else
 some v_x).bind fun j8=>let v_x:=j8
 some v_x
def dg (v_x:aE) (st:aa×Int) : Option ((aa×Int)⊕((aa×Int))) :=
 let v_s:=st.1
 let v_i:=st.2
 if (decide (v_i < (v_x.mp.length:Int)))=true then
 (aw v_x.mp v_i).bind fun b6=>(g5 b6 v_s).bind fun c7=>(nW v_s c7).bind fun c8=>let v_s:aa:=c8.1
 let v_i:Int:=(i64.wrap (v_i + 1))
 some (.inl (v_s,v_i))
 else
 some (.inr (v_s,v_i))
def cL (v_x:aE) : Option (aa) :=
 (JJ).bind fun c1=>let v_s:aa:=c1
 (fO v_x.I0 v_x.fNs).bind fun c2=>(yG c2).bind fun c3=>(nW v_s (⟨1,0,0,0,c3,aB.zero,az.zero,[],[],a6.zero⟩ : aH)).bind fun c4=>let v_t:aa:=c4.1
 let v_o:bk:=c4.2
 (if (v_o.Yj==0)=true then
 let v_s:aa:=v_t
 some v_s
 else
 some v_s).bind fun j5=>let v_s:=j5
 let v_i:Int:=0
 (ah (dg v_x) ac (v_s,v_i)).bind fun r9 =>
 let v_s:=r9.1
 let v_i:=r9.2
 some v_s
def Ig:Ent:=⟨[.lf (.int .i64),.lf (.sl (.int .i64))],[.ag 5],fun x=>fO x.1 x.2.1⟩
def B3:Ent:=⟨[.lf (.int .i64),.lf (.int .i64)],[.lf (.int .i64)],fun x=>bj x.1 x.2.1⟩
theorem uV:EOk prog 54 B3:=aI (.s .n (.s .n (.s (.s .n (.j [.leaf 5 (.int .i64)] .n)) .n))) [] [] [] .nil Tryz.mixed Tryz.func54
def B4:Ent:=⟨[.ag 5],[.lf (.sl (.str))],fun x=>vz x.1⟩
theorem MZ:EOk prog 55 B4:=aI (.s .n (.s .n (.s (.s .n (.s (.lp [.row 3 3 9 1 (.str),.leaf 4 (.int .i64)] 0 false .n) .n)) .n))) [(5,[27,28])] [] [] (.cons AV .nil) Tryz.mixed Tryz.func55
def Ie:Ent:=⟨[.lf (.int .i64)],[.ag 0],fun x=>vy x.1⟩
theorem Ic:EOk prog 56 Ie:=aI .n [] [2] [] (.cons uV .nil) Tryz.mixed Tryz.func56
def tj:Ent:=⟨[.ag 15,.ag 12],[.ag 9],fun x=>nA x.1 x.2.1⟩
theorem Cw:EOk prog 57 tj:=aI (.s .n (.s .n (.s .n (.s .n (.s .n (.s (.s .n (.j [.box 5 73 9 [(28,1128,3,1,.int .i64)]] (.s (.s .n (.s (.s .n (.j [.box 7 126 1 [],.box 5 73 9 [(28,1128,3,1,.int .i64)]] .n)) (.s (.s .n (.j [.box 7 126 1 [],.box 5 73 9 [(28,1128,3,1,.int .i64)]] .n)) .n))) .n))) (.s (.s .n (.s (.lp [.box 5 73 9 [(28,1128,3,1,.int .i64)],.leaf 8 (.int .i64)] 0 false .n) .n)) .n))))))) [(4,[79,113,114]),(5,[79,113,114]),(7,[79,113,114]),(9,[79,113,114]),(11,[79,113,114]),(16,[79,113,114])] [4] [] (.cons uV (.cons Ic .nil)) Tryz.mixed Tryz.func57
def FP:Ent:=⟨[.ag 15,.ag 12],[.ag 9],fun x=>g5 x.1 x.2.1⟩
theorem FM (x:cJ [.ag 15,.ag 12]) : kz ⟨prog,[(54,B3),(55,B4),(56,Ie),(57,tj),(23,Ig),(22,AW)],230,[.ag 9],[.cell 4 73],[(1,[118,119,157,179,212,225]),(2,[118,119,157,179,212,225]),(3,[118,119,157,179,212,225]),(4,[118,119,157,179,212,225]),(8,[118,119,157,179,212,225]),(18,[118,119,157,179,212,225]),(22,[118,119,157,179,212,225]),(27,[118,119,157,179,212,225]),(31,[118,119,157,179,212,225]),(33,[118,119,179,212,225]),(34,[118,119,157,179,212,225]),(38,[118,119,157,179,212,225]),(40,[118,119,157,212,225]),(41,[118,119,157,179,212,225]),(42,[118,119,157,179,212,225]),(44,[118,119,157,179,225]),(45,[118,119,157,179,212])],[4],[]⟩ ((Tryz.f24).body.getD .skip) (.s (.n) (.s (.n) (.s (.n) (.s (.n) (.s (.s (.n) (.s (.s (.s (.n) (.j [.leaf 30 (.bool)] (.n))) (.j [.box 8 73 9 []] (.s (.n) (.s (.s (.n) (.j [.leaf 53 (.bool)] (.n))) (.s (.s (.n) (.s (.s (.n) (.s (.lp [.box 8 73 9 [(28,1188,3,1,.int .i64)],.leaf 9 (.int .i64)] 1 false (.n)) .n)) (.s (.n) (.s (.lp [.box 8 73 9 [(28,1188,3,1,.int .i64)],.leaf 10 (.int .i64)] 3 false (.n)) .n)))) (.s (.s (.n) (.j [.leaf 121 (.bool)] (.n))) (.s (.n) (.s (.s (.n) (.j [.leaf 148 (.bool)] (.n))) (.s (.n) (.s (.n) (.s (.n) (.s (.s (.n) (.j [.leaf 168 (.bool)] (.n))) (.n))))))))))))) .n)) (.n)))))) [.ag 15,.ag 12] x=g5 x.1 x.2.1:=by kernel_rfl
theorem FO (hG:bR prog 23 [.lf (.int .i64),.lf (.sl (.int .i64))] [.ag 5] (fun x=>fO x.1 x.2.1)) : bR prog 24 [.ag 15,.ag 12] [.ag 9] (fun x=>g5 x.1 x.2.1):=cT (n:=230) (.cons (uV) (.cons (MZ) (.cons (Ic) (.cons (Cw) (.cons hG (.cons (H3) (.nil))))))) Tryz.mixed Tryz.func24 rfl (by kernel_rfl) rfl rfl rfl (FM)
def th:Ent:=⟨[.ag 16],[.lf (.bool)],fun x=>nz x.1⟩
theorem Cv:EOk prog 6 th:=aI .n [] [] [] .nil Tryz.mixed Tryz.func6
theorem zH (x:cJ [.ag 16]) : kz ⟨prog,[(20,AX),(23,Ig),(22,AW),(21,Fc),(24,FP)],44,[.ag 12],[.cell 2 41],[],[2],[]⟩ ((Tryz.f7).body.getD .skip) (.s (.n) (.s (.n) (.s (.n) (.s (.s (.n) (.j [.box 3 41 12 []] (.n))) (.s (.s (.n) (.s (.lp [.box 3 41 12 [],.leaf 6 (.int .i64)] 0 false (.n)) .n)) (.n)))))) [.ag 16] x=cL x.1:=by kernel_rfl
theorem zI (hG:bR prog 23 [.lf (.int .i64),.lf (.sl (.int .i64))] [.ag 5] (fun x=>fO x.1 x.2.1)) : bR prog 7 [.ag 16] [.ag 12] (fun x=>cL x.1):=cT (n:=44) (.cons (H7) (.cons hG (.cons (H3) (.cons (OT) (.cons (FO hG) (.nil)))))) Tryz.mixed Tryz.func7 rfl (by kernel_rfl) rfl rfl rfl (zH)
theorem Dv {w:World} {B e k n:Nat} {v:Value} {us:List Value} {es:List (List D)} {F:Nat→Prop} (h:w.ownsRow B e k v n us) (hn:n=es.length) (hk:∀ x∈es,x.length=k) (hl:us.length=es.flatten.length) (hF:∀ g,B≤g→g < w.heap.size→F g) (hr:∀ (j:Nat) u d,us[j]? = some u→es.flatten[j]? = some d→ew w F u d) : ew w F v (.sl es):=by
 have h':=h
 rcases h.2 with ⟨rfl,h0⟩ | ⟨g,cap,cur,rfl,hb,hg,hle,hmx,_⟩
 ·have:es = []:=List.eq_nil_of_length_eq_zero (by omega)
  subst this
  exact .sl none 0 0 0 [] (fun _=>undef) rfl (Nat.le_refl _) (by simp [maxLen]) (by simp) (by omega) (fun _=>rfl) (by simp) (by simp)
 ·have hlt:=(Array.getElem?_eq_some_iff.1 hg).1
  refine .sl (some ⟨g,0,none⟩) n cap k es (fun j=>(us[j]?).getD undef) hn hle hmx hk (fun _=>⟨_,rfl,hF g hb hlt⟩) (fun h=>by cases h) (fun a j d ha hj=>?_) (fun j d hj=>?_)
  ·injection ha with ha
   subst ha
   have hj2:j < us.length:=by have:=(zg.1 hj).1; omega
   have hadd:(⟨g,0,none⟩ : Addr).add j=⟨g,j,none⟩:=by unfold Addr.add; split <;> simp_all
   have hc:=h'.cellAt j (by have:=h'.1; omega)
   rw [hadd,hc,zq hj2]
   rfl
  ·have hj2:j < us.length:=by have:=(zg.1 hj).1; omega
   exact hr j _ d (by rw [zq hj2]; rfl) hj
theorem GZ {w:World} {F:Nat→Prop} : ∀ (l:List Tx) (j:Nat) (u:Value) (d:D),(l.map sv)[j]? = some u→(((l.map bT).map sD).flatten)[j]? = some d→ew w F u d
 | [],j,u,d,h,_=>by simp at h
 | x::l,0,u,d,h1,h2=>by
  simp [sD] at h1 h2
  subst h1
  subst h2
  exact .v _ rfl
 | x::l,j + 1,u,d,h1,h2=>GZ l j u d (by simpa using h1) (by simpa [sD] using h2)
theorem HB {w:World} {F:Nat→Prop} : ∀ (l:List (Int×Int)) (j:Nat) (u:Value) (d:D),(bV l)[j]? = some u→(((l.map gP).map eu.d).flatten)[j]? = some d→ew w F u d
 | [],j,u,d,h,_=>by simp [bV] at h
 | x::l,0,u,d,h1,h2=>by
  simp [bV,eu.d,gP] at h1 h2
  subst h1
  subst h2
  exact .v _ rfl
 | x::l,1,u,d,h1,h2=>by
  simp [bV,eu.d,gP] at h1 h2
  subst h1
  subst h2
  exact .v _ rfl
 | x::l,j + 2,u,d,h1,h2=>HB l j u d (by simpa [bV] using h1) (by simpa [eu.d] using h2)
theorem LQ:∀ l:List (Int×Int),(bV l).length=(((l.map gP).map eu.d).flatten).length
 | []=>rfl
 | x::l=>by
  have:=LQ l
  simp [bV,eu.d] at this ⊢
  omega
theorem P8 {w:World} {B:Nat} {F:Nat→Prop} (hF:∀ g,B≤g→g < w.heap.size→F g) : ∀ (qs:List QC) (ds:List QD),qs.length=ds.length→(∀ (k:Nat) (q:QC) (h:k < ds.length),qs[k]? = some q→wq w B q ds[k])→∀ (j:Nat) (u:Value) (d:D),(fR qs)[j]? = some u→(((ds.map gQ).map aC.d).flatten)[j]? = some d→ew w F u d
 | [],_,_,_,j,u,d,h,_=>by simp [fR] at h
 | q::qs,[],hl,_,_,_,_,_,_=>by simp at hl
 | q::qs,x::ds,hl,he,j,u,d,h1,h2=>by
  obtain ⟨p1,p2,p3,p4⟩:=he 0 q (by simp) rfl
  dsimp only [List.getElem_cons_zero] at p1 p2 p3 p4
  match j with
  | 0 =>
   simp [fR,KH,aC.d,gQ] at h1 h2
   subst h1
   subst h2
   have:q.p=bT x.path:=XB (by rw [p1]; simp [bT])
   rw [this]
   exact .v _ rfl
  | 1 =>
   simp [fR,KH,aC.d,gQ] at h1 h2
   subst h1
   subst h2
   have:=Dv (F:=F) p4 (es:=(x.caps.map gP).map eu.d) (by rw [p3]; simp) (fun y hy=>by obtain ⟨z,_,rfl⟩:=List.mem_map.1 hy; rfl) (LQ _) hF (HB x.caps)
   simpa using this
  | 2 =>
   simp [fR,KH,aC.d,gQ] at h1 h2
   subst h1
   subst h2
   rw [p2]
   exact .v _ rfl
  | j + 3 =>
   refine P8 hF qs ds (by simpa using hl) (fun k q' h hq=>?_) j u d (by simpa [fR,KH] using h1) (by simpa [aC.d] using h2)
   have:=he (k + 1) q' (by simpa using h) (by simpa using hq)
   simpa using this
theorem TW:∀ (qs:List QC) (ds:List QD),qs.length=ds.length→(fR qs).length=(((ds.map gQ).map aC.d).flatten).length
 | [],[],_=>rfl
 | [],_ :: _,h=>by simp at h
 | _ :: _,[],h=>by simp at h
 | q::qs,d::ds,h=>by
  have:=TW qs ds (by simpa using h)
  simp [fR,KH,aC.d] at this ⊢
  omega
theorem QE:∀ xs:List Int,(xs.map iD).flatten=xs.map (fun n=>D.v (.int .i64 n))
 | []=>rfl
 | x::xs=>by
  show [D.v (.int .i64 x)] ++ (xs.map iD).flatten = _
  rw [QE xs]
  rfl
theorem Wh {w:World} {G:Nat→Prop} {v:Value} {xs:List Int} (hG:∀ g,G g→g < w.heap.size) (h:ew w G v (.sl (xs.map iD))) : Rd w v (xs.map (Value.int .i64))∧xs.length≤9223372036854775807:=by
 have hfl:=QE xs
 cases h with
 | sl A n c k es us hn hc hm hk hA hA0 hcell hrep =>
  have hn2:n=(xs.map (Value.int .i64)).length:=by rw [hn]; simp
  refine ⟨⟨A,c,by rw [hn2],by omega,hm,fun h0=>?_⟩,by have h9:maxLen=9223372036854775807:=(by decide); rw [List.length_map] at hn2; omega⟩
  obtain ⟨a,ha,hGa⟩:=hA (by omega)
  refine ⟨a,ha,hG _ hGa,fun j u hj=>?_⟩
  rw [List.getElem?_map] at hj
  cases hx:xs[j]? with
  | none=>rw [hx] at hj; cases hj
  | some x =>
   rw [hx] at hj
   injection hj with hj
   subst hj
   have hd:(xs.map iD).flatten[j]? = some (.v (.int .i64 x)):=by rw [hfl,List.getElem?_map,hx]; rfl
   have h1:=hcell a j _ ha hd
   have h2:=hrep j _ hd
   rw [h1]
   generalize us j=y at h2
   cases h2 with
   | v y hy=>rfl
theorem GY:∀ l:List Tx,(l.map sv).length=(((l.map bT).map sD).flatten).length
 | []=>rfl
 | x::l=>by
  simp only [List.map_cons,List.flatten_cons,List.length_append,List.length_cons]
  rw [GY l]
  show _ = 1 + _
  omega
theorem Tf:bR prog 23 [.lf (.int .i64),.lf (.sl (.int .i64))] [.ag 5] (fun x=>fO x.1 x.2.1):=by
 rintro ⟨sh,xs,⟨⟩⟩ z hF
 change Int at sh
 change List Int at xs
 refine ⟨fun _=>⟨by kernel_rfl,fun w G vs hG hr=>?_⟩,fun h=>(by cases h)⟩
 have hvl:vs.toList.length=2:=hr.len
 obtain ⟨a,v,hv⟩ : ∃ a v,vs = #[a,v]:=by
  match hv:vs.toList,hvl with
  | [a,v],_=>exact ⟨a,v,by apply Array.ext'; simpa using hv⟩
 subst hv
 have ha:a = .int .i64 sh:=(aL.vv (hr.rep 0 a _ rfl rfl)).1
 subst ha
 have hd:ew w G v (.sl (xs.map iD)):=by
  have h:=hr.rep 1 v _ rfl rfl
  cases h with
  | d _ _ h=>exact h
 obtain ⟨hrd,hlen⟩:=Wh hG hd
 refine (Tg sh v xs w hrd hlen).mono ?_
 rintro e w' ⟨nl,h1,h2,vl,vq,ds,qs,B,rfl,hB,hl,hq,hgi,hx,he⟩
 have hz:z=gC nl ds:=by
  have:fO sh xs=some z:=hF
  rw [he] at this
  injection this with this
  exact this.symm
 subst hz
 refine ⟨_,fun g=>G g∨(w.heap.size≤g∧g < w'.heap.size),rfl,hx,fun g hg=>.inl hg,fun g hg=>hg.elim (fun h=>Nat.lt_of_lt_of_le (hG g h) hx.size) (fun h=>h.2),fun g hg=>hg.elim .inl (fun h=>.inr h.1),?_⟩
 have dl:ew w' (fun g=>G g∨(w.heap.size≤g∧g < w'.heap.size)) vl (.sl (((B9 nl).map bT).map sD)) :=
  Dv hl (by simp [qn h2]) (fun x hx=>by obtain ⟨y,_,rfl⟩:=List.mem_map.1 hx; rfl) (GY _) (fun g h3 h4=>.inr ⟨h3,h4⟩) (GZ _)
 have dq:ew w' (fun g=>G g∨(w.heap.size≤g∧g < w'.heap.size)) vq (.sl ((ds.map gQ).map aC.d)) :=
  Dv hq.row (by simp) (fun x hx=>by obtain ⟨y,_,rfl⟩:=List.mem_map.1 hx; rfl) (TW _ _ hq.len) (fun g h3 h4=>.inr ⟨Nat.le_trans hB h3,h4⟩) (P8 (fun g h3 h4=>.inr ⟨Nat.le_trans hB h3,h4⟩) qs ds hq.len hq.each)
 show aL ρNone dZ w' _ _ (.ag [.d (.sl (((B9 nl).map bT).map sD)),.d (.sl ((ds.map gQ).map aC.d))])
 refine .ag #[vl,vq] _ rfl (fun x hx=>?_) (fun j x c h3 h4=>?_)
 ·simp at hx
  rcases hx with rfl | rfl
  ·exact dl.one
  ·exact dq.one
 ·match j with
  | 0 =>
   obtain rfl : _ = x:=by simpa using h3
   cases h4
   exact .d _ _ dl
  | 1 =>
   obtain rfl : _ = x:=by simpa using h3
   cases h4
   exact .d _ _ dq
  | j + 2=>simp at h3
noncomputable def VH:Ent:=⟨[.ag 16],[.ag 12],fun x=>cL x.1⟩
theorem VG:bR prog 7 [.ag 16] [.ag 12] (fun x=>cL x.1):=zI Tf
noncomputable def p7 (x:cJ [.ag 16]) : Option (bh [.lf (.bool)]):=kz ⟨prog,[(15,PG),(6,th),(7,VH),(16,uO),(17,uQ),(18,H5)],60,[.lf (.bool)],[.tmp 2],[],[],[]⟩ ((Tryz.f4).body.getD .skip) (.s (.n) (.s (.n) (.s (.n) (.s (.n) (.s (.s (.n) (.s (.lp [.leaf 2 (.bool),.leaf 4 (.int .i64)] 0 true (.n)) .n)) (.n)))))) [.ag 16] x
theorem FL:bR prog 4 [.ag 16] [.lf (.bool)] p7:=cT (n:=60) (.cons (PF) (.cons (Cv) (.cons (VG) (.cons (uN) (.cons (uP) (.cons (f6) (.nil))))))) Tryz.mixed Tryz.func4 rfl (by kernel_rfl) rfl rfl rfl (fun _=>rfl)
section
open Go.ChangeShapes Go.WideShapes Go.ChangeAt Go.RowKit Go.Deep
section
variable {H:Type} {enc:TypeId×Value→H} {P:Program} {w:World} {base:Nat} {spare:Nat→Bool} {held:Bool} {r:Reach} {b0:Nat}
end
end
section
open Go.ChangeShapes Go.WideShapes Go.ChangeAt Go.RowKit Go.Deep
instance :Inhabited D:=⟨.v (.int .i64 0)⟩
inductive Fm where
 | int | str | bool | u8
 | sl (es:List Fm)
inductive Shp:Fm→D→Prop
 | int (z:Int) (h:(Lit.int .i64 z).wf=true) : Shp .int (.v (.int .i64 z))
 | str (s:ByteArray) (h:s.size≤maxLen) : Shp .str (.v (.string s))
 | bool (b:Bool) : Shp .bool (.v (.bool b))
 | u8 (z:Int) (h:(Lit.int .u8 z).wf=true) : Shp .u8 (.v (.int .u8 z))
 | sl (ts:List Fm) (es:List (List D)) (hl:∀ e∈es,e.length=ts.length) (h:∀ (e:List D),e∈es→∀ (j:Nat) (T:Fm) (d:D),ts[j]? = some T→e[j]? = some d→Shp T d) (hm:es.length≤maxLen) : Shp (.sl ts) (.sl es)
def wt (P:Program) (t:TypeId) (ts:List Fm) : Prop :=
 ∀ (H:Type) (enc:TypeId×Value→H) (w:World) (base:Nat) (spare:Nat→Bool) (held:Bool) (fuel:Nat) (cs:List Value) (x:DataW H×List MemPlace),DataW.trod enc P w base spare held fuel t cs=some x →
  cs.length=ts.length∧∀ (j:Nat) (T:Fm),ts[j]? = some T→∃ c d,cs[j]? = some c∧ew w (· < w.heap.size) c d∧Shp T d
theorem mE {P:Program} {t:TypeId} (ht:P.underlying t=some (.int .i64)) : wt P t [.int]:=by
 intro H enc w base spare held fuel cs x h
 obtain ⟨z,rfl,_,hz⟩:=DataW.trod_int ht h
 refine ⟨rfl,fun j T hj=>?_⟩
 match j,hj with
 | 0,hj =>
  cases hj
  exact ⟨_,_,rfl,.v _ rfl,.int z hz⟩
theorem xU {P:Program} {t:TypeId} {fs:Array Field} {ts:List Fm} (ht:P.underlying t=some (.struct fs)) (hk:P.cellsOf t=ts.length)
  (hcov:∀ j T,ts[j]? = some T→∃ (i:Nat) (f:Field) (kf:Nat) (us:List Fm),fs[i]? = some f∧f.offset≤j∧j < f.offset + kf∧P.cellsOf f.type=kf∧wt P f.type us∧us[j - f.offset]? = some T) : wt P t ts:=by
 intro H enc w base spare held fuel cs x h
 obtain ⟨xs,n,_,rfl,hl,hlen,hf⟩:=DataW.trod_struct ht h
 refine ⟨by rw [hl,hk],fun j T hj=>?_⟩
 obtain ⟨i,f,kf,us,hi,h1,h2,h3,h4,h5⟩:=hcov j T hj
 have hfi:=hf i f hi
 have hlt:i < xs.length:=by rw [hlen]; exact (Array.getElem?_eq_some_iff.1 hi).1
 rw [zq hlt,h3] at hfi
 obtain ⟨_,hz⟩:=h4 H enc w base spare held n _ _ hfi
 obtain ⟨c,d,hc,hd,hs⟩:=hz (j - f.offset) T h5
 rw [List.getElem?_take_of_lt (by omega),List.getElem?_drop,show f.offset + (j - f.offset)=j by omega] at hc
 exact ⟨c,d,hc,hd,hs⟩
theorem WJ {α : Type} (k:Nat) (es:List (List α)) (h:∀ e∈es,e.length=k) : es.flatten.length=es.length * k:=by
 induction es with
 | nil=>simp
 | cons e es ih =>
  rw [List.flatten_cons,List.length_append,ih (fun x hx=>h x (List.mem_cons_of_mem _ hx)),h e List.mem_cons_self,List.length_cons,Nat.add_mul]
  omega
theorem Bq {P:Program} {t e:TypeId} {ts:List Fm} (ht:P.underlying t=some (.slice e)) (hc:P.cellsOf e=ts.length) (hk : 0 < ts.length) (he:wt P e ts) : wt P t [.sl ts]:=by
 intro H enc w base spare held fuel cs x hf
 rcases open_slice ht hf with ⟨rfl,_⟩ | ⟨a,len,cap,m,n,Dz,Pl,rfl,hb,hl,hm,hmm,_,hx⟩
 ·refine ⟨rfl,fun j T hj=>?_⟩
  match j,hj with
  | 0,hj =>
   cases hj
   exact ⟨_,.sl [],rfl,.sl none 0 0 0 [] (fun _=>.int .i64 0) rfl (Nat.le_refl _) (by simp [maxLen]) (by simp) (fun h=>absurd h (by omega)) (fun _=>rfl) (by simp) (by simp),.sl ts [] (by simp) (by simp) (by simp)⟩
 ·have hlm:len≤m:=by rw [hmm]; split <;> omega
  have each:∀ i,i < m→∃ q:Nat→D,∀ j T,ts[j]? = some T→∃ c,w.cell? (a.add (i * ts.length + j))=some c∧ew w (· < w.heap.size) c (q j)∧Shp T (q j):=by
   intro i hi
   obtain ⟨cs',h1,h2⟩:=hx i hi
   rw [hc] at h1
   obtain ⟨_,hlen,hcell⟩:=World.cells?_some h1
   obtain ⟨_,hz⟩:=he _ _ _ _ _ _ _ _ _ h2
   have:∀ j,j < ts.length→∃ d,∀ T,ts[j]? = some T→∃ c,w.cell? (a.add (i * ts.length + j))=some c∧ew w (· < w.heap.size) c d∧Shp T d:=by
    intro j hj
    obtain ⟨c,d,c1,c2,c3⟩:=hz j ts[j] (zq hj)
    refine ⟨d,fun T hT=>⟨c,?_,c2,?_⟩⟩
    ·have c0:=hcell j hj
     rw [Go.Deep.add_add] at c0
     rw [c0,c1]
    ·rw [zq hj] at hT
     cases hT
     exact c3
   obtain ⟨q,hq⟩:=choose_lt this
   exact ⟨q,fun j T hT=>hq j (by rcases Nat.lt_or_ge j ts.length with h | h; exact h; rw [List.getElem?_eq_none h] at hT; cases hT) T hT⟩
  obtain ⟨q,hq⟩:=choose_lt each
  let row (i:Nat) : List D:=(List.range ts.length).map (q i)
  let es:=(List.range len).map row
  have hrow:∀ x∈es,x.length=ts.length:=by
   intro x hx
   obtain ⟨i,_,rfl⟩:=List.mem_map.1 hx
   simp [row]
  have hcell:∀ j d,es.flatten[j]? = some d→∃ c,w.cell? (a.add j)=some c∧ew w (· < w.heap.size) c d:=by
   intro j d hj
   have hlt:j < len * ts.length:=by
    have:=(zg.1 hj).1
    rw [WJ ts.length es hrow] at this
    simpa [es] using this
   have hi:j / ts.length < len:=(Nat.div_lt_iff_lt_mul hk).2 hlt
   have hmod:=Nat.mod_lt j hk
   have hdm:j / ts.length * ts.length + j % ts.length=j:=by rw [Nat.mul_comm]; exact Nat.div_add_mod j _
   have hfl:=yj ts.length es hrow (j / ts.length) (row (j / ts.length)) (by simp [es,hi]) (j % ts.length) hmod
   rw [hdm,hj] at hfl
   have hd:d=q (j / ts.length) (j % ts.length):=by simpa [row,hmod] using hfl
   obtain ⟨c,c1,c2,_⟩:=hq (j / ts.length) (by omega) (j % ts.length) _ (zq hmod)
   rw [hdm] at c1
   exact ⟨c,c1,hd ▸ c2⟩
  refine ⟨rfl,fun j T hj=>?_⟩
  match j,hj with
  | 0,hj =>
   cases hj
   refine ⟨_,.sl es,rfl,.sl (some a) len cap ts.length es (fun j=>(w.cell? (a.add j)).getD (.int .i64 0)) (by simp [es]) hl hm hrow (fun hn=>⟨a,rfl,?_⟩) (fun h=>by cases h) (fun a' j d ha hj=>?_) (fun j d hj=>?_),.sl ts es hrow (fun x hx j T d hT hd=>?_) (by simp [es]; omega)⟩
   ·obtain ⟨c,c1,_⟩:=hq 0 (by omega) 0 _ (zq hk)
    have:=World.block_lt_of_cell? w _ c1
    rwa [show (a.add (0 * ts.length + 0)).block=a.block by unfold Addr.add; split <;> rfl] at this
   ·cases ha
    obtain ⟨c,c1,_⟩:=hcell j d hj
    rw [c1]
    rfl
   ·obtain ⟨c,c1,c2⟩:=hcell j d hj
    rw [c1]
    exact c2
   ·obtain ⟨i,hi,rfl⟩:=List.mem_map.1 hx
    have hi:i < len:=List.mem_range.1 hi
    have hjt:j < ts.length:=(zg.1 hT).1
    have hd:d=q i j:=by simpa [row,hjt] using hd.symm
    obtain ⟨c,_,_,c3⟩:=hq i (by omega) j T hT
    exact hd ▸ c3
section
variable {H:Type} {enc:TypeId×Value→H} {P:Program} {w:World} {base:Nat} {spare:Nat→Bool} {held:Bool} {r:Reach} {b0:Nat}
theorem Wp {t:TypeId} {fs:Array Field} {ts:List Fm} {v:Value} {d:DataW H} {ps:List MemPlace} (ht:P.underlying t=some (.struct fs)) (ho:wt P t ts) (hv:Value.okWide P w r b0 t v) (h:DataW.Trod enc P w base spare held t v d ps) :
  ∃ ds:List D,ds.length=ts.length∧(∀ (j:Nat) (T:Fm),ts[j]? = some T→∃ e,ds[j]? = some e∧Shp T e)∧aL ρNone dZ w (· < w.heap.size) v (.ag (ds.map .d)):=by
 obtain ⟨cs,rfl,_⟩:=okWide_struct ht hv
 obtain ⟨fuel,hf⟩:=h
 simp only [Value.cells] at hf
 obtain ⟨hl,hz⟩:=ho _ _ _ _ _ _ _ _ _ hf
 have:∀ j,j < ts.length→∃ d,∀ T,ts[j]? = some T→∃ c,cs.toList[j]? = some c∧ew w (· < w.heap.size) c d∧Shp T d:=by
  intro j hj
  obtain ⟨c,d,c1,c2,c3⟩:=hz j ts[j] (zq hj)
  refine ⟨d,fun T hT=>⟨c,c1,c2,?_⟩⟩
  rw [zq hj] at hT
  cases hT
  exact c3
 obtain ⟨q,hq⟩:=choose_lt this
 refine ⟨(List.range ts.length).map q,by simp,fun j T hT=>?_,.ag cs _ (by simp; simpa using hl) (fun x hx=>?_) (fun j x c hx hc=>?_)⟩
 ·have hj:j < ts.length:=(zg.1 hT).1
  obtain ⟨c,_,_,c3⟩:=hq j hj T hT
  exact ⟨q j,by simp [hj],c3⟩
 ·obtain ⟨j,hj,rfl⟩:=List.getElem_of_mem (Array.mem_toList_iff.2 hx)
  have hj':j < ts.length:=by rw [← hl]; exact hj
  obtain ⟨c,c1,c2,_⟩:=hq j hj' _ (zq hj')
  rw [zq hj] at c1
  cases c1
  exact c2.one
 ·have hj:j < ts.length:=by
   have:=(Array.getElem?_eq_some_iff.1 hx).1
   rw [← hl]
   simpa using this
  obtain ⟨c',c1,c2,_⟩:=hq j hj _ (zq hj)
  rw [Array.getElem?_toList,hx] at c1
  cases c1
  have:c = .d (q j):=by simpa [hj] using hc.symm
  subst this
  exact .d _ _ c2
end
theorem P2 {α : Type} {f : α→List D} {Q : α→Prop} : ∀ (es:List (List D)),(∀ e∈es,∃ x,e=f x∧Q x)→∃ l:List α,es=l.map f∧∀ x∈l,Q x
 | [],_=>⟨[],rfl,by simp⟩
 | e::es,h=>by
  obtain ⟨x,rfl,hq⟩:=h e List.mem_cons_self
  obtain ⟨l,rfl,hl⟩:=P2 es (fun y hy=>h y (List.mem_cons_of_mem _ hy))
  refine ⟨x::l,rfl,?_⟩
  intro y hy
  rcases List.mem_cons.1 hy with rfl | hy
  ·exact hq
  ·exact hl y hy
theorem Wm {P:Program} {f:FuncId} {args:List PV} {b:Bool} (h:PC P f args (.d (.v (.bool b)))) (w:World) (vs:Array Value) (hr:cz ρNone dZ w (· < w.heap.size) vs.toList args) :
  Calls P f vs w fun e w'=>e = .returned (.bool b)∧Below w.heap.size w w':=by
 refine (h.2 w _ vs (fun _ h=>h) hr).mono ?_
 rintro e w' ⟨v,F',rfl,hx,_,_,_,hp⟩
 refine ⟨?_,hx⟩
 cases hp with
 | d _ _ h=>cases h with
  | v=>rfl
end
section
open Go.ChangeShapes Go.WideShapes Go.ChangeAt Go.RowKit Go.Deep
theorem uX {d:D} (h:Shp .int d) : ∃ z,d = .v (.int .i64 z)∧(Lit.int .i64 z).wf=true:=by
 cases h with
 | int z h=>exact ⟨z,rfl,h⟩
def wfI (z:Int) : Prop:=(Lit.int .i64 z).wf=true
theorem TQ {α : Type} {f : α→List D} {Q : α→Prop} {ts:List Fm} {d:D} (hf:∀ e:List D,e.length=ts.length→(∀ (j:Nat) (T:Fm),ts[j]? = some T→∃ d,e[j]? = some d∧Shp T d)→∃ x,e=f x∧Q x) (h:Shp (.sl ts) d) : ∃ l:List α,d = .sl (l.map f)∧(∀ z∈l,Q z)∧l.length≤maxLen:=by
 cases h with
 | sl _ es hl h hm =>
  obtain ⟨l,rfl,hq⟩:=P2 (f:=f) (Q:=Q) es (fun e he=>hf e (hl e he) fun j T hT=>by
   have hj:j < e.length:=by rw [hl e he]; exact (zg.1 hT).1
   exact ⟨e[j],zq hj,h e he j T _ hT (zq hj)⟩)
  exact ⟨l,rfl,hq,by simpa using hm⟩
theorem X1 {e:List D} (hl:e.length=1) (h:∀ (j:Nat) (T:Fm),[Fm.int][j]? = some T→∃ d,e[j]? = some d∧Shp T d) : ∃ x:Int,e = [.v (.int .i64 x)]∧wfI x:=by
 match e,hl with
 | [d],_ =>
  obtain ⟨d',hd,s⟩:=h 0 _ rfl
  cases hd
  cases s with
  | int z hz=>exact ⟨z,rfl,hz⟩
theorem Nv:wt prog 22 [.sl [.int]]:=Bq Tryz.underlying22 (by kernel_rfl) (by decide) (mE Tryz.underlying3)
theorem TJ {d:D} (h:Shp (.sl [.int]) d) : ∃ l:List Int,d = .sl (l.map iD)∧(∀ z∈l,wfI z)∧l.length≤maxLen:=TQ (ts:=[.int]) (f:=iD) (Q:=fun z=>wfI z) (fun _ hl h=>X1 hl h) h
def aQ.ok (x:aQ) : Prop:=wfI x.hZ∧wfI x.fA∧wfI x.fB∧wfI x.fC∧wfI x.fD
theorem B7:wt prog 75 [.int,.int,.int,.int,.int]:=xU Tryz.underlying75 (by kernel_rfl) fun j T hj=>by
 match j,hj with
 | 0,hj=>exact ⟨0,_,1,[.int],rfl,by decide,by decide,by kernel_rfl,(mE Tryz.underlying3),hj⟩
 | 1,hj=>exact ⟨1,_,1,[.int],rfl,by decide,by decide,by kernel_rfl,(mE Tryz.underlying3),hj⟩
 | 2,hj=>exact ⟨2,_,1,[.int],rfl,by decide,by decide,by kernel_rfl,(mE Tryz.underlying3),hj⟩
 | 3,hj=>exact ⟨3,_,1,[.int],rfl,by decide,by decide,by kernel_rfl,(mE Tryz.underlying3),hj⟩
 | 4,hj=>exact ⟨4,_,1,[.int],rfl,by decide,by decide,by kernel_rfl,(mE Tryz.underlying3),hj⟩
theorem IP {e:List D} (hl:e.length=5) (h:∀ (j:Nat) (T:Fm),([.int,.int,.int,.int,.int] : List Fm)[j]? = some T→∃ d,e[j]? = some d∧Shp T d) : ∃ x:aQ,e=aQ.d x∧x.ok:=by
 match e,hl with
 | [d0,d1,d2,d3,d4],_ =>
  obtain ⟨_,e0,s0⟩:=h 0 _ rfl
  cases e0
  obtain ⟨_,e1,s1⟩:=h 1 _ rfl
  cases e1
  obtain ⟨_,e2,s2⟩:=h 2 _ rfl
  cases e2
  obtain ⟨_,e3,s3⟩:=h 3 _ rfl
  cases e3
  obtain ⟨_,e4,s4⟩:=h 4 _ rfl
  cases e4
  obtain ⟨z0,rfl,k0⟩:=uX s0
  obtain ⟨z1,rfl,k1⟩:=uX s1
  obtain ⟨z2,rfl,k2⟩:=uX s2
  obtain ⟨z3,rfl,k3⟩:=uX s3
  obtain ⟨z4,rfl,k4⟩:=uX s4
  exact ⟨⟨z0,z1,z2,z3,z4⟩,rfl,⟨k0,k1,k2,k3,k4⟩⟩
theorem Aa:wt prog 23 [.sl [.int,.int,.int,.int,.int]]:=Bq Tryz.underlying23 (by kernel_rfl) (by decide) B7
theorem Dd {d:D} (h:Shp (.sl [.int,.int,.int,.int,.int]) d) : ∃ l:List aQ,d = .sl (l.map aQ.d)∧(∀ z∈l,aQ.ok z)∧l.length≤maxLen:=TQ (ts:=[.int,.int,.int,.int,.int]) (f:=aQ.d) (Q:=fun z=>aQ.ok z) (fun _ hl h=>IP hl h) h
def aE.ok (x:aE) : Prop:=wfI x.I0∧(∀ z∈x.fNs,wfI z)∧x.fNs.length≤maxLen∧(∀ z∈x.mp,aQ.ok z)∧x.mp.length≤maxLen
theorem wO:wt prog 25 [.int,.sl [.int],.sl [.int,.int,.int,.int,.int]]:=xU Tryz.underlying25 (by kernel_rfl) fun j T hj=>by
 match j,hj with
 | 0,hj=>exact ⟨0,_,1,[.int],rfl,by decide,by decide,by kernel_rfl,(mE Tryz.underlying3),hj⟩
 | 1,hj=>exact ⟨1,_,1,[.sl [.int]],rfl,by decide,by decide,by kernel_rfl,Nv,hj⟩
 | 2,hj=>exact ⟨2,_,1,[.sl [.int,.int,.int,.int,.int]],rfl,by decide,by decide,by kernel_rfl,Aa,hj⟩
theorem B8 {e:List D} (hl:e.length=3) (h:∀ (j:Nat) (T:Fm),([.int,.sl [.int],.sl [.int,.int,.int,.int,.int]] : List Fm)[j]? = some T→∃ d,e[j]? = some d∧Shp T d) : ∃ x:aE,e=aE.d x∧x.ok:=by
 match e,hl with
 | [d0,d1,d2],_ =>
  obtain ⟨_,e0,s0⟩:=h 0 _ rfl
  cases e0
  obtain ⟨_,e1,s1⟩:=h 1 _ rfl
  cases e1
  obtain ⟨_,e2,s2⟩:=h 2 _ rfl
  cases e2
  obtain ⟨z0,rfl,k0⟩:=uX s0
  obtain ⟨z1,rfl,k1,m1⟩:=TJ s1
  obtain ⟨z2,rfl,k2,m2⟩:=Dd s2
  exact ⟨⟨z0,z1,z2⟩,rfl,⟨k0,k1,m1,k2,m2⟩⟩
end
noncomputable def UM (s:aa) (id:Int) : Option (aB×Bool):=p5 (s,(id,()))
noncomputable def PQ (s:aa) (id:Int) : Option av:=pW (s,(id,()))
noncomputable def UF (s:aa) (id:Int) : Option av:=pY (s,(id,()))
noncomputable def YV (l:List aB) (id:Int) : Option Int:=uR (l,(((id,()),()),()))
noncomputable def UK (l:List aB) (id:Int) : Option Int:=sR (l,(((id,()),()),()))
def WB (p:aB→Bool) (l:List aB) : Option Int:=Option.bind (ah (fun st:Int×Int=>if decide (st.2 < (l.length:Int))=true then Option.bind (aw l st.2) fun x=>if p x=true then some (.inr (.inr st.2)) else some (.inl (st.1,i64.wrap (st.2 + 1))) else some (.inr (.inl (st.1,st.2)))) ac ((0:Int),(0:Int))) fun o:(Int×Int)⊕Int=>match o with | .inl _=>some (-1) | .inr v=>some v
theorem Yf (l:List aB) (id:Int) : YV l id=WB (fun x=>id==x.fId) l:=by kernel_rfl
theorem UJ (l:List aB) (id:Int) : UK l id=Option.bind (YV l id) fun r=>if decide (r≥0)=true then some r else some (l.length:Int):=by kernel_rfl
theorem WK (s:aa) (id:Int) : UM s id=Option.bind (UK s.ar id) fun r=>if (r==(s.ar.length:Int))=true then some (⟨0,0,0,⟨0,0⟩,0,0,false⟩,false) else Option.bind (aw s.ar r) fun x=>some (x,true):=by kernel_rfl
theorem Ye (p:aB→Bool) (l:List aB) (hl:l.length≤1000000) : (∃ i,∃ h:i < l.length,WB p l=some (i:Int)∧p l[i] = true∧∀ j (hj:j < i),p l[j] = false)∨(WB p l=some (-1)∧∀ x∈l,p x=false):=by
 have hp:∃ r,ah (fun st:Int×Int=>if decide (st.2 < (l.length:Int))=true then Option.bind (aw l st.2) fun x=>if p x=true then some (.inr (.inr st.2)) else some (.inl (st.1,i64.wrap (st.2 + 1))) else some (.inr (.inl (st.1,st.2)))) ac ((0:Int),(0:Int))=some r∧((∃ i,∃ h:i < l.length,(r:(Int×Int)⊕Int) = .inr (i:Int)∧p l[i] = true∧∀ j (hj:j < i),p l[j] = false)∨((∃ q,r = .inl q)∧∀ x∈l,p x=false)):=by
  refine aM (fun st=>∃ k:Nat,st.2=(k:Int)∧k≤l.length∧∀ j (hj:j < l.length),j < k→p l[j] = false) (fun st=>l.length - st.2.toNat) _ (fun st ⟨k,h1,h2,h3⟩=>?_) ac _ ⟨0,rfl,Nat.zero_le _,fun j _ h=>by omega⟩ (by have:=an hl; show l.length - (0:Int).toNat < ac; omega)
  simp only [h1]
  rcases Nat.lt_or_ge k l.length with hlt | hge
  ·have d1:decide ((k:Int) < (l.length:Int))=true:=by simpa using hlt
   rw [if_pos d1,aN (zq hlt)]
   simp only [zb]
   cases hpk:p l[k] with
   | true =>
    rw [if_pos rfl]
    exact .inr ⟨_,rfl,.inl ⟨k,hlt,rfl,hpk,fun j hj=>h3 j (by omega) hj⟩⟩
   | false =>
    rw [if_neg (by decide),bm hlt hl]
    refine .inl ⟨_,rfl,⟨k + 1,rfl,hlt,fun j hj hjk=>?_⟩,by simp only [zt]; omega⟩
    rcases Nat.lt_or_ge j k with h | h
    ·exact h3 j hj h
    ·obtain rfl:j=k:=by omega
     exact hpk
  ·have d1:decide ((k:Int) < (l.length:Int))=false:=by simp; omega
   rw [if_neg (by rw [d1]; decide)]
   refine .inr ⟨_,rfl,.inr ⟨⟨_,rfl⟩,fun x hx=>?_⟩⟩
   obtain ⟨j,hj,rfl⟩:=List.getElem_of_mem hx
   exact h3 j hj (by omega)
 obtain ⟨r,h1,h2⟩:=hp
 unfold WB
 rw [h1]
 rcases h2 with ⟨i,h,rfl,h3,h4⟩ | ⟨⟨q,rfl⟩,h3⟩
 ·exact .inl ⟨i,h,rfl,h3,h4⟩
 ·exact .inr ⟨rfl,h3⟩
theorem UL (s:aa) (id:Int) (hl:s.ar.length≤1000000) : UM s id=some (cf s id,iZ s id):=by
 rw [WK,UJ,Yf]
 rcases Ye (fun x=>id==x.fId) s.ar hl with ⟨i,h,h1,h2,h3⟩ | ⟨h1,h2⟩
 ·rw [h1]
  have d1:decide ((i:Int)≥0)=true:=by simp
  have d2:((i:Int)==(s.ar.length:Int))=false:=by simp; omega
  simp only [zb,d1,if_true,d2,zf,if_false,aN (zq h)]
  have hf:s.ar.find? (fun c=>c.fId==id)=some s.ar[i]:=by
   rw [List.find?_eq_some_iff_getElem]
   exact ⟨by rw [BEq.comm]; exact h2,i,h,rfl,fun j hj=>by rw [BEq.comm,h3 j hj]; rfl⟩
  unfold cf iZ
  rw [hf]
  have:s.ar.any (fun c=>c.fId==id)=true:=List.any_eq_true.2 ⟨_,List.getElem_mem h,by rw [BEq.comm]; exact h2⟩
  rw [this]
  rfl
 ·rw [h1]
  have d1:decide ((-1:Int)≥0)=false:=by decide
  simp only [zb,d1,zf,if_false,BEq.rfl,if_true]
  have hf:s.ar.find? (fun c=>c.fId==id)=none:=by
   rw [List.find?_eq_none]
   intro x hx
   have:=h2 x hx
   rw [BEq.comm] at this
   simp [this]
  unfold cf iZ
  rw [hf]
  have:s.ar.any (fun c=>c.fId==id)=false:=by
   rw [List.any_eq_false]
   intro x hx
   have:=h2 x hx
   rw [BEq.comm] at this
   simp [this]
  rw [this]
  rfl
theorem V6 (s:aa) (id:Int) : PQ s id=Option.bind (ah (fun st:Int×av=>if decide (st.1 < (s.ab.length:Int))=true then Option.bind (aw s.ab st.1) fun x=>if (x.bf==id)=true then some (.inl (i64.wrap (st.1 + 1),(⟨i64.wrap (st.2.be + x.bu.be),i64.wrap (st.2.aF + x.bu.aF)⟩ : av))) else some (.inl (i64.wrap (st.1 + 1),st.2)) else some (.inr (st.1,st.2))) ac ((0:Int),(⟨0,0⟩ : av))) fun st:Int×av=>some st.2:=by kernel_rfl
theorem Kn (s:aa) (id:Int) (hl:s.ab.length≤1000000) : PQ s id=some (C1 s id):=by
 rw [V6]
 have h:=ax s.ab (S:=Int×av) (τ:=Int×av) (f:=fun st:Int×av=>if decide (st.1 < (s.ab.length:Int))=true then Option.bind (aw s.ab st.1) fun x=>if (x.bf==id)=true then some (.inl (i64.wrap (st.1 + 1),(⟨i64.wrap (st.2.be + x.bu.be),i64.wrap (st.2.aF + x.bu.aF)⟩ : av))) else some (.inl (i64.wrap (st.1 + 1),st.2)) else some (.inr (st.1,st.2))) (fun a_ k_=>(k_,a_)) (fun v c=>some (.inl (if (c.bf==id)=true then AJ v c.bu else v))) (fun a_=>((s.ab.length:Int),a_)) (an hl) (fun k a x hx=>by
  have hk:=(zg.1 hx).1
  simp only [ci hx,if_true,aN hx,zb,bm hk hl]
  split <;> rfl) (fun a=>by simp only [bU,zf,if_false]) (⟨0,0⟩ : av)
 rw [show ((0:Int),(⟨0,0⟩ : av))=(fun (a_:av) (k_:Int)=>(k_,a_)) ⟨0,0⟩ 0 from rfl,h,wH]
 rfl
theorem WF (s:aa) (id:Int) : UF s id=Option.bind (UM s id) fun r=>if (!r.1.fUp)=true then some ⟨0,0⟩ else Option.bind (PQ s id) fun u=>some ⟨if i64.wrap (r.1.dY.be - u.be) > 0 then i64.wrap (r.1.dY.be - u.be) else 0,if i64.wrap (r.1.dY.aF - u.aF) > 0 then i64.wrap (r.1.dY.aF - u.aF) else 0⟩:=by kernel_rfl
theorem ZA (w:Int) : (if w > 0 then w else 0)=if 0 > w then 0 else w:=by split <;> split <;> omega
theorem UE (s:aa) (id:Int) (hl:s.ar.length≤1000000) (hc:s.ab.length≤1000000) : UF s id=some (s6 s id):=by
 rw [WF,UL s id hl,Kn s id hc]
 simp only [zb]
 unfold s6
 cases hu:iZ s id with
 | false =>
  have:(cf s id).fUp=false:=by
   unfold cf
   have hf:s.ar.find? (fun c=>c.fId==id)=none:=by
    rw [List.find?_eq_none]
    unfold iZ at hu
    rw [List.any_eq_false] at hu
    exact hu
   rw [hf]
   rfl
  rw [this]
  rfl
 | true =>
  cases hp:(cf s id).fUp with
  | false=>rfl
  | true =>
   simp only [Bool.not_true,zf,if_false,Bool.or_false,ZA]
   rfl
def eH (v_s:aa) (v_c:ay) (st:Unit) (v_i:Int) (x_:ByteArray) : Option ((Unit)⊕((Int)⊕(aa×bk))) :=
 (aw v_c.al v_i).bind fun b9=>if (!(b9.toList==x_.toList))=true then
 (cY v_s 14).bind fun c10=>some (.inr (.inr c10))
 else
 some (.inl ())
theorem vL (v_s:aa) (v_c:ay) (a_:Unit) (hl:v_s.bL.al.length≤1000000) : ah (er v_s v_c) ac (0)=nC (eH v_s v_c) (fun a_=>(.inl ((v_s.bL.al.length:Int)))) a_ 0 v_s.bL.al :=
 fa v_s.bL.al (S:=Int) (fun a_ k_=>(k_)) (eH v_s v_c) (fun a_=>(.inl ((v_s.bL.al.length:Int)))) (an hl) (fun k a x hx=>by
  unfold er eH; exact bE)
  (fun a=>by unfold er; exact cA) a_
def eG (v_s:aa) (v_c:ay) (st:Unit) (x_:az) : Option ((Unit)⊕((Int)⊕(aa×bk))) :=
 (dD x_).bind fun c17=>(if c17=true then (kh v_c x_.bO).bind fun c18=>some (!c18) else some false).bind fun q19=>if q19=true then
 (cY v_s 14).bind fun c20=>some (.inr (.inr c20))
 else
 some (.inl ())
theorem vK (v_s:aa) (v_c:ay) (a_:Unit) (hl:v_s.ao.length≤1000000) : ah (eo v_s v_c) ac (0)=bl (eG v_s v_c) (fun a_=>(.inl ((v_s.ao.length:Int)))) a_ v_s.ao :=
 ax v_s.ao (S:=Int) (fun a_ k_=>(k_)) (eG v_s v_c) (fun a_=>(.inl ((v_s.ao.length:Int)))) (an hl) (fun k a x hx=>by
  unfold eo eG; exact bE)
  (fun a=>by unfold eo; exact cA) a_
def eE (v_s:aa) (cm:Int) (st:(List Int)) (x_:ai) : Option (((List Int))⊕(((List Int)×Int))) :=
 let v_l:=st
 if (x_.bf==cm)=true then
 (aW v_l [x_.fId]).bind fun b4=>let v_l:(List Int):=b4
 some (.inl v_l)
 else
 some (.inl v_l)
theorem s8 (v_s:aa) (cm:Int) (a_:(List Int)) (hl:v_s.ab.length≤1000000) : ah (oK v_s cm) ac (a_,(0))=bl (eE v_s cm) (fun a_=>(a_,((v_s.ab.length:Int)))) a_ v_s.ab :=
 ax v_s.ab (S:=(List Int)×Int) (fun a_ k_=>(a_,(k_))) (eE v_s cm) (fun a_=>(a_,((v_s.ab.length:Int)))) (an hl) (fun k a x hx=>by
  unfold oK eE; exact bE)
  (fun a=>by unfold oK; exact cA) a_
def gf (v_x:aH) (v_t:aa) (st:(List Int)) (x_:Int) : Option (((List Int))⊕(((List Int)×Int))) :=
 let ce:=st
 (eT v_t x_).bind fun c11=>let v_c:ai:=c11.1
 let xI:Bool:=c11.2
 (if xI=true then some (v_c.bf==v_x.fId) else some false).bind fun q12=>if q12=true then
 (aW ce [v_c.fId]).bind fun b13=>let ce:(List Int):=b13
 some (.inl ce)
 else
 some (.inl ce)
theorem yR (v_x:aH) (v_t:aa) (a_:(List Int)) (hl:v_x.fW.length≤1000000) : ah (lI v_x v_t) ac (a_,(0))=bl (gf v_x v_t) (fun a_=>(a_,((v_x.fW.length:Int)))) a_ v_x.fW :=
 ax v_x.fW (S:=(List Int)×Int) (fun a_ k_=>(a_,(k_))) (gf v_x v_t) (fun a_=>(a_,((v_x.fW.length:Int)))) (an hl) (fun k a x hx=>by
  unfold lI gf; exact bE)
  (fun a=>by unfold lI; exact cA) a_
def fh (ce:(List Int)) (v_s:aa) (st:(List ai)) (x_:Int) : Option (((List ai))⊕(((List ai)×Int))) :=
 let v_l:=st
 (eT v_s x_).bind fun c4=>let v_c:ai:=c4.1
 let bK:Bool:=c4.2
 if bK=true then
 (aW v_l [v_c]).bind fun b5=>let v_l:(List ai):=b5
 some (.inl v_l)
 else
 some (.inl v_l)
theorem xj (ce:(List Int)) (v_s:aa) (a_:(List ai)) (hl:ce.length≤1000000) : ah (ki ce v_s) ac (a_,(0))=bl (fh ce v_s) (fun a_=>(a_,((ce.length:Int)))) a_ ce :=
 ax ce (S:=(List ai)×Int) (fun a_ k_=>(a_,(k_))) (fh ce v_s) (fun a_=>(a_,((ce.length:Int)))) (an hl) (fun k a x hx=>by
  unfold ki fh; exact bE)
  (fun a=>by unfold ki; exact cA) a_
def d7 (v_s:aa) (eY:Int) (st:(List Int)) (x_:ai) : Option (((List Int))⊕(((List Int)×Int))) :=
 let v_l:=st
 (if (x_.bz==eY)=true then some (x_.jw != 0) else some false).bind fun q6=>if q6=true then
 (aW v_l [x_.fId]).bind fun b7=>let v_l:(List Int):=b7
 some (.inl v_l)
 else
 some (.inl v_l)
theorem uv (v_s:aa) (eY:Int) (a_:(List Int)) (hl:v_s.ab.length≤1000000) : ah (iQ v_s eY) ac (a_,(0))=bl (d7 v_s eY) (fun a_=>(a_,((v_s.ab.length:Int)))) a_ v_s.ab :=
 ax v_s.ab (S:=(List Int)×Int) (fun a_ k_=>(a_,(k_))) (d7 v_s eY) (fun a_=>(a_,((v_s.ab.length:Int)))) (an hl) (fun k a x hx=>by
  unfold iQ d7; exact bE)
  (fun a=>by unfold iQ; exact cA) a_
def fg (kw:(List aJ)) (v_s:aa) (st:(List aJ)) (x_:aJ) : Option (((List aJ))⊕(((List aJ)×Int)⊕((List aJ)×Int))) :=
 let v_l:=st
 (lA x_ (v_s.bL.al.length:Int)).bind fun c5=>let v_e:Int:=c5
 if (v_e != 0)=true then
 some (.inr (.inr ([],v_e)))
 else
 (xf v_l x_).bind fun c6=>let v_l:(List aJ):=c6.1
 let v_e:Int:=c6.2
 if (v_e != 0)=true then
 some (.inr (.inr ([],v_e)))
 else
 some (.inl v_l)
theorem xi (kw:(List aJ)) (v_s:aa) (a_:(List aJ)) (hl:kw.length≤1000000) : ah (im kw v_s) ac (a_,(0))=bl (fg kw v_s) (fun a_=>(.inl (a_,((kw.length:Int))))) a_ kw :=
 ax kw (S:=(List aJ)×Int) (fun a_ k_=>(a_,(k_))) (fg kw v_s) (fun a_=>(.inl (a_,((kw.length:Int))))) (an hl) (fun k a x hx=>by
  unfold im fg; exact bE)
  (fun a=>by unfold im; exact cA) a_
def eF (v_x:aH) (st:aa×az) (x_:Int) : Option ((aa×az)⊕((aa×az×Int))) :=
 let v_s:=st.1
 let v_a:=st.2
 (eT v_s x_).bind fun c17=>let v_c:ai:=c17.1
 let xI:Bool:=c17.2
 (if xI=true then some (v_c.bz==v_a.fId) else some false).bind fun q18=>(if q18=true then some (!v_c.bI) else some false).bind fun q19=>if q19=true then
 (n5 v_s v_c.fId).bind fun c20=>let v_s:aa:=c20
 (jo v_a.cr v_c.fId).bind fun c21=>let v_a:az:={ v_a with cr:=c21.1 }
 some (.inl (v_s,v_a))
 else
 some (.inl (v_s,v_a))
theorem vJ (v_x:aH) (a_:aa×az) (hl:v_x.fW.length≤1000000) : ah (gb v_x) ac (a_.1,a_.2,(0))=bl (eF v_x) (fun a_=>(a_.1,a_.2,((v_x.fW.length:Int)))) a_ v_x.fW :=
 ax v_x.fW (S:=aa×az×Int) (fun a_ k_=>(a_.1,a_.2,(k_))) (eF v_x) (fun a_=>(a_.1,a_.2,((v_x.fW.length:Int)))) (an hl) (fun k a x hx=>by
  unfold gb eF; exact bE)
  (fun a=>by unfold gb; exact cA) a_
def gc (v_s:aa) (eY:Int) (st:Unit) (x_:ai) : Option ((Unit)⊕((Int)⊕(Int))) :=
 (if (x_.bz==eY)=true then some x_.bI else some false).bind fun q5=>if q5=true then
 some (.inr (.inr x_.fId))
 else
 some (.inl ())
theorem yQ (v_s:aa) (eY:Int) (a_:Unit) (hl:v_s.ab.length≤1000000) : ah (lH v_s eY) ac (0)=bl (gc v_s eY) (fun a_=>(.inl ((v_s.ab.length:Int)))) a_ v_s.ab :=
 ax v_s.ab (S:=Int) (fun a_ k_=>(k_)) (gc v_s eY) (fun a_=>(.inl ((v_s.ab.length:Int)))) (an hl) (fun k a x hx=>by
  unfold lH gc; exact bE)
  (fun a=>by unfold lH; exact cA) a_
def ga (v_l:(List Int)) (st:aa) (x_:Int) : Option ((aa)⊕((aa×Int))) :=
 let v_s:=st
 (yA v_s x_).bind fun c12=>(dU c12 x_).bind fun c13=>let v_s:aa:=c13
 (sK v_s x_).bind fun c14=>(fq v_s c14).bind fun c15=>let v_s:aa:=c15
 some (.inl v_s)
theorem yP (v_l:(List Int)) (a_:aa) (hl:v_l.length≤1000000) : ah (jg v_l) ac (a_,(0))=bl (ga v_l) (fun a_=>(a_,((v_l.length:Int)))) a_ v_l :=
 ax v_l (S:=aa×Int) (fun a_ k_=>(a_,(k_))) (ga v_l) (fun a_=>(a_,((v_l.length:Int)))) (an hl) (fun k a x hx=>by
  unfold jg ga; exact bE)
  (fun a=>by unfold jg; exact cA) a_
def f9 (v_l:(List Int)) (st:aa) (x_:Int) : Option ((aa)⊕((aa×Int))) :=
 let v_s:=st
 (uw v_s x_).bind fun c17=>(fq v_s ([c17] : (List Int))).bind fun c18=>let v_s:aa:=c18
 some (.inl v_s)
theorem yO (v_l:(List Int)) (a_:aa) (hl:v_l.length≤1000000) : ah (jf v_l) ac (a_,(0))=bl (f9 v_l) (fun a_=>(a_,((v_l.length:Int)))) a_ v_l :=
 ax v_l (S:=aa×Int) (fun a_ k_=>(a_,(k_))) (f9 v_l) (fun a_=>(a_,((v_l.length:Int)))) (an hl) (fun k a x hx=>by
  unfold jf f9; exact bE)
  (fun a=>by unfold jf; exact cA) a_
def f8 (v_s:aa) (st:(List a6)) (x_:a6) : Option (((List a6))⊕(((List a6)×Int))) :=
 let xF:=st
 if (decide (x_.lr > v_s.cP))=true then
 (aW xF [x_]).bind fun b21=>let xF:(List a6):=b21
 some (.inl xF)
 else
 some (.inl xF)
theorem yN (v_s:aa) (a_:(List a6)) (hl:v_s.bv.length≤1000000) : ah (lG v_s) ac (a_,(0))=bl (f8 v_s) (fun a_=>(a_,((v_s.bv.length:Int)))) a_ v_s.bv :=
 ax v_s.bv (S:=(List a6)×Int) (fun a_ k_=>(a_,(k_))) (f8 v_s) (fun a_=>(a_,((v_s.bv.length:Int)))) (an hl) (fun k a x hx=>by
  unfold lG f8; exact bE)
  (fun a=>by unfold lG; exact cA) a_
def jk (v_l:(List a6)) (af:Int) (v_t:Int) (st:av) (x_:a6) : Option ((av)⊕((av×Int))) :=
 let v_v:=st
 (if (x_.a8==af)=true then some (decide (x_.pw≤v_t)) else some false).bind fun q8=>(if q8=true then some (decide (v_t < x_.lr)) else some false).bind fun q9=>if q9=true then
 (cX v_v x_.kP).bind fun c10=>let v_v:av:=c10
 some (.inl v_v)
 else
 some (.inl v_v)
theorem Ch (v_l:(List a6)) (af:Int) (v_t:Int) (a_:av) (hl:v_l.length≤1000000) : ah (oM v_l af v_t) ac (a_,(0))=bl (jk v_l af v_t) (fun a_=>(a_,((v_l.length:Int)))) a_ v_l :=
 ax v_l (S:=av×Int) (fun a_ k_=>(a_,(k_))) (jk v_l af v_t) (fun a_=>(a_,((v_l.length:Int)))) (an hl) (fun k a x hx=>by
  unfold oM jk; exact bE)
  (fun a=>by unfold oM; exact cA) a_
def gr (v_l:(List a6)) (v_t:Int) (gM:Int) (v_p:a6) (fJ:av) (st:Unit) (x_:a6) : Option ((Unit)⊕((Int)⊕(Bool))) :=
 let v_u:Int:=x_.pw
 (if (decide (v_u > v_t))=true then some (decide ((i64.wrap (v_u - v_t)) < gM)) else some false).bind fun q10=>(if q10=true then (uB v_l v_p.a8 v_u).bind fun c11=>(cX c11 v_p.kP).bind fun c12=>(fL c12 fJ).bind fun c13=>some (!c13) else some false).bind fun q14=>if q14=true then
 some (.inr (.inr false))
 else
 some (.inl ())
theorem yZ (v_l:(List a6)) (v_t:Int) (gM:Int) (v_p:a6) (fJ:av) (a_:Unit) (hl:v_l.length≤1000000) : ah (lR v_l v_t gM v_p fJ) ac (0)=bl (gr v_l v_t gM v_p fJ) (fun a_=>(.inl ((v_l.length:Int)))) a_ v_l :=
 ax v_l (S:=Int) (fun a_ k_=>(k_)) (gr v_l v_t gM v_p fJ) (fun a_=>(.inl ((v_l.length:Int)))) (an hl) (fun k a x hx=>by
  unfold lR gr; exact bE)
  (fun a=>by unfold lR; exact cA) a_
def iq (v_s:aa) (v_p:a6) (st:Int) (v_i:Int) (x_:a6) : Option ((Int)⊕((Int×Int)⊕(aa×Int×Int))) :=
 let v_k:=st
 if (x_.fId==v_p.fId)=true then
 some (.inr (.inr (v_s,0,7)))
 else
 if (decide (x_.fId < v_p.fId))=true then
 let v_k:Int:=(i64.wrap (v_i + 1))
 some (.inl v_k)
 else
 some (.inl v_k)
theorem AZ (v_s:aa) (v_p:a6) (a_:Int) (hl:v_s.bv.length≤1000000) : ah (iH v_s v_p) ac (a_,(0))=nC (iq v_s v_p) (fun a_=>(.inl (a_,((v_s.bv.length:Int))))) a_ 0 v_s.bv :=
 fa v_s.bv (S:=Int×Int) (fun a_ k_=>(a_,(k_))) (iq v_s v_p) (fun a_=>(.inl (a_,((v_s.bv.length:Int))))) (an hl) (fun k a x hx=>by
  unfold iH iq; exact bE)
  (fun a=>by unfold iH; exact cA) a_
def gu (v_s:aa) (bC:Int) (st:(List a6)) (x_:a6) : Option (((List a6))⊕(((List a6)×Int))) :=
 let v_l:=st
 if (x_.fId != bC)=true then
 (aW v_l [x_]).bind fun b4=>let v_l:(List a6):=b4
 some (.inl v_l)
 else
 some (.inl v_l)
theorem y5 (v_s:aa) (bC:Int) (a_:(List a6)) (hl:v_s.bv.length≤1000000) : ah (lS v_s bC) ac (a_,(0))=bl (gu v_s bC) (fun a_=>(a_,((v_s.bv.length:Int)))) a_ v_s.bv :=
 ax v_s.bv (S:=(List a6)×Int) (fun a_ k_=>(a_,(k_))) (gu v_s bC) (fun a_=>(a_,((v_s.bv.length:Int)))) (an hl) (fun k a x hx=>by
  unfold lS gu; exact bE)
  (fun a=>by unfold lS; exact cA) a_
theorem S3 (l:List a6) (k t:Int) (hl:l.length≤1000000) : ∃ r,uB l k t=some r:=by
 unfold uB
 dsimp only
 rw [Ch l k t _ hl]
 obtain ⟨r,e1,_⟩:=aV (g:=jk l k t) (fin:=fun b=>(b,(l.length:Int))) (fun _ _=>True) (fun _=>True) l 0 (⟨0,0⟩ : av) (fun j b x hx _=>by
  unfold jk
  simp only [dP,zb,dM]
  split <;> exact ⟨_,rfl,fun _ _=>trivial,fun _ _=>trivial⟩) (fun _ _=>trivial) trivial
 rw [e1]
 exact ⟨_,rfl⟩
def AtV (l:List a6) (k t:Int) : av:=(uB l k t).getD ⟨0,0⟩
theorem H9 (l:List a6) (k t:Int) (hl:l.length≤1000000) : uB l k t=some (AtV l k t):=by
 obtain ⟨r,e⟩:=S3 l k t hl
 unfold AtV
 rw [e]
 rfl
theorem Mx (n:Int) : uA n=some (decide (n≥0)&&decide (n≤1073741824)):=by unfold uA; simp only [dM,zb]
def Xv (l:List a6) (v:av) (p:a6) (t n:Int) : Bool:=(rK l v p t n).getD false
theorem My (l:List a6) (v:av) (p:a6) (t n:Int) (hl:l.length≤1000000) : rK l v p t n=some (Xv l v p t n):=by
 have:∃ r,rK l v p t n=some r:=by
  unfold rK
  simp only [H9 l _ _ hl,dP,gV,zb]
  split
  ·exact ⟨_,rfl⟩
  rw [yZ l t n p v () hl]
  obtain ⟨r,e1,_⟩:=aV (g:=gr l t n p v) (fin:=fun _=>(.inl (l.length:Int))) (fun _ _=>True) (fun _=>True) l 0 () (fun j b x hx _=>by
   unfold gr
   simp only [H9 l _ _ hl,dP,gV,zb,dM]
   split <;> exact ⟨_,rfl,fun _ _=>trivial,fun _ _=>trivial⟩) (fun _ _=>trivial) trivial
  rw [e1]
  cases r <;> exact ⟨_,rfl⟩
 obtain ⟨r,e⟩:=this
 unfold Xv
 rw [e]
 rfl
theorem JU (l:List a6) (v:av) (p:a6) (n:Int) (hl:l.length≤1000000) : ∃ r,vt l v p n=some r:=by
 unfold vt
 simp only [Mx,zb,orB]
 split
 ·exact ⟨_,rfl⟩
 have hw:∀ k:Int,-1≤k→k≤1000000000→i64.wrap (k + 1)=k + 1:=fun k h1 h2=>kJ (by omega) (by omega)
 obtain ⟨r,e1,_⟩:=aM (f:=oq l p n v) (fun st=>-1≤st.2∧st.2≤(l.length:Int)) (fun st=>((l.length:Int) - st.2).toNat) (fun _=>True) (fun st ⟨h1,h2⟩=>by
  unfold oq
  by_cases hlt:st.2 < (l.length:Int)
  ·have hn:((l.length:Int) - (st.2 + 1)).toNat < ((l.length:Int) - st.2).toNat:=by omega
   simp only [hlt,decide_true,if_true,My l _ _ _ _ hl,dM,orB,zb,hw _ h1 (by omega)]
   by_cases h0:st.2≥0
   ·obtain ⟨x,hx,_⟩:=K8 h0 hlt
    simp only [h0,decide_true,if_true,hx,zb]
    split <;> exact .inl ⟨_,rfl,⟨by show -1≤st.2 + 1; omega,by show st.2 + 1≤_; omega⟩,hn⟩
   ·simp only [h0,decide_false,zf,if_false,zb]
    split <;> exact .inl ⟨_,rfl,⟨by show -1≤st.2 + 1; omega,by show st.2 + 1≤_; omega⟩,hn⟩
  ·simp only [hlt,decide_false,zf,if_false]
   exact .inr ⟨_,rfl,trivial⟩) ac (-1,-1) ⟨by simp,by show (-1:Int)≤_; omega⟩ (by show ((l.length:Int) - (-1)).toNat < ac; unfold ac; omega)
 rw [e1]
 simp only [zb]
 split <;> exact ⟨_,rfl⟩
theorem SzS.plan {B:Nat} {s:aa} (h:SzS B s) {l:List a6} (hl:l.length≤B) : SzS B { s with bv:=l } := ⟨h.conf,h.nodes,h.apps,h.conts,h.slots,hl,h.app⟩
theorem Pc {B:Nat} {s:aa} (h:SzS B s) (hB:B + 1≤1000000) (p:a6) (n:Int) : ∃ r,sN s p n=some r∧SzS (B + 1) r.1∧r.1.ab=s.ab∧r.1.ao=s.ao:=by
 have k1:=h.plans; have k2:=h.nodes.1
 have hm:=h.mono (Nat.le_succ B)
 unfold sN
 simp only [zb,orB]
 split
 ·exact ⟨_,rfl,hm,rfl,rfl⟩
 rw [AZ s p 0 (by omega)]
 obtain ⟨r,e1,e2⟩:=mB (g:=iq s p) (fin:=fun b=>(.inl (b,(s.bv.length:Int)))) (fun j b=>∃ K:Nat,b=(K:Int)∧K≤j) (fun r=>match r with | .inl m=>∃ K:Nat,m.1=(K:Int)∧K≤s.bv.length | .inr m=>m.1=s) s.bv 0 0 (fun j b x hx ⟨K,hK,hj⟩=>by
  have hj2:=(zg.1 hx).1
  unfold iq
  dsimp only
  split
  ·exact ⟨_,rfl,fun a' e=>(by cases e),fun r e=>(by injection e with e; subst e; rfl)⟩
  split
  ·refine ⟨_,rfl,fun a' e=>?_,fun r e=>by cases e⟩
   injection e with e
   subst e
   exact ⟨0 + j + 1,bm (by omega : 0 + j < 1000000) (Nat.le_refl _),Nat.le_refl _⟩
  ·refine ⟨_,rfl,fun a' e=>?_,fun r e=>by cases e⟩
   injection e with e
   subst e
   exact ⟨K,hK,by omega⟩) (fun b ⟨K,hK,hj⟩=>⟨K,hK,by omega⟩) ⟨0,rfl,Nat.le_refl _⟩
 rw [e1]
 simp only [zb]
 cases r with
 | inr m=>exact ⟨_,rfl,by rw [show m.1=s from e2]; exact hm,by rw [show m.1=s from e2],by rw [show m.1=s from e2]⟩
 | inl m =>
  obtain ⟨K,hK,hK2⟩:=e2
  obtain ⟨c,hc⟩:=JU s.bv (ul s p.a8) p n (by omega)
  simp only [hK,nQ s _ (Nat.le_trans k2 (by omega)),hc,zb]
  split
  ·exact ⟨_,rfl,hm,rfl,rfl⟩
  split
  ·exact ⟨_,rfl,hm,rfl,rfl⟩
  split
  ·exact ⟨_,rfl,hm,rfl,rfl⟩
  rw [pm hK2]
  simp only [zb]
  rw [aD (by simp; omega)]
  simp only [zb]
  rw [aD (by simp; omega)]
  simp only [zb]
  rw [lh hK2]
  simp only [zb]
  rw [aD (by simp; omega)]
  exact ⟨_,rfl,hm.plan (by simp; omega),rfl,rfl⟩
theorem MB {B:Nat} {s:aa} (h:SzS B s) (hB:B≤1000000) (id:Int) : ∃ r,pU s id=some r∧SzS B r.1∧r.1.ab=s.ab∧r.1.ao=s.ao:=by
 have k1:=h.plans
 unfold pU
 dsimp only
 have e:gu s id=fun acc x=>if (x.fId != id)=true then (aW acc [id' x]).map (fun a=>(.inl a:List a6⊕(List a6×Int))) else some (.inl acc):=by
  funext acc x
  unfold gu
  dsimp only [id']
  split
  ·cases aW acc [x] <;> rfl
  ·rfl
 rw [y5 s id [] (by omega),e,cj (fun c:a6=>c.fId != id) id' _ s.bv [] (by simp; omega)]
 simp only [zb,List.nil_append,yb]
 split
 ·exact ⟨_,rfl,h,rfl,rfl⟩
 ·exact ⟨_,rfl,h.plan (Nat.le_trans (List.length_filter_le _ _) k1),rfl,rfl⟩
theorem kG (s:aa) (e:Int) : cY s e=some (s,⟨e,[],[],[],0⟩):=rfl
theorem OkS.node {M:Nat} {s:aa} (h:OkS M s) {l:List aB} (hl:l.length≤s.ar.length + 1) (hs:jV aB.fId l) (hn:∀ n∈l,(0≤n.cW∧n.cW≤1000000000)∧0≤n.co) : OkS (M + 1) { s with ar:=l } := by
 obtain ⟨⟨B,h1,h2⟩,h3⟩:=h
 have k:=h1.mono (Nat.le_succ B)
 have k1:=h1.nodes
 exact ⟨⟨B + 1,⟨k.conf,⟨by show l.length≤B + 1; omega,hs,k1.2.2.1,hn⟩,k.apps,k.conts,k.slots,k.plans,k.app⟩,by show B + 1 + s.ab.length≤_; omega⟩,h3⟩
theorem OkS.nodeIn {M:Nat} {s:aa} (h:OkS M s) {n:aB} (hi:iZ s n.fId=true) (hn:(0≤n.cW∧n.cW≤1000000000)∧0≤n.co) : OkS M { s with ar:=cM aB.fId s.ar n } := by
 obtain ⟨⟨B,h1,h2⟩,h3⟩:=h
 have k1:=h1.nodes
 unfold iZ at hi
 rw [List.any_eq_true] at hi
 obtain ⟨x,hx,hxe⟩:=hi
 have hlen:=iz aB.fId n s.ar k1.2.1 ⟨x,hx,by simpa using hxe⟩
 exact ⟨⟨B,⟨h1.conf,⟨by show (cM _ _ _).length≤B; omega,gO _ _ _ k1.2.1,k1.2.2.1,fun y hy=>by rcases pk hy with rfl | hy; exact hn; exact k1.2.2.2 y hy⟩,h1.apps,h1.conts,h1.slots,h1.plans,h1.app⟩,h2⟩,h3⟩
theorem OkS.small {M:Nat} {s:aa} (h:OkS M s) : s.ar.length≤M∧s.ao.length≤M∧s.ab.length≤M∧s.aR.length≤M∧s.bv.length≤M:=⟨h.sz.nodes.1,h.sz.apps,h.sz.conts,h.sz.slots,h.sz.plans⟩
theorem K7 {s:aa} {id:Int} (h:iZ s id=true) : (cf s id).fId=id:=by
 unfold iZ at h
 rw [List.any_eq_true] at h
 obtain ⟨x,hx,e⟩:=h
 unfold cf
 cases hf:s.ar.find? fun c=>c.fId==id with
 | none=>have:=List.find?_eq_none.1 hf x hx; exact absurd e (by simpa using this)
 | some a=>simpa using List.find?_some hf
theorem TM {M:Nat} {s:aa} (h:OkS M s) {id:Int} : (0≤(cf s id).cW∧(cf s id).cW≤1000000000)∧0≤(cf s id).co:=by
 unfold cf
 cases hf:s.ar.find? fun c=>c.fId==id with
 | none=>exact ⟨⟨Int.le_refl _,by decide⟩,Int.le_refl _⟩
 | some a=>exact h.sz.nodes.2.2.2 a (List.mem_of_find?_eq_some hf)
theorem XV {M:Nat} {s:aa} (h:OkS M s) (n:aB) : OkS (M + 1) (Ro s n).1:=by
 unfold Ro
 split
 ·exact h.mono (Nat.le_succ _)
 split
 ·exact h.mono (Nat.le_succ _)
 split
 ·exact h.mono (Nat.le_succ _)
 ·exact h.node (wK _ _ _) (gO _ _ _ h.sz.nodes.2.1) (fun y hy=>by rcases pk hy with rfl | hy; exact ⟨h.sz.nodes.2.2.1,Int.le_refl _⟩; exact h.sz.nodes.2.2.2 y hy)
theorem Xd {M:Nat} {s:aa} (h:OkS M s) (id b:Int) : OkS M (ER s id b).1:=by
 unfold ER
 split
 ·exact h
 split
 ·exact h
 split
 ·exact h
 split
 ·exact h
 split
 ·exact h
 ·rename_i hu _ hb _ _
  have hu:iZ s id=true:=by simpa using hu
  exact h.nodeIn (n:={ cf s id with cW:=s.cP,co:=b }) (by show iZ s (cf s id).fId=true; rw [K7 hu]; exact hu) ⟨h.sz.nodes.2.2.1,by simpa using hb⟩
theorem WT {M:Nat} {s:aa} (h:OkS M s) (id:Int) : OkS M (BE s id):=by
 unfold BE
 split
 ·rename_i hu
  exact h.nodeIn (n:={ cf s id with fUp:=false }) (by show iZ s (cf s id).fId=true; rw [K7 hu]; exact hu) (TM h)
 ·exact h
theorem OkS.fewer {M:Nat} {s:aa} (h:OkS M s) {c:List ai} {l:List bt} (hc:c.length≤s.ab.length) (hl:l.length≤s.aR.length) : OkS M { s with ab:=c,aR:=l } := by
 obtain ⟨⟨B,h1,h2⟩,h3⟩:=h
 exact ⟨⟨B,h1.fewer hc hl,by show B + c.length≤M; omega⟩,h3⟩
theorem OkS.put {M:Nat} {s:aa} (h:OkS M s) {a:az} {k:Nat} (ha:∀ B,SzS B s→SzA (B + k) a) : OkS (M + k + 1) { s with ao:=cM az.fId s.ao a } := by
 obtain ⟨⟨B,h1,h2⟩,h3⟩:=h
 have k1:=(h1.mono (Nat.le_add_right B k)).put ((ha B h1).mono (Nat.le_succ _))
 exact ⟨⟨B + k + 1,k1,by show B + k + 1 + s.ab.length≤_; omega⟩,gO _ _ _ h3⟩
theorem OkS.now {M:Nat} {s:aa} (h:OkS M s) {n:Int} (hn : 0≤n∧n≤1000000000) : OkS M { s with cP:=n } := by
 obtain ⟨⟨B,h1,h2⟩,h3⟩:=h
 exact ⟨⟨B,⟨h1.conf,⟨h1.nodes.1,h1.nodes.2.1,hn,h1.nodes.2.2.2⟩,h1.apps,h1.conts,h1.slots,h1.plans,h1.app⟩,h2⟩,h3⟩
theorem OkS.epoch {M:Nat} {s:aa} (h:OkS M s) (n k:Int) : OkS M { s with eW:=n,lu:=k } := by
 obtain ⟨⟨B,h1,h2⟩,h3⟩:=h
 exact ⟨⟨B,⟨h1.conf,h1.nodes,h1.apps,h1.conts,h1.slots,h1.plans,h1.app⟩,h2⟩,h3⟩
theorem OkS.newConf {M:Nat} {s:aa} (h:OkS M s) {c:ay} (hc:zK c) : OkS M { s with bL:=c } := by
 obtain ⟨⟨B,h1,h2⟩,h3⟩:=h
 exact ⟨⟨B,⟨hc,h1.nodes,h1.apps,h1.conts,h1.slots,h1.plans,h1.app⟩,h2⟩,h3⟩
theorem OkS.plans {M:Nat} {s:aa} (h:OkS M s) {l:List a6} (hl:l.length≤s.bv.length) : OkS M { s with bv:=l } := by
 obtain ⟨⟨B,h1,h2⟩,h3⟩:=h
 exact ⟨⟨B,h1.plan (Nat.le_trans hl h1.plans),h2⟩,h3⟩
theorem OkS.lose {M:Nat} {s:aa} (h:OkS M s) (ids:List Int) (hI:ids.length≤1000000) (hM:M + 1≤1000000) : ∃ r,fq s ids=some r∧OkS M r:=by
 obtain ⟨r,h1,h2,h3,_⟩:=Fy h.m h.srt ids hI hM
 exact ⟨r,h1,h2,h3⟩
theorem OkS.r14 {M:Nat} {s:aa} (h:OkS M s) (hM:M + 100≤1000000) (id:Int) : ∃ r,lW s id=some r∧OkS (M + 40) r.1:=by
 obtain ⟨⟨B,h1,h2⟩,h3⟩:=h
 obtain ⟨r,r1,r2,_⟩:=ML h1 h3 (by omega) id
 have r4:=Fl r1
 exact ⟨r,r1,⟨B + 24 + 2,r2.1,by omega⟩,r2.2⟩
theorem Sa {M:Nat} {s:aa} (h:OkS M s) (hM:M≤1000000) (text:ByteArray) : ∃ r,mS s text=some r∧OkS M r.1:=by
 obtain ⟨p,p1,p2⟩:=Md text
 have k1:=h.small
 have kc:=h.sz.conf.sz.labels
 unfold mS
 simp only [p1,zb]
 have hchk:∃ e,(if (p.2==0)=true then Option.bind (uq p.1) fun c3=>some c3 else some p.2)=some e∧(e=0→zK p.1):=by
  split
  ·obtain ⟨c,c1,c2⟩:=L7 p2
   rw [c1]
   exact ⟨c,rfl,fun e=>(c2 e).form⟩
  ·rename_i hne
   exact ⟨_,rfl,fun e=>absurd (by rw [e]; rfl) hne⟩
 obtain ⟨e,e1,e2⟩:=hchk
 rw [e1]
 simp only [zb,kG]
 split
 ·exact ⟨_,rfl,h⟩
 rename_i hz
 have hf:=e2 (by simpa using hz)
 split
 ·exact ⟨_,rfl,h⟩
 rename_i hlab
 have hlab:s.bL.al.length≤p.1.al.length:=by have:=of_decide_eq_false (by simpa using hlab:decide ((p.1.al.length:Int) < (s.bL.al.length:Int))=false); omega
 rw [vL s p.1 () (by omega)]
 obtain ⟨r,r1,r2⟩:=mB (g:=eH s p.1) (fin:=fun _=>(.inl (s.bL.al.length:Int))) (fun _ _=>True) (fun r=>∀ m,r = .inr m→OkS M m.1) s.bL.al 0 () (fun j a x hx _=>by
  have hj:=(zg.1 hx).1
  unfold eH
  simp only [Nat.zero_add,aN (zq (show j < p.1.al.length by omega)),zb,kG]
  split
  ·exact ⟨_,rfl,fun a' e=>(by cases e),fun r e m em=>(by injection e with e; subst e; injection em with em; subst em; exact h)⟩
  ·exact ⟨_,rfl,fun a' e=>trivial,fun r e=>(by cases e)⟩) (fun b _ m em=>by cases em) trivial
 rw [r1]
 simp only [zb]
 cases r with
 | inr m=>exact ⟨m,rfl,r2 m rfl⟩
 | inl m =>
  dsimp only
  rw [vK s p.1 () (by omega)]
  obtain ⟨q,q1,q2⟩:=aV (g:=eG s p.1) (fin:=fun _=>(.inl (s.ao.length:Int))) (fun _ _=>True) (fun r=>∀ m,r = .inr m→OkS M m.1) s.ao 0 () (fun j a x hx _=>by
   unfold eG
   simp only [ft,xh _ _ hf.sz,zb,kG,dM]
   split
   ·exact ⟨_,rfl,fun a' e=>(by cases e),fun r e m em=>(by injection e with e; subst e; injection em with em; subst em; exact h)⟩
   ·exact ⟨_,rfl,fun a' e=>trivial,fun r e=>(by cases e)⟩) (fun b _ m em=>by cases em) trivial
  rw [q1]
  simp only [zb]
  cases q with
  | inr m=>exact ⟨m,rfl,q2 m rfl⟩
  | inl m=>exact ⟨_,rfl,h.newConf hf⟩
theorem Ua (s:aa) (n:Int) (hl:s.ab.length≤1000000) : ∃ r,sK s n=some r∧r.length≤s.ab.length:=by
 unfold sK
 dsimp only
 rw [s8 s n [] hl]
 obtain ⟨r,r1,r2⟩:=aV (g:=eE s n) (fin:=fun b=>(b,(s.ab.length:Int))) (fun k b=>b.length≤k) (fun r=>r.1.length≤s.ab.length) s.ab 0 [] (fun j b x hx hb=>by
  have hj:=(zg.1 hx).1
  unfold eE
  dsimp only
  split
  ·rw [aD (by simp; omega)]
   exact ⟨_,rfl,fun a' e=>(by injection e with e; subst e; simp; omega),fun r e=>(by cases e)⟩
  ·exact ⟨_,rfl,fun a' e=>(by injection e with e; subst e; omega),fun r e=>(by cases e)⟩) (fun b hb=>(by simpa using hb)) (by simp)
 rw [r1]
 exact ⟨_,rfl,r2⟩
theorem DD (s:aa) (n:Int) (hl:s.ab.length≤1000000) : ∃ r,nU s n=some r:=by
 unfold nU
 dsimp only
 rw [uv s n [] hl]
 obtain ⟨r,r1,r2⟩:=aV (g:=d7 s n) (fin:=fun b=>(b,(s.ab.length:Int))) (fun k b=>b.length≤k) (fun _=>True) s.ab 0 [] (fun j b x hx hb=>by
  have hj:=(zg.1 hx).1
  unfold d7
  simp only [dM,zb]
  split
  ·rw [aD (by simp; omega)]
   exact ⟨_,rfl,fun a' e=>(by injection e with e; subst e; simp; omega),fun r e=>(by cases e)⟩
  ·exact ⟨_,rfl,fun a' e=>(by injection e with e; subst e; omega),fun r e=>(by cases e)⟩) (fun b hb=>trivial) (by simp)
 rw [r1]
 exact ⟨_,rfl⟩
theorem LO (ids:List Int) (s:aa) (hl:s.ab.length≤1000000) (hi:ids.length≤1000000) : ∃ r,rG s ids=some r:=by
 unfold rG
 dsimp only
 rw [xj ids s [] hi]
 obtain ⟨r,r1,r2⟩:=aV (g:=fh ids s) (fin:=fun b=>(b,(ids.length:Int))) (fun k b=>b.length≤k) (fun _=>True) ids 0 [] (fun j b x hx hb=>by
  have hj:=(zg.1 hx).1
  unfold fh
  simp only [jr s x hl,zb]
  split
  ·rw [aD (by simp; omega)]
   exact ⟨_,rfl,fun a' e=>(by injection e with e; subst e; simp; omega),fun r e=>(by cases e)⟩
  ·exact ⟨_,rfl,fun a' e=>(by injection e with e; subst e; omega),fun r e=>(by cases e)⟩) (fun b hb=>trivial) (by simp)
 rw [r1]
 exact ⟨_,rfl⟩
theorem Tt (s:aa) (l more:List aJ) (hl:l.length≤100000) (hm:more.length≤1000000) : ∃ r,o5 s l more=some r∧r.1.length≤l.length + 8:=by
 unfold o5
 dsimp only
 rw [xi more s l hm]
 obtain ⟨r,r1,r2⟩:=aV (g:=fg more s) (fin:=fun b=>(.inl (b,(more.length:Int)))) (fun _ b=>b.length≤l.length + 8∧b.length≤100000) (fun r=>(∀ m,r = .inl m→m.1.length≤l.length + 8)∧∀ m,r = .inr m→m.1.length≤l.length + 8) more 0 l (fun j b x hx hb=>by
  unfold fg
  simp only [LZ,zb]
  split
  ·exact ⟨_,rfl,fun a' e=>(by cases e),fun r e=>(by injection e with e; subst e; exact ⟨fun m em=>(by cases em),fun m em=>(by injection em with em; subst em; exact Nat.zero_le _)⟩)⟩
  obtain ⟨t,t1,t2⟩:=Sk b x hb.2
  simp only [t1,zb]
  split
  ·exact ⟨_,rfl,fun a' e=>(by cases e),fun r e=>(by injection e with e; subst e; exact ⟨fun m em=>(by cases em),fun m em=>(by injection em with em; subst em; exact Nat.zero_le _)⟩)⟩
  ·exact ⟨_,rfl,fun a' e=>(by injection e with e; subst e; exact ⟨by omega,by omega⟩),fun r e=>(by cases e)⟩) (fun b hb=>⟨fun m em=>(by injection em with em; subst em; exact hb.1),fun m em=>(by cases em)⟩) ⟨by omega,hl⟩
 rw [r1]
 simp only [zb]
 cases r with
 | inr m=>exact ⟨_,rfl,r2.2 _ rfl⟩
 | inl m=>exact ⟨_,rfl,r2.1 m rfl⟩
theorem Xa (s:aa) (n:Int) (hl:s.ab.length≤1000000) : ∃ r,uw s n=some r:=by
 unfold uw
 dsimp only
 rw [yQ s n () hl]
 obtain ⟨r,r1,r2⟩:=aV (g:=gc s n) (fin:=fun _=>(.inl (s.ab.length:Int))) (fun _ _=>True) (fun _=>True) s.ab 0 () (fun j b x hx hb=>by
  unfold gc
  simp only [dM,zb]
  split
  ·exact ⟨_,rfl,fun a' e=>trivial,fun r e=>trivial⟩
  ·exact ⟨_,rfl,fun a' e=>trivial,fun r e=>trivial⟩) (fun b hb=>trivial) trivial
 rw [r1]
 simp only [zb]
 cases r <;> exact ⟨_,rfl⟩
theorem KU {M:Nat} {s:aa} (h:OkS M s) (hM:M + 100≤1000000) (x:aH) (hx:x.fW.length≤1000000) : ∃ r,rH s x=some r∧OkS (M + 40) r.1:=by
 have k1:=h.small
 unfold rH
 simp only [kF s _ (show s.ar.length≤1000000 by omega),zb,dM]
 obtain ⟨o,o1,_⟩:=Ua s x.fId (by omega)
 split
 ·rw [o1]
  exact ⟨_,rfl,h.mono (by omega)⟩
 rw [EX s _ _ (by omega)]
 simp only [zb,kG]
 split
 ·exact ⟨_,rfl,h.mono (by omega)⟩
 have hb:=Xd h x.fId x.co
 generalize (ER s x.fId x.co).1=t at hb
 have k2:=hb.small
 rw [yR x t [] hx]
 obtain ⟨r,r1,r2⟩:=aV (g:=gf x t) (fin:=fun b=>(b,(x.fW.length:Int))) (fun k b=>b.length≤k) (fun r=>r.1.length≤x.fW.length) x.fW 0 [] (fun j b y hy hb=>by
  have hj:=(zg.1 hy).1
  unfold gf
  simp only [jr t y (show t.ab.length≤1000000 by omega),zb,dM]
  split
  ·rw [aD (by simp; omega)]
   exact ⟨_,rfl,fun a' e=>(by injection e with e; subst e; simp; omega),fun r e=>(by cases e)⟩
  ·exact ⟨_,rfl,fun a' e=>(by injection e with e; subst e; omega),fun r e=>(by cases e)⟩) (fun b hb=>(by simpa using hb)) (by simp)
 rw [r1]
 simp only [zb]
 obtain ⟨a,a1,a2⟩:=hb.lose r.1 (by omega) (by omega)
 obtain ⟨c,c1,c2⟩:=a2.r14 (by omega) x.fId
 have k3:=c2.small
 obtain ⟨o,o1,_⟩:=Ua c.1 x.fId (by omega)
 simp only [a1,c1,o1,zb]
 exact ⟨_,rfl,c2⟩
theorem mN {α : Type} (p : α→Bool) (l:List α) : (l.filter p).length≤l.length:=List.length_filter_le _ _
theorem RD {M:Nat} {s:aa} (h:OkS M s) (hM:M + 100≤100000) (x:aH) (hx:x.fW.length≤1000000) (ha:x.bQ.length≤1000000) : ∃ r,mR s x=some r∧OkS (M + 10) r.1:=by
 have k1:=h.small
 unfold mR
 simp only [ei s _ (show s.ao.length≤1000000 by omega),zb,kG]
 have stay:OkS (M + 10) s:=h.mono (by omega)
 split
 ·exact ⟨_,rfl,stay⟩
 split
 ·exact ⟨_,rfl,stay⟩
 split
 ·exact ⟨_,rfl,stay⟩
 have hA:=h.sz.get x.fId
 obtain ⟨n,hn⟩:=DD s (ca s x.fId).fId (by omega)
 have q1:=hA.told; have q2:=hA.lost; have q3:=hA.asks; have q4:=hA.grants; have q5:=hA.kills
 split
 ·obtain ⟨c,hc⟩:=LO (ca s x.fId).s7 s (by omega) (by omega)
  simp only [hc,hn,zb]
  rw [aD (by simp; omega)]
  exact ⟨_,rfl,stay⟩
 split
 ·exact ⟨_,rfl,stay⟩
 obtain ⟨w,w1,w2⟩:=Tt s (ca s x.fId).bQ x.bQ (by omega) ha
 simp only [w1,zb]
 split
 ·exact ⟨_,rfl,stay⟩
 rw [vJ x (s,ca s x.fId) hx]
 obtain ⟨r,r1,l,g,r2,r3,r4,r5⟩:=aV (g:=eF x) (fin:=fun b=>(b.1,b.2,(x.fW.length:Int))) (fun _ b=>∃ (l:List ai) (g:List Int),b.1 = { s with ab:=l } ∧ l.length≤s.ab.length∧b.2 = { ca s x.fId with cr:=g } ∧ g.length≤(ca s x.fId).cr.length) (fun r=>∃ (l:List ai) (g:List Int),r.1 = { s with ab:=l } ∧ l.length≤s.ab.length∧r.2.1 = { ca s x.fId with cr:=g } ∧ g.length≤(ca s x.fId).cr.length) x.fW 0 (s,ca s x.fId) (fun j b y hy ⟨l,g,b1,b2,b3,b4⟩=>by
  obtain ⟨bs,ba⟩:=b
  dsimp only at b1 b3
  subst b1
  subst b3
  unfold eF
  dsimp only
  rw [jr { s with ab:=l } y (show l.length≤1000000 by omega)]
  simp only [zb,dM]
  split
  ·rw [uK { s with ab:=l } _ (show l.length≤1000000 by omega),uJ g _ (by omega)]
   simp only [zb]
   exact ⟨_,rfl,fun a' e=>(by injection e with e; subst e; exact ⟨_,_,rfl,Nat.le_trans (mN _ _) b2,rfl,Nat.le_trans (mN _ _) b4⟩),fun r e=>(by cases e)⟩
  ·exact ⟨_,rfl,fun a' e=>(by injection e with e; subst e; exact ⟨l,g,rfl,b2,rfl,b4⟩),fun r e=>(by cases e)⟩) (fun b hb=>hb) ⟨s.ab,(ca s x.fId).cr,rfl,Nat.le_refl _,rfl,Nat.le_refl _⟩
 rw [r1]
 obtain ⟨rs,ra,ri⟩:=r
 dsimp only at r2 r4
 subst r2
 subst r4
 have ht:OkS M { s with ab:=l } := h.fewer (c:=l) (l:=s.aR) r3 (Nat.le_refl _)
 simp only [zb]
 obtain ⟨c,hc⟩:=LO g { s with ab:=l } (show l.length≤1000000 by omega) (by omega)
 obtain ⟨n,hn⟩:=DD { s with ab:=l } (ca s x.fId).fId (show l.length≤1000000 by omega)
 simp only [hc,hn,zb]
 rw [aD (by simp; omega)]
 simp only [zb]
 rw [kI { s with ab:=l } _ (by show s.ao.length + 1≤_; omega)]
 refine ⟨_,rfl,OkS.mono (ht.put (k:=8) (fun B hB=>?_)) (by omega)⟩
 have hb:SzA B (ca s x.fId):=hB.get x.fId
 have p1:=hb.asks; have p2:=hb.grants; have p3:=hb.kills
 exact ⟨⟨hb.queue.1,hB.nodes.2.2.1.1,hB.nodes.2.2.1.2,hb.queue.2.2.2⟩,by show w.1.length≤_; omega,Nat.zero_le _,Nat.zero_le _,by show g.length≤_; omega,by show (ca s x.fId).i8.length≤_; omega⟩
theorem UQ {M:Nat} {s:aa} (h:OkS M s) (hM:M + 100≤100000) (id st:Int) : ∃ r,sM s id st=some r∧OkS (M + 10) r.1:=by
 have k1:=h.small
 unfold sM
 simp only [ei s _ (show s.ao.length≤1000000 by omega),zb,kG,ft]
 split
 ·exact ⟨_,rfl,h.mono (by omega)⟩
 split
 ·exact ⟨_,rfl,h.mono (by omega)⟩
 unfold zA
 simp only [ei s id (show s.ao.length≤1000000 by omega),zb,ft,orB]
 split
 ·exact ⟨_,rfl,h.mono (by omega)⟩
 ·rw [kI s _ (by omega)]
  simp only [zb]
  rw [uH _ _ (by show s.ab.length≤_; omega) (by show s.aR.length≤_; omega)]
  have ht:=h.put (k:=0) (a:={ ca s id with ef:=st,bQ:=[],cr:=[],i8:=[],s7:=[],tY:=[] }) (fun B hB=>⟨(hB.get id).queue,Nat.zero_le _,Nat.zero_le _,Nat.zero_le _,Nat.zero_le _,Nat.zero_le _⟩)
  exact ⟨_,rfl,(ht.fewer (c:=s.ab.filter fun c=>!(c.bz==id)) (l:=s.aR.filter fun c=>c.bz != id) (mN _ _) (mN _ _)).mono (by omega)⟩
theorem NL (s:aa) (hl:s.ao.length≤1000000) : ∃ l,mZ s=some { s with ao:=l } ∧ l.Sublist s.ao:=by
 unfold mZ
 dsimp only
 rw [vQ s (false,[]) hl]
 obtain ⟨r,h1,h2⟩:=aV (g:=eP s) (fin:=fun b=>(b.1,b.2,(s.ao.length:Int))) (fun k b=>b.2.length≤k∧b.2.Sublist (s.ao.take k)) (fun r=>r.2.1.Sublist s.ao) s.ao 0 (false,[]) (fun j b x hx ⟨hb,hm⟩=>by
  have hj:=(zg.1 hx).1
  have hmono:∀ {l:List az},l.Sublist (s.ao.take (0 + j))→l.Sublist (s.ao.take (0 + j + 1)):=fun hk=>hk.trans (List.take_sublist_take_left (by omega))
  unfold eP
  simp only [ft,dM,zb]
  split
  ·exact ⟨_,rfl,fun a' e=>(by injection e with e; subst e; exact ⟨by show b.2.length≤_; omega,hmono hm⟩),fun r e=>(by cases e)⟩
  ·rw [aD (by simp; omega)]
   refine ⟨_,rfl,fun a' e=>?_,fun r e=>(by cases e)⟩
   injection e with e
   subst e
   refine ⟨by simp; omega,?_⟩
   show (b.2 ++ [x]).Sublist _
   rw [List.take_add_one,show s.ao[0 + j]? = some x by rw [Nat.zero_add]; exact hx]
   exact hm.append (List.Sublist.refl _)) (fun b ⟨hb,hm⟩=>by simpa using hm) ⟨by simp,by simp⟩
 rw [h1]
 exact ⟨_,rfl,h2⟩
theorem OkS.apps {M:Nat} {s:aa} (h:OkS M s) {l:List az} (hl:l.Sublist s.ao) : OkS M { s with ao:=l } := by
 obtain ⟨⟨B,h1,h2⟩,h3⟩:=h
 exact ⟨⟨B,⟨h1.conf,h1.nodes,Nat.le_trans hl.length_le h1.apps,h1.conts,h1.slots,h1.plans,fun x hx=>h1.app x (hl.subset hx)⟩,h2⟩,List.Pairwise.sublist hl h3⟩
theorem Q9 {M:Nat} {s:aa} (h:OkS M s) (hM:M + 100≤100000) (a:az) (hq:a.bO.size≤1000000∧a.fId < 9000) : ∃ r,na s a=some r∧OkS (M + 10) r.1:=by
 have k1:=h.small
 have stay:OkS (M + 10) s:=h.mono (by omega)
 unfold na
 simp only [MS,orB,zb,ei s _ (show s.ao.length≤1000000 by omega),xh _ _ h.sz.conf.sz]
 split
 ·exact ⟨_,rfl,stay⟩
 split
 ·exact ⟨_,rfl,stay⟩
 rw [vR s 0 (by omega)]
 obtain ⟨r,hr,_⟩:=aV (g:=eR s) (fin:=fun b=>(b,(s.ao.length:Int))) (fun _ _=>True) (fun _=>True) s.ao 0 0 (fun j b x hx _=>by
  unfold eR
  simp only [ft,zb,rV]
  exact ⟨_,rfl,fun _ _=>trivial,fun _ _=>trivial⟩) (fun _ _=>trivial) trivial
 rw [hr]
 simp only [zb]
 split
 ·exact ⟨_,rfl,stay⟩
 split
 ·exact ⟨_,rfl,stay⟩
 obtain ⟨l,hl,hl1⟩:=NL s (by omega)
 have fin:∀ t:aa,OkS M t→∃ r,Option.bind (o8 a) (fun c17=>Option.bind (cZ t ⟨a.fId,1,a.bO,a.eh,a.bD,a.bI,c17,t.cP,0,[],[],[],[]⟩) fun c18=>some (c18,(0:Int)))=some r∧OkS (M + 10) r.1:=by
  intro t ht
  have h5:=ht.small
  rw [oO]
  simp only [zb]
  rw [kI t _ (by omega)]
  exact ⟨_,rfl,(ht.put (k:=1) (a:=⟨a.fId,1,a.bO,a.eh,a.bD,a.bI,[⟨0,0,a.bI,1,-1,-1,0⟩],t.cP,0,[],[],[],[]⟩) fun B hB=>⟨⟨hq.1,hB.nodes.2.2.1.1,hB.nodes.2.2.1.2,hq.2⟩,by simp,Nat.zero_le _,Nat.zero_le _,Nat.zero_le _,Nat.zero_le _⟩).mono (by omega)⟩
 split
 ·rw [hl]
  simp only [zb]
  exact fin { s with ao:=l } (h.apps hl1)
 ·exact fin s h
theorem OkS.noSlot {M:Nat} {s:aa} (h:OkS M s) (hM:M≤1000000) (n:Int) : ∃ r,dU s n=some r∧OkS M r:=by
 have k1:=h.small
 exact ⟨_,wd s n (by omega),h.fewer (c:=s.ab) (Nat.le_refl _) (mN _ _)⟩
theorem V7 {M:Nat} {s:aa} (h:OkS M s) (hM:M + 100≤100000) (n:Int) : ∃ r,rF s n=some r∧OkS (M + 10) r.1:=by
 have k1:=h.small
 have stay:OkS (M + 10) s:=h.mono (by omega)
 unfold rF
 simp only [orB,zb,kG]
 split
 ·exact ⟨_,rfl,stay⟩
 split
 ·exact ⟨_,rfl,stay⟩
 rename_i hq1 hq2
 have hq1 : 1≤n∧n≤100:=by
  have h9:(decide (n < 1)||decide (n > 100))=false:=by simpa using hq1
  simp at h9
  omega
 have hnow:=h.sz.nodes.2.2.1
 have hq2:i64.wrap (s.cP + n)=s.cP + n∧s.cP + n≤1000000000:=by
  have e:i64.wrap (s.cP + n)=s.cP + n:=by rw [IntKind.wrap_i64]; omega
  have h9 : ¬ (i64.wrap (s.cP + n) > 1000000000):=fun h=>hq2 (by simpa using h)
  exact ⟨e,by omega⟩
 have h1:=h.now (n:=i64.wrap (s.cP + n)) (by rw [hq2.1]; omega)
 have hconts:({ s with cP:=i64.wrap (s.cP + n) } : aa).ab.length≤M:=h1.small.2.2.1
 generalize ({ s with cP:=i64.wrap (s.cP + n) } : aa)=t at h1
 have k2:=h1.small
 rw [Jy t (by omega)]
 simp only [zb]
 have hl:((t.ar.filter fun b=>b.fUp&&decide (i64.wrap (t.cP - b.cW)≥10)).map aB.fId).length≤1000000:=by
  rw [List.length_map]
  exact Nat.le_trans (mN _ _) (by omega)
 generalize ((t.ar.filter fun b=>b.fUp&&decide (i64.wrap (t.cP - b.cW)≥10)).map aB.fId)=l at hl
 rw [yP l t hl]
 obtain ⟨r,r1,r2⟩:=aV (g:=ga l) (fin:=fun b=>(b,(l.length:Int))) (fun _ b=>OkS M b) (fun r=>OkS M r.1) l 0 t (fun j b y hy hb=>by
  have k3:=hb.small
  unfold ga
  dsimp only
  rw [EW b y (by omega)]
  simp only [zb]
  obtain ⟨c,c1,c2⟩:=(WT hb y).noSlot (by omega) y
  have k4:=c2.small
  obtain ⟨o,o1,o2⟩:=Ua c y (by omega)
  obtain ⟨z,z1,z2⟩:=c2.lose o (by omega) (by omega)
  simp only [c1,o1,z1,zb]
  exact ⟨_,rfl,fun a' e=>(by injection e with e; subst e; exact z2),fun r e=>(by cases e)⟩) (fun b hb=>hb) h1
 rw [r1]
 simp only [zb]
 have k5:=r2.small
 rw [Gq r.1 (by omega)]
 simp only [zb]
 have hl2:((r.1.ao.filter fun b=>b.ef==2&&decide (i64.wrap (r.1.cP - b.cW)≥15)).map az.fId).length≤1000000:=by
  rw [List.length_map]
  exact Nat.le_trans (mN _ _) (by omega)
 generalize ((r.1.ao.filter fun b=>b.ef==2&&decide (i64.wrap (r.1.cP - b.cW)≥15)).map az.fId)=l2 at hl2
 rw [yO l2 r.1 hl2]
 obtain ⟨q,q1,q2⟩:=aV (g:=f9 l2) (fin:=fun b=>(b,(l2.length:Int))) (fun _ b=>OkS M b) (fun r=>OkS M r.1) l2 0 r.1 (fun j b y hy hb=>by
  have k3:=hb.small
  unfold f9
  dsimp only
  obtain ⟨c,c1⟩:=Xa b y (by omega)
  obtain ⟨z,z1,z2⟩:=hb.lose [c] (by simp) (by omega)
  simp only [c1,z1,zb]
  exact ⟨_,rfl,fun a' e=>(by injection e with e; subst e; exact z2),fun r e=>(by cases e)⟩) (fun b hb=>hb) r2
 rw [q1]
 simp only [zb]
 have k6:=q2.small
 rw [yN q.1 [] (by omega)]
 obtain ⟨p,p1,p2⟩:=aV (g:=f8 q.1) (fin:=fun b=>(b,(q.1.bv.length:Int))) (fun k b=>b.length≤k) (fun r=>r.1.length≤q.1.bv.length) q.1.bv 0 [] (fun j b y hy hb=>by
  have hj:=(zg.1 hy).1
  unfold f8
  dsimp only
  split
  ·rw [aD (by simp; omega)]
   exact ⟨_,rfl,fun a' e=>(by injection e with e; subst e; simp; omega),fun r e=>(by cases e)⟩
  ·exact ⟨_,rfl,fun a' e=>(by injection e with e; subst e; omega),fun r e=>(by cases e)⟩) (fun b hb=>(by simpa using hb)) (by simp)
 rw [p1]
 simp only [zb]
 obtain ⟨z,z1,z2,z3⟩:=JR (q2.plans p2) (by omega)
 have k7:=z2.small
 simp only [z1,zb]
 rw [BN s z.1 (by omega) (by omega)]
 exact ⟨_,rfl,z2.mono (by omega)⟩
theorem Yu {M:Nat} {s:aa} (h:OkS M s) (hM:M + 100≤100000) (p:a6) (n:Int) : ∃ r,sN s p n=some r∧OkS (M + 10) r.1:=by
 obtain ⟨⟨B,h1,h2⟩,h3⟩:=h
 obtain ⟨r,r1,r2,r3,r4⟩:=Pc h1 (by omega) p n
 exact ⟨r,r1,⟨B + 1,r2,by rw [r3]; omega⟩,by rw [r4]; exact h3⟩
theorem WS {M:Nat} {s:aa} (h:OkS M s) (hM:M + 100≤100000) (id:Int) : ∃ r,pU s id=some r∧OkS (M + 10) r.1:=by
 obtain ⟨⟨B,h1,h2⟩,h3⟩:=h
 obtain ⟨r,r1,r2,r3,r4⟩:=MB h1 (by omega) id
 exact ⟨r,r1,⟨B,r2,by rw [r3]; omega⟩,by rw [r4]; exact h3⟩
structure InP (x:aH) : Prop where
 ids:x.fW.length≤1000000
 asks:x.bQ.length≤1000000
 queue:x.bz.bO.size≤1000000∧x.bz.fId < 9000
theorem oa {α : Type} {c:Prop} [Decidable c] {a b:Option α} {Q : α→Prop} (h1:∃ r,a=some r∧Q r) (h2:∃ r,b=some r∧Q r) : ∃ r,(if c then a else b)=some r∧Q r:=by
 by_cases h:c
 ·rw [if_pos h]; exact h1
 ·rw [if_neg h]; exact h2
theorem QY {M:Nat} {s:aa} (h:OkS M s) (hM:M + 100≤100000) {x:aH} (hx:InP x) : ∃ r,nW s x=some r∧OkS (M + 40) r.1:=by
 have k1:=h.small
 have up:∀ {o:Option (aa×bk)},(∃ r,o=some r∧OkS (M + 10) r.1)→∃ r,(Option.bind o fun c=>some c)=some r∧OkS (M + 40) r.1:=fun ⟨r,e,hr⟩=>by
  rw [e]
  exact ⟨r,rfl,hr.mono (by omega)⟩
 unfold nW
 refine oa ?_ ?_
 ·obtain ⟨r,r1,r2⟩:=Sa h (by omega) x.Lm
  exact up ⟨r,r1,r2.mono (by omega)⟩
 refine oa ?_ ?_
 ·rw [um s _ (by omega)]
  exact ⟨_,rfl,(XV h x.bf).mono (by omega)⟩
 refine oa ?_ ?_
 ·obtain ⟨r,r1,r2⟩:=KU h (by omega) x hx.ids
  rw [r1]
  exact ⟨_,rfl,r2⟩
 refine oa ?_ ?_
 ·obtain ⟨r,r1,r2⟩:=Q9 h hM x.bz hx.queue
  rw [r1]
  exact ⟨_,rfl,r2.mono (by omega)⟩
 refine oa ?_ ?_
 ·exact up (RD h hM x hx.ids hx.asks)
 refine oa ?_ ?_
 ·exact up (UQ h hM x.fId 3)
 refine oa ?_ ?_
 ·exact up (UQ h hM x.fId 4)
 refine oa ?_ ?_
 ·exact up (V7 h hM x.fN)
 refine oa ?_ ?_
 ·obtain ⟨r,r1,r2⟩:=Yu h hM x.pv x.fN
  rw [r1]
  exact ⟨_,rfl,r2.mono (by omega)⟩
 refine oa ?_ ?_
 ·obtain ⟨r,r1,r2⟩:=WS h hM x.fId
  rw [r1]
  exact ⟨_,rfl,r2.mono (by omega)⟩
 refine oa ?_ ?_
 ·refine oa ?_ ?_
  ·exact ⟨_,rfl,h.mono (by omega)⟩
  ·exact ⟨_,rfl,(h.epoch (i64.wrap (s.eW + 1)) 0).mono (by omega)⟩
 ·exact ⟨_,rfl,h.mono (by omega)⟩
def DF:aa:=⟨⟨[⟨#[]⟩],[⟨⟨#[114,111,111,116]⟩,[⟨10000,10000⟩],10000⟩]⟩,[],[],[],[],[],0,0,0⟩
theorem OU:JJ=some DF:=rfl
theorem Wd:yC ⟨#[114,111,111,116]⟩=some [⟨#[114,111,111,116]⟩]:=by kernel_rfl
theorem Qh:OkS 1 DF:=by
 refine ⟨⟨0,⟨⟨⟨by decide,by decide,?_,?_⟩,?_,?_,⟨by decide,?_⟩,by decide,?_,?_⟩,⟨by decide,List.Pairwise.nil,by decide,fun n hn=>by cases hn⟩,by decide,by decide,by decide,by decide,?_⟩,by decide⟩,List.Pairwise.nil⟩
 ·intro q hq; simp only [DF,List.mem_singleton] at hq; subst hq; decide
 ·intro q hq; simp only [DF,List.mem_singleton] at hq; subst hq; decide
 ·intro q hq; simp only [DF,List.mem_singleton] at hq; subst hq; rfl
 ·intro q hq r hr x hx
  simp only [DF,List.mem_singleton] at hq
  subst hq
  rw [Wd] at hr
  injection hr with hr
  subst hr
  simp only [List.mem_singleton] at hx
  subst hx
  exact CJ (c:=DF.bL) (q:=⟨⟨#[114,111,111,116]⟩,[⟨10000,10000⟩],10000⟩) (by simp [DF])
 ·intro q hq; simp only [DF,List.mem_singleton] at hq; subst hq; show dz 6 _≤4; rw [show dz 6 ⟨#[114,111,111,116]⟩=1 by kernel_rfl]; decide
 ·exact ⟨⟨⟨#[114,111,111,116]⟩,[⟨10000,10000⟩],10000⟩,by simp [DF],by kernel_rfl⟩
 ·intro x hx; simp only [DF,List.mem_singleton] at hx; subst hx; decide
 ·intro a ha; cases ha
def fu (v_c:ay) (st:(List ByteArray)) (x_:aC) : Option (((List ByteArray))⊕(((List ByteArray)×Int))) :=
 let v_l:=st
 (kh v_c x_.aK).bind fun c5=>if c5=true then
 (aW v_l [x_.aK]).bind fun b6=>let v_l:(List ByteArray):=b6
 some (.inl v_l)
 else
 some (.inl v_l)
theorem xz (v_c:ay) (a_:(List ByteArray)) (hl:v_c.ae.length≤1000000) : ah (ku v_c) ac (a_,(0))=bl (fu v_c) (fun a_=>(a_,((v_c.ae.length:Int)))) a_ v_c.ae :=
 ax v_c.ae (S:=(List ByteArray)×Int) (fun a_ k_=>(a_,(k_))) (fu v_c) (fun a_=>(a_,((v_c.ae.length:Int)))) (an hl) (fun k a x hx=>by
  unfold ku fu; exact bE)
  (fun a=>by unfold ku; exact cA) a_
def dh (v_s:aa) (v_p:az) (v_a:aQ) (st:aH) (v_i:Int) (x_:ai) : Option ((aH)⊕((aH×Int))) :=
 let v_x:=st
 (if (x_.bz==v_p.fId)=true then (bj (i64.wrap (v_a.fD + v_i)) 11).bind fun c23=>some (c23==10) else some false).bind fun q24=>if q24=true then
 (aW v_x.fW [x_.fId]).bind fun b25=>let v_x:aH:={ v_x with fW:=b25 }
 some (.inl v_x)
 else
 some (.inl v_x)
theorem sS (v_s:aa) (v_p:az) (v_a:aQ) (a_:aH) (hl:v_s.ab.length≤1000000) : ah (fM v_s v_p v_a) ac (a_,(0))=nC (dh v_s v_p v_a) (fun a_=>(a_,((v_s.ab.length:Int)))) a_ 0 v_s.ab :=
 fa v_s.ab (S:=aH×Int) (fun a_ k_=>(a_,(k_))) (dh v_s v_p v_a) (fun a_=>(a_,((v_s.ab.length:Int)))) (an hl) (fun k a x hx=>by
  unfold fM dh; exact bE)
  (fun a=>by unfold fM; exact cA) a_
def dG (v_s:aa) (v_a:aQ) (bC:Int) (st:aH) (x_:aB) : Option ((aH)⊕((aH×Int))) :=
 let v_x:=st
 if (x_.fId==bC)=true then
 (bj v_a.fB 8).bind fun c17=>let v_x:aH:={ v_x with co:=(i64.wrap ((i64.wrap (x_.co + 1)) - (i64.wrap (Int.tdiv c17 6)))) }
 some (.inl v_x)
 else
 some (.inl v_x)
theorem tq (v_s:aa) (v_a:aQ) (bC:Int) (a_:aH) (hl:v_s.ar.length≤1000000) : ah (gZ v_s v_a bC) ac (a_,(0))=bl (dG v_s v_a bC) (fun a_=>(a_,((v_s.ar.length:Int)))) a_ v_s.ar :=
 ax v_s.ar (S:=aH×Int) (fun a_ k_=>(a_,(k_))) (dG v_s v_a bC) (fun a_=>(a_,((v_s.ar.length:Int)))) (an hl) (fun k a x hx=>by
  unfold gZ dG; exact bE)
  (fun a=>by unfold gZ; exact cA) a_
def dF (v_s:aa) (bC:Int) (v_a:aQ) (st:aH) (aU:Int) (x_:ai) : Option ((aH)⊕((aH×Int))) :=
 let v_x:=st
 (if (x_.bf==bC)=true then (bj (i64.wrap (v_a.fC + aU)) 9).bind fun c23=>some (c23==8) else some false).bind fun q24=>if q24=true then
 (aW v_x.fW [x_.fId]).bind fun b25=>let v_x:aH:={ v_x with fW:=b25 }
 some (.inl v_x)
 else
 some (.inl v_x)
theorem tp (v_s:aa) (bC:Int) (v_a:aQ) (a_:aH) (hl:v_s.ab.length≤1000000) : ah (gY v_s bC v_a) ac (a_,(0))=nC (dF v_s bC v_a) (fun a_=>(a_,((v_s.ab.length:Int)))) a_ 0 v_s.ab :=
 fa v_s.ab (S:=aH×Int) (fun a_ k_=>(a_,(k_))) (dF v_s bC v_a) (fun a_=>(a_,((v_s.ab.length:Int)))) (an hl) (fun k a x hx=>by
  unfold gY dF; exact bE)
  (fun a=>by unfold gY; exact cA) a_
def cS (v_x:aE) (st:aa) (x_:aQ) : Option ((aa)⊕((aa×Int))) :=
 let v_s:=st
 (g5 x_ v_s).bind fun c9=>(nW v_s c9).bind fun c10=>let v_s:aa:=c10.1
 some (.inl v_s)
theorem qN (v_x:aE) (a_:aa) (hl:v_x.mp.length≤1000000) : ah (dg v_x) ac (a_,(0))=bl (cS v_x) (fun a_=>(a_,((v_x.mp.length:Int)))) a_ v_x.mp :=
 ax v_x.mp (S:=aa×Int) (fun a_ k_=>(a_,(k_))) (cS v_x) (fun a_=>(a_,((v_x.mp.length:Int)))) (an hl) (fun k a x hx=>by
  unfold dg cS; exact bE)
  (fun a=>by unfold dg; exact cA) a_
theorem aY (a:Int) {n:Int} (h0 : 0 < n) (h1:n≤1000000000) : Ok (bj a n) (fun k=>0≤k∧k < n):=by
 unfold bj FV
 rw [if_neg (by omega)]
 have h:=Iq (a:=a) h0
 simp only [zb]
 refine Ok.bind (P:=fun k=>0≤k∧k < n) (Ok.ite (fun hc=>?_) fun hc=>?_) fun r hr=>Ok.pure hr
 ·have:=zd hc
  refine Ok.pure ?_
  rw [IntKind.wrap_i64]; omega
 ·have:=of_decide_eq_false (by simpa using hc:decide (a.tmod n < 0)=false)
  exact Ok.pure (by omega)
theorem xy (n:Int) : Ok (vy n) (fun _=>True):=by
 unfold vy
 exact Ok.bind (aY _ (by omega) (by omega)) fun k hk=>Ok.bind (ka hk.1 hk.2) fun b _=>Ok.pure trivial
theorem Kd {c:ay} (h:zK c) : Ok (vz c) (fun l=>0 < l.length∧l.length≤1000∧∀ x∈l,x.size≤1000000):=by
 have hq:=h.sz.queues
 unfold vz
 dsimp only
 have e:fu c=fun acc x=>if Bs c x.aK=true then (aW acc [x.aK]).map (fun a=>(.inl a:List ByteArray⊕(List ByteArray×Int))) else some (.inl acc):=by
  funext acc x
  unfold fu
  simp only [xh _ _ h.sz,zb]
  split
  ·cases aW acc [x.aK] <;> rfl
  ·rfl
 rw [xz c [] (by omega),e,cj (fun q:aC=>Bs c q.aK) aC.aK _ c.ae [] (by simp; omega)]
 simp only [zb,List.nil_append]
 refine Ok.pure ⟨?_,?_,fun x hx=>?_⟩
 ·obtain ⟨q,hq,hl⟩:=h.leaf
  rw [List.length_map]
  exact List.length_pos_of_mem (List.mem_filter.2 ⟨hq,hl⟩)
 ·rw [List.length_map]
  exact Nat.le_trans (List.length_filter_le _ _) hq
 ·obtain ⟨q,hq,rfl⟩:=List.mem_map.1 hx
  exact h.sz.paths q (List.mem_filter.1 hq).1
theorem Kc {M:Nat} {s:aa} (h:OkS M s) (hM:M≤100000) (a:aQ) : Ok (nA a s) InP:=by
 have k1:=h.small
 have hlab:=h.sz.conf.lab1
 have hlab2:=h.sz.conf.sz.labels
 unfold nA
 dsimp only
 refine Ok.ite (fun _=>Ok.pure ⟨by simp,by simp,by decide⟩) fun hc=>?_
 have hn:(s.ao.length:Int)≠0:=fun e=>hc (by rw [e]; rfl)
 refine Ok.bind (aY _ (by omega) (by omega)) fun w hw=>Ok.bind (ka hw.1 hw.2) fun p _=>Ok.bind (aY _ (by omega) (by omega)) fun u _=>?_
 refine Ok.bind (P:=fun x:aH=>x.fW = []∧x.bQ.length≤1∧(x.bz.bO.size=0∧x.bz.fId=0)) (Ok.ite (fun _=>?_) fun _=>Ok.pure ⟨rfl,by simp,rfl,rfl⟩) fun x ⟨x1,x2,x3⟩=>?_
 ·refine Ok.bind (aY _ (by omega) (by omega)) fun c7 _=>Ok.bind (aY _ (by omega) (by omega)) fun c8 _=>Ok.bind (xy _) fun c9 _=>Ok.bind (aY _ (by omega) (by omega)) fun c10 _=>?_
  refine Ok.bind (P:=fun j:aJ×aH=>j.2.fW = []∧(j.2.bz.bO.size=0∧j.2.bz.fId=0)) (Ok.ite (fun _=>Ok.bind (aY _ (by omega) (by omega)) fun _ _=>Ok.pure ⟨rfl,rfl,rfl⟩) fun _=>Ok.pure ⟨rfl,rfl,rfl⟩) fun j1 ⟨j2,j3⟩=>?_
  refine Ok.bind (P:=fun j:aJ×aH=>j.2.fW = []∧(j.2.bz.bO.size=0∧j.2.bz.fId=0)) (Ok.ite (fun _=>Ok.bind (aY _ (by omega) (by omega)) fun _ _=>Ok.bind (aY _ (by omega) (by omega)) fun _ _=>Ok.pure ⟨j2,j3⟩) fun _=>Ok.pure ⟨j2,j3⟩) fun j4 ⟨j5,j6⟩=>Ok.pure ⟨j5,by simp,j6⟩
 ·rw [sS s p a x (by omega)]
  refine Ok.bind (tB (g:=dh s p a) (fin:=fun a_=>(a_,((s.ab.length:Int)))) (fun k b=>b.fW.length≤k∧b.bQ.length≤1∧(b.bz.bO.size=0∧b.bz.fId=0)) s.ab x (fun j b y hy ⟨b1,b2,b3⟩=>?_) ⟨by rw [x1]; simp,x2,x3⟩) fun r ⟨q,e,q1,q2,q3⟩=>?_
  ·have hj:=(zg.1 hy).1
   unfold dh
   dsimp only
   refine Ok.bind (P:=fun _=>True) (Ok.ite (fun _=>Ok.bind (aY _ (by omega) (by omega)) fun _ _=>Ok.pure trivial) fun _=>Ok.pure trivial) fun t _=>Ok.ite (fun _=>?_) fun _=>Ok.pure ⟨_,rfl,by omega,b2,b3⟩
   rw [aD (by simp; omega)]
   exact Ok.pure ⟨_,rfl,by simp; omega,b2,b3⟩
  ·subst e
   exact Ok.pure ⟨by dsimp only; omega,by dsimp only; omega,by dsimp only; omega⟩
theorem M0 {M:Nat} {s:aa} (h:OkS M s) (hM:M≤100000) (a:aQ) : Ok (g5 a s) InP:=by
 have k1:=h.small
 have hlab:=h.sz.conf.lab1
 have hlab2:=h.sz.conf.sz.labels
 have orOk:∀ {c:Prop} [Decidable c] {d:Bool},Ok (if c then some true else some d) (fun _=>True):=fun {c} _ {d} => Ok.ite (fun _=>Ok.pure trivial) fun _=>Ok.pure trivial
 have hx0:∀ k id b n t nd ap pl,ap.bO.size≤1000000∧ap.fId < 9000→InP (⟨k,id,b,n,t,nd,ap,[],[],pl⟩ : aH):=fun k id b n t nd ap pl hq=>⟨by simp,by simp,hq⟩
 unfold g5
 dsimp only
 refine Ok.bind (aY _ (by omega) (by omega)) fun c1 _=>Ok.bind (Kd h.sz.conf) fun lv ⟨l1,l2,l3⟩=>Ok.bind (aY _ (by omega) (by omega)) fun c5 _=>Ok.bind (aY _ (by omega) (by omega)) fun c6 _=>Ok.bind orOk fun q7 _=>?_
 refine Ok.bind (P:=InP) (Ok.ite (fun _=>?_) fun _=>?_) fun r hr=>Ok.pure hr
 ·exact Ok.bind (aY _ (by omega) (by omega)) fun _ _=>Ok.bind (aY _ (by omega) (by omega)) fun _ _=>Ok.bind (aY _ (by omega) (by omega)) fun _ _=>Ok.bind (aY _ (by omega) (by omega)) fun _ _=>Ok.pure (hx0 _ _ _ _ _ _ _ _ (by decide))
 refine Ok.bind (P:=fun _=>True) (Ok.ite (fun _=>Ok.pure trivial) fun _=>Ok.ite (fun _=>Ok.pure trivial) fun _=>orOk) fun q13 _=>Ok.ite (fun _=>?_) fun _=>?_
 ·rw [tq s a c1 _ (by omega)]
  refine Ok.bind (Df (g:=dG s a c1) (fin:=fun a_=>(a_,((s.ar.length:Int)))) (fun k b=>b.fW = []∧b.bQ = []∧(b.bz.bO.size=0∧b.bz.fId=0)) s.ar _ (fun j b y hy ⟨b1,b2,b3⟩=>?_) ⟨rfl,rfl,rfl,rfl⟩) fun r ⟨q,e,q1,q2,q3⟩=>?_
  ·unfold dG
   dsimp only
   exact Ok.ite (fun _=>Ok.bind (aY _ (by omega) (by omega)) fun _ _=>Ok.pure ⟨_,rfl,b1,b2,b3⟩) fun _=>Ok.pure ⟨_,rfl,b1,b2,b3⟩
  subst e
  dsimp only
  rw [tp s c1 a q (by omega)]
  refine Ok.bind (tB (g:=dF s c1 a) (fin:=fun a_=>(a_,((s.ab.length:Int)))) (fun k b=>b.fW.length≤k∧b.bQ = []∧(b.bz.bO.size=0∧b.bz.fId=0)) s.ab q (fun j b y hy ⟨b1,b2,b3⟩=>?_) ⟨by rw [q1]; simp,q2,q3⟩) fun r ⟨q,e,q1,q2,q3⟩=>?_
  ·have hj:=(zg.1 hy).1
   unfold dF
   dsimp only
   refine Ok.bind (P:=fun _=>True) (Ok.ite (fun _=>Ok.bind (aY _ (by omega) (by omega)) fun _ _=>Ok.pure trivial) fun _=>Ok.pure trivial) fun t _=>Ok.ite (fun _=>?_) fun _=>Ok.pure ⟨_,rfl,by omega,b2,b3⟩
   rw [aD (by simp; omega)]
   exact Ok.pure ⟨_,rfl,by simp; omega,b2,b3⟩
  ·subst e
   exact Ok.pure ⟨by dsimp only; omega,by dsimp only; rw [q2]; simp,by dsimp only; omega⟩
 refine Ok.bind orOk fun q24 _=>Ok.ite (fun _=>?_) fun _=>?_
 ·exact Ok.bind (aY _ (by omega) (by omega)) fun _ hi0=>Ok.bind (aY _ (by omega) (by omega)) fun w hw=>Ok.bind (ka hw.1 hw.2) fun b hb=>Ok.bind (aY _ (by omega) (by omega)) fun _ _=>Ok.bind (aY _ (by omega) (by omega)) fun _ _=>Ok.bind (xy _) fun _ _=>Ok.pure (hx0 _ _ _ _ _ _ _ _ ⟨l3 b hb,Int.lt_of_lt_of_le hi0.2 (by decide)⟩)
 refine Ok.bind (P:=fun _=>True) (Ok.ite (fun _=>Ok.pure trivial) fun _=>orOk) fun q31 _=>Ok.ite (fun _=>?_) fun _=>?_
 ·exact Ok.bind (Kc h hM a) fun x hx=>Ok.pure hx
 refine Ok.ite (fun _=>?_) fun _=>?_
 ·exact Ok.bind (aY _ (by omega) (by omega)) fun w hw=>Ok.bind (ka hw.1 hw.2) fun _ _=>Ok.bind (aY _ (by omega) (by omega)) fun _ _=>Ok.pure (hx0 _ _ _ _ _ _ _ _ (by decide))
 refine Ok.bind orOk fun q36 _=>Ok.ite (fun _=>?_) fun _=>?_
 ·exact Ok.bind (aY _ (by omega) (by omega)) fun _ _=>Ok.pure (hx0 _ _ _ _ _ _ _ _ (by decide))
 refine Ok.ite (fun _=>?_) fun _=>?_
 ·exact Ok.bind (aY _ (by omega) (by omega)) fun w hw=>Ok.bind (ka hw.1 hw.2) fun _ _=>Ok.bind (aY _ (by omega) (by omega)) fun _ _=>Ok.bind (aY _ (by omega) (by omega)) fun _ _=>Ok.bind (xy _) fun _ _=>Ok.bind (aY _ (by omega) (by omega)) fun _ _=>Ok.pure (hx0 _ _ _ _ _ _ _ _ (by decide))
 refine Ok.ite (fun _=>?_) fun _=>?_
 ·refine Ok.bind (aY _ (by omega) (by omega)) fun w hw=>Ok.bind (ka hw.1 hw.2) fun _ _=>Ok.bind (FQ _ _) fun c hc=>?_
  obtain ⟨t,ht⟩:=E8 hc
  exact Ok.bind (P:=fun _=>True) ⟨t,ht,trivial⟩ fun _ _=>Ok.pure (hx0 _ _ _ _ _ _ _ _ (by decide))
 ·exact Ok.pure (hx0 _ _ _ _ _ _ _ _ (by decide))
theorem Vq (x:aE) (hx:x.mp.length≤80) : Ok (cL x) (OkS 10000):=by
 unfold cL
 rw [OU]
 simp only [zb]
 refine Ok.bind (FQ _ _) fun c hc=>?_
 obtain ⟨t,ht⟩:=E8 hc
 refine Ok.bind (P:=fun _=>True) ⟨t,ht,trivial⟩ fun t _=>Ok.bind (P:=fun r:aa×bk=>OkS 41 r.1) (QY (M:=1) (x:=⟨1,0,0,0,t,aB.zero,az.zero,[],[],a6.zero⟩) Qh (by omega) ⟨by simp,by simp,Nat.zero_le _,show (0:Int) < 9000 by decide⟩) fun r hr=>?_
 refine Ok.bind (P:=OkS 41) (Ok.ite (fun _=>Ok.pure hr) fun _=>Ok.pure (Qh.mono (by omega))) fun s hs=>?_
 rw [qN x s (by omega)]
 refine Ok.bind (Df (g:=cS x) (fin:=fun a_=>(a_,((x.mp.length:Int)))) (fun k b=>OkS (41 + 40 * k) b) x.mp s (fun j b y hy hb=>?_) hs) fun r ⟨q,e,hq⟩=>?_
 ·have hj:=(zg.1 hy).1
  unfold cS
  dsimp only
  exact Ok.bind (M0 hb (by omega) y) fun i hi=>Ok.bind (QY hb (by omega) hi) fun r hr=>Ok.pure ⟨_,rfl,hr.mono (by omega)⟩
 ·subst e
  exact Ok.pure (hq.mono (by omega))
noncomputable def Ur:Option Bool:=xx ()
theorem RJ:Ur=some true:=by kernel_rfl
theorem Yh (x:aE) : nz x=some (decide ((x.fNs.length:Int)≤30)&&decide ((x.mp.length:Int)≤80)):=by
 unfold nz
 simp only [dM,zb]
theorem Dm {α : Type} (key : α→Int) (a : α) : ∀ (l:List α),∀ x∈cM key l a,x=a∨x∈l
 | [],x,hx=>by rw [Dl] at hx; exact .inl (List.mem_singleton.1 hx)
 | y::l,x,hx=>by
  rw [kM] at hx
  split at hx
  ·rcases List.mem_cons.1 hx with h | h
   ·exact .inr (h ▸ List.mem_cons_self)
   ·rcases Dm key a l x h with h | h
    ·exact .inl h
    ·exact .inr (List.mem_cons_of_mem _ h)
  ·split at hx
   ·rcases List.mem_cons.1 hx with h | h
    ·exact .inl h
    ·exact .inr (List.mem_cons_of_mem _ h)
   ·rcases List.mem_cons.1 hx with h | h
    ·exact .inl h
    ·exact .inr h
theorem Bn {α : Type} (key : α→Int) (a : α) : ∀ (l:List α),a∈cM key l a
 | []=>by rw [Dl]; exact List.mem_singleton.2 rfl
 | y::l=>by
  rw [kM]
  split
  ·exact List.mem_cons_of_mem _ (Bn key a l)
  ·split <;> exact List.mem_cons_self
theorem Bo {α : Type} (key : α→Int) (a : α) : ∀ (l:List α),∀ x∈l,key x≠key a→x∈cM key l a
 | [],x,hx,_=>by cases hx
 | y::l,x,hx,hn=>by
  rw [kM]
  split
  ·rcases List.mem_cons.1 hx with h | h
   ·rw [h]; exact List.mem_cons_self
   ·exact List.mem_cons_of_mem _ (Bo key a l x h hn)
  ·split
   ·rename_i he
    rcases List.mem_cons.1 hx with h | h
    ·rw [h] at hn; exact absurd he hn
    ·exact List.mem_cons_of_mem _ h
   ·exact List.mem_cons_of_mem _ hx
theorem xL {α : Type} {key : α→Int} {l:List α} (h:jV key l) {x y : α} (hx:x∈l) (hy:y∈l) (e:key x=key y) : x=y:=by
 obtain ⟨i,hi,rfl⟩:=List.getElem_of_mem hx
 obtain ⟨j,hj,rfl⟩:=List.getElem_of_mem hy
 rcases Nat.lt_trichotomy i j with q | q | q
 ·have:=List.pairwise_iff_getElem.1 h i j hi hj q
  omega
 ·subst q; rfl
 ·have:=List.pairwise_iff_getElem.1 h j i hj hi q
  omega
def nP (v:av) : Prop:=0≤v.be∧v.be≤1073741824∧0≤v.aF∧v.aF≤1073741824
def dV (l:List aJ) : Prop:=∀ x∈l,nP x.bu
def p9 (a:az) : Prop:=dV a.bQ∧nP a.bI
def dw (l:List ai) (id:Int) : Int:=((l.filter fun c=>c.bf==id).map fun c=>c.bu.be).sum
def dx (l:List ai) (id:Int) : Int:=((l.filter fun c=>c.bf==id).map fun c=>c.bu.aF).sum
def JB (E:Int→Prop) (nodes:List aB) (conts:List ai) (apps:List az) (ep sq:Int) : Prop :=
 (nodes.length≤12∧jV aB.fId nodes)∧(conts.length≤200∧(conts.map ai.fId).Nodup) ∧
 (∀ c∈conts,nP c.bu∧c.fId≤ep * 1048576 + sq∧(E c.bf∨∃ n∈nodes,n.fId=c.bf∧n.fUp=true)) ∧
 (∀ n∈nodes,nP n.dY∧dw conts n.fId≤n.dY.be∧dx conts n.fId≤n.dY.aF) ∧
 (∀ a∈apps,p9 a)∧0≤ep∧ep≤1048576∧0≤sq∧sq≤1048575
def JE (E:Int→Prop) (s:aa) : Prop:=JB E s.ar s.ab s.ao s.eW s.lu
def noE:Int→Prop:=fun _=>False
theorem PU {l l':List Int} (h:l.Sublist l') (hn:∀ x∈l',0≤x) : 0≤l.sum∧l.sum≤l'.sum:=by
 induction h with
 | slnil=>simp
 | cons a h ih =>
  have:=ih (fun x hx=>hn x (List.mem_cons_of_mem _ hx))
  have:=hn a List.mem_cons_self
  rw [List.sum_cons]
  omega
 | cons_cons a h ih =>
  have:=ih (fun x hx=>hn x (List.mem_cons_of_mem _ hx))
  have:=hn a List.mem_cons_self
  rw [List.sum_cons,List.sum_cons]
  omega
theorem Km {l l':List ai} (h:l.Sublist l') (hb:∀ c∈l',nP c.bu) (id:Int) : dw l id≤dw l' id∧dx l id≤dx l' id:=by
 have hs:=(h.filter fun c=>c.bf==id)
 refine ⟨(PU (hs.map _) fun x hx=>?_).2,(PU (hs.map _) fun x hx=>?_).2⟩
 ·obtain ⟨c,hc,rfl⟩:=List.mem_map.1 hx
  exact (hb c (List.mem_filter.1 hc).1).1
 ·obtain ⟨c,hc,rfl⟩:=List.mem_map.1 hx
  exact (hb c (List.mem_filter.1 hc).1).2.2.1
theorem JB.conts {E:Int→Prop} {nodes:List aB} {conts l:List ai} {apps:List az} {ep sq:Int} (h:JB E nodes conts apps ep sq) (hs:l.Sublist conts) : JB E nodes l apps ep sq:=by
 obtain ⟨h1,⟨h2,h3⟩,h4,h5,h6⟩:=h
 refine ⟨h1,⟨Nat.le_trans hs.length_le h2,h3.sublist (hs.map _)⟩,fun c hc=>h4 c (hs.subset hc),fun n hn=>?_,h6⟩
 obtain ⟨k1,k2,k3⟩:=h5 n hn
 have:=Km hs (fun c hc=>(h4 c hc).1) n.fId
 exact ⟨k1,by omega,by omega⟩
theorem JB.apps {E:Int→Prop} {nodes:List aB} {conts:List ai} {apps l:List az} {ep sq:Int} (h:JB E nodes conts apps ep sq) (hl:∀ a∈l,p9 a) : JB E nodes conts l ep sq:=by
 obtain ⟨h1,h2,h4,h5,h6,h7⟩:=h
 exact ⟨h1,h2,h4,h5,hl,h7⟩
theorem JB.node {E E':Int→Prop} {nodes:List aB} {conts:List ai} {apps:List az} {ep sq:Int} (h:JB E nodes conts apps ep sq) {a:aB} (hl:(cM aB.fId nodes a).length≤12) (hc:nP a.dY∧dw conts a.fId≤a.dY.be∧dx conts a.fId≤a.dY.aF) (hE:∀ i,E i→E' i) (hup:∀ n∈nodes,n.fId=a.fId→n.fUp=true→a.fUp=true∨E' a.fId) : JB E' (cM aB.fId nodes a) conts apps ep sq:=by
 obtain ⟨⟨h0,h1⟩,h2,h4,h5,h6⟩:=h
 refine ⟨⟨hl,gO _ _ _ h1⟩,h2,fun c hc'=>?_,fun n hn=>?_,h6⟩
 ·obtain ⟨k1,k2,k3⟩:=h4 c hc'
  refine ⟨k1,k2,?_⟩
  rcases k3 with k3 | ⟨n,n1,n2,n3⟩
  ·exact .inl (hE _ k3)
  ·by_cases e:n.fId=a.fId
   ·rcases hup n n1 e n3 with q | q
    ·exact .inr ⟨a,Bn _ _ _,by rw [← e,n2],q⟩
    ·exact .inl (by rw [← n2,e]; exact q)
   ·exact .inr ⟨n,Bo _ _ _ n n1 e,n2,n3⟩
 ·rcases Dm _ _ _ n hn with e | e
  ·rw [e]; exact hc
  ·exact h5 n e
theorem oY {s:aa} {id:Int} (h:iZ s id=true) : cf s id∈s.ar∧(cf s id).fId=id:=by
 unfold iZ at h
 obtain ⟨x,hx,he⟩:=List.any_eq_true.1 h
 unfold cf
 cases hf:s.ar.find? (fun c=>c.fId==id) with
 | none=>exact absurd he ((List.find?_eq_none.1 hf) x hx)
 | some y =>
  have h9:=List.find?_some hf
  exact ⟨List.mem_of_find?_eq_some hf,by simpa using h9⟩
theorem GB {l:List ai} {id:Int} (h:∀ c∈l,c.bf≠id) : dw l id=0∧dx l id=0:=by
 have:l.filter (fun c=>c.bf==id) = []:=List.filter_eq_nil_iff.2 fun c hc=>by
  have:=h c hc
  simpa using this
 unfold dw dx
 rw [this]
 exact ⟨rfl,rfl⟩
theorem YI {s:aa} (n:aB) (h:JE noE s) : JE noE (Ro s n).1:=by
 unfold Ro
 split
 ·exact h
 rename_i hok
 split
 ·exact h
 rename_i hup
 split
 ·exact h
 rename_i hmany
 have hok:Uf s n=true:=by cases hq:Uf s n with | true=>rfl | false=>exact absurd hq hok
 have hcap:nP n.dY:=by
  unfold Uf at hok
  simp only [Bool.not_eq_true',Bool.or_eq_false_iff,Bool.not_eq_false',Bool.and_eq_true,decide_eq_true_eq] at hok
  exact ⟨hok.1.2.1,hok.1.2.2,hok.2.1,hok.2.2⟩
 have hnu:∀ x∈s.ar,x.fId=n.fId→x.fUp=false:=fun x hx e=>by
  cases hq:x.fUp with
  | false=>rfl
  | true =>
   exfalso
   apply hup
   have hi:iZ s n.fId=true:=List.any_eq_true.2 ⟨x,hx,by rw [e]; simp⟩
   have:=oY hi
   have e2:=xL h.1.2 this.1 hx (by rw [this.2,e])
   rw [hi,e2,hq]
   rfl
 have hnone:∀ c∈s.ab,c.bf≠n.fId:=fun c hc e=>by
  rcases (h.2.2.1 c hc).2.2 with q | ⟨m,m1,m2,m3⟩
  ·exact q
  ·rw [hnu m m1 (by rw [m2,e])] at m3
   cases m3
 have h0:=GB hnone
 have hlen:(cM aB.fId s.ar ⟨n.fId,n.a8,n.fV,n.dY,s.cP,0,true⟩).length≤12:=by
  have h12:=h.1.1
  by_cases hi:iZ s n.fId=true
  ·obtain ⟨x,hx,he⟩:=List.any_eq_true.1 hi
   rw [iz _ _ _ h.1.2 ⟨x,hx,by simpa using he⟩]
   exact h12
  ·have hf:iZ s n.fId=false:=by cases hq:iZ s n.fId with | true=>exact absurd hq hi | false=>rfl
   rw [hf] at hmany
   simp only [Bool.not_false,Bool.true_and,decide_eq_true_eq] at hmany
   have:=wK aB.fId s.ar (⟨n.fId,n.a8,n.fV,n.dY,s.cP,0,true⟩ : aB)
   omega
 exact JB.node h hlen ⟨hcap,by show dw _ n.fId≤_; rw [h0.1]; exact hcap.1,by show dx _ n.fId≤_; rw [h0.2]; exact hcap.2.2.1⟩ (fun _ q=>q) (fun _ _ _ _=>.inl rfl)
theorem Ys {s:aa} (id b:Int) (h:JE noE s) : JE noE (ER s id b).1:=by
 unfold ER
 split
 ·exact h
 rename_i hi
 have hi:iZ s id=true:=by cases hq:iZ s id with | true=>rfl | false=>exact absurd hq hi
 split
 ·exact h
 rename_i hu
 have hu:(cf s id).fUp=true:=by cases hq:(cf s id).fUp with | true=>rfl | false=>exact absurd hq hu
 split
 ·exact h
 split
 ·exact h
 split
 ·exact h
 obtain ⟨g1,g2⟩:=oY hi
 have hc:=h.2.2.2.1 (cf s id) g1
 exact JB.node h (Nat.le_trans (Nat.le_of_eq (iz aB.fId _ s.ar h.1.2 ⟨cf s id,g1,rfl⟩)) h.1.1) hc (fun _ q=>q) (fun _ _ _ _=>.inl hu)
theorem Yo {E:Int→Prop} {s:aa} (id:Int) (h:JE E s) : JE (fun i=>E i∨i=id) (BE s id):=by
 unfold BE
 split
 ·rename_i hi
  obtain ⟨g1,g2⟩:=oY hi
  have hc:=h.2.2.2.1 (cf s id) g1
  exact JB.node h (Nat.le_trans (Nat.le_of_eq (iz aB.fId _ s.ar h.1.2 ⟨cf s id,g1,rfl⟩)) h.1.1) hc (fun _ q=>.inl q) (fun _ _ _ _=>.inr (.inr g2))
 ·obtain ⟨h1,h2,h4,h5,h6⟩:=h
  exact ⟨h1,h2,fun c hc=>⟨(h4 c hc).1,(h4 c hc).2.1,(h4 c hc).2.2.elim (fun q=>.inl (.inl q)) .inr⟩,h5,h6⟩
theorem Ko {E:Int→Prop} {s:aa} (h:JE E s) {n:aB} (hn:n∈s.ar) : C1 s n.fId=⟨dw s.ab n.fId,dx s.ab n.fId⟩∧0≤dw s.ab n.fId∧0≤dx s.ab n.fId:=by
 obtain ⟨k1,k2,k3⟩:=h.2.2.2.1 n hn
 have hb:∀ c∈s.ab,nP c.bu:=fun c hc=>(h.2.2.1 c hc).1
 have key:∀ (l:List ai) (v:av),(∀ c∈l,nP c.bu)→0≤v.be→0≤v.aF→v.be + dw l n.fId≤1073741824→v.aF + dx l n.fId≤1073741824→l.foldl (fun v c=>if (c.bf==n.fId)=true then AJ v c.bu else v) v=⟨v.be + dw l n.fId,v.aF + dx l n.fId⟩∧0≤dw l n.fId∧0≤dx l n.fId:=by
  intro l
  induction l with
  | nil =>
   intro v _ _ _ _ _
   show v=⟨v.be + 0,v.aF + 0⟩∧(0:Int)≤0∧(0:Int)≤0
   rw [Int.add_zero,Int.add_zero]
   exact ⟨rfl,by omega,by omega⟩
  | cons c l ih =>
   intro v hb h1 h2 h3 h4
   have hc:=hb c List.mem_cons_self
   have hb':∀ c∈l,nP c.bu:=fun c hc=>hb c (List.mem_cons_of_mem _ hc)
   have pos:=Km (List.nil_sublist l) hb' n.fId
   have p0:dw ([] : List ai) n.fId=0∧dx ([] : List ai) n.fId=0:=⟨rfl,rfl⟩
   rw [p0.1,p0.2] at pos
   rw [List.foldl_cons]
   cases he:(c.bf==n.fId) with
   | true =>
    have e1:dw (c::l) n.fId=c.bu.be + dw l n.fId:=by unfold dw; rw [List.filter_cons,if_pos he,List.map_cons,List.sum_cons]
    have e2:dx (c::l) n.fId=c.bu.aF + dx l n.fId:=by unfold dx; rw [List.filter_cons,if_pos he,List.map_cons,List.sum_cons]
    rw [e1] at h3 ⊢
    rw [e2] at h4 ⊢
    obtain ⟨c1,c2,c3,c4⟩:=hc
    have ea:AJ v c.bu=⟨v.be + c.bu.be,v.aF + c.bu.aF⟩:=by
     unfold AJ
     rw [kJ (by omega) (by omega),kJ (by omega) (by omega)]
    simp only [if_true,ea]
    obtain ⟨i1,i2,i3⟩:=ih ⟨v.be + c.bu.be,v.aF + c.bu.aF⟩ hb' (by show 0≤v.be + _; omega) (by show 0≤v.aF + _; omega) (by show v.be + _ + _≤_; omega) (by show v.aF + _ + _≤_; omega)
    rw [i1]
    refine ⟨?_,by omega,by omega⟩
    show (⟨v.be + c.bu.be + dw l n.fId,v.aF + c.bu.aF + dx l n.fId⟩ : av) = _
    rw [Int.add_assoc,Int.add_assoc]
   | false =>
    have e1:dw (c::l) n.fId=dw l n.fId:=by unfold dw; rw [List.filter_cons,if_neg (by rw [he]; decide)]
    have e2:dx (c::l) n.fId=dx l n.fId:=by unfold dx; rw [List.filter_cons,if_neg (by rw [he]; decide)]
    rw [e1] at h3 ⊢
    rw [e2] at h4 ⊢
    simp only [zf,if_false]
    exact ih v hb' h1 h2 h3 h4
 obtain ⟨v1,v2,v3,v4⟩:=k1
 obtain ⟨i1,i2,i3⟩:=key s.ab ⟨0,0⟩ hb (Int.le_refl _) (Int.le_refl _) (by show 0 + _≤_; omega) (by show 0 + _≤_; omega)
 refine ⟨?_,i2,i3⟩
 unfold C1
 show s.ab.foldl (fun v c=>if (c.bf==n.fId)=true then AJ v c.bu else v) ⟨0,0⟩ = _
 rw [i1]
 simp only [Int.zero_add]
section
def Pz {α : Type} (o:Option α) (Q : α→Prop) : Prop:=∀ r,o=some r→Q r
def ET {α β : Type} (A : α→Prop) (B : β→Prop) : α⊕β→Prop
 | .inl a=>A a
 | .inr b=>B b
section
variable {α β γ δ σ τ : Type} {Q : β→Prop}
theorem Pz.pure {a : β} (h:Q a) : Pz (some a) Q:=fun r e=>by injection e with e; subst e; exact h
theorem Pz.bind {A : α→Prop} {o:Option α} {k : α→Option β} (h1:Pz o A) (h2:∀ x,A x→Pz (k x) Q) : Pz (Option.bind o k) Q:=fun r e=>by
 cases o with
 | none=>cases e
 | some a=>exact h2 a (h1 a rfl) r e
theorem Pz.bindT {o:Option α} {k : α→Option β} (h2:∀ x,Pz (k x) Q) : Pz (Option.bind o k) Q:=Pz.bind (A:=fun _=>True) (fun _ _=>trivial) fun x _=>h2 x
theorem Pz.idx {l:List α} {i:Int} {k : α→Option β} (h:∀ x∈l,Pz (k x) Q) : Pz (Option.bind (aw l i) k) Q:=Pz.bind (A:=fun x=>x∈l) (fun x e=>by
 unfold aw at e
 split at e
 ·exact List.mem_of_getElem? e
 ·cases e) h
theorem Pz.idxE {l:List α} {i:Int} {k : α→Option β} (h:∀ x,aw l i=some x→x∈l→Pz (k x) Q) : Pz (Option.bind (aw l i) k) Q:=fun r e=>by
 cases hx:aw l i with
 | none=>rw [hx] at e; cases e
 | some x =>
  rw [hx] at e
  refine h x hx ?_ r e
  unfold aw at hx
  split at hx
  ·exact List.mem_of_getElem? hx
  ·cases hx
theorem Pz.app {l m:List α} {k:List α→Option β} (h:Pz (k (l++m)) Q) : Pz (Option.bind (aW l m) k) Q:=Pz.bind (A:=fun x=>x=l++m) (fun x e=>by
 unfold aW at e
 split at e
 ·injection e with e; exact e.symm
 ·cases e) fun x hx=>hx ▸ h
theorem Pz.hi {l:List α} {i:Int} {k:List α→Option β} (h:∀ x:List α,x.Sublist l→Pz (k x) Q) : Pz (Option.bind (hiO l i) k) Q:=Pz.bind (A:=fun x=>x.Sublist l) (fun x e=>by
 unfold hiO at e
 split at e
 ·injection e with e; rw [← e]; exact List.take_sublist _ _
 ·cases e) h
theorem Pz.lo {l:List α} {i:Int} {k:List α→Option β} (h:∀ x:List α,x.Sublist l→Pz (k x) Q) : Pz (Option.bind (loO l i) k) Q:=Pz.bind (A:=fun x=>x.Sublist l) (fun x e=>by
 unfold loO at e
 split at e
 ·injection e with e; rw [← e]; exact List.drop_sublist _ _
 ·cases e) h
theorem Pz.hiE {l:List α} {i:Int} {k:List α→Option β} (h:Pz (k (l.take i.toNat)) Q) : Pz (Option.bind (hiO l i) k) Q:=Pz.bind (A:=fun x=>x=l.take i.toNat) (fun x e=>by
 unfold hiO at e
 split at e
 ·injection e with e; exact e.symm
 ·cases e) fun x hx=>hx ▸ h
theorem Pz.loE {l:List α} {i:Int} {k:List α→Option β} (h:Pz (k (l.drop i.toNat)) Q) : Pz (Option.bind (loO l i) k) Q:=Pz.bind (A:=fun x=>x=l.drop i.toNat) (fun x e=>by
 unfold loO at e
 split at e
 ·injection e with e; exact e.symm
 ·cases e) fun x hx=>hx ▸ h
theorem Pz.ite {c:Prop} [Decidable c] {a b:Option β} (h1:Pz a Q) (h2:Pz b Q) : Pz (if c then a else b) Q:=by split <;> assumption
theorem Pz.loop {f : σ→Option (σ⊕β)} {I : σ→Prop} (h:∀ st,I st→Pz (f st) (ET I Q)) : ∀ (n:Nat) (s : σ),I s→Pz (ah f n s) Q
 | 0,s,_=>fun r e=>by cases e
 | n + 1,s,hs=>fun r e=>by
  unfold ah at e
  have hf:=h s hs
  cases hr:f s with
  | none=>rw [hr] at e; cases e
  | some o =>
   have:=hf o hr
   rw [hr] at e
   cases o with
   | inl s'=>exact Pz.loop h n s' this r e
   | inr t =>
    injection e with e
    subst e
    exact this
theorem Pz.mono {A : β→Prop} {o:Option β} (h:Pz o A) (k:∀ x,A x→Q x) : Pz o Q:=fun r e=>k r (h r e)
end
end
theorem nP.zero:nP ⟨0,0⟩:=⟨by decide,by decide,by decide,by decide⟩
theorem dV.nil:dV []:=fun x hx=>by cases hx
theorem dV.one {x:aJ} (h:nP x.bu) : dV [x]:=fun y hy=>by rw [List.mem_singleton.1 hy]; exact h
theorem dV.app {l m:List aJ} (h1:dV l) (h2:dV m) : dV (l++m):=fun x hx=>(List.mem_append.1 hx).elim (h1 x) (h2 x)
theorem Yw {l:List aJ} (h:dV l) (p:Int) : Pz (vh l p) (fun r=>dV r.1):=by
 unfold vh
 dsimp only
 refine Pz.bind (Pz.loop (I:=fun st=>dV st.2.1) (Q:=fun st:Bool×List aJ×Int=>dV st.2.1) (fun st hst=>?_) _ _ dV.nil) fun r hr=>Pz.pure hr
 unfold jW
 dsimp only
 refine Pz.ite (Pz.idx fun x hx=>?_) (Pz.pure hst)
 have hx':nP x.bu:=h x hx
 exact Pz.ite (Pz.ite (Pz.pure hst) (Pz.app (Pz.pure (dV.app hst (dV.one hx'))))) (Pz.app (Pz.pure (dV.app hst (dV.one hx'))))
theorem Yy {l:List aJ} (h:dV l) (p:Int) : Pz (vi l p) dV:=by
 unfold vi
 dsimp only
 refine Pz.app (Pz.bind (Pz.loop (I:=fun st=>dV st.1) (Q:=fun st:List aJ×Int=>dV st.1) (fun st hst=>?_) _ _ (dV.app dV.nil h)) fun r hr=>Pz.pure hr)
 unfold ni
 dsimp only
 refine Pz.ite (Pz.idx fun x hx=>Pz.ite (Pz.idx fun y hy=>Pz.idx fun z hz=>Pz.pure ?_) (Pz.pure hst)) (Pz.pure hst)
 intro w hw
 rcases List.mem_or_eq_of_mem_set hw with e | e
 ·exact hst w e
 ·rw [e]; exact hst z hz
theorem Zj {l:List aJ} (h:dV l) (p:Int) : Pz (AM l p) (fun r=>nP r.1.bu):=by
 unfold AM
 dsimp only
 refine Pz.bind (Pz.loop (I:=fun _=>True) (Q:=ET (fun _=>True) (fun r:aJ×Bool=>nP r.1.bu)) (fun st _=>?_) _ _ trivial) fun r hr=>?_
 ·unfold lz
  dsimp only
  exact Pz.ite (Pz.idx fun x hx=>Pz.ite (Pz.idx fun y hy=>Pz.pure (h y hy)) (Pz.pure trivial)) (Pz.pure trivial)
 ·cases r with
  | inr m=>exact Pz.pure hr
  | inl m=>exact Pz.pure nP.zero
theorem Zc {l:List aJ} (h:dV l) {a:aJ} (ha:nP a.bu) : Pz (xf l a) (fun r=>dV r.1):=by
 unfold xf
 dsimp only
 refine Pz.bind (Pz.loop (I:=fun st=>dV st.1) (Q:=fun st:List aJ×Bool×Int=>dV st.1) (fun st hst=>?_) _ _ dV.nil) fun r hr=>?_
 ·unfold lx
  dsimp only
  refine Pz.ite (Pz.bindT fun q=>Pz.bind (A:=fun r:List aJ×Bool=>dV r.1) (Pz.ite (Pz.app (Pz.pure (dV.app hst (dV.one ha)))) (Pz.pure hst)) fun j hj=>Pz.idx fun x hx=>Pz.ite (Pz.idx fun y hy=>Pz.app (Pz.pure (dV.app hj (dV.one (h y hy))))) (Pz.pure hj)) (Pz.pure hst)
 ·exact Pz.bind (A:=dV) (Pz.ite (Pz.app (Pz.pure (dV.app hr (dV.one ha)))) (Pz.pure hr)) fun j hj=>Pz.ite (Pz.pure dV.nil) (Pz.pure hj)
theorem Xk {a:aJ} {n:Int} : Pz (lA a n) (fun e=>e=0→nP a.bu):=by
 intro e he h0
 subst h0
 unfold lA vg at he
 simp only [zb,orB,dM] at he
 split at he
 ·cases he
 ·rename_i hq
  simp only [Bool.or_eq_true,Bool.not_eq_true',Bool.and_eq_false_iff,decide_eq_true_eq,decide_eq_false_iff_not,not_or] at hq
  unfold nP
  omega
theorem V4 {s:aa} {l m:List aJ} (h:dV l) : Pz (o5 s l m) (fun r=>dV r.1):=by
 unfold o5
 dsimp only
 refine Pz.bind (Pz.loop (I:=fun st=>dV st.1) (Q:=ET (fun st:List aJ×Int=>dV st.1) (fun r:List aJ×Int=>dV r.1)) (fun st hst=>?_) _ _ h) fun r hr=>?_
 ·unfold im
  dsimp only
  refine Pz.ite (Pz.idxE fun x ex hx=>?_) (Pz.pure hst)
  refine Pz.bind (Xk (a:=x)) fun e he=>?_
  split
  ·exact Pz.pure dV.nil
  ·rename_i hne
   have h0:e=0:=by simpa using hne
   rw [ex]
   simp only [zb]
   exact Pz.bind (Zc hst (he h0)) fun c hc=>Pz.ite (Pz.pure dV.nil) (Pz.pure hc)
 ·cases r with
  | inr m=>exact Pz.pure hr
  | inl m=>exact Pz.pure hr
theorem p9.zero:p9 ⟨0,0,⟨#[]⟩,0,0,av.zero,[],0,0,[],[],[],[]⟩:=⟨dV.nil,nP.zero⟩
theorem Bb {E:Int→Prop} {s:aa} (h:JE E s) (id:Int) : Pz (dE s id) (fun r=>p9 r.1):=by
 have ha:∀ a∈s.ao,p9 a:=h.2.2.2.2.1
 unfold dE
 dsimp only
 refine Pz.bind (Pz.loop (I:=fun _=>True) (Q:=ET (fun _=>True) (fun r:az×Bool=>p9 r.1)) (fun st _=>?_) _ _ trivial) fun r hr=>?_
 ·unfold jq
  dsimp only
  exact Pz.ite (Pz.idx fun x hx=>Pz.ite (Pz.idx fun y hy=>Pz.pure (ha y hy)) (Pz.pure trivial)) (Pz.pure trivial)
 ·cases r with
  | inr m=>exact Pz.pure hr
  | inl m=>exact Pz.pure p9.zero
theorem MW {E:Int→Prop} {s:aa} (h:JE E s) {a:az} (ha:p9 a) : Pz (cZ s a) (fun r=>JE E r∧r.ar=s.ar∧r.ab=s.ab∧r.eW=s.eW∧r.lu=s.lu):=by
 have hb:∀ a∈s.ao,p9 a:=h.2.2.2.2.1
 unfold cZ
 dsimp only
 refine Pz.bindT fun k=>Pz.hi fun x hx=>Pz.app (Pz.app (Pz.bindT fun q=>Pz.bindT fun k'=>Pz.lo fun y hy=>Pz.app (Pz.pure ⟨JB.apps h fun b hm=>?_,rfl,rfl,rfl,rfl⟩)))
 simp only [List.nil_append,List.mem_append,List.mem_singleton] at hm
 rcases hm with (hm | hm) | hm
 ·exact hb b (hx.subset hm)
 ·rw [hm]; exact ha
 ·exact hb b (hy.subset hm)
theorem UG {E:Int→Prop} {s:aa} (h:JE E s) : Pz (mZ s) (JE E):=by
 have hb:∀ a∈s.ao,p9 a:=h.2.2.2.2.1
 unfold mZ
 dsimp only
 refine Pz.bind (Pz.loop (I:=fun st=>∀ a∈st.2.1,p9 a) (Q:=fun st:Bool×List az×Int=>∀ a∈st.2.1,p9 a) (fun st hst=>?_) _ _ (fun a ha=>by cases ha)) fun r hr=>Pz.pure (JB.apps h hr)
 unfold gG
 dsimp only
 refine Pz.ite ?_ (Pz.pure hst)
 refine Pz.bindT fun q=>Pz.ite (Pz.pure hst) (Pz.idx fun x hx=>Pz.app (Pz.pure fun a ha=>?_))
 rcases List.mem_append.1 ha with ha | ha
 ·exact hst a ha
 ·rw [List.mem_singleton.1 ha]; exact hb x hx
theorem Vo {E:Int→Prop} {s:aa} (h:JE E s) (a:az) : Pz (na s a) (fun r=>JE E r.1):=by
 unfold na rM
 simp only [zb,orB,dM]
 split
 ·exact Pz.pure h
 rename_i hq
 have hv:nP a.bI:=by
  simp only [Bool.or_eq_true,Bool.not_eq_true',Bool.and_eq_false_iff,decide_eq_true_eq,decide_eq_false_iff_not,not_or] at hq
  unfold nP
  omega
 refine Pz.bindT fun c=>Pz.ite (Pz.pure h) (Pz.bindT fun r=>Pz.ite (Pz.pure h) (Pz.bindT fun c=>Pz.ite (Pz.pure h) ?_))
 refine Pz.bind (A:=JE E) (Pz.ite (Pz.bind (UG h) fun s hs=>Pz.pure hs) (Pz.pure h)) fun s hs=>?_
 rw [oO]
 simp only [zb]
 exact Pz.bind (MW hs ⟨dV.one hv,hv⟩) fun r hr=>Pz.pure hr.1
def rQ (E:Int→Prop) (s r:aa) : Prop:=JE E r∧r.ar=s.ar∧r.ab.Sublist s.ab∧r.eW=s.eW∧r.lu=s.lu
theorem TK {E:Int→Prop} {s:aa} (h:JE E s) (id:Int) : Pz (l7 s id) (fun r=>rQ E s r.1∧r.1.ab=s.ab.filter fun c=>!(c.bz==id)):=by
 have hl:=h.2.1.1
 have h0:=uH { s with aR:=[] } id (by show s.ab.length≤_; omega) (by show 0≤1000000; omega)
 unfold l7 at h0 ⊢
 dsimp only at h0 ⊢
 obtain ⟨r6,e6,h0⟩:=(show ∃ r6,ah (dC s id) ac ([],[],0)=some r6∧Option.bind (ah (gD { s with aR:=[] } id) ac ([],0)) (fun r10=>some (({ s with ab:=r6.2.1,aR:=r10.1 } : aa),r6.1))=some ({ s with ab:=s.ab.filter fun c=>!(c.bz==id),aR:=[] },(s.ab.filter fun c=>c.bz==id).map ai.fId) from by
  cases hq:ah (dC s id) ac ([],[],0) with
  | none =>
   change Option.bind (ah (dC s id) ac ([],[],0)) _ = _ at h0
   rw [hq] at h0
   cases h0
  | some r6 =>
   change Option.bind (ah (dC s id) ac ([],[],0)) _ = _ at h0
   rw [hq] at h0
   exact ⟨r6,rfl,h0⟩)
 have e:r6.2.1=s.ab.filter fun c=>!(c.bz==id):=by
  cases hq:ah (gD { s with aR:=[] } id) ac ([],0) with
  | none=>rw [hq] at h0; cases h0
  | some r10 =>
   rw [hq] at h0
   injection h0 with h0
   exact congrArg (fun r=>r.1.ab) h0
 rw [e6]
 simp only [zb]
 refine Pz.bindT fun r10=>Pz.pure ?_
 have hs:r6.2.1.Sublist s.ab:=by rw [e]; exact List.filter_sublist
 exact ⟨⟨JB.conts h hs,rfl,hs,rfl,rfl⟩,e⟩
theorem V3 {E:Int→Prop} {s:aa} (h:JE E s) (id:Int) : Pz (n5 s id) (fun r=>rQ E s r∧r.ab=s.ab.filter fun c=>c.fId != id):=by
 have hl:=h.2.1.1
 rw [uK s id (by omega)]
 exact Pz.pure ⟨⟨JB.conts h List.filter_sublist,rfl,List.filter_sublist,rfl,rfl⟩,rfl⟩
theorem rQ.trans {E:Int→Prop} {a b c:aa} (h:rQ E a b) (k:rQ E b c) : rQ E a c:=⟨k.1,k.2.1.trans h.2.1,k.2.2.1.trans h.2.2.1,k.2.2.2.1.trans h.2.2.2.1,k.2.2.2.2.trans h.2.2.2.2⟩
theorem rQ.refl {E:Int→Prop} {a:aa} (h:JE E a) : rQ E a a:=⟨h,rfl,List.Sublist.refl _,rfl,rfl⟩
theorem VD {E:Int→Prop} {s:aa} (h:JE E s) {a:az} (ha:p9 a) : Pz (cZ s a) (fun r=>rQ E s r∧r.ab=s.ab):=Pz.mono (MW h ha) fun r ⟨h1,h2,h3,h4,h5⟩=>⟨⟨h1,h2,by rw [h3]; exact List.Sublist.refl _,h4,h5⟩,h3⟩
theorem Zl {E:Int→Prop} {s:aa} (h:JE E s) (id st:Int) : Pz (zA s id st) (fun r=>rQ E s r.1):=by
 unfold zA
 dsimp only
 refine Pz.bind (Bb h id) fun r hr=>?_
 have go:∀ a:az,p9 a→Pz (Option.bind (cZ s a) fun c9=>Option.bind (l7 c9 id) fun c10=>some c10) (fun r=>rQ E s r.1):=fun a ha=>Pz.bind (VD h ha) fun t ht=>Pz.bind (TK ht.1.1 id) fun u hu=>Pz.pure (ht.1.trans hu.1)
 refine Pz.bindT fun q=>?_
 exact Pz.ite (Pz.pure (rQ.refl h)) (go _ ⟨dV.nil,hr.2⟩)
theorem NY {l:List ai} (h:(l.map ai.fId).Nodup) {x y:ai} (hx:x∈l) (hy:y∈l) (e:x.fId=y.fId) : x=y:=by
 obtain ⟨i,hi,rfl⟩:=List.getElem_of_mem hx
 obtain ⟨j,hj,rfl⟩:=List.getElem_of_mem hy
 have h':=List.pairwise_iff_getElem.1 h
 rcases Nat.lt_trichotomy i j with q | q | q
 ·have:=h' i j (by simpa using hi) (by simpa using hj) q
  rw [List.getElem_map,List.getElem_map] at this
  exact absurd e this
 ·subst q; rfl
 ·have:=h' j i (by simpa using hj) (by simpa using hi) q
  rw [List.getElem_map,List.getElem_map] at this
  exact absurd e.symm this
theorem RP {s:aa} {id:Int} (h:DY s id=true) : jN s id∈s.ab∧(jN s id).fId=id:=by
 unfold DY at h
 obtain ⟨x,hx,he⟩:=List.any_eq_true.1 h
 unfold jN
 cases hf:s.ab.find? (fun c=>c.fId==id) with
 | none=>exact absurd he ((List.find?_eq_none.1 hf) x hx)
 | some y =>
  have h9:=List.find?_some hf
  exact ⟨List.mem_of_find?_eq_some hf,by simpa using h9⟩
theorem Ka {E:Int→Prop} {s:aa} (h:JE E s) (ids:List Int) : Pz (fq s ids) (fun r=>rQ E s r∧(ids.length≤1000000→∀ id∈ids,∀ c∈r.ab,c.fId≠id)):=by
 unfold fq
 dsimp only
 refine Pz.bind (Pz.loop (I:=fun st=>rQ E s st.1∧(ids.length≤1000000→∃ k:Nat,st.2=(k:Int)∧k≤ids.length∧∀ id∈ids.take k,∀ c∈st.1.ab,c.fId≠id)) (Q:=fun st:aa×Int=>rQ E s st.1∧(ids.length≤1000000→∀ id∈ids,∀ c∈st.1.ab,c.fId≠id)) (fun st hst=>?_) _ _ ⟨rQ.refl h,fun _=>⟨0,rfl,Nat.zero_le _,fun id hid=>by simp at hid⟩⟩) fun r hr=>Pz.pure hr
 obtain ⟨hc,hk⟩:=hst
 unfold jp
 dsimp only
 split
 ·rename_i hlt
  have hlt:=zd hlt
  refine Pz.idxE fun id eid hid=>?_
  have hl:=hc.1.2.1.1
  have next:∀ t:aa,rQ E st.1 t→(∀ c∈t.ab,c.fId≠id)→(ET (fun st:aa×Int=>rQ E s st.1∧(ids.length≤1000000→∃ k:Nat,st.2=(k:Int)∧k≤ids.length∧∀ id∈ids.take k,∀ c∈st.1.ab,c.fId≠id)) (fun st:aa×Int=>rQ E s st.1∧(ids.length≤1000000→∀ id∈ids,∀ c∈st.1.ab,c.fId≠id))) (.inl (t,i64.wrap (st.2 + 1)) : (aa×Int)⊕(aa×Int)):=fun t ht hn=>by
   refine ⟨hc.trans ht,fun hle=>?_⟩
   obtain ⟨k,k1,k2,k3⟩:=hk hle
   have hk':k < ids.length:=by omega
   refine ⟨k + 1,by show i64.wrap (st.2 + 1) = _; rw [k1]; exact bm hk' hle,hk',fun id' hid' c hc'=>?_⟩
   rw [List.take_succ_eq_append_getElem hk'] at hid'
   rcases List.mem_append.1 hid' with q | q
   ·exact k3 id' q c (ht.2.2.1.subset hc')
   ·have:id=ids[k]:=by
     rw [k1,aN (zq hk')] at eid
     injection eid with eid
     exact eid.symm
    rw [List.mem_singleton.1 q,← this]
    exact hn c hc'
  rw [jr st.1 id (by omega)]
  simp only [zb]
  cases hi:DY st.1 id with
  | false =>
   simp only [Bool.not_false,if_true]
   refine Pz.pure (next st.1 (rQ.refl hc.1) fun c hc'=>?_)
   have:=(List.any_eq_false.1 hi) c hc'
   simpa using this
  | true =>
   obtain ⟨g1,g2⟩:=RP hi
   simp only [Bool.not_true,zf,if_false]
   refine Pz.bind (Bb hc.1 _) fun a ha=>?_
   split
   ·rw [oO]
    simp only [zb]
    refine Pz.bind (VD hc.1 ⟨dV.one ha.2,ha.2⟩) fun t ht=>Pz.bind (TK ht.1.1 _) fun u hu=>Pz.pure (next u.1 (ht.1.trans hu.1) fun c hc' e=>?_)
    rw [hu.2,ht.2] at hc'
    obtain ⟨c1,c2⟩:=List.mem_filter.1 hc'
    have:c=jN st.1 id:=NY hc.1.2.1.2 c1 g1 (by rw [e,g2])
    rw [this] at c2
    simp at c2
   ·refine Pz.bind (V3 hc.1 _) fun t ht=>Pz.bindT fun w=>?_
    refine Pz.bind (A:=p9) (Pz.ite (Pz.app (Pz.app (Pz.pure ha))) (Pz.pure ha)) fun b hb=>Pz.bind (VD ht.1.1 hb) fun u hu=>Pz.pure (next u (ht.1.trans hu.1) fun c hc' e=>?_)
    rw [hu.2,ht.2] at hc'
    have c2:=(List.mem_filter.1 hc').2
    rw [e,g2] at c2
    simp at c2
 ·rename_i hge
  have hge : ¬ st.2 < (ids.length:Int):=fun e=>hge (decide_eq_true e)
  refine Pz.pure ⟨hc,fun hle id hid=>?_⟩
  obtain ⟨k,k1,k2,k3⟩:=hk hle
  exact k3 id (by rw [List.take_of_length_le (by omega)]; exact hid)
theorem YJ (s:aa) (id:Int) (hl:s.ab.length≤1000000) : sK s id=some ((s.ab.filter fun c=>c.bf==id).map ai.fId):=by
 unfold sK
 dsimp only
 have e:eE s id=fun acc x=>if (x.bf==id)=true then (aW acc [x.fId]).map (fun a=>(.inl a:List Int⊕(List Int×Int))) else some (.inl acc):=by
  funext acc x
  unfold eE
  dsimp only
  split
  ·cases aW acc [x.fId] <;> rfl
  ·rfl
 rw [s8 s id [] hl,e,cj (fun x:ai=>x.bf==id) ai.fId _ s.ab [] (by simpa using hl)]
 simp
theorem R9 {s:aa} {id:Int} (h:JE (fun i=>noE i∨i=id) s) (ids:List Int) (hids:ids=(s.ab.filter fun c=>c.bf==id).map ai.fId) : Pz (fq s ids) (JE noE):=by
 refine Pz.mono (Ka h ids) fun r ⟨hc,hx⟩=>?_
 have hlen:ids.length≤1000000:=by
  rw [hids,List.length_map]
  have:=List.length_filter_le (fun c:ai=>c.bf==id) s.ab
  have:=h.2.1.1
  omega
 obtain ⟨h1,h2,h4,h5,h6⟩:=hc.1
 refine ⟨h1,h2,fun c hc'=>⟨(h4 c hc').1,(h4 c hc').2.1,?_⟩,h5,h6⟩
 rcases (h4 c hc').2.2 with q | q
 ·exfalso
  have hn:c.bf=id:=q.elim (fun f=>f.elim) (fun e=>e)
  have hm:=hc.2.2.1.subset hc'
  exact hx hlen c.fId (by rw [hids]; exact List.mem_map.2 ⟨c,List.mem_filter.2 ⟨hm,by rw [hn]; simp⟩,rfl⟩) c hc' rfl
 ·exact .inr q
theorem C0 (l m:List ai) (id:Int) : dw (l++m) id=dw l id + dw m id∧dx (l++m) id=dx l id + dx m id:=by
 unfold dw dx
 rw [List.filter_append,List.map_append,List.map_append,List.sum_append,List.sum_append]
 exact ⟨rfl,rfl⟩
theorem WC {nodes:List aB} {conts:List ai} {apps:List az} {ep sq:Int} (h:JB noE nodes conts apps ep sq) (h200:conts.length < 200) (hsq:sq < 1048575) {n:aB} (hn:n∈nodes) (hu:n.fUp=true) {c:ai} (hid:c.fId=ep * 1048576 + (sq + 1)) (hnode:c.bf=n.fId) (hs:nP c.bu) (hm:dw conts n.fId + c.bu.be≤n.dY.be) (hc:dx conts n.fId + c.bu.aF≤n.dY.aF) (k:Nat) : JB noE nodes (conts.take k ++ [c] ++ conts.drop k) apps ep (sq + 1):=by
 obtain ⟨h1,⟨h2,h3⟩,h4,h5,h6,e1,e2,s1,s2⟩:=h
 have hperm:(conts.take k ++ [c] ++ conts.drop k).Perm (c::conts):=by
  have:(conts.take k ++ [c] ++ conts.drop k).Perm (c::(conts.take k++conts.drop k)):=by
   rw [List.append_assoc]
   exact List.perm_middle
  rwa [List.take_append_drop] at this
 have hnew:c.fId ∉ conts.map ai.fId:=fun q=>by
  obtain ⟨x,hx,e⟩:=List.mem_map.1 q
  have:=(h4 x hx).2.1
  omega
 have hused:∀ id,dw (conts.take k ++ [c] ++ conts.drop k) id=dw conts id + dw [c] id∧dx (conts.take k ++ [c] ++ conts.drop k) id=dx conts id + dx [c] id:=fun id=>by
  have a1:=C0 (conts.take k ++ [c]) (conts.drop k) id
  have a2:=C0 (conts.take k) [c] id
  have a3:=C0 (conts.take k) (conts.drop k) id
  rw [List.take_append_drop] at a3
  omega
 have hone:∀ id,dw [c] id=(if c.bf=id then c.bu.be else 0)∧dx [c] id=(if c.bf=id then c.bu.aF else 0):=fun id=>by
  unfold dw dx
  by_cases e:c.bf=id
  ·rw [List.filter_cons,if_pos (by simpa using e),if_pos e,if_pos e]
   simp
  ·rw [List.filter_cons,if_neg (by simpa using e),if_neg e,if_neg e]
   exact ⟨rfl,rfl⟩
 refine ⟨h1,⟨by rw [hperm.length_eq,List.length_cons]; omega,?_⟩,fun x hx=>?_,fun m hm'=>?_,h6,e1,e2,by omega,by omega⟩
 ·have:=(hperm.map ai.fId).nodup_iff.2 (by rw [List.map_cons]; exact List.nodup_cons.2 ⟨hnew,h3⟩)
  exact this
 ·rcases List.mem_cons.1 (hperm.subset hx) with q | q
  ·rw [q]
   exact ⟨hs,by omega,.inr ⟨n,hn,hnode.symm,hu⟩⟩
  ·obtain ⟨k1,k2,k3⟩:=h4 x q
   exact ⟨k1,by omega,k3⟩
 ·obtain ⟨k1,k2,k3⟩:=h5 m hm'
  obtain ⟨u1,u2⟩:=hused m.fId
  obtain ⟨o1,o2⟩:=hone m.fId
  rw [u1,u2,o1,o2]
  refine ⟨k1,?_⟩
  by_cases e:c.bf=m.fId
  ·have:m=n:=xL h1.2 hm' hn (by rw [← e,hnode])
   rw [if_pos e,if_pos e,this]
   exact ⟨hm,hc⟩
  ·rw [if_neg e,if_neg e]
   omega
def J1 (n:aB) (s:aa) : Prop:=JE noE s∧s.ab.length < 200∧s.lu < 1048575∧n∈s.ar∧n.fUp=true
theorem K0 (a b:av) : Qo a b=⟨if 0 > i64.wrap (a.be - b.be) then 0 else i64.wrap (a.be - b.be),if 0 > i64.wrap (a.aF - b.aF) then 0 else i64.wrap (a.aF - b.aF)⟩:=rfl
theorem WE {n:aB} {s:aa} (h:J1 n s) {v:av} (hf:Lj v (s6 s n.fId)=true) : dw s.ab n.fId + v.be≤n.dY.be∧dx s.ab n.fId + v.aF≤n.dY.aF:=by
 obtain ⟨hj,_,_,hn,hu⟩:=h
 have hi:iZ s n.fId=true:=List.any_eq_true.2 ⟨n,hn,by simp⟩
 obtain ⟨g1,g2⟩:=oY hi
 have e:cf s n.fId=n:=xL hj.1.2 g1 hn g2
 obtain ⟨u1,u2,u3⟩:=Ko hj hn
 obtain ⟨⟨c1,c2,c3,c4⟩,k2,k3⟩:=hj.2.2.2.1 n hn
 unfold s6 at hf
 rw [hi,e,hu,u1,K0] at hf
 simp only [Bool.not_true,Bool.or_self,zf,if_false] at hf
 rw [kJ (by omega) (by omega),kJ (by omega) (by omega)] at hf
 unfold Lj at hf
 simp only [Bool.and_eq_true,decide_eq_true_eq] at hf
 rw [if_neg (by omega),if_neg (by omega)] at hf
 omega
theorem FK {s:aa} (id:Int) : Pz (dU s id) (fun r=>∃ l,r = { s with aR:=l }):=by
 unfold dU
 dsimp only
 exact Pz.bindT fun r=>Pz.pure ⟨_,rfl⟩
theorem Yg {s:aa} (x:bt) : Pz (nY s x) (fun r=>∃ l,r = { s with aR:=l }):=by
 unfold nY
 dsimp only
 exact Pz.bindT fun r=>Pz.bindT fun a=>Pz.bindT fun b=>Pz.bindT fun c=>Pz.bindT fun d=>Pz.bindT fun e=>Pz.pure ⟨_,rfl⟩
theorem Zf {n:aB} {s:aa} (h:J1 n s) {a:az} (ha:p9 a) : Pz (cZ s a) (J1 n):=Pz.mono (MW h.1 ha) fun r ⟨h1,h2,h3,h4,h5⟩=>⟨h1,by rw [h3]; exact h.2.1,by rw [h5]; exact h.2.2.1,by rw [h2]; exact h.2.2.2.1,h.2.2.2.2⟩
theorem Qw {n:aB} {s:aa} (h:J1 n s) {a:az} (ha:p9 a) {x:aJ} (hx:nP x.bu) (hf:Lj x.bu (s6 s n.fId)=true) : Pz (jF s n a x) (fun r=>JE noE r.1):=by
 obtain ⟨f1,f2⟩:=WE h hf
 obtain ⟨hj,h200,hsq,hn,hu⟩:=h
 have hep : 0≤s.eW∧s.eW≤1048576:=⟨hj.2.2.2.2.2.1,hj.2.2.2.2.2.2.1⟩
 have hs0 : 0≤s.lu:=hj.2.2.2.2.2.2.2.1
 have e1:i64.wrap (s.lu + 1)=s.lu + 1:=kJ (by omega) (by omega)
 have e2:(2:Int) ^ (min (Int.toNat 20) IntKind.i64.bits)=1048576:=by decide
 unfold jF
 dsimp only
 rw [e1,e2,kJ (show -9223372036854775808≤s.eW * 1048576 by omega) (by omega),kJ (show -9223372036854775808≤s.eW * 1048576 + (s.lu + 1) by omega) (by omega)]
 refine Pz.bind (Yw ha.1 _) fun c hc=>?_
 refine Pz.bind (A:=p9) (Pz.ite (Pz.pure ⟨dV.nil,ha.2⟩) (Pz.app (Pz.app (Pz.pure ⟨hc,ha.2⟩)))) fun b hb=>?_
 refine Pz.bindT fun k=>Pz.hiE (Pz.app (Pz.app (Pz.loE (Pz.app ?_))))
 simp only [List.nil_append]
 refine Pz.bind (MW (E:=noE) ?_ hb) fun r hr=>Pz.pure hr.1
 exact WC hj h200 hsq hn hu (c:=⟨s.eW * 1048576 + (s.lu + 1),a.fId,n.fId,x.bu,x.bD,n.a8,a.ef==1,0⟩) rfl rfl hx f1 f2 k.toNat
def R1 (n:aB) (r:aa×Int×ai) : Prop:=JE noE r.1∧(r.2.1=0→J1 n r.1)
theorem R1.zero {n:aB} {s:aa} (h:J1 n s) (k:Int) (c:ai) : R1 n (s,k,c):=⟨h.1,fun _=>h⟩
theorem J1.slots {n:aB} {s:aa} (h:J1 n s) (l:List bt) : J1 n { s with aR:=l } := h
theorem Za {n:aB} {s:aa} (h:J1 n s) {a:az} (ha:p9 a) {x:aJ} (hx:nP x.bu) (first:Bool) : Pz (qx s n a x first) (R1 n):=by
 have hnl:=h.1.1.1
 have hcl:=h.1.2.1.1
 unfold qx
 dsimp only
 refine Pz.bindT fun c1=>Pz.bindT fun c2=>Pz.bindT fun q4=>Pz.bindT fun q6=>Pz.ite (Pz.pure (R1.zero h _ _)) ?_
 refine Pz.bindT fun c7=>Pz.ite ?_ ?_
 ·exact Pz.bind (A:=fun r:az×aa=>J1 n r.2) (Pz.ite (Pz.bind (Yy ha.1 _) fun l hl=>Pz.bind (Zf h (a:={ a with bQ:=l }) ⟨hl,ha.2⟩) fun t ht=>Pz.pure ht) (Pz.pure h)) fun r hr=>Pz.pure (R1.zero hr _ _)
 ·refine Pz.bindT fun c11=>Pz.ite (Pz.pure (R1.zero h _ _)) ?_
  rw [sC s _ (by omega) (by omega)]
  simp only [zb,gV]
  split
  ·rename_i hf
   refine Pz.bind (Qw h ha hx hf) fun r hr=>Pz.pure ⟨hr,fun e=>?_⟩
   cases e
  ·exact Pz.bindT fun q=>Pz.ite (Pz.bind (Yg _) fun r hr=>Pz.pure (by obtain ⟨l,rfl⟩:=hr; exact R1.zero (h.slots l) _ _)) (Pz.pure (R1.zero h _ _))
theorem Yc {n:aB} {s:aa} (h:J1 n s) (x:bt) : Pz (nX s n x) (fun r=>JE noE r.1∧(r.2.2.2=false→J1 n r.1)):=by
 have hnl:=h.1.1.1
 have hcl:=h.1.2.1.1
 unfold nX
 dsimp only
 refine Pz.bind (Bb h.1 _) fun a ha=>Pz.bind (Zj ha.1 _) fun k hk=>?_
 refine Pz.bindT fun q4=>Pz.bindT fun q5=>Pz.bindT fun q7=>Pz.bindT fun q9=>Pz.bindT fun q11=>Pz.bindT fun q13=>Pz.ite ?_ ?_
 ·exact Pz.bind (FK _) fun r hr=>Pz.pure (by obtain ⟨l,rfl⟩:=hr; exact ⟨h.1,fun _=>h⟩)
 ·rw [sC s _ (by omega) (by omega)]
  simp only [zb,gV]
  cases hf:Lj k.1.bu (s6 s n.fId) with
  | false =>
   simp only [Bool.not_false,if_true,zb]
   exact Pz.pure ⟨h.1,fun e=>by cases e⟩
  | true =>
   simp only [Bool.not_true,zf,if_false]
   refine Pz.bindT fun q18=>Pz.ite (Pz.pure ⟨h.1,fun e=>by cases e⟩) ?_
   refine Pz.bind (FK _) fun r hr=>?_
   obtain ⟨l,rfl⟩:=hr
   exact Pz.bind (Qw (h.slots l) ha hk hf) fun t ht=>Pz.pure ⟨ht,fun e=>by cases e⟩
theorem TR {n:aB} {a:az} (ha:p9 a) (j:Int) (ids:List Int) (first:Bool) (N:Nat) (s:aa×Int) (h:J1 n s.1) : Pz (ah (dQ a j ids n first) N s) (ET (fun r:aa×Int=>J1 n r.1) (R1 n)):=by
 refine Pz.loop (I:=fun r:aa×Int=>J1 n r.1) (fun st hst=>?_) N s h
 unfold dQ
 dsimp only
 refine Pz.ite (Pz.bindT fun b8=>Pz.bind (Bb hst.1 _) fun b hb=>Pz.idx fun x hx=>Pz.bind (Za hst hb (ha.1 x hx) first) fun r hr=>?_) (Pz.pure hst)
 split
 ·exact Pz.pure hr
 ·rename_i hz
  exact Pz.pure (hr.2 (by simpa using hz))
theorem TS {n:aB} (ids:List Int) (i:Int) (leaves:List ByteArray) (first:Bool) (N:Nat) (s:aa×Int) (h:J1 n s.1) : Pz (ah (dR ids i leaves n first) N s) (ET (fun r:aa×Int=>J1 n r.1) (R1 n)):=by
 refine Pz.loop (I:=fun r:aa×Int=>J1 n r.1) (fun st hst=>?_) N s h
 unfold dR
 dsimp only
 refine Pz.ite (Pz.bindT fun b4=>Pz.bind (Bb hst.1 _) fun a ha=>Pz.bindT fun b6=>Pz.bindT fun c7=>Pz.ite (Pz.pure hst) ?_) (Pz.pure hst)
 refine Pz.bind (TR ha _ _ _ _ _ hst) fun r hr=>?_
 cases r with
 | inr m=>exact Pz.pure hr
 | inl m=>exact Pz.pure hr
theorem TT {n:aB} (leaves:List ByteArray) (first:Bool) (N:Nat) (s:aa×Int) (h:J1 n s.1) : Pz (ah (dS leaves n first) N s) (ET (fun r:aa×Int=>J1 n r.1) (R1 n)):=by
 refine Pz.loop (I:=fun r:aa×Int=>J1 n r.1) (fun st hst=>?_) N s h
 unfold dS
 dsimp only
 refine Pz.ite (Pz.bindT fun b2=>Pz.bindT fun c3=>?_) (Pz.pure hst)
 refine Pz.bind (TS _ _ _ _ _ _ hst) fun r hr=>?_
 cases r with
 | inr m=>exact Pz.pure hr
 | inl m=>exact Pz.pure hr
theorem P3 {n:aB} {s:aa} (h:J1 n s) (first:Bool) : Pz (cR s n first) (R1 n):=by
 unfold cR
 dsimp only
 refine Pz.bindT fun c1=>Pz.bind (TT _ _ _ _ h) fun r hr=>?_
 cases r with
 | inr m=>exact Pz.pure hr
 | inl m=>exact Pz.pure (R1.zero hr _ _)
theorem Zg {s:aa} (h:JE noE s) (node:Int) : Pz (qy s node) (fun r=>JE noE r.1):=by
 have hnl:=h.1.1
 unfold qy
 rw [kF s node (by omega)]
 simp only [zb,orB]
 cases hq:(((!iZ s node || !(cf s node).fUp)||decide ((s.ab.length:Int)≥200))||decide (s.lu≥1048575)) with
 | true =>
  rw [if_pos rfl]
  exact Pz.pure h
 | false =>
  rw [if_neg (by decide)]
  simp only [Bool.or_eq_false_iff,Bool.not_eq_false',decide_eq_false_iff_not] at hq
  obtain ⟨⟨⟨q1,q2⟩,q3⟩,q4⟩:=hq
  obtain ⟨g1,g2⟩:=oY q1
  have hJ:J1 (cf s node) s:=⟨h,by omega,by omega,g1,q2⟩
  have two:∀ t:aa,J1 (cf s node) t→Pz (Option.bind (cR t (cf s node) true) fun c7=>if (c7.2.1 != 0)=true then some (c7.1,c7.2.1,c7.2.2) else Option.bind (cR c7.1 (cf s node) false) fun c8=>some c8) (fun r:aa×Int×ai=>JE noE r.1):=fun t ht=>Pz.bind (P3 ht true) fun r hr=>by
   split
   ·exact Pz.pure hr.1
   ·rename_i hz
    exact Pz.bind (P3 (hr.2 (by simpa using hz)) false) fun u hu=>Pz.pure hu.1
  refine Pz.bindT fun c5=>Pz.ite ?_ (two s hJ)
  refine Pz.bind (Yc hJ _) fun r hr=>?_
  split
  ·exact Pz.pure hr.1
  ·rename_i hd
   exact two r.1 (hr.2 (by simpa using hd))
theorem Yz {s:aa} (h:JE noE s) (node:Int) : Pz (lW s node) (fun r=>JE noE r.1):=by
 unfold lW
 dsimp only
 refine Pz.bind (Pz.loop (I:=fun r:aa×List ai×Int=>JE noE r.1) (Q:=fun r:aa×List ai×Int=>JE noE r.1) (fun st hst=>?_) _ _ h) fun r hr=>Pz.pure hr
 unfold gv
 dsimp only
 exact Pz.ite (Pz.bind (Zg hst node) fun r hr=>Pz.ite (Pz.pure hr) (Pz.bindT fun b=>Pz.pure hr)) (Pz.pure hst)
def trC (c:ai) : Int×Int×av:=(c.fId,c.bf,c.bu)
theorem Cy (l:List ai) (id:Int) : dw l id=(((l.map trC).filter fun t=>t.2.1==id).map fun t=>t.2.2.be).sum∧dx l id=(((l.map trC).filter fun t=>t.2.1==id).map fun t=>t.2.2.aF).sum:=by
 unfold dw dx
 rw [List.filter_map,List.map_map,List.map_map]
 exact ⟨rfl,rfl⟩
theorem JB.same {E:Int→Prop} {nodes:List aB} {conts l:List ai} {apps:List az} {ep sq:Int} (h:JB E nodes conts apps ep sq) (hs:l.map trC=conts.map trC) : JB E nodes l apps ep sq:=by
 obtain ⟨h1,⟨h2,h3⟩,h4,h5,h6⟩:=h
 have hlen:l.length=conts.length:=by
  have:=congrArg List.length hs
  simpa using this
 have hid:l.map ai.fId=conts.map ai.fId:=by
  have:=congrArg (List.map Prod.fst) hs
  rw [List.map_map,List.map_map] at this
  exact this
 refine ⟨h1,⟨by omega,by rw [hid]; exact h3⟩,fun c hc=>?_,fun n hn=>?_,h6⟩
 ·have:trC c∈conts.map trC:=by rw [← hs]; exact List.mem_map.2 ⟨c,hc,rfl⟩
  obtain ⟨d,hd,e⟩:=List.mem_map.1 this
  have e1:d.fId=c.fId:=congrArg Prod.fst e
  have e2:d.bf=c.bf:=congrArg (fun t=>t.2.1) e
  have e3:d.bu=c.bu:=congrArg (fun t=>t.2.2) e
  have:=h4 d hd
  rw [e1,e2,e3] at this
  exact this
 ·have:=h5 n hn
  rw [(Cy l n.fId).1,(Cy l n.fId).2,hs,← (Cy conts n.fId).1,← (Cy conts n.fId).2]
  exact this
theorem Uc {E:Int→Prop} {s:aa} (h:JE E s) (id t:Int) : Pz (jY s id t) (JE E):=by
 unfold jY
 dsimp only
 refine Pz.app (Pz.bind (Pz.loop (I:=fun st=>st.1.map trC=s.ab.map trC) (Q:=fun st:List ai×Int=>st.1.map trC=s.ab.map trC) (fun st hst=>?_) _ _ (by simp)) fun r hr=>Pz.pure (JB.same h hr))
 unfold lJ
 dsimp only
 refine Pz.ite (Pz.idx fun x hx=>Pz.ite (Pz.idxE fun y ey hy=>Pz.pure ?_) (Pz.pure hst)) (Pz.pure hst)
 show (st.1.set st.2.toNat { y with jw:=t }).map trC = _
 rw [List.map_set,← hst]
 have hy2:st.1[st.2.toNat]? = some y:=by
  unfold aw at ey
  split at ey
  ·exact ey
  ·cases ey
 obtain ⟨hi,e⟩:=zg.1 hy2
 have:trC { y with jw:=t } = (st.1.map trC)[st.2.toNat]'(by simpa using hi):=by
  rw [List.getElem_map,e]
  rfl
 rw [this,List.set_getElem_self]
theorem Ya {s:aa} (h:JE noE s) (label:Int) : Pz (rJ s label) (JE noE):=by
 unfold rJ
 dsimp only
 refine Pz.bindT fun r5=>Pz.bind (Pz.loop (I:=fun st:aa×Int=>JE noE st.1) (Q:=fun st:aa×Int=>JE noE st.1) (fun st hst=>?_) _ _ h) fun r hr=>Pz.pure hr
 unfold ji
 dsimp only
 refine Pz.ite (Pz.bindT fun b6=>Pz.bindT fun c7=>Pz.ite (Pz.pure hst) ?_) (Pz.pure hst)
 refine Pz.bindT fun c8=>Pz.bindT fun c9=>Pz.bindT fun c10=>Pz.bindT fun c11=>Pz.bindT fun c12=>Pz.ite ?_ ?_
 ·exact Pz.bind (Ka hst _) fun r hr=>Pz.pure hr.1.1
 ·exact Pz.bind (Uc hst _ _) fun r hr=>Pz.pure hr
theorem Xg {s:aa} (h:JE noE s) : Pz (o7 s) (fun r=>JE noE r.1):=by
 unfold o7
 dsimp only
 refine Pz.bind (Pz.loop (I:=fun st:aa×Int=>JE noE st.1) (Q:=fun st:aa×Int=>JE noE st.1) (fun st hst=>?_) _ _ h) fun r hr=>Pz.bindT fun c=>Pz.pure hr
 unfold ko
 dsimp only
 refine Pz.ite (Pz.bind (Ya hst _) fun t ht=>Pz.bindT fun c2=>Pz.bind (Pz.loop (I:=fun st:aa×Int=>JE noE st.1) (Q:=fun st:aa×Int=>JE noE st.1) (fun st2 hst2=>?_) _ _ ht) fun r hr=>Pz.pure hr) (Pz.pure hst)
 unfold ip
 dsimp only
 exact Pz.ite (Pz.bindT fun b3=>Pz.bind (Uc hst2 _ _) fun r hr=>Pz.pure hr) (Pz.pure hst2)
theorem uh {s:aa} (h:JE noE s) (e:Int) : Pz (cY s e) (fun r=>JE noE r.1):=by
 unfold cY
 exact Pz.pure h
theorem U5 {s:aa} (h:JE noE s) (t:ByteArray) : Pz (mS s t) (fun r=>JE noE r.1):=by
 have l1:∀ (c:ay) (N:Nat) (i:Int),Pz (ah (er s c) N i) (ET (fun _=>True) (fun r:aa×bk=>JE noE r.1)):=fun c N i=>by
  refine Pz.loop (I:=fun _=>True) (fun st _=>?_) N i trivial
  unfold er
  dsimp only
  exact Pz.ite (Pz.bindT fun a=>Pz.bindT fun b=>Pz.ite (Pz.bind (uh h _) fun r hr=>Pz.pure hr) (Pz.pure trivial)) (Pz.pure trivial)
 have l2:∀ (c:ay) (N:Nat) (i:Int),Pz (ah (eo s c) N i) (ET (fun _=>True) (fun r:aa×bk=>JE noE r.1)):=fun c N i=>by
  refine Pz.loop (I:=fun _=>True) (fun st _=>?_) N i trivial
  unfold eo
  dsimp only
  repeat' (first | (exact Pz.pure trivial) | (refine Pz.bind (uh h _) fun r hr=>?_) | (exact Pz.pure hr) | (refine Pz.ite ?_ ?_) | (refine Pz.bindT fun x=>?_) | (refine Pz.pure ?_) | assumption)
 unfold mS
 dsimp only
 repeat' (first | (refine Pz.bind (uh h _) fun r hr=>?_) | (refine Pz.bind (l1 _ _ _) fun r hr=>?_) | (refine Pz.bind (l2 _ _ _) fun r hr=>?_) | (refine Pz.ite ?_ ?_) | (refine Pz.bindT fun x=>?_) | (refine Pz.pure ?_) | assumption | split)
theorem Ve {s:aa} (h:JE noE s) (x:aH) : Pz (rH s x) (fun r=>JE noE r.1):=by
 have hnl:=h.1.1
 unfold rH
 dsimp only
 refine Pz.bindT fun c1=>Pz.bindT fun q2=>Pz.bindT fun q3=>Pz.ite (Pz.bindT fun c4=>Pz.pure h) ?_
 rw [EX s _ _ (by omega)]
 simp only [zb]
 have hb:=Ys x.fId x.co h
 split
 ·exact Pz.bind (uh h _) fun r hr=>Pz.pure hr
 ·refine Pz.bindT fun r11=>Pz.bind (Ka hb _) fun t ht=>Pz.bind (Yz ht.1.1 _) fun u hu=>Pz.bindT fun c14=>Pz.pure hu
theorem Xy {s:aa} (h:JE noE s) (id st:Int) : Pz (sM s id st) (fun r=>JE noE r.1):=by
 unfold sM
 dsimp only
 refine Pz.bindT fun c1=>Pz.ite (Pz.bind (uh h _) fun r hr=>Pz.pure hr) (Pz.bindT fun c3=>Pz.ite (Pz.bind (uh h _) fun r hr=>Pz.pure hr) ?_)
 exact Pz.bind (Zl h _ _) fun r hr=>Pz.pure hr.1
theorem Uh {s:aa} (h:JE noE s) (x:aH) : Pz (mR s x) (fun r=>JE noE r.1):=by
 unfold mR
 dsimp only
 refine Pz.bind (Bb h _) fun a ha=>?_
 have hbad:∀ e,Pz (Option.bind (cY s e) fun c=>some c) (fun r:aa×bk=>JE noE r.1):=fun e=>Pz.bind (uh h e) fun r hr=>Pz.pure hr
 refine Pz.ite (hbad _) (Pz.ite (hbad _) (Pz.ite (hbad _) (Pz.ite (Pz.bindT fun _=>Pz.bindT fun _=>Pz.bindT fun _=>Pz.pure h) (Pz.ite (hbad _) ?_))))
 refine Pz.bind (V4 ha.1) fun w hw=>Pz.ite (hbad _) ?_
 refine Pz.bind (Pz.loop (I:=fun st:aa×az×Int=>JE noE st.1∧p9 st.2.1) (Q:=fun st:aa×az×Int=>JE noE st.1∧p9 st.2.1) (fun st hst=>?_) _ _ ⟨h,ha⟩) fun r hr=>?_
 ·unfold gb
  dsimp only
  exact Pz.ite (Pz.bindT fun b=>Pz.bindT fun c=>Pz.bindT fun q=>Pz.bindT fun q=>Pz.ite (Pz.bind (V3 hst.1 _) fun t ht=>Pz.bindT fun c16=>Pz.pure ⟨ht.1.1,hst.2⟩) (Pz.pure hst)) (Pz.pure hst)
 ·refine Pz.bindT fun c18=>Pz.bindT fun c19=>Pz.bindT fun b20=>Pz.bind (MW hr.1 ?_) fun t ht=>Pz.pure ht.1
  exact ⟨hw,hr.2.2⟩
theorem XP {s:aa} (h:JE noE s) (n:Int) : Pz (rF s n) (fun r=>JE noE r.1):=by
 unfold rF
 dsimp only
 refine Pz.bindT fun q1=>Pz.ite (Pz.bind (uh h _) fun r hr=>Pz.pure hr) (Pz.ite (Pz.bind (uh h _) fun r hr=>Pz.pure hr) ?_)
 refine Pz.bindT fun c4=>Pz.bind (Pz.loop (I:=fun st:aa×Int=>JE noE st.1) (Q:=fun st:aa×Int=>JE noE st.1) (fun st hst=>?_) _ _ h) fun r12 h12=>?_
 ·unfold jg
  dsimp only
  have hnl:=hst.1.1
  refine Pz.ite (Pz.idxE fun b5 e5 _=>?_) (Pz.pure hst)
  rw [EW st.1 b5 (by omega),e5]
  simp only [zb]
  have hd:=Yo b5 hst
  refine Pz.bind (FK _) fun t ht=>?_
  obtain ⟨l,rfl⟩:=ht
  have hcl:=hd.2.1.1
  rw [YJ _ b5 (by show (BE st.1 b5).ab.length≤1000000; omega)]
  simp only [zb]
  exact Pz.bind (R9 (s:={ BE st.1 b5 with aR:=l }) (id:=b5) hd _ rfl) fun r hr=>Pz.pure hr
 refine Pz.bindT fun c13=>Pz.bind (Pz.loop (I:=fun st:aa×Int=>JE noE st.1) (Q:=fun st:aa×Int=>JE noE st.1) (fun st hst=>?_) _ _ h12) fun r17 h17=>?_
 ·unfold jf
  dsimp only
  exact Pz.ite (Pz.bindT fun b14=>Pz.bindT fun c15=>Pz.bind (Ka hst _) fun r hr=>Pz.pure hr.1.1) (Pz.pure hst)
 refine Pz.bindT fun r21=>Pz.bind (Xg (s:={ r17.1 with bv:=r21.1 }) h17) fun r hr=>Pz.bindT fun c23=>Pz.pure hr
theorem Xe {s:aa} (h:JE noE s) (p:a6) (n:Int) : Pz (sN s p n) (fun r=>JE noE r.1):=by
 have l1:∀ (N:Nat) (i:Int×Int),Pz (ah (iH s p) N i) (ET (fun _=>True) (fun r:aa×Int×Int=>JE noE r.1)):=fun N i=>by
  refine Pz.loop (I:=fun _=>True) (fun st _=>?_) N i trivial
  unfold iH
  dsimp only
  exact Pz.ite (Pz.bindT fun a=>Pz.ite (Pz.pure h) (Pz.bindT fun b=>Pz.ite (Pz.pure trivial) (Pz.pure trivial))) (Pz.pure trivial)
 unfold sN
 dsimp only
 refine Pz.bindT fun q1=>Pz.bindT fun q2=>Pz.bindT fun q3=>Pz.bindT fun q4=>Pz.ite (Pz.pure h) (Pz.bind (l1 _ _) fun r hr=>?_)
 cases r with
 | inr m=>exact Pz.pure hr
 | inl m =>
  refine Pz.ite (Pz.pure h) (Pz.ite (Pz.pure h) (Pz.bindT fun c9=>Pz.bindT fun c10=>Pz.ite (Pz.pure h) ?_))
  exact Pz.bindT fun a=>Pz.bindT fun b=>Pz.bindT fun c=>Pz.bindT fun d=>Pz.bindT fun e=>Pz.pure h
theorem UU {s:aa} (h:JE noE s) (id:Int) : Pz (pU s id) (fun r=>JE noE r.1):=by
 unfold pU
 dsimp only
 exact Pz.bindT fun r=>Pz.ite (Pz.pure h) (Pz.pure h)
theorem Vp {s:aa} (h:JE noE s) (x:aH) : Pz (nW s x) (fun r=>JE noE r.1):=by
 have hnl:=h.1.1
 unfold nW
 dsimp only
 refine Pz.ite (Pz.bind (U5 h _) fun r hr=>Pz.pure hr) (Pz.ite ?_ (Pz.ite (Pz.bind (Ve h _) fun r hr=>Pz.pure hr) (Pz.ite (Pz.bind (Vo h _) fun r hr=>Pz.pure hr) (Pz.ite (Pz.bind (Uh h _) fun r hr=>Pz.pure hr) (Pz.ite (Pz.bind (Xy h _ _) fun r hr=>Pz.pure hr) (Pz.ite (Pz.bind (Xy h _ _) fun r hr=>Pz.pure hr) (Pz.ite (Pz.bind (XP h _) fun r hr=>Pz.pure hr) (Pz.ite (Pz.bind (Xe h _ _) fun r hr=>Pz.pure hr) (Pz.ite (Pz.bind (UU h _) fun r hr=>Pz.pure hr) (Pz.ite ?_ (Pz.bind (uh h _) fun r hr=>Pz.pure hr)))))))))))
 ·rw [um s _ (by omega)]
  exact Pz.pure (YI _ h)
 ·split
  ·exact Pz.bind (uh h _) fun r hr=>Pz.pure hr
  ·rename_i he
   have he : ¬ s.eW≥1048576:=fun e=>he (decide_eq_true e)
   obtain ⟨h1,h2,h4,h5,h6,e1,e2,s1,s2⟩:=h
   refine Pz.pure ⟨h1,h2,fun c hc=>?_,h5,h6,?_,?_,by show (0:Int)≤0; omega,by show (0:Int)≤1048575; omega⟩
   ·obtain ⟨k1,k2,k3⟩:=h4 c hc
    refine ⟨k1,?_,k3⟩
    show c.fId≤i64.wrap (s.eW + 1) * 1048576 + 0
    rw [kJ (by omega) (by omega)]
    omega
   ·show 0≤i64.wrap (s.eW + 1)
    rw [kJ (by omega) (by omega)]
    omega
   ·show i64.wrap (s.eW + 1)≤1048576
    rw [kJ (by omega) (by omega)]
    omega
theorem Xf (x:aE) : Pz (cL x) (JE noE):=by
 have h0:JE noE (⟨⟨[⟨#[]⟩],[⟨⟨#[114,111,111,116]⟩,[⟨10000,10000⟩],10000⟩]⟩,[],[],[],[],[],0,0,0⟩ : aa):=⟨⟨Nat.zero_le _,List.Pairwise.nil⟩,⟨Nat.zero_le _,List.Pairwise.nil⟩,fun c hc=>(by cases hc),fun n hn=>(by cases hn),fun a ha=>(by cases ha),by decide,by decide,by decide,by decide⟩
 unfold cL
 dsimp only
 refine Pz.bind (A:=JE noE) (fun r e=>by injection e with e; subst e; exact h0) fun s hs=>?_
 refine Pz.bindT fun c=>Pz.bindT fun t=>Pz.bind (Vp hs _) fun r hr=>?_
 refine Pz.bind (A:=JE noE) (Pz.ite (Pz.pure hr) (Pz.pure hs)) fun s hs=>?_
 refine Pz.bind (Pz.loop (I:=fun st:aa×Int=>JE noE st.1) (Q:=fun st:aa×Int=>JE noE st.1) (fun st hst=>?_) _ _ hs) fun r hr=>Pz.pure hr
 unfold dg
 dsimp only
 exact Pz.ite (Pz.bindT fun b=>Pz.bindT fun c=>Pz.bind (Vp hst _) fun r hr=>Pz.pure hr) (Pz.pure hst)
noncomputable def NK (s:aa) (st:Bool×Int) : Option ((Bool×Int)⊕((Bool×Int)⊕Bool)):=if decide (st.2 < (s.ar.length:Int))=true then Option.bind (aw s.ar st.2) fun x=>Option.bind (PQ s x.fId) fun u=>Option.bind (UF s x.fId) fun f=>Option.bind (if x.fUp=true then Option.bind (cX u f) fun r=>some (!(r.be==x.dY.be&&r.aF==x.dY.aF)) else some false) fun q=>Option.bind (if q=true then some true else Option.bind (if (!x.fUp)=true then Option.bind (if (!(f.be==0&&f.aF==0))=true then some true else some (!(u.be==0&&u.aF==0))) fun q=>some q else some false) fun q=>some q) fun q=>if q=true then some (.inr (.inr false)) else some (.inl (st.1,i64.wrap (st.2 + 1))) else some (.inr (.inl (st.1,st.2)))
theorem WG (x:aE) : p7 (x,())=Option.bind Ur fun r=>if (!r)=true then some false else Option.bind (nz x) fun r=>if (!r)=true then some true else Option.bind (cL x) fun s=>Option.bind (ah (NK s) ac (false,(0:Int))) fun o=>match o with | .inl _=>some true | .inr v=>some v:=by kernel_rfl
theorem Ue {s:aa} (h:JE noE s) {x:aB} (hx:x∈s.ar) : (x.fUp=true→AJ (C1 s x.fId) (s6 s x.fId)=x.dY)∧(x.fUp=false→C1 s x.fId=⟨0,0⟩∧s6 s x.fId=⟨0,0⟩):=by
 have hi:iZ s x.fId=true:=List.any_eq_true.2 ⟨x,hx,by simp⟩
 obtain ⟨g1,g2⟩:=oY hi
 have e:cf s x.fId=x:=xL h.1.2 g1 hx g2
 obtain ⟨u1,u2,u3⟩:=Ko h hx
 obtain ⟨⟨c1,c2,c3,c4⟩,k2,k3⟩:=h.2.2.2.1 x hx
 constructor
 ·intro hu
  unfold s6
  rw [hi,e,hu,u1,K0]
  simp only [Bool.not_true,Bool.or_self,zf,if_false]
  rw [kJ (by omega) (by omega),kJ (by omega) (by omega),if_neg (by omega),if_neg (by omega)]
  unfold AJ
  simp only []
  rw [show dw s.ab x.fId + (x.dY.be - dw s.ab x.fId)=x.dY.be by omega,show dx s.ab x.fId + (x.dY.aF - dx s.ab x.fId)=x.dY.aF by omega,kJ (by omega) (by omega),kJ (by omega) (by omega)]
 ·intro hu
  have hn:∀ c∈s.ab,c.bf≠x.fId:=fun c hc e2=>by
   rcases (h.2.2.1 c hc).2.2 with q | ⟨m,m1,m2,m3⟩
   ·exact q
   ·have:m=x:=xL h.1.2 m1 hx (by rw [m2,e2])
    rw [this,hu] at m3
    cases m3
  obtain ⟨z1,z2⟩:=GB hn
  refine ⟨by rw [u1,z1,z2],?_⟩
  unfold s6
  rw [hi,e,hu]
  rfl
theorem NodesFree.plain (a0:aE) (_k0:aE.ok a0) : p7 (a0,())=some true:=by
 rw [WG,RJ,Yh]
 simp only [zb,Bool.not_true,zf,if_false]
 cases hf:(decide ((a0.fNs.length:Int)≤30)&&decide ((a0.mp.length:Int)≤80)) with
 | false=>rfl
 | true =>
  simp only [Bool.not_true,zf,if_false]
  rw [Bool.and_eq_true] at hf
  have hacts:a0.mp.length≤80:=by have:=zd hf.2; omega
  obtain ⟨s,h1,h2⟩:=Vq a0 hacts
  have hJ:JE noE s:=Xf a0 s h1
  have hnl:=hJ.1.1
  have hcl:=hJ.2.1.1
  rw [h1]
  simp only [zb]
  obtain ⟨r,e1,q,rfl⟩:=aM (f:=NK s) (fun st=>∃ k:Nat,st.2=(k:Int)∧k≤s.ar.length) (fun st=>s.ar.length - st.2.toNat) (fun r=>∃ q,r = .inl q) (fun st ⟨k,g1,g2⟩=>by
   unfold NK
   simp only [g1]
   rcases Nat.lt_or_ge k s.ar.length with hlt | hge
   ·have hx:=zq hlt
    obtain ⟨n1,n2⟩:=Ue hJ (List.getElem_mem hlt)
    rw [ci hx,if_pos rfl,aN hx]
    simp only [zb,Kn s _ (show s.ab.length≤1000000 by omega),UE s _ (show s.ar.length≤1000000 by omega) (show s.ab.length≤1000000 by omega),dP]
    have hw:i64.wrap ((k:Int) + 1)=((k + 1:Nat) : Int):=bm hlt (by omega)
    have hmu:s.ar.length - (((k + 1:Nat) : Int)).toNat < s.ar.length - ((k:Nat) : Int).toNat:=by simp only [zt]; omega
    have hb:∀ z:Int,(z==z)=true:=fun z=>by simp
    cases hu:s.ar[k].fUp with
    | true =>
     rw [n1 hu]
     simp only [if_true,zb,hb,Bool.and_self,Bool.not_true,zf,if_false,hw]
     exact .inl ⟨_,rfl,⟨k + 1,rfl,hlt⟩,hmu⟩
    | false =>
     rw [(n2 hu).1,(n2 hu).2]
     simp only [zb,hb,Bool.and_self,Bool.not_true,Bool.not_false,zf,if_false,if_true,hw]
     exact .inl ⟨_,rfl,⟨k + 1,rfl,hlt⟩,hmu⟩
   ·obtain rfl:k=s.ar.length:=by omega
    rw [bU,if_neg (by decide)]
    exact .inr ⟨_,rfl,_,rfl⟩) ac (false,0) ⟨0,rfl,Nat.zero_le _⟩ (by have:=an (n:=s.ar.length) (by omega); show s.ar.length - (0:Int).toNat < ac; omega)
  rw [e1]
  rfl
section
set_option maxHeartbeats 0
theorem rR:∀ (w r:List Char),(∀ c∈w,c≠(Char.ofNat 32))→wordsSigns (w++(Char.ofNat 32)::r)=w::wordsSigns r
 | [],r,_=>by simp [wordsSigns]
 | c::w,r,h=>by
  have h1:c≠(Char.ofNat 32):=h c (List.mem_cons_self ..)
  have h2:=rR w r (fun d hd=>h d (List.mem_cons_of_mem _ hd))
  rw [List.cons_append,wordsSigns.eq_3 _ _ (fun e=>h1 e),h2]
theorem ED (R:List (List Char)) : stripLifts liftWords ([(Char.ofNat 99),(Char.ofNat 117),(Char.ofNat 116)] :: R)=([],[(Char.ofNat 99),(Char.ofNat 117),(Char.ofNat 116)] :: R):=by kernel_rfl
theorem Uk (P:Program) {R:List (List Char)} (h:behindMainWord (wordsSigns P.initOrder.toList) = [(Char.ofNat 99),(Char.ofNat 117),(Char.ofNat 116)] :: R) : P.make=some .cut:=by
 unfold Program.make
 rw [h]
 rfl
theorem Ux (P:Program) {R:List (List Char)} (h:behindMainWord (wordsSigns P.initOrder.toList) = [(Char.ofNat 99),(Char.ofNat 117),(Char.ofNat 116)] :: R) : P.headLifts = []:=by
 unfold Program.headLifts
 rw [h,ED]
 rfl
theorem RG (P:Program) {R:List (List Char)} (h:behindMainWord (wordsSigns P.initOrder.toList) = [(Char.ofNat 99),(Char.ofNat 117),(Char.ofNat 116)] :: R) : P.liftsFinal=false:=by
 unfold Program.liftsFinal
 rw [h,Ux P h]
 rfl
theorem RV (P:Program) {R:List (List Char)} (h:behindMainWord (wordsSigns P.initOrder.toList) = [(Char.ofNat 99),(Char.ofNat 117),(Char.ofNat 116)] :: R) (h1:P.laysLater=false) (h2:P.bearsReflect=false) (h3:P.doorFits [] = true) : P.mayEnter=true:=by
 unfold Program.mayEnter
 rw [h]
 dsimp only
 rw [ED,h1,h2]
 dsimp only
 rw [h3]
 rfl
theorem WU (P:Program) (h:P.doorRows = []) : P.doorFits [] = true:=by
 unfold Program.doorFits
 rw [h]
 rfl
theorem io:prog.initOrder=(String.ofList [Char.ofNat 104,Char.ofNat 97,Char.ofNat 114,Char.ofNat 110,Char.ofNat 101,Char.ofNat 115,Char.ofNat 115,Char.ofNat 32,Char.ofNat 50,Char.ofNat 53,Char.ofNat 50,Char.ofNat 97,Char.ofNat 100,Char.ofNat 102,Char.ofNat 98,Char.ofNat 50,Char.ofNat 102,Char.ofNat 48,Char.ofNat 100,Char.ofNat 53,Char.ofNat 50,Char.ofNat 55,Char.ofNat 55,Char.ofNat 50,Char.ofNat 98,Char.ofNat 101,Char.ofNat 56,Char.ofNat 52,Char.ofNat 57,Char.ofNat 101,Char.ofNat 49,Char.ofNat 57,Char.ofNat 100,Char.ofNat 49,Char.ofNat 52,Char.ofNat 101,Char.ofNat 100,Char.ofNat 52,Char.ofNat 54,Char.ofNat 48,Char.ofNat 101,Char.ofNat 57,Char.ofNat 49,Char.ofNat 56,Char.ofNat 97,Char.ofNat 48,Char.ofNat 53,Char.ofNat 100,Char.ofNat 48,Char.ofNat 99,Char.ofNat 54,Char.ofNat 50,Char.ofNat 48,Char.ofNat 100,Char.ofNat 50,Char.ofNat 102,Char.ofNat 100,Char.ofNat 102,Char.ofNat 48,Char.ofNat 54,Char.ofNat 97,Char.ofNat 53,Char.ofNat 97,Char.ofNat 102,Char.ofNat 57,Char.ofNat 51,Char.ofNat 57,Char.ofNat 52,Char.ofNat 51,Char.ofNat 51,Char.ofNat 97,Char.ofNat 48,Char.ofNat 32,Char.ofNat 99,Char.ofNat 117,Char.ofNat 116,Char.ofNat 32,Char.ofNat 97,Char.ofNat 116,Char.ofNat 32,Char.ofNat 100,Char.ofNat 105,Char.ofNat 115,Char.ofNat 112,Char.ofNat 97,Char.ofNat 116,Char.ofNat 99,Char.ofNat 104,Char.ofNat 47,Char.ofNat 100,Char.ofNat 105,Char.ofNat 115,Char.ofNat 112,Char.ofNat 97,Char.ofNat 116,Char.ofNat 99,Char.ofNat 104,Char.ofNat 108,Char.ofNat 97,Char.ofNat 119,Char.ofNat 49,Char.ofNat 53,Char.ofNat 46,Char.ofNat 80,Char.ofNat 108,Char.ofNat 97,Char.ofNat 110,Char.ofNat 65,Char.ofNat 100,Char.ofNat 100,Char.ofNat 115,Char.ofNat 32,Char.ofNat 100,Char.ofNat 105,Char.ofNat 115,Char.ofNat 112,Char.ofNat 97,Char.ofNat 116,Char.ofNat 99,Char.ofNat 104,Char.ofNat 47,Char.ofNat 100,Char.ofNat 105,Char.ofNat 115,Char.ofNat 112,Char.ofNat 97,Char.ofNat 116,Char.ofNat 99,Char.ofNat 104,Char.ofNat 108,Char.ofNat 97,Char.ofNat 119,Char.ofNat 56,Char.ofNat 46,Char.ofNat 78,Char.ofNat 111,Char.ofNat 100,Char.ofNat 101,Char.ofNat 115,Char.ofNat 70,Char.ofNat 114,Char.ofNat 101,Char.ofNat 101]):=by kernel_rfl
theorem ioL:prog.initOrder.toList = [(Char.ofNat 104),(Char.ofNat 97),(Char.ofNat 114),(Char.ofNat 110),(Char.ofNat 101),(Char.ofNat 115),(Char.ofNat 115)] ++ (Char.ofNat 32)::([(Char.ofNat 50),(Char.ofNat 53),(Char.ofNat 50),(Char.ofNat 97),(Char.ofNat 100),(Char.ofNat 102),(Char.ofNat 98),(Char.ofNat 50),(Char.ofNat 102),(Char.ofNat 48),(Char.ofNat 100),(Char.ofNat 53),(Char.ofNat 50),(Char.ofNat 55),(Char.ofNat 55),(Char.ofNat 50),(Char.ofNat 98),(Char.ofNat 101),(Char.ofNat 56),(Char.ofNat 52),(Char.ofNat 57),(Char.ofNat 101),(Char.ofNat 49),(Char.ofNat 57),(Char.ofNat 100),(Char.ofNat 49),(Char.ofNat 52),(Char.ofNat 101),(Char.ofNat 100),(Char.ofNat 52),(Char.ofNat 54),(Char.ofNat 48),(Char.ofNat 101),(Char.ofNat 57),(Char.ofNat 49),(Char.ofNat 56),(Char.ofNat 97),(Char.ofNat 48),(Char.ofNat 53),(Char.ofNat 100),(Char.ofNat 48),(Char.ofNat 99),(Char.ofNat 54),(Char.ofNat 50),(Char.ofNat 48),(Char.ofNat 100),(Char.ofNat 50),(Char.ofNat 102),(Char.ofNat 100),(Char.ofNat 102),(Char.ofNat 48),(Char.ofNat 54),(Char.ofNat 97),(Char.ofNat 53),(Char.ofNat 97),(Char.ofNat 102),(Char.ofNat 57),(Char.ofNat 51),(Char.ofNat 57),(Char.ofNat 52),(Char.ofNat 51),(Char.ofNat 51),(Char.ofNat 97),(Char.ofNat 48)] ++ (Char.ofNat 32)::([(Char.ofNat 99),(Char.ofNat 117),(Char.ofNat 116)] ++ (Char.ofNat 32) :: [(Char.ofNat 97),(Char.ofNat 116),(Char.ofNat 32),(Char.ofNat 100),(Char.ofNat 105),(Char.ofNat 115),(Char.ofNat 112),(Char.ofNat 97),(Char.ofNat 116),(Char.ofNat 99),(Char.ofNat 104),(Char.ofNat 47),(Char.ofNat 100),(Char.ofNat 105),(Char.ofNat 115),(Char.ofNat 112),(Char.ofNat 97),(Char.ofNat 116),(Char.ofNat 99),(Char.ofNat 104),(Char.ofNat 108),(Char.ofNat 97),(Char.ofNat 119),(Char.ofNat 49),(Char.ofNat 53),(Char.ofNat 46),(Char.ofNat 80),(Char.ofNat 108),(Char.ofNat 97),(Char.ofNat 110),(Char.ofNat 65),(Char.ofNat 100),(Char.ofNat 100),(Char.ofNat 115),(Char.ofNat 32),(Char.ofNat 100),(Char.ofNat 105),(Char.ofNat 115),(Char.ofNat 112),(Char.ofNat 97),(Char.ofNat 116),(Char.ofNat 99),(Char.ofNat 104),(Char.ofNat 47),(Char.ofNat 100),(Char.ofNat 105),(Char.ofNat 115),(Char.ofNat 112),(Char.ofNat 97),(Char.ofNat 116),(Char.ofNat 99),(Char.ofNat 104),(Char.ofNat 108),(Char.ofNat 97),(Char.ofNat 119),(Char.ofNat 56),(Char.ofNat 46),(Char.ofNat 78),(Char.ofNat 111),(Char.ofNat 100),(Char.ofNat 101),(Char.ofNat 115),(Char.ofNat 70),(Char.ofNat 114),(Char.ofNat 101),(Char.ofNat 101)])):=by rw [io]; exact String.toList_ofList
theorem ioW:∃ R,wordsSigns prog.initOrder.toList = [(Char.ofNat 104),(Char.ofNat 97),(Char.ofNat 114),(Char.ofNat 110),(Char.ofNat 101),(Char.ofNat 115),(Char.ofNat 115)] :: [(Char.ofNat 50),(Char.ofNat 53),(Char.ofNat 50),(Char.ofNat 97),(Char.ofNat 100),(Char.ofNat 102),(Char.ofNat 98),(Char.ofNat 50),(Char.ofNat 102),(Char.ofNat 48),(Char.ofNat 100),(Char.ofNat 53),(Char.ofNat 50),(Char.ofNat 55),(Char.ofNat 55),(Char.ofNat 50),(Char.ofNat 98),(Char.ofNat 101),(Char.ofNat 56),(Char.ofNat 52),(Char.ofNat 57),(Char.ofNat 101),(Char.ofNat 49),(Char.ofNat 57),(Char.ofNat 100),(Char.ofNat 49),(Char.ofNat 52),(Char.ofNat 101),(Char.ofNat 100),(Char.ofNat 52),(Char.ofNat 54),(Char.ofNat 48),(Char.ofNat 101),(Char.ofNat 57),(Char.ofNat 49),(Char.ofNat 56),(Char.ofNat 97),(Char.ofNat 48),(Char.ofNat 53),(Char.ofNat 100),(Char.ofNat 48),(Char.ofNat 99),(Char.ofNat 54),(Char.ofNat 50),(Char.ofNat 48),(Char.ofNat 100),(Char.ofNat 50),(Char.ofNat 102),(Char.ofNat 100),(Char.ofNat 102),(Char.ofNat 48),(Char.ofNat 54),(Char.ofNat 97),(Char.ofNat 53),(Char.ofNat 97),(Char.ofNat 102),(Char.ofNat 57),(Char.ofNat 51),(Char.ofNat 57),(Char.ofNat 52),(Char.ofNat 51),(Char.ofNat 51),(Char.ofNat 97),(Char.ofNat 48)] :: [(Char.ofNat 99),(Char.ofNat 117),(Char.ofNat 116)] :: R:=by
 rw [ioL,rR _ _ (by decide),rR _ _ (by decide),rR _ _ (by decide)]
 exact ⟨_,rfl⟩
theorem ioB:∃ R,behindMainWord (wordsSigns prog.initOrder.toList) = [(Char.ofNat 99),(Char.ofNat 117),(Char.ofNat 116)] :: R:=by
 obtain ⟨R,h⟩:=ioW
 rw [h]
 exact ⟨R,by kernel_rfl⟩
theorem YT:prog.laysLater=false:=by kernel_rfl
theorem Y9:prog.bearsReflect=false:=by kernel_rfl
theorem Y4:prog.doorRows = []:=by kernel_rfl
theorem Yl:prog.mayEnter=true:=by
 obtain ⟨R,h⟩:=ioB
 exact RV _ h YT Y9 (WU _ Y4)
theorem YR:prog.liftsFinal=false:=by
 obtain ⟨R,h⟩:=ioB
 exact RG _ h
theorem YO:prog.make=some .cut:=by
 obtain ⟨R,h⟩:=ioB
 exact Uk _ h
end
end Go.Proofs.YtaknepbdbappdaaGreat
