/- My texts, in one. -/
import Derived.Test.YtkmpjphbkhpgbaaZA
set_option linter.all false
set_option maxRecDepth 100000
set_option maxHeartbeats 4000000
namespace Go.Proofs.Ytkmpjphbkhpgbaa
open Go.RowKit
open IntKind (i64)
open Go.Proofs.Try (prog)
def ST:Nat→Type
 | 0=>aF
 | 1=>eO
 | 2=>cR
 | 3=>fg
 | 4=>aU
 | 5=>bH
 | 6=>cG
 | 7=>cQ
 | 8=>ac
 | 9=>cu
 | 10=>bI
 | 11=>dc
 | 12=>al
 | 15=>aK
 | 16=>az
 | 17=>aH
 | 18=>ay
 | _=>Unit
def Ty.den:Ty→Type
 | .int _=>Int
 | .bool=>Bool
 | .str=>ByteArray
 | .sl t=>List (Ty.den t)
 | .st i=>ST i
inductive SD where
 | int (k:IntKind) (x:Int)
 | bool (b:Bool)
 | str (s:ByteArray)
 | sl (t:Ty) (xs:List t.den)
 | nl
def stD:(i:Nat)→ST i→List D
 | 0,x=>aF.d x
 | 1,x=>eO.d x
 | 2,x=>cR.d x
 | 3,x=>fg.d x
 | 4,x=>aU.d x
 | 5,x=>bH.d x
 | 6,x=>cG.d x
 | 7,x=>cQ.d x
 | 8,x=>ac.d x
 | 9,x=>cu.d x
 | 10,x=>bI.d x
 | 11,x=>dc.d x
 | 12,x=>al.d x
 | 15,x=>aK.d x
 | 16,x=>az.d x
 | 17,x=>aH.d x
 | 18,x=>ay.d x
 | 13,_=>[]
 | 14,_=>[]
 | _ + 19,_=>[]
def aA:(t:Ty)→t.den→List D
 | .int k,x=>[.v (.int k x)]
 | .bool,x=>[.v (.bool x)]
 | .str,x=>[.v (.string x)]
 | .sl t,xs=>[.sl (List.map (aA t) xs)]
 | .st i,x=>stD i x
def mX {t u:Ty} (h:t=u) (xs:List t.den) : List u.den:=h ▸ xs
def SD.toD:SD→D
 | .int k x=>.v (.int k x)
 | .bool x=>.v (.bool x)
 | .str x=>.v (.string x)
 | .sl t xs=>.sl (List.map (aA t) xs)
 | .nl=>.sl []
def SD.as:(t:Ty)→SD→Option t.den
 | .int k,.int k' x=>if k' = k then some x else none
 | .bool,.bool x=>some x
 | .str,.str x=>some x
 | .sl t,.sl t' xs=>match Ty.same t' t with | some ⟨h⟩=>some (mX h xs) | none=>none
 | .sl t,.nl=>some ([] : List t.den)
 | _,_=>none
def gQ:(t:Ty)→t.den→SD
 | .int k,x=>.int k x
 | .bool,x=>.bool x
 | .str,x=>.str x
 | .sl t,xs=>.sl t xs
 | .st _,_=>.nl
def stN:Nat→Nat
 | 0=>2
 | 1=>8
 | 2=>14
 | 3=>2
 | 4=>3
 | 5=>2
 | 6=>9
 | 7=>8
 | 8=>6
 | 9=>35
 | 10=>5
 | 11=>3
 | 12=>10
 | 15=>5
 | 16=>3
 | 17=>2
 | 18=>2
 | _=>0
def Fg:TypeId→Option Nat
 | 24=>some 0
 | 99=>some 1
 | 79=>some 2
 | 68=>some 3
 | 71=>some 4
 | 45=>some 5
 | 81=>some 6
 | 54=>some 7
 | 26=>some 8
 | 83=>some 11
 | 51=>some 12
 | _=>none
def stF:Nat→Bool
 | 0=>true
 | 1=>true
 | 2=>false
 | 3=>true
 | 4=>false
 | 5=>false
 | 6=>true
 | 7=>true
 | 8=>true
 | 9=>false
 | 10=>false
 | 11=>true
 | 12=>false
 | 15=>true
 | 16=>false
 | 17=>true
 | 18=>true
 | _=>true
def stC:(i:Nat)→ST i→List SD
 | 0,(x:aF)=>[.int .i64 x.aY,.int .i64 x.ar]
 | 1,(x:eO)=>[.int .i64 x.du,.int .i64 x.av,.int .i64 x.eY.aY,.int .i64 x.eY.ar,.int .i64 x.ua,.int .i64 x.cd,.int .i64 x.kp,.int .i64 x.pq]
 | 2,(x:cR)=>[.int .i64 x.fId,.int .i64 x.l6,.str x.kq,.int .i64 x.iY,.int .i64 x.du,.int .i64 x.cg.aY,.int .i64 x.cg.ar,.sl (.st 1) x.fa,.int .i64 x.gZ,.int .i64 x.eZ,.sl (.int .i64) x.g0,.sl (.int .i64) x.kt,.sl (.int .i64) x.oE,.sl (.int .i64) x.oG]
 | 3,(x:fg)=>[.int .i64 x.t7,.int .i64 x.yI]
 | 4,(x:aU)=>[.str x.mR,.sl (.st 3) x.jL,.int .i64 x.iY]
 | 5,(x:bH)=>[.sl (.str) x.bz,.sl (.st 4) x.cf]
 | 6,(x:cG)=>[.int .i64 x.fId,.int .i64 x.cM,.int .i64 x.cd,.int .i64 x.eY.aY,.int .i64 x.eY.ar,.int .i64 x.du,.int .i64 x.av,.bool x.cg,.int .i64 x.po]
 | 7,(x:cQ)=>[.int .i64 x.fId,.int .i64 x.av,.int .i64 x.kp,.int .i64 x.la.aY,.int .i64 x.la.ar,.int .i64 x.gZ,.int .i64 x.eZ,.bool x.fUp]
 | 8,(x:ac)=>[.int .i64 x.fId,.int .i64 x.av,.int .i64 x.af,.int .i64 x.aD,.int .i64 x.ap.aY,.int .i64 x.ap.ar]
 | 9,(x:cu)=>[.int .i64 x.vL,.int .i64 x.fId,.int .i64 x.eZ,.int .i64 x.fN,.str x.DR,.int .i64 x.cd.fId,.int .i64 x.cd.av,.int .i64 x.cd.kp,.int .i64 x.cd.la.aY,.int .i64 x.cd.la.ar,.int .i64 x.cd.gZ,.int .i64 x.cd.eZ,.bool x.cd.fUp,.int .i64 x.cM.fId,.int .i64 x.cM.l6,.str x.cM.kq,.int .i64 x.cM.iY,.int .i64 x.cM.du,.int .i64 x.cM.cg.aY,.int .i64 x.cM.cg.ar,.sl (.st 1) x.cM.fa,.int .i64 x.cM.gZ,.int .i64 x.cM.eZ,.sl (.int .i64) x.cM.g0,.sl (.int .i64) x.cM.kt,.sl (.int .i64) x.cM.oE,.sl (.int .i64) x.cM.oG,.sl (.st 1) x.fa,.sl (.int .i64) x.Ce,.int .i64 x.jK.fId,.int .i64 x.jK.av,.int .i64 x.jK.af,.int .i64 x.jK.aD,.int .i64 x.jK.ap.aY,.int .i64 x.jK.ap.ar]
 | 10,(x:bI)=>[.int .i64 x.EU,.sl (.st 6) x.d9,.sl (.int .i64) x.Ce,.sl (.int .i64) x.DS,.int .i64 x.fN]
 | 11,(x:dc)=>[.int .i64 x.cd,.int .i64 x.cM,.int .i64 x.du]
 | 12,(x:al)=>[.sl (.str) x.g7.bz,.sl (.st 4) x.g7.cf,.sl (.st 7) x.bS,.sl (.st 2) x.jM,.sl (.st 6) x.d9,.sl (.st 11) x.gu,.sl (.st 8) x.am,.int .i64 x.iZ,.int .i64 x.qQ,.int .i64 x.Cd]
 | 15,(x:aK)=>[.int .i64 x.vL,.int .i64 x.fA,.int .i64 x.fB,.int .i64 x.fC,.int .i64 x.fD]
 | 16,(x:az)=>[.int .i64 x.Cc,.sl (.int .i64) x.fNs,.sl (.st 15) x.DU]
 | 17,(x:aH)=>[.int .i64 x.fA,.int .i64 x.fP]
 | 18,(x:ay)=>[.str x.mR,.int .i64 x.aY]
 | 13,_=>[]
 | 14,_=>[]
 | _ + 19,_=>[]
def aF.k:List SD→Option aF
 | c0::c1 :: []=>Option.bind (c0.as (.int .i64)) fun x0=>Option.bind (c1.as (.int .i64)) fun x1=>some (⟨x0,x1⟩ : aF)
 | _=>none
def eO.k:List SD→Option eO
 | c0::c1::c2::c3::c4::c5::c6::c7 :: []=>Option.bind (c0.as (.int .i64)) fun x0=>Option.bind (c1.as (.int .i64)) fun x1=>Option.bind (c2.as (.int .i64)) fun x2=>Option.bind (c3.as (.int .i64)) fun x3=>Option.bind (c4.as (.int .i64)) fun x4=>Option.bind (c5.as (.int .i64)) fun x5=>Option.bind (c6.as (.int .i64)) fun x6=>Option.bind (c7.as (.int .i64)) fun x7=>some (⟨x0,x1,⟨x2,x3⟩,x4,x5,x6,x7⟩ : eO)
 | _=>none
def cR.k:List SD→Option cR
 | c0::c1::c2::c3::c4::c5::c6::c7::c8::c9::c10::c11::c12::c13 :: []=>Option.bind (c0.as (.int .i64)) fun x0=>Option.bind (c1.as (.int .i64)) fun x1=>Option.bind (c2.as (.str)) fun x2=>Option.bind (c3.as (.int .i64)) fun x3=>Option.bind (c4.as (.int .i64)) fun x4=>Option.bind (c5.as (.int .i64)) fun x5=>Option.bind (c6.as (.int .i64)) fun x6=>Option.bind (c7.as (.sl (.st 1))) fun x7=>Option.bind (c8.as (.int .i64)) fun x8=>Option.bind (c9.as (.int .i64)) fun x9=>Option.bind (c10.as (.sl (.int .i64))) fun x10=>Option.bind (c11.as (.sl (.int .i64))) fun x11=>Option.bind (c12.as (.sl (.int .i64))) fun x12=>Option.bind (c13.as (.sl (.int .i64))) fun x13=>some (⟨x0,x1,x2,x3,x4,⟨x5,x6⟩,x7,x8,x9,x10,x11,x12,x13⟩ : cR)
 | _=>none
def fg.k:List SD→Option fg
 | c0::c1 :: []=>Option.bind (c0.as (.int .i64)) fun x0=>Option.bind (c1.as (.int .i64)) fun x1=>some (⟨x0,x1⟩ : fg)
 | _=>none
def aU.k:List SD→Option aU
 | c0::c1::c2 :: []=>Option.bind (c0.as (.str)) fun x0=>Option.bind (c1.as (.sl (.st 3))) fun x1=>Option.bind (c2.as (.int .i64)) fun x2=>some (⟨x0,x1,x2⟩ : aU)
 | _=>none
def bH.k:List SD→Option bH
 | c0::c1 :: []=>Option.bind (c0.as (.sl (.str))) fun x0=>Option.bind (c1.as (.sl (.st 4))) fun x1=>some (⟨x0,x1⟩ : bH)
 | _=>none
def cG.k:List SD→Option cG
 | c0::c1::c2::c3::c4::c5::c6::c7::c8 :: []=>Option.bind (c0.as (.int .i64)) fun x0=>Option.bind (c1.as (.int .i64)) fun x1=>Option.bind (c2.as (.int .i64)) fun x2=>Option.bind (c3.as (.int .i64)) fun x3=>Option.bind (c4.as (.int .i64)) fun x4=>Option.bind (c5.as (.int .i64)) fun x5=>Option.bind (c6.as (.int .i64)) fun x6=>Option.bind (c7.as (.bool)) fun x7=>Option.bind (c8.as (.int .i64)) fun x8=>some (⟨x0,x1,x2,⟨x3,x4⟩,x5,x6,x7,x8⟩ : cG)
 | _=>none
def cQ.k:List SD→Option cQ
 | c0::c1::c2::c3::c4::c5::c6::c7 :: []=>Option.bind (c0.as (.int .i64)) fun x0=>Option.bind (c1.as (.int .i64)) fun x1=>Option.bind (c2.as (.int .i64)) fun x2=>Option.bind (c3.as (.int .i64)) fun x3=>Option.bind (c4.as (.int .i64)) fun x4=>Option.bind (c5.as (.int .i64)) fun x5=>Option.bind (c6.as (.int .i64)) fun x6=>Option.bind (c7.as (.bool)) fun x7=>some (⟨x0,x1,x2,⟨x3,x4⟩,x5,x6,x7⟩ : cQ)
 | _=>none
def ac.k:List SD→Option ac
 | c0::c1::c2::c3::c4::c5 :: []=>Option.bind (c0.as (.int .i64)) fun x0=>Option.bind (c1.as (.int .i64)) fun x1=>Option.bind (c2.as (.int .i64)) fun x2=>Option.bind (c3.as (.int .i64)) fun x3=>Option.bind (c4.as (.int .i64)) fun x4=>Option.bind (c5.as (.int .i64)) fun x5=>some (⟨x0,x1,x2,x3,⟨x4,x5⟩⟩ : ac)
 | _=>none
def cu.k:List SD→Option cu
 | c0::c1::c2::c3::c4::c5::c6::c7::c8::c9::c10::c11::c12::c13::c14::c15::c16::c17::c18::c19::c20::c21::c22::c23::c24::c25::c26::c27::c28::c29::c30::c31::c32::c33::c34 :: []=>Option.bind (c0.as (.int .i64)) fun x0=>Option.bind (c1.as (.int .i64)) fun x1=>Option.bind (c2.as (.int .i64)) fun x2=>Option.bind (c3.as (.int .i64)) fun x3=>Option.bind (c4.as (.str)) fun x4=>Option.bind (c5.as (.int .i64)) fun x5=>Option.bind (c6.as (.int .i64)) fun x6=>Option.bind (c7.as (.int .i64)) fun x7=>Option.bind (c8.as (.int .i64)) fun x8=>Option.bind (c9.as (.int .i64)) fun x9=>Option.bind (c10.as (.int .i64)) fun x10=>Option.bind (c11.as (.int .i64)) fun x11=>Option.bind (c12.as (.bool)) fun x12=>Option.bind (c13.as (.int .i64)) fun x13=>Option.bind (c14.as (.int .i64)) fun x14=>Option.bind (c15.as (.str)) fun x15=>Option.bind (c16.as (.int .i64)) fun x16=>Option.bind (c17.as (.int .i64)) fun x17=>Option.bind (c18.as (.int .i64)) fun x18=>Option.bind (c19.as (.int .i64)) fun x19=>Option.bind (c20.as (.sl (.st 1))) fun x20=>Option.bind (c21.as (.int .i64)) fun x21=>Option.bind (c22.as (.int .i64)) fun x22=>Option.bind (c23.as (.sl (.int .i64))) fun x23=>Option.bind (c24.as (.sl (.int .i64))) fun x24=>Option.bind (c25.as (.sl (.int .i64))) fun x25=>Option.bind (c26.as (.sl (.int .i64))) fun x26=>Option.bind (c27.as (.sl (.st 1))) fun x27=>Option.bind (c28.as (.sl (.int .i64))) fun x28=>Option.bind (c29.as (.int .i64)) fun x29=>Option.bind (c30.as (.int .i64)) fun x30=>Option.bind (c31.as (.int .i64)) fun x31=>Option.bind (c32.as (.int .i64)) fun x32=>Option.bind (c33.as (.int .i64)) fun x33=>Option.bind (c34.as (.int .i64)) fun x34=>some (⟨x0,x1,x2,x3,x4,⟨x5,x6,x7,⟨x8,x9⟩,x10,x11,x12⟩,⟨x13,x14,x15,x16,x17,⟨x18,x19⟩,x20,x21,x22,x23,x24,x25,x26⟩,x27,x28,⟨x29,x30,x31,x32,⟨x33,x34⟩⟩⟩ : cu)
 | _=>none
def bI.k:List SD→Option bI
 | c0::c1::c2::c3::c4 :: []=>Option.bind (c0.as (.int .i64)) fun x0=>Option.bind (c1.as (.sl (.st 6))) fun x1=>Option.bind (c2.as (.sl (.int .i64))) fun x2=>Option.bind (c3.as (.sl (.int .i64))) fun x3=>Option.bind (c4.as (.int .i64)) fun x4=>some (⟨x0,x1,x2,x3,x4⟩ : bI)
 | _=>none
def dc.k:List SD→Option dc
 | c0::c1::c2 :: []=>Option.bind (c0.as (.int .i64)) fun x0=>Option.bind (c1.as (.int .i64)) fun x1=>Option.bind (c2.as (.int .i64)) fun x2=>some (⟨x0,x1,x2⟩ : dc)
 | _=>none
def al.k:List SD→Option al
 | c0::c1::c2::c3::c4::c5::c6::c7::c8::c9 :: []=>Option.bind (c0.as (.sl (.str))) fun x0=>Option.bind (c1.as (.sl (.st 4))) fun x1=>Option.bind (c2.as (.sl (.st 7))) fun x2=>Option.bind (c3.as (.sl (.st 2))) fun x3=>Option.bind (c4.as (.sl (.st 6))) fun x4=>Option.bind (c5.as (.sl (.st 11))) fun x5=>Option.bind (c6.as (.sl (.st 8))) fun x6=>Option.bind (c7.as (.int .i64)) fun x7=>Option.bind (c8.as (.int .i64)) fun x8=>Option.bind (c9.as (.int .i64)) fun x9=>some (⟨⟨x0,x1⟩,x2,x3,x4,x5,x6,x7,x8,x9⟩ : al)
 | _=>none
def aK.k:List SD→Option aK
 | c0::c1::c2::c3::c4 :: []=>Option.bind (c0.as (.int .i64)) fun x0=>Option.bind (c1.as (.int .i64)) fun x1=>Option.bind (c2.as (.int .i64)) fun x2=>Option.bind (c3.as (.int .i64)) fun x3=>Option.bind (c4.as (.int .i64)) fun x4=>some (⟨x0,x1,x2,x3,x4⟩ : aK)
 | _=>none
def az.k:List SD→Option az
 | c0::c1::c2 :: []=>Option.bind (c0.as (.int .i64)) fun x0=>Option.bind (c1.as (.sl (.int .i64))) fun x1=>Option.bind (c2.as (.sl (.st 15))) fun x2=>some (⟨x0,x1,x2⟩ : az)
 | _=>none
def aH.k:List SD→Option aH
 | c0::c1 :: []=>Option.bind (c0.as (.int .i64)) fun x0=>Option.bind (c1.as (.int .i64)) fun x1=>some (⟨x0,x1⟩ : aH)
 | _=>none
def ay.k:List SD→Option ay
 | c0::c1 :: []=>Option.bind (c0.as (.str)) fun x0=>Option.bind (c1.as (.int .i64)) fun x1=>some (⟨x0,x1⟩ : ay)
 | _=>none
def stK:(i:Nat)→List SD→Option (ST i)
 | 0,cs=>aF.k cs
 | 1,cs=>eO.k cs
 | 2,cs=>cR.k cs
 | 3,cs=>fg.k cs
 | 4,cs=>aU.k cs
 | 5,cs=>bH.k cs
 | 6,cs=>cG.k cs
 | 7,cs=>cQ.k cs
 | 8,cs=>ac.k cs
 | 9,cs=>cu.k cs
 | 10,cs=>bI.k cs
 | 11,cs=>dc.k cs
 | 12,cs=>al.k cs
 | 15,cs=>aK.k cs
 | 16,cs=>az.k cs
 | 17,cs=>aH.k cs
 | 18,cs=>ay.k cs
 | 13,_=>none
 | 14,_=>none
 | _ + 19,_=>none
theorem SD.as_ok {t:Ty} {c:SD} {x:t.den} (h:c.as t=some x) : aA t x = [c.toD]:=by
 unfold SD.as at h
 split at h
 ·split at h
  ·rename_i hk
   subst hk
   injection h with h
   subst h
   rfl
  ·cases h
 ·injection h with h
  subst h
  rfl
 ·injection h with h
  subst h
  rfl
 ·split at h
  ·rename_i hk _
   subst hk
   injection h with h
   subst h
   rfl
  ·cases h
 ·injection h with h
  subst h
  rfl
 ·cases h
theorem jY:∀ (i:Nat) (x:ST i),(stC i x).map SD.toD=stD i x
 | 0,(x:aF)=>rfl
 | 1,(x:eO)=>rfl
 | 2,(x:cR)=>rfl
 | 3,(x:fg)=>rfl
 | 4,(x:aU)=>rfl
 | 5,(x:bH)=>rfl
 | 6,(x:cG)=>rfl
 | 7,(x:cQ)=>rfl
 | 8,(x:ac)=>rfl
 | 9,(x:cu)=>rfl
 | 10,(x:bI)=>rfl
 | 11,(x:dc)=>rfl
 | 12,(x:al)=>rfl
 | 15,(x:aK)=>rfl
 | 16,(x:az)=>rfl
 | 17,(x:aH)=>rfl
 | 18,(x:ay)=>rfl
 | 13,_=>rfl
 | 14,_=>rfl
 | _ + 19,_=>rfl
theorem lI:∀ (i:Nat) (x:ST i) (c:SD),c∈stC i x→c≠.nl
 | 0,(x:aF),c,h=>by
  simp only [stC,List.mem_cons,List.not_mem_nil,or_false] at h
  rcases h with rfl | rfl <;> (intro e; cases e)
 | 1,(x:eO),c,h=>by
  simp only [stC,List.mem_cons,List.not_mem_nil,or_false] at h
  rcases h with rfl | rfl | rfl | rfl | rfl | rfl | rfl | rfl <;> (intro e; cases e)
 | 2,(x:cR),c,h=>by
  simp only [stC,List.mem_cons,List.not_mem_nil,or_false] at h
  rcases h with rfl | rfl | rfl | rfl | rfl | rfl | rfl | rfl | rfl | rfl | rfl | rfl | rfl | rfl <;> (intro e; cases e)
 | 3,(x:fg),c,h=>by
  simp only [stC,List.mem_cons,List.not_mem_nil,or_false] at h
  rcases h with rfl | rfl <;> (intro e; cases e)
 | 4,(x:aU),c,h=>by
  simp only [stC,List.mem_cons,List.not_mem_nil,or_false] at h
  rcases h with rfl | rfl | rfl <;> (intro e; cases e)
 | 5,(x:bH),c,h=>by
  simp only [stC,List.mem_cons,List.not_mem_nil,or_false] at h
  rcases h with rfl | rfl <;> (intro e; cases e)
 | 6,(x:cG),c,h=>by
  simp only [stC,List.mem_cons,List.not_mem_nil,or_false] at h
  rcases h with rfl | rfl | rfl | rfl | rfl | rfl | rfl | rfl | rfl <;> (intro e; cases e)
 | 7,(x:cQ),c,h=>by
  simp only [stC,List.mem_cons,List.not_mem_nil,or_false] at h
  rcases h with rfl | rfl | rfl | rfl | rfl | rfl | rfl | rfl <;> (intro e; cases e)
 | 8,(x:ac),c,h=>by
  simp only [stC,List.mem_cons,List.not_mem_nil,or_false] at h
  rcases h with rfl | rfl | rfl | rfl | rfl | rfl <;> (intro e; cases e)
 | 9,(x:cu),c,h=>by
  simp only [stC,List.mem_cons,List.not_mem_nil,or_false] at h
  rcases h with rfl | rfl | rfl | rfl | rfl | rfl | rfl | rfl | rfl | rfl | rfl | rfl | rfl | rfl | rfl | rfl | rfl | rfl | rfl | rfl | rfl | rfl | rfl | rfl | rfl | rfl | rfl | rfl | rfl | rfl | rfl | rfl | rfl | rfl | rfl <;> (intro e; cases e)
 | 10,(x:bI),c,h=>by
  simp only [stC,List.mem_cons,List.not_mem_nil,or_false] at h
  rcases h with rfl | rfl | rfl | rfl | rfl <;> (intro e; cases e)
 | 11,(x:dc),c,h=>by
  simp only [stC,List.mem_cons,List.not_mem_nil,or_false] at h
  rcases h with rfl | rfl | rfl <;> (intro e; cases e)
 | 12,(x:al),c,h=>by
  simp only [stC,List.mem_cons,List.not_mem_nil,or_false] at h
  rcases h with rfl | rfl | rfl | rfl | rfl | rfl | rfl | rfl | rfl | rfl <;> (intro e; cases e)
 | 15,(x:aK),c,h=>by
  simp only [stC,List.mem_cons,List.not_mem_nil,or_false] at h
  rcases h with rfl | rfl | rfl | rfl | rfl <;> (intro e; cases e)
 | 16,(x:az),c,h=>by
  simp only [stC,List.mem_cons,List.not_mem_nil,or_false] at h
  rcases h with rfl | rfl | rfl <;> (intro e; cases e)
 | 17,(x:aH),c,h=>by
  simp only [stC,List.mem_cons,List.not_mem_nil,or_false] at h
  rcases h with rfl | rfl <;> (intro e; cases e)
 | 18,(x:ay),c,h=>by
  simp only [stC,List.mem_cons,List.not_mem_nil,or_false] at h
  rcases h with rfl | rfl <;> (intro e; cases e)
 | 13,_,c,h=>by cases h
 | 14,_,c,h=>by cases h
 | _ + 19,_,c,h=>by cases h
theorem CQ:∀ (i:Nat) (x:ST i),(stD i x).length=stN i
 | 0,(x:aF)=>rfl
 | 1,(x:eO)=>rfl
 | 2,(x:cR)=>rfl
 | 3,(x:fg)=>rfl
 | 4,(x:aU)=>rfl
 | 5,(x:bH)=>rfl
 | 6,(x:cG)=>rfl
 | 7,(x:cQ)=>rfl
 | 8,(x:ac)=>rfl
 | 9,(x:cu)=>rfl
 | 10,(x:bI)=>rfl
 | 11,(x:dc)=>rfl
 | 12,(x:al)=>rfl
 | 15,(x:aK)=>rfl
 | 16,(x:az)=>rfl
 | 17,(x:aH)=>rfl
 | 18,(x:ay)=>rfl
 | 13,_=>rfl
 | 14,_=>rfl
 | _ + 19,_=>rfl
theorem D2:∀ (i:Nat) (x:ST i),stF i=true→∀ d∈stD i x,∃ y,d = .v y
 | 0,(x:aF),_,d,h=>by
  simp only [stD,aF.d,List.mem_cons,List.not_mem_nil,or_false] at h
  rcases h with rfl | rfl <;> exact ⟨_,rfl⟩
 | 1,(x:eO),_,d,h=>by
  simp only [stD,eO.d,List.mem_cons,List.not_mem_nil,or_false] at h
  rcases h with rfl | rfl | rfl | rfl | rfl | rfl | rfl | rfl <;> exact ⟨_,rfl⟩
 | 2,(x:cR),h,_,_=>by cases h
 | 3,(x:fg),_,d,h=>by
  simp only [stD,fg.d,List.mem_cons,List.not_mem_nil,or_false] at h
  rcases h with rfl | rfl <;> exact ⟨_,rfl⟩
 | 4,(x:aU),h,_,_=>by cases h
 | 5,(x:bH),h,_,_=>by cases h
 | 6,(x:cG),_,d,h=>by
  simp only [stD,cG.d,List.mem_cons,List.not_mem_nil,or_false] at h
  rcases h with rfl | rfl | rfl | rfl | rfl | rfl | rfl | rfl | rfl <;> exact ⟨_,rfl⟩
 | 7,(x:cQ),_,d,h=>by
  simp only [stD,cQ.d,List.mem_cons,List.not_mem_nil,or_false] at h
  rcases h with rfl | rfl | rfl | rfl | rfl | rfl | rfl | rfl <;> exact ⟨_,rfl⟩
 | 8,(x:ac),_,d,h=>by
  simp only [stD,ac.d,List.mem_cons,List.not_mem_nil,or_false] at h
  rcases h with rfl | rfl | rfl | rfl | rfl | rfl <;> exact ⟨_,rfl⟩
 | 9,(x:cu),h,_,_=>by cases h
 | 10,(x:bI),h,_,_=>by cases h
 | 11,(x:dc),_,d,h=>by
  simp only [stD,dc.d,List.mem_cons,List.not_mem_nil,or_false] at h
  rcases h with rfl | rfl | rfl <;> exact ⟨_,rfl⟩
 | 12,(x:al),h,_,_=>by cases h
 | 15,(x:aK),_,d,h=>by
  simp only [stD,aK.d,List.mem_cons,List.not_mem_nil,or_false] at h
  rcases h with rfl | rfl | rfl | rfl | rfl <;> exact ⟨_,rfl⟩
 | 16,(x:az),h,_,_=>by cases h
 | 17,(x:aH),_,d,h=>by
  simp only [stD,aH.d,List.mem_cons,List.not_mem_nil,or_false] at h
  rcases h with rfl | rfl <;> exact ⟨_,rfl⟩
 | 18,(x:ay),_,d,h=>by
  simp only [stD,ay.d,List.mem_cons,List.not_mem_nil,or_false] at h
  rcases h with rfl | rfl <;> exact ⟨_,rfl⟩
 | 13,_,_,_,h=>by cases h
 | 14,_,_,_,h=>by cases h
 | _ + 19,_,_,_,h=>by cases h
theorem a8 {α β : Type} {o:Option α} {k : α→Option β} {r : β} (h:o.bind k=some r) : ∃ x,o=some x∧k x=some r:=by
 cases o with
 | none=>cases h
 | some x=>exact ⟨x,rfl,h⟩
theorem ai {t:Ty} {c:SD} {β : Type} {k:t.den→Option β} {r : β} (h:(c.as t).bind k=some r) : ∃ x,aA t x = [c.toD]∧k x=some r:=by
 obtain ⟨x,h1,h2⟩:=a8 h
 exact ⟨x,SD.as_ok h1,h2⟩
theorem aF.k_ok {cs:List SD} {x:aF} (h:aF.k cs=some x) : cs.map SD.toD=aF.d x:=by
 unfold aF.k at h
 split at h
 ·rename_i c0 c1
  obtain ⟨x0,q0,h⟩:=ai h
  obtain ⟨x1,q1,h⟩:=ai h
  injection h with h
  subst h
  simp only [aA,List.cons.injEq,and_true] at q0 q1
  simp only [List.map_cons,List.map_nil,aF.d,← q0,← q1]
  try rfl
 ·cases h
theorem eO.k_ok {cs:List SD} {x:eO} (h:eO.k cs=some x) : cs.map SD.toD=eO.d x:=by
 unfold eO.k at h
 split at h
 ·rename_i c0 c1 c2 c3 c4 c5 c6 c7
  obtain ⟨x0,q0,h⟩:=ai h
  obtain ⟨x1,q1,h⟩:=ai h
  obtain ⟨x2,q2,h⟩:=ai h
  obtain ⟨x3,q3,h⟩:=ai h
  obtain ⟨x4,q4,h⟩:=ai h
  obtain ⟨x5,q5,h⟩:=ai h
  obtain ⟨x6,q6,h⟩:=ai h
  obtain ⟨x7,q7,h⟩:=ai h
  injection h with h
  subst h
  simp only [aA,List.cons.injEq,and_true] at q0 q1 q2 q3 q4 q5 q6 q7
  simp only [List.map_cons,List.map_nil,eO.d,← q0,← q1,← q2,← q3,← q4,← q5,← q6,← q7]
  try rfl
 ·cases h
theorem cR.k_ok {cs:List SD} {x:cR} (h:cR.k cs=some x) : cs.map SD.toD=cR.d x:=by
 unfold cR.k at h
 split at h
 ·rename_i c0 c1 c2 c3 c4 c5 c6 c7 c8 c9 c10 c11 c12 c13
  obtain ⟨x0,q0,h⟩:=ai h
  obtain ⟨x1,q1,h⟩:=ai h
  obtain ⟨x2,q2,h⟩:=ai h
  obtain ⟨x3,q3,h⟩:=ai h
  obtain ⟨x4,q4,h⟩:=ai h
  obtain ⟨x5,q5,h⟩:=ai h
  obtain ⟨x6,q6,h⟩:=ai h
  obtain ⟨x7,q7,h⟩:=ai h
  obtain ⟨x8,q8,h⟩:=ai h
  obtain ⟨x9,q9,h⟩:=ai h
  obtain ⟨x10,q10,h⟩:=ai h
  obtain ⟨x11,q11,h⟩:=ai h
  obtain ⟨x12,q12,h⟩:=ai h
  obtain ⟨x13,q13,h⟩:=ai h
  injection h with h
  subst h
  simp only [aA,List.cons.injEq,and_true] at q0 q1 q2 q3 q4 q5 q6 q7 q8 q9 q10 q11 q12 q13
  simp only [List.map_cons,List.map_nil,cR.d,← q0,← q1,← q2,← q3,← q4,← q5,← q6,← q7,← q8,← q9,← q10,← q11,← q12,← q13]
  try rfl
 ·cases h
theorem fg.k_ok {cs:List SD} {x:fg} (h:fg.k cs=some x) : cs.map SD.toD=fg.d x:=by
 unfold fg.k at h
 split at h
 ·rename_i c0 c1
  obtain ⟨x0,q0,h⟩:=ai h
  obtain ⟨x1,q1,h⟩:=ai h
  injection h with h
  subst h
  simp only [aA,List.cons.injEq,and_true] at q0 q1
  simp only [List.map_cons,List.map_nil,fg.d,← q0,← q1]
  try rfl
 ·cases h
theorem aU.k_ok {cs:List SD} {x:aU} (h:aU.k cs=some x) : cs.map SD.toD=aU.d x:=by
 unfold aU.k at h
 split at h
 ·rename_i c0 c1 c2
  obtain ⟨x0,q0,h⟩:=ai h
  obtain ⟨x1,q1,h⟩:=ai h
  obtain ⟨x2,q2,h⟩:=ai h
  injection h with h
  subst h
  simp only [aA,List.cons.injEq,and_true] at q0 q1 q2
  simp only [List.map_cons,List.map_nil,aU.d,← q0,← q1,← q2]
  try rfl
 ·cases h
theorem bH.k_ok {cs:List SD} {x:bH} (h:bH.k cs=some x) : cs.map SD.toD=bH.d x:=by
 unfold bH.k at h
 split at h
 ·rename_i c0 c1
  obtain ⟨x0,q0,h⟩:=ai h
  obtain ⟨x1,q1,h⟩:=ai h
  injection h with h
  subst h
  simp only [aA,List.cons.injEq,and_true] at q0 q1
  simp only [List.map_cons,List.map_nil,bH.d,← q0,← q1]
  try rfl
 ·cases h
theorem cG.k_ok {cs:List SD} {x:cG} (h:cG.k cs=some x) : cs.map SD.toD=cG.d x:=by
 unfold cG.k at h
 split at h
 ·rename_i c0 c1 c2 c3 c4 c5 c6 c7 c8
  obtain ⟨x0,q0,h⟩:=ai h
  obtain ⟨x1,q1,h⟩:=ai h
  obtain ⟨x2,q2,h⟩:=ai h
  obtain ⟨x3,q3,h⟩:=ai h
  obtain ⟨x4,q4,h⟩:=ai h
  obtain ⟨x5,q5,h⟩:=ai h
  obtain ⟨x6,q6,h⟩:=ai h
  obtain ⟨x7,q7,h⟩:=ai h
  obtain ⟨x8,q8,h⟩:=ai h
  injection h with h
  subst h
  simp only [aA,List.cons.injEq,and_true] at q0 q1 q2 q3 q4 q5 q6 q7 q8
  simp only [List.map_cons,List.map_nil,cG.d,← q0,← q1,← q2,← q3,← q4,← q5,← q6,← q7,← q8]
  try rfl
 ·cases h
theorem cQ.k_ok {cs:List SD} {x:cQ} (h:cQ.k cs=some x) : cs.map SD.toD=cQ.d x:=by
 unfold cQ.k at h
 split at h
 ·rename_i c0 c1 c2 c3 c4 c5 c6 c7
  obtain ⟨x0,q0,h⟩:=ai h
  obtain ⟨x1,q1,h⟩:=ai h
  obtain ⟨x2,q2,h⟩:=ai h
  obtain ⟨x3,q3,h⟩:=ai h
  obtain ⟨x4,q4,h⟩:=ai h
  obtain ⟨x5,q5,h⟩:=ai h
  obtain ⟨x6,q6,h⟩:=ai h
  obtain ⟨x7,q7,h⟩:=ai h
  injection h with h
  subst h
  simp only [aA,List.cons.injEq,and_true] at q0 q1 q2 q3 q4 q5 q6 q7
  simp only [List.map_cons,List.map_nil,cQ.d,← q0,← q1,← q2,← q3,← q4,← q5,← q6,← q7]
  try rfl
 ·cases h
theorem ac.k_ok {cs:List SD} {x:ac} (h:ac.k cs=some x) : cs.map SD.toD=ac.d x:=by
 unfold ac.k at h
 split at h
 ·rename_i c0 c1 c2 c3 c4 c5
  obtain ⟨x0,q0,h⟩:=ai h
  obtain ⟨x1,q1,h⟩:=ai h
  obtain ⟨x2,q2,h⟩:=ai h
  obtain ⟨x3,q3,h⟩:=ai h
  obtain ⟨x4,q4,h⟩:=ai h
  obtain ⟨x5,q5,h⟩:=ai h
  injection h with h
  subst h
  simp only [aA,List.cons.injEq,and_true] at q0 q1 q2 q3 q4 q5
  simp only [List.map_cons,List.map_nil,ac.d,← q0,← q1,← q2,← q3,← q4,← q5]
  try rfl
 ·cases h
theorem cu.k_ok {cs:List SD} {x:cu} (h:cu.k cs=some x) : cs.map SD.toD=cu.d x:=by
 unfold cu.k at h
 split at h
 ·rename_i c0 c1 c2 c3 c4 c5 c6 c7 c8 c9 c10 c11 c12 c13 c14 c15 c16 c17 c18 c19 c20 c21 c22 c23 c24 c25 c26 c27 c28 c29 c30 c31 c32 c33 c34
  obtain ⟨x0,q0,h⟩:=ai h
  obtain ⟨x1,q1,h⟩:=ai h
  obtain ⟨x2,q2,h⟩:=ai h
  obtain ⟨x3,q3,h⟩:=ai h
  obtain ⟨x4,q4,h⟩:=ai h
  obtain ⟨x5,q5,h⟩:=ai h
  obtain ⟨x6,q6,h⟩:=ai h
  obtain ⟨x7,q7,h⟩:=ai h
  obtain ⟨x8,q8,h⟩:=ai h
  obtain ⟨x9,q9,h⟩:=ai h
  obtain ⟨x10,q10,h⟩:=ai h
  obtain ⟨x11,q11,h⟩:=ai h
  obtain ⟨x12,q12,h⟩:=ai h
  obtain ⟨x13,q13,h⟩:=ai h
  obtain ⟨x14,q14,h⟩:=ai h
  obtain ⟨x15,q15,h⟩:=ai h
  obtain ⟨x16,q16,h⟩:=ai h
  obtain ⟨x17,q17,h⟩:=ai h
  obtain ⟨x18,q18,h⟩:=ai h
  obtain ⟨x19,q19,h⟩:=ai h
  obtain ⟨x20,q20,h⟩:=ai h
  obtain ⟨x21,q21,h⟩:=ai h
  obtain ⟨x22,q22,h⟩:=ai h
  obtain ⟨x23,q23,h⟩:=ai h
  obtain ⟨x24,q24,h⟩:=ai h
  obtain ⟨x25,q25,h⟩:=ai h
  obtain ⟨x26,q26,h⟩:=ai h
  obtain ⟨x27,q27,h⟩:=ai h
  obtain ⟨x28,q28,h⟩:=ai h
  obtain ⟨x29,q29,h⟩:=ai h
  obtain ⟨x30,q30,h⟩:=ai h
  obtain ⟨x31,q31,h⟩:=ai h
  obtain ⟨x32,q32,h⟩:=ai h
  obtain ⟨x33,q33,h⟩:=ai h
  obtain ⟨x34,q34,h⟩:=ai h
  injection h with h
  subst h
  simp only [aA,List.cons.injEq,and_true] at q0 q1 q2 q3 q4 q5 q6 q7 q8 q9 q10 q11 q12 q13 q14 q15 q16 q17 q18 q19 q20 q21 q22 q23 q24 q25 q26 q27 q28 q29 q30 q31 q32 q33 q34
  simp only [List.map_cons,List.map_nil,cu.d,← q0,← q1,← q2,← q3,← q4,← q5,← q6,← q7,← q8,← q9,← q10,← q11,← q12,← q13,← q14,← q15,← q16,← q17,← q18,← q19,← q20,← q21,← q22,← q23,← q24,← q25,← q26,← q27,← q28,← q29,← q30,← q31,← q32,← q33,← q34]
  try rfl
 ·cases h
theorem bI.k_ok {cs:List SD} {x:bI} (h:bI.k cs=some x) : cs.map SD.toD=bI.d x:=by
 unfold bI.k at h
 split at h
 ·rename_i c0 c1 c2 c3 c4
  obtain ⟨x0,q0,h⟩:=ai h
  obtain ⟨x1,q1,h⟩:=ai h
  obtain ⟨x2,q2,h⟩:=ai h
  obtain ⟨x3,q3,h⟩:=ai h
  obtain ⟨x4,q4,h⟩:=ai h
  injection h with h
  subst h
  simp only [aA,List.cons.injEq,and_true] at q0 q1 q2 q3 q4
  simp only [List.map_cons,List.map_nil,bI.d,← q0,← q1,← q2,← q3,← q4]
  try rfl
 ·cases h
theorem dc.k_ok {cs:List SD} {x:dc} (h:dc.k cs=some x) : cs.map SD.toD=dc.d x:=by
 unfold dc.k at h
 split at h
 ·rename_i c0 c1 c2
  obtain ⟨x0,q0,h⟩:=ai h
  obtain ⟨x1,q1,h⟩:=ai h
  obtain ⟨x2,q2,h⟩:=ai h
  injection h with h
  subst h
  simp only [aA,List.cons.injEq,and_true] at q0 q1 q2
  simp only [List.map_cons,List.map_nil,dc.d,← q0,← q1,← q2]
  try rfl
 ·cases h
theorem al.k_ok {cs:List SD} {x:al} (h:al.k cs=some x) : cs.map SD.toD=al.d x:=by
 unfold al.k at h
 split at h
 ·rename_i c0 c1 c2 c3 c4 c5 c6 c7 c8 c9
  obtain ⟨x0,q0,h⟩:=ai h
  obtain ⟨x1,q1,h⟩:=ai h
  obtain ⟨x2,q2,h⟩:=ai h
  obtain ⟨x3,q3,h⟩:=ai h
  obtain ⟨x4,q4,h⟩:=ai h
  obtain ⟨x5,q5,h⟩:=ai h
  obtain ⟨x6,q6,h⟩:=ai h
  obtain ⟨x7,q7,h⟩:=ai h
  obtain ⟨x8,q8,h⟩:=ai h
  obtain ⟨x9,q9,h⟩:=ai h
  injection h with h
  subst h
  simp only [aA,List.cons.injEq,and_true] at q0 q1 q2 q3 q4 q5 q6 q7 q8 q9
  simp only [List.map_cons,List.map_nil,al.d,← q0,← q1,← q2,← q3,← q4,← q5,← q6,← q7,← q8,← q9]
  try rfl
 ·cases h
theorem aK.k_ok {cs:List SD} {x:aK} (h:aK.k cs=some x) : cs.map SD.toD=aK.d x:=by
 unfold aK.k at h
 split at h
 ·rename_i c0 c1 c2 c3 c4
  obtain ⟨x0,q0,h⟩:=ai h
  obtain ⟨x1,q1,h⟩:=ai h
  obtain ⟨x2,q2,h⟩:=ai h
  obtain ⟨x3,q3,h⟩:=ai h
  obtain ⟨x4,q4,h⟩:=ai h
  injection h with h
  subst h
  simp only [aA,List.cons.injEq,and_true] at q0 q1 q2 q3 q4
  simp only [List.map_cons,List.map_nil,aK.d,← q0,← q1,← q2,← q3,← q4]
  try rfl
 ·cases h
theorem az.k_ok {cs:List SD} {x:az} (h:az.k cs=some x) : cs.map SD.toD=az.d x:=by
 unfold az.k at h
 split at h
 ·rename_i c0 c1 c2
  obtain ⟨x0,q0,h⟩:=ai h
  obtain ⟨x1,q1,h⟩:=ai h
  obtain ⟨x2,q2,h⟩:=ai h
  injection h with h
  subst h
  simp only [aA,List.cons.injEq,and_true] at q0 q1 q2
  simp only [List.map_cons,List.map_nil,az.d,← q0,← q1,← q2]
  try rfl
 ·cases h
theorem aH.k_ok {cs:List SD} {x:aH} (h:aH.k cs=some x) : cs.map SD.toD=aH.d x:=by
 unfold aH.k at h
 split at h
 ·rename_i c0 c1
  obtain ⟨x0,q0,h⟩:=ai h
  obtain ⟨x1,q1,h⟩:=ai h
  injection h with h
  subst h
  simp only [aA,List.cons.injEq,and_true] at q0 q1
  simp only [List.map_cons,List.map_nil,aH.d,← q0,← q1]
  try rfl
 ·cases h
theorem ay.k_ok {cs:List SD} {x:ay} (h:ay.k cs=some x) : cs.map SD.toD=ay.d x:=by
 unfold ay.k at h
 split at h
 ·rename_i c0 c1
  obtain ⟨x0,q0,h⟩:=ai h
  obtain ⟨x1,q1,h⟩:=ai h
  injection h with h
  subst h
  simp only [aA,List.cons.injEq,and_true] at q0 q1
  simp only [List.map_cons,List.map_nil,ay.d,← q0,← q1]
  try rfl
 ·cases h
theorem nh:∀ {i:Nat} {cs:List SD} {x:ST i},stK i cs=some x→cs.map SD.toD=stD i x
 | 0,_,(_:aF),h=>aF.k_ok h
 | 1,_,(_:eO),h=>eO.k_ok h
 | 2,_,(_:cR),h=>cR.k_ok h
 | 3,_,(_:fg),h=>fg.k_ok h
 | 4,_,(_:aU),h=>aU.k_ok h
 | 5,_,(_:bH),h=>bH.k_ok h
 | 6,_,(_:cG),h=>cG.k_ok h
 | 7,_,(_:cQ),h=>cQ.k_ok h
 | 8,_,(_:ac),h=>ac.k_ok h
 | 9,_,(_:cu),h=>cu.k_ok h
 | 10,_,(_:bI),h=>bI.k_ok h
 | 11,_,(_:dc),h=>dc.k_ok h
 | 12,_,(_:al),h=>al.k_ok h
 | 15,_,(_:aK),h=>aK.k_ok h
 | 16,_,(_:az),h=>az.k_ok h
 | 17,_,(_:aH),h=>aH.k_ok h
 | 18,_,(_:ay),h=>ay.k_ok h
 | 13,_,x,h=>by
  have h2:none=some x:=h
  cases h2
 | 14,_,x,h=>by
  have h2:none=some x:=h
  cases h2
 | _ + 19,_,x,h=>by
  have h2:none=some x:=h
  cases h2
section
inductive SV where
 | junk
 | d (x:SD)
 | ag (cs:List SV)
 | tup (cs:List SV)
 | ptr (t off:Nat)
 | row (t:Nat)
 | re (t p off:Nat)
 | vw (t lo hi:Nat)
 | fe (cs:List SD)
 | fn (f:FuncId) (ps qs:List SV)
structure Pin where
 i:Int
 cs:Option (List SD)
inductive aj where
 | st (ty:TypeId) (cs:List SV)
 | rw (e k:Nat) (t:Ty) (xs:List t.den) (pins:List (Nat×Pin))
def lkV:List (Nat×SV)→Nat→SV
 | [],_=>.junk
 | (j,v)::l,i=>match Nat.beq i j with | true=>v | false=>lkV l i
def lkB:List (Nat×Option aj)→Nat→Option aj
 | [],_=>none
 | (j,v)::l,i=>match Nat.beq i j with | true=>v | false=>lkB l i
def lkP:List (Nat×Pin)→Nat→Option Pin
 | [],_=>none
 | (j,v)::l,i=>match Nat.beq i j with | true=>some v | false=>lkP l i
def ae:List Nat→Nat→Bool
 | [],_=>false
 | j::l,i=>match Nat.beq i j with | true=>true | false=>ae l i
structure SS where
 sl:List (Nat×SV)
 bx:List (Nat×Option aj)
 pr:List Nat
 ro:Bool
 oc:List Nat
def wrB (s:SS) (t:Nat) : Bool:=match s.ro with | true=>false | false=>!(ae s.pr t)
def tR (s:SS) (t:Nat) : Bool:=match ae s.oc t with | true=>false | false=>!(ae s.pr t)
def nQ:(t:Ty)→t.den→List SD
 | .int k,x=>[.int k x]
 | .bool,x=>[.bool x]
 | .str,x=>[.str x]
 | .sl t,xs=>[.sl t xs]
 | .st i,x=>stC i x
def Du:(t:Ty)→List SD→Option t.den
 | .st i,cs=>stK i cs
 | .int k,[c]=>c.as (.int k)
 | .bool,[c]=>c.as .bool
 | .str,[c]=>c.as .str
 | .sl t,[c]=>c.as (.sl t)
 | _,_=>none
def tyN:Ty→Nat
 | .st i=>stN i
 | _=>1
def tj:Value→Option SD
 | .int k n=>some (.int k n)
 | .bool t=>some (.bool t)
 | .string s=>some (.str s)
 | .slice none 0 0=>some .nl
 | _=>none
def rC:List Value→Option (List SV)
 | []=>some []
 | v::l=>match tj v,rC l with | some c,some cs=>some (.d c::cs) | _,_=>none
def ur:Value→SV
 | .agg xs=>match rC xs.toList with | some cs=>.ag cs | none=>.junk
 | v=>match tj v with | some c=>.d c | none=>.junk
def evX (s:SS) : Operand→SV
 | .tmp i=>lkV s.sl i
 | .const v=>ur v
 | .func f=>.fn f [] []
 | _=>.junk
def CU (s:SS) (t:Nat) : Option SD:=match lkB s.bx t with
 | some (.rw _ _ ty xs _)=>some (.sl ty xs)
 | _=>none
def i1 (s:SS) : SV→Option SD
 | .d x=>some x
 | .row t=>CU s t
 | _=>none
def uo (s:SS) : List SV→Option (List SD)
 | []=>some []
 | v::l=>match i1 s v,uo s l with | some c,some cs=>some (c::cs) | _,_=>none
def uC:SV→Option (List SV)
 | .ag cs=>some cs
 | .junk=>none
 | .tup _=>none
 | v=>some [v]
mutual
def stale (t:Nat) : SV→SV
 | .row t'=>match Nat.beq t' t with | true=>.junk | false=>.row t'
 | .re t' p o=>match Nat.beq t' t with | true=>.junk | false=>.re t' p o
 | .vw t' p o=>match Nat.beq t' t with | true=>.junk | false=>.vw t' p o
 | .ag cs=>.ag (cX t cs)
 | .tup cs=>.tup (cX t cs)
 | .fn f ps qs=>.fn f (cX t ps) (cX t qs)
 | v=>v
def cX (t:Nat) : List SV→List SV
 | []=>[]
 | c::cs=>stale t c::cX t cs
end
def pQ (t:Nat) : List (Nat×SV)→List (Nat×SV)
 | []=>[]
 | (i,v)::l=>(i,stale t v)::pQ t l
def fj (t:Nat) : List (Nat×Option aj)→List (Nat×Option aj)
 | []=>[]
 | (i,some (.st ty cs))::l=>(i,some (.st ty (cX t cs)))::fj t l
 | (i,b)::l=>(i,b)::fj t l
inductive Upd where
 | no
 | new (t:Nat) (b:aj)
 | set (t:Nat) (b:aj)
 | pin (t:Nat) (b:aj)
 | grow (t:Nat) (b:aj)
def AL:Upd→List Nat
 | .no=>[]
 | .new t _=>[t]
 | .set t _=>[t]
 | .pin _ _=>[]
 | .grow t _=>[t]
def jc (sl:List (Nat×SV)) (dst:Option Nat) (v:SV) : List (Nat×SV):=match dst with | some d=>(d,v)::sl | none=>sl
def SS.upd (s:SS) (dst:Option Nat) (v:SV) : Upd→SS
 | .no=>⟨jc s.sl dst v,s.bx,s.pr,s.ro,s.oc⟩
 | .new t b=>⟨jc s.sl dst v,(t,some b)::s.bx,s.pr,s.ro,s.oc⟩
 | .set t b=>⟨jc s.sl dst v,(t,some b)::s.bx,s.pr,s.ro,s.oc⟩
 | .pin t b=>⟨jc s.sl dst v,(t,some b)::s.bx,s.pr,s.ro,s.oc⟩
 | .grow t b=>⟨jc (pQ t s.sl) dst v,(t,some b)::fj t s.bx,s.pr,s.ro,s.oc⟩
def eP {α : Type} : List α→Nat→List α→List α
 | cs,0,[]=>cs
 | _ :: cs,0,n::ns=>n::eP cs 0 ns
 | [],_,_=>[]
 | c::cs,o + 1,ns=>c::eP cs o ns
def yg (size:Nat) (agg:Bool) (cl:List SV) : Option SV :=
 if agg then (if size≤cl.length then some (.ag (cl.take size)) else none) else cl.head?
def nA:List SD→List SV
 | []=>[]
 | c::cs=>.d c::nA cs
variable {ρ : Type}
def chk (b:Bool) (k:Option ρ) : Option ρ:=match b with | true=>k | false=>none
def BP:Operand→Option Int
 | .const (.int _ n)=>some n
 | _=>none
def xF (op:BinOp) (kd:IntKind) (lit:Option Int) (x y:Int) (k:SV→Option ρ) : Option ρ :=
 match op with
 | .add=>k (.d (.int kd (kd.wrap (x + y))))
 | .sub=>k (.d (.int kd (kd.wrap (x - y))))
 | .mul=>k (.d (.int kd (kd.wrap (x * y))))
 | .quo=>match lit with
  | some n=>chk (!(n==0)) (k (.d (.int kd (kd.wrap (x.tdiv y)))))
  | none=>Option.bind (if y=0 then none else some (kd.wrap (x.tdiv y))) fun q=>k (.d (.int kd q))
 | .rem=>match lit with
  | some n=>chk (!(n==0)) (k (.d (.int kd (x.tmod y))))
  | none=>Option.bind (CW x y) fun q=>k (.d (.int kd q))
 | .eql=>k (.d (.bool (x==y)))
 | .neq=>k (.d (.bool (x != y)))
 | .lss=>k (.d (.bool (decide (x < y))))
 | .leq=>k (.d (.bool (decide (x≤y))))
 | .gtr=>k (.d (.bool (decide (x > y))))
 | .geq=>k (.d (.bool (decide (x≥y))))
 | .and=>k (.d (.int kd (bits .and kd x y)))
 | .or=>k (.d (.int kd (bits .or kd x y)))
 | .xor=>k (.d (.int kd (bits .xor kd x y)))
 | _=>none
def wN (op:BinOp) (kd:IntKind) (lit:Option Int) (x y:Int) (k:SV→Option ρ) : Option ρ :=
 match lit with
 | some n=>chk (decide (0≤n)) (match op with
  | .shl=>k (.d (.int kd (kd.wrap (x * 2 ^ (min y.toNat kd.bits)))))
  | .shr=>k (.d (.int kd (x.fdiv (2 ^ (min y.toNat kd.bits)))))
  | _=>none)
 | none=>Option.bind (if y < 0 then none else some ()) fun _=>(match op with
  | .shl=>k (.d (.int kd (kd.wrap (x * 2 ^ (min y.toNat kd.bits)))))
  | .shr=>k (.d (.int kd (x.fdiv (2 ^ (min y.toNat kd.bits)))))
  | _=>none)
def wG (op:BinOp) (x y:ByteArray) (k:SV→Option ρ) : Option ρ :=
 match op with
 | .add=>Option.bind (DK x y) fun z=>k (.d (.str z))
 | .eql=>k (.d (.bool (x.toList==y.toList)))
 | .neq=>k (.d (.bool (!(x.toList==y.toList))))
 | .lss=>k (.d (.bool (Op.bytesLess x.toList y.toList)))
 | .leq=>k (.d (.bool (Op.bytesLess x.toList y.toList||(x.toList==y.toList))))
 | .gtr=>k (.d (.bool (!(Op.bytesLess x.toList y.toList||(x.toList==y.toList)))))
 | .geq=>k (.d (.bool (!(Op.bytesLess x.toList y.toList))))
 | _=>none
def tw (op:BinOp) (x y:Bool) (k:SV→Option ρ) : Option ρ :=
 match op with
 | .eql=>k (.d (.bool (x==y)))
 | .neq=>k (.d (.bool (!(x==y))))
 | _=>none
def jq:SD→SD→Option Bool
 | .int k a,.int k' b=>if k=k' then some (a==b) else none
 | .bool a,.bool b=>some (a==b)
 | .str a,.str b=>some (a.toList==b.toList)
 | _,_=>none
def oI:List SV→List SV→Option Bool
 | [.d x],[.d y]=>jq x y
 | .d x::xs,.d y::ys=>match jq x y,oI xs ys with
  | some a,some r=>some (a&&r)
  | _,_=>none
 | _,_=>none
def xg:SV→Option Nat
 | .d (.int _ _)=>some 0
 | .d (.bool _)=>some 1
 | .d (.str _)=>some 2
 | _=>none
def pn:List SV→Option (List Nat)
 | []=>some []
 | v::l=>match xg v,pn l with | some a,some r=>some (a::r) | _,_=>none
def ub:List Nat→List Nat→Bool
 | [],[]=>true
 | a::l,b::m=>match Nat.beq a b with | true=>ub l m | false=>false
 | _,_=>false
def Eu (P:Program) (op:BinOp) (t:TypeId) (lit:Option Int) (p q:SV) (k:SV→Option ρ) : Option ρ :=
 match p,q with
 | .d (.int kd x),.d (.int kd' y)=>match tX op with
  | true=>wN op kd lit x y k
  | false=>if kd=kd' then xF op kd lit x y k else none
 | .d (.str x),.d (.str y)=>wG op x y k
 | .d (.bool x),.d (.bool y)=>match P.underlying t with
  | some .bool=>tw op x y k
  | _=>none
 | .ag xs,.ag ys=>match Eo P t,pn xs,oI xs ys with
  | some l,some l',some r=>chk (ub l l') (match op with
   | .eql=>k (.d (.bool r))
   | .neq=>k (.d (.bool (!r)))
   | _=>none)
  | _,_,_=>none
 | _,_=>none
def unX (op:UnOp) (p:SV) (k:SV→Option ρ) : Option ρ :=
 match op,p with
 | .not,.d (.bool x)=>k (.d (.bool (!x)))
 | .neg,.d (.int kd x)=>k (.d (.int kd (kd.wrap (0 - x))))
 | _,_=>none
def Cs (P:Program) (s:SS) (src dst:TypeId) (p:SV) (k:SV→Option ρ) : Option ρ :=
 match P.underlying src with
 | none=>none
 | some (.slice e)=>(match P.underlying dst with
  | some .string=>(match P.underlying e,i1 s p with
   | some (.int .u8),some (.sl (.int .u8) xs)=>Option.bind (ED (xs:List Int)) fun z=>k (.d (.str z))
   | _,_=>none)
  | _=>none)
 | some _=>match P.underlying dst,p with
  | some (.int kd),.d (.int _ x)=>k (.d (.int kd (kd.wrap x)))
  | some .string,.d (.str x)=>k (.d (.str x))
  | _,_=>none
def l5 (P:Program) (t:TypeId) (p:SV) (f:Nat) (k:SV→Option ρ) : Option ρ :=
 match (nM P t)[f]? with
 | some (off,size,_)=>chk (!(size==0)) (match p with
  | .ptr t o=>k (.ptr t (o + off))
  | .fe cs=>k (.fe (cs.drop off))
  | .re t p o=>k (.re t p (o + off))
  | _=>none)
 | none=>none
def xo (P:Program) (t:TypeId) (p:SV) (f:Nat) (k:SV→Option ρ) : Option ρ :=
 match (nM P t)[f]?,p with
 | some (off,size,agg),.ag cs=>match yg size agg (cs.drop off) with | some v=>k v | none=>none
 | _,_=>none
def CF (s:SS) : SV→Option (List SV)
 | .ptr t off=>match lkB s.bx t with | some (.st _ cs)=>some (cs.drop off) | _=>none
 | .fe cs=>some (nA cs)
 | .re t p off=>match lkB s.bx t with
  | some (.rw _ _ _ _ pins)=>match lkP pins p with
   | some ⟨_,some cs⟩=>some (nA (cs.drop off))
   | _=>none
  | _=>none
 | _=>none
def yp (P:Program) (s:SS) (t:TypeId) (p:SV) : Option SV :=
 match ei P t,CF s p with
 | some i,some cl=>yg i.size i.agg cl
 | _,_=>none
def lY (P:Program) (s:SS) (dst:Option Nat) (t:TypeId) (p q:SV) (k:SV→Upd→Option ρ) : Option ρ :=
 match P.underlying t,q,dst with
 | some (.slice e),.d (.int _ i),some d=>match ei P e with
  | some ie=>match p with
   | .d (.sl ty xs)=>chk (tyN ty==ie.size) (Option.bind (bw xs i) fun x=>k (.fe (nQ ty x)) .no)
   | .row t'=>match lkB s.bx t' with
    | some (.rw e' kk ty xs pins)=>chk (kk==ie.size) (chk (lkP pins d).isNone (Option.bind (bw xs i) fun x=>k (.re t' d 0) (.pin t' (.rw e' kk ty xs ((d,⟨i,some (nQ ty x)⟩)::pins)))))
    | _=>none
   | _=>none
  | none=>none
 | _,_,_=>none
def D7:SV→Option SD
 | .d x=>some x
 | _=>none
def jH:List SV→Option (List SD)
 | []=>some []
 | v::l=>match D7 v,jH l with | some c,some cs=>some (c::cs) | _,_=>none
def lh:List (Nat×Pin)→List (Nat×Pin)
 | []=>[]
 | (i,⟨j,_⟩)::l=>(i,⟨j,none⟩)::lh l
def wJ (P:Program) (s:SS) (t:TypeId) (p q:SV) (k:SV→Upd→Option ρ) : Option ρ :=
 match ei P t,uC q with
 | some i,some ns=>match p with
  | .ptr x off=>match lkB s.bx x with
   | some (.st ty cs)=>chk (ns.length==i.size) (chk (decide (off + ns.length≤cs.length)) (chk (wrB s x) (k .junk (.set x (.st ty (eP cs off ns))))))
   | _=>none
  | .re x pi off=>match lkB s.bx x,jH ns with
   | some (.rw e kk ty xs pins),some ds=>match lkP pins pi with
    | some ⟨j,cs⟩=>chk (ns.length==i.size) (chk (decide (off + ds.length≤tyN ty)) (chk (wrB s x) (match (if ds.length=tyN ty then some ds else cs.map fun cs=>eP cs off ds) with
     | some cs'=>match Du ty cs' with
      | some y=>k .junk (.set x (.rw e kk ty (xs.set j.toNat y) ((pi,⟨j,some (nQ ty y)⟩)::lh pins)))
      | none=>none
     | none=>none)))
    | none=>none
   | _,_=>none
  | _=>none
 | _,_=>none
def vJ (place:Nat→Option (Nat×Nat)) : List SV→List (Nat×SV)→Option (List SV)
 | cs,[]=>some cs
 | cs,(i,p)::rest=>match place i,uC p with
  | some (off,size),some ns=>chk (ns.length==size) (chk (decide (off + ns.length≤cs.length)) (vJ place (eP cs off ns) rest))
  | _,_=>none
def pD (i:TI) : Option (List SV):=rC i.zero
def uA:Nat→Nat→List SD→List (List SD)
 | _,0,_=>[]
 | k,n + 1,l=>l.take k::uA k n (l.drop k)
def un (t:Ty) : List (List SD)→Option (List t.den)
 | []=>some []
 | c::l=>match Du t c,un t l with | some x,some xs=>some (x::xs) | _,_=>none
def D1 (P:Program) : Nat→TypeId→Option Ty
 | 0,_=>none
 | d + 1,t=>match Fg t with
  | some i=>some (.st i)
  | none=>match P.underlying t with
   | some (.int k)=>some (.int k)
   | some .bool=>some .bool
   | some .string=>some .str
   | some (.slice e)=>(D1 P d e).map .sl
   | _=>none
def A7 {α : Type} : Nat→List α→List α
 | 0,_=>[]
 | n + 1,l=>l++A7 n l
def kA (P:Program) (s:SS) (dst:Option Nat) (t:TypeId) (len:Nat) (parts:List (Nat×SV)) (k:SV→Upd→Option ρ) : Option ρ :=
 match dst,P.underlying t with
 | some d,some (.slice e)=>match ei P e,lkB s.bx d,D1 P 4 e with
  | some i,none,some ty=>match pD i with
   | some z=>chk (decide (0 < i.size)) (chk (decide (len≤1000)) (chk (decide (len * i.size≤16777216)) (chk (tR s d) (match vJ (fun j=>some (j * i.size,i.size)) (A7 len z) parts with
    | some cs=>match jH cs with
     | some ds=>match un ty (uA i.size len ds) with
      | some xs=>chk (tyN ty==i.size) (k (.row d) (.new d (.rw e i.size ty xs [])))
      | none=>none
     | none=>none
    | none=>none))))
   | none=>none
  | _,_,_=>none
 | _,_=>none
def uH (P:Program) (s:SS) (dst:Option Nat) (t:TypeId) (p q:SV) (k:SV→Upd→Option ρ) : Option ρ :=
 match P.underlying t,i1 s q with
 | some (.slice e),some (.sl ty ys)=>match ei P e with
  | some i=>chk (decide (0 < i.size)) (chk (decide (0 < i.bytes)) (chk (decide (i.bytes≤1000000)) (chk (tyN ty==i.size) (match p with
   | .row x=>match lkB s.bx x with
    | some (.rw e' kk ty' xs _)=>match Ty.same ty ty' with
     | some ⟨h⟩=>chk (e' == e) (chk (kk==i.size) (chk (wrB s x) (Option.bind (m8 xs (mX h ys)) fun zs=>k (.row x) (.grow x (.rw e' kk ty' zs [])))))
     | none=>none
    | _=>none
   | .d .nl=>match dst with
    | some d=>match lkB s.bx d with
     | none=>chk (tR s d) (Option.bind (m8 ([] : List ty.den) ys) fun zs=>k (.row d) (.new d (.rw e i.size ty zs [])))
     | some _=>none
    | none=>none
   | _=>none))))
  | none=>none
 | _,_=>none
def nF:SV→Option Int
 | .d (.int _ i)=>some i
 | _=>none
def vwO (n:Nat) (l h:Int) : Option Unit:=if 0≤l∧0≤h∧l.toNat≤h.toNat∧h.toNat≤n then some () else none
def Ec (lo:Option SV) (n:Int) : Option Int:=match lo with
 | none=>some n
 | some v=>nF v
def fI {α : Type} (xs:List α) (lo hi:Nat) (ys:List α) : Option (List α):=if lo≤hi∧hi≤xs.length then some (dx xs lo (ys.take (hi - lo))) else none
def mkO {α : Type} (z : α) (n:Int) : Option (List α):=if 0≤n∧n≤1000000 then some (List.replicate n.toNat z) else none
def D3 (s:SS) : SV→Option SD
 | .vw t lo hi=>match lkB s.bx t with
  | some (.rw _ _ ty xs _)=>some (.sl ty ((xs.drop lo).take (hi - lo)))
  | _=>none
 | v=>i1 s v
def Bn (s:SS) : SV→Option (Nat×Nat×Nat)
 | .row t=>match lkB s.bx t with
  | some (.rw _ _ _ xs _)=>some (t,0,xs.length)
  | _=>none
 | .vw t lo hi=>some (t,lo,hi)
 | _=>none
def Cq (P:Program) (s:SS) (t:TypeId) (p q:SV) (k:SV→Upd→Option ρ) : Option ρ :=
 match P.underlying t,D3 s q,Bn s p with
 | some (.slice e),some (.sl ty ys),some (x,lo,hi)=>match ei P e,lkB s.bx x with
  | some i,some (.rw e' kk ty' xs pins)=>match Ty.same ty ty' with
   | some ⟨h⟩=>chk (kk==i.size) (chk (tyN ty==i.size) (chk (wrB s x) (Option.bind (fI xs lo hi (mX h ys)) fun zs=>k (.d (.int .i64 (min ys.length (hi - lo) : Nat))) (.set x (.rw e' kk ty' zs (lh pins))))))
   | none=>none
  | _,_=>none
 | _,_,_=>none
def wO:Operand→Operand→Bool
 | .tmp i,.tmp j=>Nat.beq i j
 | .const (.int _ n),.const (.int _ m)=>n==m
 | _,_=>false
def BJ (P:Program) (s:SS) (dst:Option Nat) (t:TypeId) (same:Bool) (p:SV) (k:SV→Upd→Option ρ) : Option ρ :=
 match dst,P.underlying t,p,same with
 | some d,some (.slice e),.d (.int _ n),true=>match ei P e,lkB s.bx d,D1 P 4 e with
  | some i,none,some ty=>match pD i with
   | some z=>(match jH z with
    | some ds=>(match Du ty ds with
     | some z0=>chk (decide (0 < i.size)) (chk (decide (i.bytes≤1000000)) (chk (tyN ty==i.size) (chk (tR s d) (Option.bind (mkO z0 n) fun xs=>k (.row d) (.new d (.rw e i.size ty xs []))))))
     | none=>none)
    | none=>none)
   | none=>none
  | _,_,_=>none
 | _,_,_,_=>none
def wM (P:Program) (s:SS) (t:TypeId) (p:SV) (lo hi:Option SV) (k:SV→Option ρ) : Option ρ :=
 match P.underlying t,p with
 | some (.slice e),.d (.sl ty xs)=>match ei P e with
  | some i=>chk (tyN ty==i.size) (match lo,hi with
   | none,none=>k (.d (.sl ty xs))
   | some l,none=>match nF l with | some l=>Option.bind (loO xs l) fun z=>k (.d (.sl ty z)) | none=>none
   | none,some h=>match nF h with | some h=>Option.bind (hiO xs h) fun z=>k (.d (.sl ty z)) | none=>none
   | some l,some h=>match nF l,nF h with | some l,some h=>Option.bind (lhO xs l h) fun z=>k (.d (.sl ty z)) | _,_=>none)
  | none=>none
 | some (.slice e),.row x=>match ei P e,lkB s.bx x with
  | some i,some (.rw _ kk ty xs _)=>chk (kk==i.size) (match Ec lo 0,Ec hi xs.length with
   | some l,some h=>Option.bind (vwO xs.length l h) fun _=>k (.vw x l.toNat h.toNat)
   | _,_=>none)
  | _,_=>none
 | some .string,.d (.str x)=>match lo,hi with
   | some l,none=>match nF l with | some l=>Option.bind (EE x l) fun z=>k (.d (.str z)) | none=>none
   | none,some h=>match nF h with | some h=>Option.bind (EG x h) fun z=>k (.d (.str z)) | none=>none
   | some l,some h=>match nF l,nF h with | some l,some h=>Option.bind (EF x l h) fun z=>k (.d (.str z)) | _,_=>none
   | none,none=>none
 | _,_=>none
def mI (mx:Bool) : SV→List SV→Option SV
 | p,[]=>some p
 | .d (.int k x),.d (.int _ y)::l=>mI mx (.d (.int k (match mx with | true=>if y > x then y else x | false=>if y < x then y else x))) l
 | _,_=>none
def Ej (P:Program) (s:SS) (t:TypeId) (v:SV) (k:SV→Option ρ) : Option ρ :=
 match P.underlying t with
 | some (.slice _)=>match i1 s v with
  | some (.sl _ xs)=>k (.d (.int .i64 (xs.length:Int)))
  | some .nl=>k (.d (.int .i64 0))
  | _=>match v with
   | .vw _ lo hi=>k (.d (.int .i64 ((hi - lo:Nat) : Int)))
   | _=>none
 | some .string=>match v with
  | .d (.str x)=>k (.d (.int .i64 (x.size:Int)))
  | _=>none
 | _=>none
def wj (P:Program) (s:SS) (dst:Option Nat) (f:Builtin) (args:List SV) (ts:List TypeId) (k:SV→Upd→Option ρ) : Option ρ :=
 match f with
 | .len=>(match args,ts with | [x],[t]=>Ej P s t x fun v=>k v .no | _,_=>none)
 | .append=>(match args,ts with | [x,y],[t,t']=>(match Nat.beq t' t with | true=>uH P s dst t x y k | false=>none) | _,_=>none)
 | .min=>(match args with | x::xs=>(match mI false x xs with | some v=>k v .no | none=>none) | _=>none)
 | .max=>(match args with | x::xs=>(match mI true x xs with | some v=>k v .no | none=>none) | _=>none)
 | .copy=>(match args,ts with | [x,y],[t,_]=>Cq P s t x y k | _,_=>none)
 | _=>none
def lQ (s:SS) : List (Nat×Operand)→List (Nat×SV)
 | []=>[]
 | (i,x)::l=>(i,evX s x)::lQ s l
def lb (s:SS) : List Operand→List SV
 | []=>[]
 | x::l=>evX s x::lb s l
def Bj (c:Bool) (v w:SV) : Option SV :=
 match v,w with
 | .d (.int k x),.d (.int k' y)=>if k=k' then some (.d (.int k (if c=true then x else y))) else none
 | .d (.bool x),.d (.bool y)=>some (.d (.bool (if c=true then x else y)))
 | .d (.str x),.d (.str y)=>some (.d (.str (if c=true then x else y)))
 | v,w=>match c with | true=>some v | false=>some w
def Eh (p:SV) (k:SV→Option ρ) : Option ρ:=match p with
 | .ptr t o=>k (.ptr t o)
 | .re t q o=>k (.re t q o)
 | .fe cs=>k (.fe cs)
 | _=>none
def yr (kd:IntKind) : List SV→Option (List Int)
 | []=>some []
 | .d (.int kd' x)::l=>if kd' = kd then (match yr kd l with | some r=>some (x::r) | none=>none) else none
 | _=>none
def Dp (P:Program) (o:Oper) (s:SS) (k:SV→Upd→Option ρ) : Option ρ :=
 match o.op with
 | .move x=>k (evX s x) .no
 | .assign x=>k (evX s x) .no
 | .pick c x y=>match evX s c with
  | .d (.bool t)=>match Bj t (evX s x) (evX s y) with | some v=>k v .no | none=>none
  | _=>none
 | .alloc e=>match o.dst,ei P e with
  | some t,some i=>match lkB s.bx t,pD i with
   | none,some z=>chk (tR s t) (k (.ptr t 0) (.new t (.st e z)))
   | _,_=>none
  | _,_=>none
 | .box e x=>match o.dst,uC (evX s x) with
  | some t,some cs=>match lkB s.bx t with
   | none=>chk (tR s t) (k (.ptr t 0) (.new t (.st e cs)))
   | some _=>none
  | _,_=>none
 | .build t ps=>match ei P t,D9 P t with
  | some i,some pl=>match pD i with
   | some z=>(match vJ pl z (lQ s ps.toList) with | some cs=>k (.ag cs) .no | none=>none)
   | none=>none
  | _,_=>none
 | .buildSlice t n ps=>kA P s o.dst t n (lQ s ps.toList) k
 | .load t x=>match yp P s t (evX s x) with | some v=>k v .no | none=>none
 | .store t x y=>wJ P s t (evX s x) (evX s y) k
 | .binOp op t x y _=>Eu P op t (BP y) (evX s x) (evX s y) fun v=>k v .no
 | .unOp op _ x=>unX op (evX s x) fun v=>k v .no
 | .convert src dst x=>Cs P s src dst (evX s x) fun v=>k v .no
 | .slice t x lo hi none=>wM P s t (evX s x) (lo.map (evX s)) (hi.map (evX s)) fun v=>k v .no
 | .fieldAddr t x f=>l5 P t (evX s x) f fun v=>k v .no
 | .field t x f=>xo P t (evX s x) f fun v=>k v .no
 | .indexAddr t x i=>lY P s o.dst t (evX s x) (evX s i) k
 | .extract x i=>match evX s x with
  | .tup vs=>match vs[i]? with | some v=>k v .no | none=>none
  | _=>none
 | .index t x i=>match P.underlying t,evX s x,evX s i with
  | some .string,.d (.str x),.d (.int _ i)=>Option.bind (AZ x i) fun z=>k (.d (.int .u8 z)) .no
  | some (.array n e),.ag cs,.d (.int _ i)=>match ei P e,P.underlying e with
   | some ie,some (.int kd)=>match yr kd cs with
    | some xs=>chk (Nat.beq ie.size 1) (chk (Nat.beq xs.length n) (Option.bind (bw xs i) fun z=>k (.d (.int kd z)) .no))
    | none=>none
   | _,_=>none
  | _,_,_=>none
 | .call c=>match c.callee with
  | .builtin f=>wj P s o.dst f (lb s c.args.toList) c.argTypes.toList k
  | _=>none
 | .makeFunc (.func f) ps qs=>k (.fn f (lb s ps.toList) (lb s qs.toList)) .no
 | .makeSlice t x y=>BJ P s o.dst t (wO x y) (evX s x) k
 | .nilCheck x=>Eh (evX s x) fun v=>k v .no
 | _=>none
end
section
inductive CT where
 | v (t:Ty)
 | a (i:Nat)
 | pl (t:Ty)
 | ps (i:Nat)
def CT.den:CT→Type
 | .v t=>t.den
 | .a i=>ST i
 | .pl t=>t.den
 | .ps i=>ST i
def ky:List CT→Type
 | []=>Unit
 | c::cs=>c.den×ky cs
inductive IB where
 | no
 | own (e k:Nat) (t:Ty)
 | bx (ty n:Nat) (rows:List (Nat×Nat×Nat×Ty))
def IB.den:IB→Type
 | .no=>Unit
 | .own _ _ t=>List t.den
 | .bx _ n _=>ST n
def IB.nJ:IB→Nat
 | .bx _ _ rows=>rows.length
 | _=>0
def ka:Nat→List IB→List (List Nat)
 | _,[]=>[]
 | base,b::l=>List.range' base b.nJ::ka (base + b.nJ) l
def pO:List IB→Nat
 | []=>0
 | b::l=>b.nJ + pO l
def mD:List IB→Type
 | []=>Unit
 | b::l=>b.den×mD l
inductive PT where
 | lf (t:Ty)
 | ag (i:Nat)
 | pl (t:Ty)
 | ps (i:Nat)
 | fn (f:FuncId) (a b:List CT)
 | own (e k:Nat) (t:Ty)
 | mv (e k:Nat) (t:Ty)
 | bx (ty n:Nat) (rows:List (Nat×Nat×Nat×Ty))
 | agr (n:Nat) (rows:List (Nat×Nat×Nat×Ty))
 | io (l:List IB)
def PT.den:PT→Type
 | .lf t=>t.den
 | .ag i=>ST i
 | .pl t=>t.den
 | .ps i=>ST i
 | .fn _ a b=>ky a×ky b
 | .own _ _ t=>List t.den
 | .mv _ _ t=>List t.den
 | .bx _ n _=>ST n
 | .agr n _=>ST n
 | .io l=>mD l
def PT.isM:PT→Bool
 | .own ..=>true
 | .mv ..=>true
 | .bx ..=>true
 | .agr ..=>true
 | .io _=>true
 | _=>false
def fV:List PT→Bool
 | []=>false
 | p::l=>match p.isM with | true=>true | false=>fV l
def PT.flat:PT→Bool
 | .lf (.int _)=>true
 | .lf .bool=>true
 | .lf .str=>true
 | .lf _=>false
 | .ag i=>stF i
 | _=>false
def EX:(c:CT)→c.den→SV
 | .v t,x=>.d (gQ t x)
 | .a i,x=>.ag (nA (stC i x))
 | .pl t,x=>.fe [gQ t x]
 | .ps i,x=>.fe (stC i x)
def sZ:(cs:List CT)→ky cs→List SV
 | [],_=>[]
 | c::cs,x=>EX c x.1::sZ cs x.2
def zW:(p:PT)→p.den→SV
 | .lf t,x=>.d (gQ t x)
 | .ag i,x=>.ag (nA (stC i x))
 | .pl t,x=>.fe [gQ t x]
 | .ps i,x=>.fe (stC i x)
 | .fn f a b,x=>.fn f (sZ a x.1) (sZ b x.2)
 | .own ..,_=>.junk
 | .mv ..,_=>.junk
 | .bx ..,_=>.junk
 | .agr ..,_=>.junk
 | .io _,_=>.junk
def Ds (s:SS) (t:Ty) (v:SV) : Option t.den:=match i1 s v with | some c=>c.as t | none=>none
def Dw (s:SS) (i:Nat) : SV→Option (ST i)
 | .ag cs=>match uo s cs with | some cs=>stK i cs | none=>none
 | _=>none
def yQ (t:Ty) : SV→Option t.den
 | .fe [c]=>c.as t
 | _=>none
def yP (i:Nat) : SV→Option (ST i)
 | .fe cs=>stK i cs
 | _=>none
def EZ (s:SS) : (c:CT)→SV→Option c.den
 | .v t,v=>Ds s t v
 | .a i,v=>Dw s i v
 | .pl t,v=>yQ t v
 | .ps i,v=>yP i v
def wb (s:SS) : (cs:List CT)→List SV→Option (ky cs)
 | [],[]=>some ()
 | c::cs,v::vs=>Option.bind (EZ s c v) fun x=>Option.bind (wb s cs vs) fun xs=>some (x,xs)
 | _,_=>none
def Es (s:SS) (f:FuncId) (a b:List CT) : SV→Option (ky a×ky b)
 | .fn f' ps qs=>match Nat.beq f' f with
  | true=>Option.bind (wb s a ps) fun x=>Option.bind (wb s b qs) fun y=>some (x,y)
  | false=>none
 | _=>none
def we (s:SS) : (p:PT)→SV→Option p.den
 | .lf t,v=>Ds s t v
 | .ag i,v=>Dw s i v
 | .pl t,v=>yQ t v
 | .ps i,v=>yP i v
 | .fn f a b,v=>Es s f a b v
 | .own ..,_=>none
 | .mv ..,_=>none
 | .bx ..,_=>none
 | .agr ..,_=>none
 | .io _,_=>none
def bb:List PT→Type
 | []=>Unit
 | p::ps=>p.den×bb ps
def aq:List PT→Type
 | []=>Unit
 | [p]=>p.den
 | p::q::l=>p.den×aq (q::l)
def oJ:(ps:List PT)→bb ps→List SV
 | [],_=>[]
 | p::ps,x=>zW p x.1::oJ ps x.2
def yR (s:SS) : (ps:List PT)→List SV→Option (bb ps)
 | [],[]=>some ()
 | p::ps,v::vs=>Option.bind (we s p v) fun x=>Option.bind (yR s ps vs) fun xs=>some (x,xs)
 | _,_=>none
def yK:(rs:List PT)→aq rs→List SV
 | [],_=>[]
 | [p],x=>[zW p x]
 | p::q::l,x=>zW p x.1::yK (q::l) x.2
def EW (rs:List PT) (x:aq rs) : SV:=match rs,x with
 | [p],x=>zW p x
 | rs,x=>.tup (yK rs x)
def tb (s:SS) : (rs:List PT)→List SV→Option (aq rs)
 | [],[]=>some ()
 | [p],[v]=>we s p v
 | p::q::l,v::vs=>Option.bind (we s p v) fun x=>Option.bind (tb s (q::l) vs) fun xs=>some (x,xs)
 | _,_=>none
def gY:List PT→Bool
 | []=>true
 | p::l=>match p.flat with | true=>gY l | false=>false
def E0:CT→Bool
 | .v (.st _)=>false
 | .pl (.st _)=>false
 | _=>true
def rr:List CT→Bool
 | []=>true
 | c::l=>match E0 c with | true=>rr l | false=>false
def zu:PT→Bool
 | .lf (.st _)=>false
 | .pl (.st _)=>false
 | .fn _ a b=>match rr a with | true=>rr b | false=>false
 | .lf _=>true
 | .pl _=>true
 | .ag _=>true
 | .ps _=>true
 | _=>false
def j6:List PT→Bool
 | []=>true
 | p::l=>match zu p with | true=>j6 l | false=>false
def jk:List PT→Bool
 | []=>true
 | p::l=>match p.isM||zu p with | true=>jk l | false=>false
structure Ent where
 ps:List PT
 rs:List PT
 f:bb ps→Option (aq rs)
def Fj:PT→SV→Bool
 | .fn f _ _,.fn g _ _=>Nat.beq g f
 | .fn _ _ _,_=>false
 | _,_=>true
def DQ:List PT→List SV→Bool
 | [],_=>true
 | _ :: _,[]=>true
 | p::ps,v::vs=>match Fj p v with | true=>DQ ps vs | false=>false
def lkE:List (Nat×Ent)→Nat→List SV→Option Ent
 | [],_,_=>none
 | (j,v)::l,i,vs=>match Nat.beq i j with
  | true=>(match DQ v.ps vs with | true=>some v | false=>lkE l i vs)
  | false=>lkE l i vs
mutual
def gj:SV→Bool
 | .row _=>false
 | .ptr _ _=>false
 | .re _ _ _=>false
 | .vw _ _ _=>false
 | .ag cs=>aZ cs
 | .tup cs=>aZ cs
 | .fn _ ps qs=>match aZ ps with | true=>aZ qs | false=>false
 | _=>true
def aZ:List SV→Bool
 | []=>true
 | c::cs=>match gj c with | true=>aZ cs | false=>false
end
def gr:List (Nat×Nat×Nat×Nat×Ty)→Nat→Option (Nat×Nat×Nat×Ty)
 | [],_=>none
 | (j,R,e,k,t)::l,i=>match Nat.beq j i with | true=>some (R,e,k,t) | false=>gr l i
def cellsOf (s:SS) (rows:List (Nat×Nat×Nat×Nat×Ty)) : Nat→List SV→Option (List SD)
 | _,[]=>some []
 | j,c::cs=>match gr rows j with
  | some (R,e,k,t)=>(match c,lkB s.bx R with
   | .row R',some (.rw e' k' t' xs _)=>(match Ty.same t' t with
    | some ⟨h⟩=>chk (Nat.beq R' R) (chk (e' == e) (chk (k' == k) (match cellsOf s rows (j + 1) cs with | some r=>some (.sl t (mX h xs)::r) | none=>none)))
    | none=>none)
   | _,_=>none)
  | none=>(match c,cellsOf s rows (j + 1) cs with
   | .d x,some r=>some (x::r)
   | _,_=>none)
def cy (rows:List (Nat×Nat×Nat×Nat×Ty)) : Nat→List SD→List (Nat×Option aj)→Option (List SV×List (Nat×Option aj))
 | _,[],bx=>some ([],bx)
 | j,c::cs,bx=>match gr rows j with
  | some (R,e,k,t)=>(match c.as (.sl t),cy rows (j + 1) cs bx with
   | some xs,some (vs,bx)=>some (.row R::vs,(R,some (.rw e k t xs []))::bx)
   | _,_=>none)
  | none=>(match cy rows (j + 1) cs bx with
   | some (vs,bx)=>some (.d c::vs,bx)
   | none=>none)
def eh:List (Nat×Nat×Nat×Ty)→List Nat→List (Nat×Nat×Nat×Nat×Ty)
 | (j,e,k,t)::l,R::is=>(j,R,e,k,t)::eh l is
 | _,_=>[]
def PT.nI:PT→Nat
 | .own ..=>1
 | .mv ..=>1
 | .bx _ _ rows=>rows.length + 1
 | .agr _ rows=>rows.length
 | _=>0
def vN (rows:List (Nat×Nat×Nat×Ty)) (is:List Nat) (n:Nat) (x:ST n) : Option (List SV×List (Nat×Option aj)):=cy (eh rows is) 0 (stC n x) []
def vQ:(p:PT)→List Nat→p.den→Option (SV×List (Nat×Option aj))
 | .own e k t,is,xs=>(match is with | [i]=>some (.row i,[(i,some (.rw e k t xs []))]) | _=>none)
 | .mv e k t,is,xs=>(match is with | [i]=>some (.row i,[(i,some (.rw e k t xs []))]) | _=>none)
 | .bx ty n rows,is,x=>(match is with | i::is=>(match vN rows is n x with | some (vs,bx)=>some (.ptr i 0,(i,some (.st ty vs))::bx) | none=>none) | _=>none)
 | .agr n rows,is,x=>(match vN rows is n x with | some (vs,bx)=>some (.ag vs,bx) | none=>none)
 | .io _,_,_=>none
 | .lf t,_,x=>some (.d (gQ t x),[])
 | .ag i,_,x=>some (.ag (nA (stC i x)),[])
 | .pl t,_,x=>some (.fe [gQ t x],[])
 | .ps i,_,x=>some (.fe (stC i x),[])
 | .fn f a b,_,x=>some (.fn f (sZ a x.1) (sZ b x.2),[])
def vP:(ps:List PT)→List (List Nat)→bb ps→Option (List SV×List (Nat×Option aj))
 | [],[],_=>some ([],[])
 | p::ps,is::iss,x=>(match vQ p is x.1,vP ps iss x.2 with | some (v,b),some (vs,bs)=>some (v::vs,b++bs) | _,_=>none)
 | _,_,_=>none
def pg:List (Nat×Nat×Nat×Ty)→List SV→Option (List Nat)
 | [],_=>some []
 | (j,_)::l,cs=>(match cs[j]?,pg l cs with | some (.row R),some is=>some (R::is) | _,_=>none)
def vZ (s:SS) (rows:List (Nat×Nat×Nat×Ty)) (n:Nat) (cs:List SV) : Option (ST n×List Nat):=match pg rows cs with
 | some is=>(match cellsOf s (eh rows is) 0 cs with
  | some ds=>(match stK n ds with | some x=>some (x,is) | none=>none)
  | none=>none)
 | none=>none
def jA (s:SS) (e k:Nat) (t:Ty) : SV→Option (List t.den×List Nat)
 | .row i=>(match lkB s.bx i with
  | some (.rw e' k' t' xs _)=>(match Ty.same t' t with
   | some ⟨h⟩=>chk (e' == e) (chk (k' == k) (some (mX h xs,[i])))
   | none=>none)
  | _=>none)
 | _=>none
def wc (s:SS) (ty n:Nat) (rows:List (Nat×Nat×Nat×Ty)) : SV→Option (ST n×List Nat)
 | .ptr i 0=>(match lkB s.bx i with
  | some (.st ty' cs)=>chk (ty' == ty) (match vZ s rows n cs with | some (x,is)=>some (x,i::is) | none=>none)
  | _=>none)
 | _=>none
def xz (s:SS) (n:Nat) (rows:List (Nat×Nat×Nat×Ty)) : SV→Option (ST n×List Nat)
 | .ag cs=>vZ s rows n cs
 | _=>none
def v7 (s:SS) (p:PT) (v:SV) : Option (p.den×List Nat):=chk (gj v) (match we s p v with | some x=>some (x,[]) | none=>none)
def xy (s:SS) : (p:PT)→SV→Option (p.den×List Nat)
 | .own e k t,v=>jA s e k t v
 | .mv e k t,v=>jA s e k t v
 | .bx ty n rows,v=>wc s ty n rows v
 | .agr n rows,v=>xz s n rows v
 | .io _,_=>none
 | .lf t,v=>v7 s (.lf t) v
 | .ag i,v=>v7 s (.ag i) v
 | .pl t,v=>v7 s (.pl t) v
 | .ps i,v=>v7 s (.ps i) v
 | .fn f a b,v=>v7 s (.fn f a b) v
def td (s:SS) : (ps:List PT)→List SV→Option (bb ps×List (List Nat))
 | [],[]=>some ((),[])
 | p::ps,v::vs=>(match xy s p v,td s ps vs with | some (x,is),some (xs,iss)=>some ((x,xs),is::iss) | _,_=>none)
 | _,_=>none
structure MU where
 ks:List Nat
 us:List (Nat×Option aj)
 gs:List Nat
mutual
def stV (ks:List Nat) : SV→SV
 | .row t=>match ae ks t with | true=>.junk | false=>.row t
 | .re t p o=>match ae ks t with | true=>.junk | false=>.re t p o
 | .vw t p o=>match ae ks t with | true=>.junk | false=>.vw t p o
 | .ag cs=>.ag (jR ks cs)
 | .tup cs=>.tup (jR ks cs)
 | .fn f ps qs=>.fn f (jR ks ps) (jR ks qs)
 | v=>v
def jR (ks:List Nat) : List SV→List SV
 | []=>[]
 | c::cs=>stV ks c::jR ks cs
end
def y6 (ks:List Nat) : List (Nat×SV)→List (Nat×SV)
 | []=>[]
 | (i,v)::l=>(i,stV ks v)::y6 ks l
def lJ (ks:List Nat) : List (Nat×Option aj)→List (Nat×Option aj)
 | []=>[]
 | (i,some (.st ty cs))::l=>(i,some (.st ty (jR ks cs)))::lJ ks l
 | (i,b)::l=>(i,b)::lJ ks l
def SS.updM (s:SS) (dst:Option Nat) (v:SV) (m:MU) : SS:=⟨jc (y6 m.ks s.sl) dst v,m.us++lJ m.ks s.bx,s.pr,s.ro,m.gs++s.oc⟩
def aX:List PT→List IB
 | .io l :: _=>l
 | _=>[]
def ci:List PT→List PT
 | .io _ :: l=>l
 | l=>l
def dr:(rs:List PT)→aq rs→mD (aX rs)
 | [],_=>()
 | [.io _],r=>r
 | .io _ :: _ :: _,r=>r.1
 | .own .. :: _,_=>()
 | .mv .. :: _,_=>()
 | .bx .. :: _,_=>()
 | .agr .. :: _,_=>()
 | .lf _ :: _,_=>()
 | .ag _ :: _,_=>()
 | .pl _ :: _,_=>()
 | .ps _ :: _,_=>()
 | .fn .. :: _,_=>()
def cZ:(rs:List PT)→aq rs→aq (ci rs)
 | [],_=>()
 | [.io _],_=>()
 | .io _ :: _ :: _,r=>r.2
 | .own .. :: _,r=>r
 | .mv .. :: _,r=>r
 | .bx .. :: _,r=>r
 | .agr .. :: _,r=>r
 | .lf _ :: _,r=>r
 | .ag _ :: _,r=>r
 | .pl _ :: _,r=>r
 | .ps _ :: _,r=>r
 | .fn .. :: _,r=>r
def tP (s:SS) (i:Nat) : List (Nat×Pin):=match lkB s.bx i with | some (.rw _ _ _ _ pins)=>lh pins | _=>[]
def d7:List Nat→List (Nat×Option aj)
 | []=>[]
 | t::l=>(t,none)::d7 l
def Ep (s:SS) : (p:PT)→(b:IB)→List Nat→List Nat→b.den→Option MU
 | .own ..,.own e k t,is,_,xs=>(match is with | [i]=>some ⟨[],[(i,some (.rw e k t xs (tP s i)))],[]⟩ | _=>none)
 | .mv ..,.no,is,_,_=>(match is with | [i]=>some ⟨[i],[],[i]⟩ | _=>none)
 | .bx ..,.bx ty n rows,is,js,x=>(match is with | i::is=>(match vN rows js n x with | some (vs,bx)=>some ⟨is,(i,some (.st ty vs))::bx,is⟩ | none=>none) | _=>none)
 | .lf _,.no,_,_,_=>some ⟨[],[],[]⟩
 | .ag _,.no,_,_,_=>some ⟨[],[],[]⟩
 | .pl _,.no,_,_,_=>some ⟨[],[],[]⟩
 | .ps _,.no,_,_,_=>some ⟨[],[],[]⟩
 | .fn ..,.no,_,_,_=>some ⟨[],[],[]⟩
 | _,_,_,_,_=>none
def MU.app (a b:MU) : MU:=⟨a.ks++b.ks,a.us++b.us,a.gs++b.gs⟩
def yL (s:SS) : (ps:List PT)→(ls:List IB)→List (List Nat)→List (List Nat)→mD ls→Option MU
 | [],[],[],[],_=>some ⟨[],[],[]⟩
 | p::ps,b::ls,is::iss,js::kss,o=>(match Ep s p b is js o.1,yL s ps ls iss kss o.2 with | some m,some m'=>some (m.app m') | _,_=>none)
 | _,_,_,_,_=>none
def ud:(rs:List PT)→List (List Nat)→aq rs→Option (List SV×List (Nat×Option aj))
 | [],[],_=>some ([],[])
 | [p],[is],x=>(match vQ p is x with | some (v,b)=>some ([v],b) | none=>none)
 | p::q::l,is::iss,x=>(match vQ p is x.1,ud (q::l) iss x.2 with | some (v,b),some (vs,bs)=>some (v::vs,b++bs) | _,_=>none)
 | _,_,_=>none
def BA:List SV→SV
 | [v]=>v
 | vs=>.tup vs
def fm:Nat→List PT→List (List Nat)
 | _,[]=>[]
 | base,p::l=>List.range' base p.nI::fm (base + p.nI) l
def aw:List (List Nat)→List Nat
 | []=>[]
 | l::ls=>l++aw ls
def jm:List Nat→Bool
 | []=>true
 | a::l=>match ae l a with | true=>false | false=>jm l
def yk (s:SS) : List Nat→Bool
 | []=>true
 | j::l=>match tR s j,lkB s.bx j,Nat.blt j 1000000 with | true,none,true=>yk s l | _,_,_=>false
def yj (s:SS) : List Nat→Bool
 | []=>true
 | i::l=>match ae s.pr i with | true=>false | false=>yj s l
def idU:List (Nat×Option aj)→List Nat
 | []=>[]
 | (i,_)::l=>i::idU l
def wH:List Nat→List Nat→Bool
 | [],_=>true
 | a::l,m=>match ae m a with | true=>wH l m | false=>false
def DV (ps:List PT) (iss:List (List Nat)) (x:bb ps) : Bool:=match vP ps iss x with | some (_,bi)=>jm (idU bi)&&wH (aw iss) (idU bi) | none=>false
def yl (s:SS) : List (Nat×Option aj)→Bool
 | []=>true
 | (i,b)::l=>(match lkB s.bx i with
  | some (.st ty cs)=>(match b with | some (.st ty' cs')=>ty==ty' && Nat.beq cs.length cs'.length | _=>false)
  | _=>true)&&yl s l
section
variable {ρ : Type}
def zI (T:List (Nat×Ent)) (f:Nat) (args:List SV) : Bool:=match lkE T f args with | some en=>fV en.ps||fV en.rs | none=>false
def yU (T:List (Nat×Ent)) (f:Nat) (s:SS) (args:List SV) (k:SV→Option ρ) : Option ρ :=
 match lkE T f args with
 | none=>none
 | some en=>chk (j6 en.rs) (chk (aZ args||gY en.rs) (Option.bind (yR s en.ps args) fun x=>Option.bind (en.f x) fun r=>k (EW en.rs r)))
def yV (T:List (Nat×Ent)) (f:Nat) (s:SS) (dst:Option Nat) (args:List SV) (k:SV→MU→Option ρ) : Option ρ :=
 match s.ro with
 | true=>none
 | false=>match lkE T f args,dst with
  | some en,some d=>(match td s en.ps args with
   | some (x,iss)=>Option.bind (en.f x) fun r =>
    let kss:=ka (500000 + 64 * d) (aX en.rs)
    let jss:=fm (500000 + 64 * d + pO (aX en.rs)) (ci en.rs)
    match yL s en.ps (aX en.rs) iss kss (dr en.rs r),ud (ci en.rs) jss (cZ en.rs r) with
    | some m,some (vs,bs)=>chk (yj s (idU m.us++(m.ks++m.gs))&&(yk s (idU bs++(aw kss++aw jss))&&(jm (aw iss++(aw kss++aw jss))&&(jm (idU (m.us++(bs++d7 m.gs)))&&(yl s (m.us++d7 m.gs)&&(wH (aw iss) (idU m.us++m.gs)&&(wH (idU m.us++m.gs) (aw iss++aw kss)&&(DV en.ps iss x&&(wH (aw kss++aw jss) (idU m.us++idU bs)&&(jk (ci en.rs)&&jk en.ps)))))))))) (k (BA vs) ⟨m.ks,m.us++(bs++d7 m.gs),m.gs⟩)
    | _,_=>none
   | none=>none)
  | _,_=>none
def lu (s:SS) (x:Operand) (b:Bool) : SS:=match x with
 | .tmp i=>⟨(i,.d (.bool b))::s.sl,s.bx,s.pr,s.ro,s.oc⟩
 | _=>s
def xT (g:Nat) : List Oper→Option (List Oper×Nat×List Oper)
 | []=>none
 | o::l=>match (match o.op,o.dst with | .pick (.tmp g') _ _,some d=>(match Nat.beq g' g with | true=>some d | false=>none) | _,_=>none) with
  | some d=>some ([o],d,l)
  | none=>match xT g l with
   | some (a,d,b)=>some (o::a,d,b)
   | none=>none
def aR:List Oper→List Nat
 | []=>[]
 | o::l=>match o.dst with | some d=>d::aR l | none=>aR l
def fT:List Nat→List (Nat×SV)→List (Nat×SV)
 | [],l=>l
 | d::ds,l=>(d,.junk)::fT ds l
def pc (d:Nat) (s:SS) : Option Bool:=match lkV s.sl d with | .d (.bool b)=>some b | _=>none
mutual
def kj (t:Nat) (c:SD) : SV→SV
 | .row t'=>match Nat.beq t' t with | true=>.d c | false=>.row t'
 | .re t' p o=>match Nat.beq t' t with | true=>.junk | false=>.re t' p o
 | .vw t' p o=>match Nat.beq t' t with | true=>.junk | false=>.vw t' p o
 | .ag cs=>.ag (eX t c cs)
 | .tup cs=>.tup (eX t c cs)
 | .fn f ps qs=>.fn f (eX t c ps) (eX t c qs)
 | v=>v
def eX (t:Nat) (c:SD) : List SV→List SV
 | []=>[]
 | v::vs=>kj t c v::eX t c vs
end
def qJ (t:Nat) (c:SD) : List (Nat×SV)→List (Nat×SV)
 | []=>[]
 | (i,v)::l=>(i,kj t c v)::qJ t c l
def iT (t:Nat) (c:SD) : List (Nat×Option aj)→List (Nat×Option aj)
 | []=>[]
 | (i,some (.st ty cs))::l=>(i,some (.st ty (eX t c cs)))::iT t c l
 | (i,b)::l=>(i,b)::iT t c l
def xj (t:Nat) (s:SS) : Option SS:=match lkB s.bx t with
 | some (.rw _ _ ty xs _)=>match ae s.pr t with
  | false=>some ⟨qJ t (.sl ty xs) s.sl,(t,none)::iT t (.sl ty xs) s.bx,s.pr,s.ro,s.oc⟩
  | true=>some s
 | _=>some s
def d8:List Nat→SS→Option SS
 | [],s=>some s
 | t::l,s=>match xj t s with | some s=>d8 l s | none=>none
mutual
def l4 (t:Nat) (ds:List SD) : SV→SV
 | .ptr t' o=>match Nat.beq t' t with | true=>.fe (ds.drop o) | false=>.ptr t' o
 | .ag cs=>.ag (gp t ds cs)
 | .tup cs=>.tup (gp t ds cs)
 | .fn f ps qs=>.fn f (gp t ds ps) (gp t ds qs)
 | v=>v
def gp (t:Nat) (ds:List SD) : List SV→List SV
 | []=>[]
 | v::vs=>l4 t ds v::gp t ds vs
end
def qK (t:Nat) (ds:List SD) : List (Nat×SV)→List (Nat×SV)
 | []=>[]
 | (i,v)::l=>(i,l4 t ds v)::qK t ds l
def iV (t:Nat) (ds:List SD) : List (Nat×Option aj)→List (Nat×Option aj)
 | []=>[]
 | (i,some (.st ty cs))::l=>(i,some (.st ty (gp t ds cs)))::iV t ds l
 | (i,b)::l=>(i,b)::iV t ds l
def Eg:List SD→Bool
 | []=>true
 | .nl :: _=>false
 | _ :: l=>Eg l
def fbX (sc:List Nat) (t:Nat) (s:SS) : Option SS:=match lkB s.bx t with
 | some (.st _ cs)=>(match jH cs with
  | some ds=>chk (Eg ds&&(!(ae s.pr t) && !(ae sc t))) (some ⟨qK t ds s.sl,(t,none)::iV t ds s.bx,s.pr,s.ro,s.oc⟩)
  | none=>none)
 | _=>none
def sS (sc:List Nat) : List Nat→SS→Option SS
 | [],s=>some s
 | t::l,s=>match fbX sc t s with | some s=>sS sc l s | none=>none
def yH (s:SS) : List Nat→Bool
 | []=>true
 | t::l=>match lkB s.bx t with | none=>yH s l | some _=>false
mutual
def wR:SV→List Nat
 | .row t=>[t]
 | .fn _ ps qs=>jh ps++jh qs
 | .ag cs=>jh cs
 | _=>[]
def jh:List SV→List Nat
 | []=>[]
 | c::cs=>wR c++jh cs
end
def Bo:List (Nat×SV)→List SV
 | []=>[]
 | (_,v)::l=>v::Bo l
def nq:List PT→List SV→List SV
 | p::ps,v::vs=>(match p.isM with | true=>nq ps vs | false=>v::nq ps vs)
 | _,_=>[]
def C2 (q:Bool) (T:List (Nat×Ent)) (o:Oper) (s:SS) : Option SS:=match q,s.ro,o.guard with
 | true,false,none=>(match o.op,kz o with
  | .buildSlice _ _ ps,_=>d8 (jh (Bo (lQ s ps.toList))) s
  | _,some (x,xs)=>(match evX s x with
   | .fn f ps qs=>(match lkE T f (ps++lb s xs++qs) with
    | some en=>(match fV en.ps||fV en.rs with
     | true=>d8 (jh (nq en.ps (ps++lb s xs++qs))) s
     | false=>(match gY en.rs with | true=>some s | false=>d8 (jh (ps++lb s xs++qs)) s))
    | none=>some s)
   | _=>some s)
  | _,_=>some s)
 | _,_,_=>some s
mutual
def lq:SV→Option (List Nat)
 | .junk=>none
 | .ptr t _=>some [t]
 | .row t=>some [t]
 | .re t _ _=>some [t]
 | .vw t _ _=>some [t]
 | .ag cs=>ij cs
 | .tup cs=>ij cs
 | .fn _ ps qs=>match ij ps,ij qs with | some a,some b=>some (a++b) | _,_=>none
 | .d _=>some []
 | .fe _=>some []
def ij:List SV→Option (List Nat)
 | []=>some []
 | c::cs=>match lq c,ij cs with | some a,some b=>some (a++b) | _,_=>none
end
def yD (o:Oper) (s:SS) : Option (List Nat):=match o.op with
 | .load _ x=>lq (evX s x)
 | .store _ x _=>lq (evX s x)
 | .indexAddr _ x _=>lq (evX s x)
 | .slice _ x _ _ _=>lq (evX s x)
 | .convert _ _ x=>lq (evX s x)
 | .call c=>(match c.callee with
  | .value f=>(match lq (evX s f),ij (lb s c.args.toList) with | some a,some b=>some (a++b) | _,_=>none)
  | _=>ij (lb s c.args.toList))
 | _=>some []
def wI:List Nat→List Nat→Bool
 | [],_=>true
 | a::l,m=>match cn.memL m a with | true=>wI l m | false=>false
def mH:List Bd→Nat→Bd
 | [],_=>([],[])
 | x :: _,0=>x
 | _ :: l,i + 1=>mH l i
def sP (q:Bool) (B:List Bd) (i:Nat) (o:Oper) (s:SS) (u:Upd) : Bool:=match q with
 | true=>true
 | false=>match yD o s with
  | some fs=>wI fs (mH B i).1&&wI (AL u) (mH B i).2
  | none=>false
def yE (q:Bool) (B:List Bd) (i:Nat) (o:Oper) (s:SS) (m:MU) : Bool:=match q with
 | true=>true
 | false=>match yD o s with
  | some fs=>wI fs (mH B i).1&&wI (idU m.us) (mH B i).2
  | none=>false
def j2 (q:Bool) (P:Program) (T:List (Nat×Ent)) (ops:Array Oper) (B:List Bd) : Nat→Nat→List Nat→List Oper→{ρ : Type} → SS→(SS→Option ρ)→Option ρ
 | _,_,_,[],_,s,k=>k s
 | 0,_,_,_ :: _,_,_,_=>none
 | n + 1,i,kn,o::l,_,s,k =>
  let go:=fun (_:Unit)=>match C2 q T o s with
   | none=>none
   | some s=>(match kz o with
    | some (x,xs)=>(match evX s x with
     | .fn f ps qs=>(match zI T f (ps++lb s xs++qs) with
      | false=>chk (sP q B i o s .no) (yU T f s (ps++lb s xs++qs) fun r=>j2 q P T ops B n (i + 1) kn l (s.upd o.dst r .no) k)
      | true=>yV T f s o.dst (ps++lb s xs++qs) fun v m=>chk (yE q B i o s m) (j2 q P T ops B n (i + 1) kn l (s.updM o.dst v m) k))
     | _=>none)
    | none=>Dp P o s fun v u=>chk (sP q B i o s u) (j2 q P T ops B n (i + 1) kn l (s.upd o.dst v u) k))
  let skip:=fun (_:Unit)=>j2 q P T ops B n (i + 1) kn l (s.upd o.dst (.tup []) .no) k
  match o.guard with
  | none=>go ()
  | some (j,want)=>match (ops[j]?).bind (·.dst) with
   | none=>none
   | some g=>match lkV s.sl g with
    | .tup []=>skip ()
    | .d (.bool b)=>(match ae kn g with
     | true=>(match b with
      | true=>(match want with | true=>go () | false=>skip ())
      | false=>(match want with | true=>skip () | false=>go ()))
     | false=>(match xT g (o::l) with
      | none=>none
      | some (l1,d,l2)=>Option.bind (if b=true then j2 q P T ops B n i (g::kn) l1 ⟨(g,.d (.bool true))::s.sl,s.bx,s.pr,true,s.oc⟩ (pc d) else j2 q P T ops B n i (g::kn) l1 ⟨(g,.d (.bool false))::s.sl,s.bx,s.pr,true,s.oc⟩ (pc d)) fun qb =>
       j2 q P T ops B n (i + l1.length) kn l2 ⟨(d,.d (.bool qb))::fT (aR l1) s.sl,s.bx,s.pr,s.ro,aR l1++s.oc⟩ k))
    | _=>none
end
def lkN:List (Nat×List Nat)→Nat→Option (List Nat)
 | [],_=>none
 | (j,v)::l,i=>match Nat.beq i j with | true=>some v | false=>lkN l i
def dQ (m:List (Nat×List Nat)) (s:SS) : Operand→List Nat
 | .tmp i=>(match lkN m i with | some l=>l | none=>(match lq (lkV s.sl i) with | some l=>l | none=>[]))
 | _=>[]
def ow (m:List (Nat×List Nat)) (s:SS) : List Operand→List Nat
 | []=>[]
 | x::l=>dQ m s x++ow m s l
def EH (m:List (Nat×List Nat)) (s:SS) : List (Nat×Operand)→List Nat
 | []=>[]
 | (_,x)::l=>dQ m s x++EH m s l
def E2 (mb:List (Nat×List Nat)) (s:SS) (t:Nat) : List Nat:=match lkN mb t with
 | some l=>l
 | none=>(match lkB s.bx t with | some (.st _ cs)=>(match ij cs with | some l=>l | none=>[]) | _=>[])
def Cz (mb:List (Nat×List Nat)) (s:SS) : List Nat→List Nat
 | []=>[]
 | t::l=>E2 mb s t++Cz mb s l
def Ew (mb:List (Nat×List Nat)) (s:SS) (x:List Nat) : List Nat→List (Nat×List Nat)
 | []=>mb
 | t::l=>(t,x++E2 mb s t)::Ew mb s x l
def rl:Option Nat→List Nat
 | some d=>[d]
 | none=>[]
def gO (m:List (Nat×List Nat)) (dst:Option Nat) (l:List Nat) : List (Nat×List Nat):=match dst with | some d=>(d,l)::m | none=>m
def EJ:List (Nat×Ent)→Nat→Option Ent
 | [],_=>none
 | (j,v)::l,i=>match Nat.beq i j with | true=>some v | false=>EJ l i
def Fh (T:List (Nat×Ent)) (o:Oper) (f:Operand) : Option (List Nat):=match f,o.dst with
 | .func g,some d=>(match EJ T g with
  | some en=>(match fV en.ps||fV en.rs with | true=>some (aw (ka (500000 + 64 * d) (aX en.rs))++aw (fm (500000 + 64 * d + pO (aX en.rs)) (ci en.rs))) | false=>none)
  | none=>none)
 | _,_=>none
def dR (T:List (Nat×Ent)) (s:SS) : List Oper→List (Nat×List Nat)→List (Nat×List Nat)→List Bd
 | [],_,_=>[]
 | o::l,m,mb=>match o.op with
  | .move x=>([],[])::dR T s l (gO m o.dst (dQ m s x)) mb
  | .assign x=>([],[])::dR T s l (gO m o.dst (dQ m s x)) mb
  | .pick _ x y=>([],[])::dR T s l (gO m o.dst (dQ m s x++dQ m s y)) mb
  | .build _ ps=>([],[])::dR T s l (gO m o.dst (EH m s ps.toList)) mb
  | .extract x _=>([],[])::dR T s l (gO m o.dst (dQ m s x)) mb
  | .field _ x _=>([],[])::dR T s l (gO m o.dst (dQ m s x)) mb
  | .fieldAddr _ x _=>([],[])::dR T s l (gO m o.dst (dQ m s x)) mb
  | .nilCheck x=>([],[])::dR T s l (gO m o.dst (dQ m s x)) mb
  | .indexAddr _ x _=>(dQ m s x,[])::dR T s l (gO m o.dst (dQ m s x)) mb
  | .load _ x=>(dQ m s x,[])::dR T s l (gO m o.dst (Cz mb s (dQ m s x))) mb
  | .store _ x y=>(dQ m s x,dQ m s x)::dR T s l m (Ew mb s (dQ m s y) (dQ m s x))
  | .alloc _=>([],rl o.dst)::dR T s l (gO m o.dst (rl o.dst)) mb
  | .box _ x=>([],rl o.dst)::dR T s l (gO m o.dst (rl o.dst)) (Ew mb s (dQ m s x) (rl o.dst))
  | .buildSlice _ _ _=>([],rl o.dst)::dR T s l (gO m o.dst (rl o.dst)) mb
  | .slice _ x _ _ _=>(dQ m s x,[])::dR T s l (gO m o.dst (dQ m s x)) mb
  | .makeSlice _ _ _=>([],rl o.dst)::dR T s l (gO m o.dst (rl o.dst)) mb
  | .convert _ _ x=>(dQ m s x,[])::dR T s l (gO m o.dst []) mb
  | .makeFunc _ a b=>([],[])::dR T s l (gO m o.dst (ow m s a.toList++ow m s b.toList)) mb
  | .call c=>(match c.callee with
   | .builtin .append=>(match c.args.toList with
    | x::y :: _=>(dQ m s x++dQ m s y,dQ m s x++rl o.dst)::dR T s l (gO m o.dst (dQ m s x++rl o.dst)) mb
    | _=>([],[])::dR T s l m mb)
   | .builtin .copy=>(match c.args.toList with
    | x::y :: _=>(dQ m s x++dQ m s y,dQ m s x)::dR T s l (gO m o.dst []) mb
    | _=>([],[])::dR T s l m mb)
   | .value f=>(match Fh T o f with
    | none=>(dQ m s f++ow m s c.args.toList,[])::dR T s l (gO m o.dst []) mb
    | some js=>(ow m s c.args.toList,ow m s c.args.toList++(Cz mb s (ow m s c.args.toList)++js))::dR T s l (gO m o.dst js) mb)
   | _=>(ow m s c.args.toList,[])::dR T s l (gO m o.dst []) mb)
  | _=>([],[])::dR T s l m mb
def uS (m:Nat) (ops:Array Oper) : Bool:=(List.range ops.size).all fun i=>decide (i < m)||(List.range i).all fun k=>mP ops 4 i k
inductive Mod where
 | leaf (i:Nat) (t:Ty)
 | agg (i n:Nat)
 | row (i R e k:Nat) (t:Ty)
 | box (b ty n:Nat) (rows:List (Nat×Nat×Nat×Nat×Ty))
def Mod.den:Mod→Type
 | .leaf _ t=>t.den
 | .agg _ n=>ST n
 | .row _ _ _ _ t=>List t.den
 | .box _ _ n _=>ST n
def dy:List Mod→Type
 | []=>Unit
 | [m]=>m.den
 | m::m' :: l=>m.den×dy (m' :: l)
def El:Option aj→Bool
 | some (.rw ..)=>true
 | _=>false
def nK (s:SS) : (m:Mod)→Option m.den
 | .leaf i t=>match lkV s.sl i with
  | .d c=>c.as t
  | _=>none
 | .agg i n=>match lkV s.sl i with
  | .ag cs=>(match jH cs with | some cs=>stK n cs | none=>none)
  | _=>none
 | .row i R e k t=>match lkV s.sl i,lkB s.bx R with
  | .row R',some (.rw e' k' t' xs _)=>match Ty.same t' t with
   | some ⟨h⟩=>chk (Nat.beq R' R) (chk (e' == e) (chk (k' == k) (some (mX h xs))))
   | none=>none
  | _,_=>none
 | .box b ty n rows=>match lkB s.bx b with
  | some (.st ty' cs)=>chk (ty' == ty) (chk (rows.all fun r=>El (lkB s.bx r.2.1)) (match cellsOf s rows 0 cs with | some ds=>stK n ds | none=>none))
  | _=>none
def jI (s:SS) : (l:List Mod)→Option (dy l)
 | []=>some ()
 | [m]=>nK s m
 | m::m' :: l=>Option.bind (nK s m) fun x=>Option.bind (jI s (m' :: l)) fun xs=>some (x,xs)
def iK:(m:Mod)→m.den→SS→Option SS
 | .leaf i t,x,s=>some ⟨(i,.d (gQ t x))::s.sl,s.bx,s.pr,s.ro,s.oc⟩
 | .agg i n,x,s=>some ⟨(i,.ag (nA (stC n x)))::s.sl,s.bx,s.pr,s.ro,s.oc⟩
 | .row i R e k t,xs,s=>some ⟨(i,.row R)::s.sl,(R,some (.rw e k t xs []))::s.bx,s.pr,s.ro,s.oc⟩
 | .box b ty n rows,x,s=>match cy rows 0 (stC n x) s.bx with
  | some (vs,bx)=>some ⟨s.sl,(b,some (.st ty vs))::bx,s.pr,s.ro,s.oc⟩
  | none=>none
def dq:(l:List Mod)→dy l→SS→Option SS
 | [],_,s=>some s
 | [m],x,s=>iK m x s
 | m::m' :: l,x,s=>match dq (m' :: l) x.2 s with | some s=>iK m x.1 s | none=>none
def ax:List Mod→List Nat
 | []=>[]
 | .row _ R _ _ _ :: l=>R::ax l
 | .box b _ _ rows::l=>b::(rows.map (·.2.1)++ax l)
 | _ :: l=>ax l
def DN (R:Nat) : SV→Bool
 | .row R'=>Nat.beq R' R
 | _=>false
def gl (wr:List Nat) (s:SS) : List Mod→Bool
 | []=>true
 | .leaf i _ :: l=>(match ae wr i with | true=>gl wr s l | false=>false)
 | .agg i _ :: l=>(match ae wr i with | true=>gl wr s l | false=>false)
 | .row i R _ _ _ :: l=>(match ae s.pr R,ae wr i||DN R (lkV s.sl i) with | false,true=>gl wr s l | _,_=>false)
 | .box b _ _ rows::l=>(match ae s.pr b,rows.all fun r=>!(ae s.pr r.2.1) with | false,true=>gl wr s l | _,_=>false)
def kS (mb sc:List Nat) : List (Nat×Option aj)→List Nat→Bool
 | [],_=>true
 | (t,b)::l,seen=>match ae seen t with
  | true=>kS mb sc l seen
  | false=>match b with
   | some (.st _ cs)=>(match ae mb t||(ae sc t||aZ cs) with | true=>kS mb sc l (t::seen) | false=>false)
   | _=>kS mb sc l (t::seen)
def s8:List Nat→List Nat→Bool
 | [],_=>true
 | a::l,m=>match ae m a with | true=>false | false=>s8 l m
mutual
def jn (sc wr:List Nat) (ms:List Mod) (pr:List Nat) (s:SS) : Bool:=gl wr s ms&&(s8 sc pr&&(s8 sc (ax ms)&&kS (ax ms) sc s.bx []))
def rV (pr kb:List Nat) : SV→Bool
 | .row t=>ae pr t
 | .re _ _ _=>false
 | .vw _ _ _=>false
 | .ptr t _=>ae kb t
 | .ag cs=>dW pr kb cs
 | .tup cs=>dW pr kb cs
 | .fn _ ps qs=>match dW pr kb ps with | true=>dW pr kb qs | false=>false
 | _=>true
def dW (pr kb:List Nat) : List SV→Bool
 | []=>true
 | c::cs=>match rV pr kb c with | true=>dW pr kb cs | false=>false
end
def jo (wr pr kb:List Nat) : List (Nat×SV)→List Nat→List (Nat×SV)
 | [],_=>[]
 | (i,v)::l,seen=>match ae seen i with
  | true=>jo wr pr kb l seen
  | false=>match ae wr i with
   | true=>jo wr pr kb l (i::seen)
   | false=>match rV pr kb v with
    | true=>(i,v)::jo wr pr kb l (i::seen)
    | false=>jo wr pr kb l (i::seen)
def mB:aj→Bool
 | .st _ cs=>aZ cs
 | .rw ..=>true
def fL (mb:List Nat) : List (Nat×Option aj)→List Nat→List Nat
 | [],_=>[]
 | (t,b)::l,seen=>match ae seen t with
  | true=>fL mb l seen
  | false=>match b with
   | none=>fL mb l (t::seen)
   | some b=>match ae mb t,mB b with
    | false,true=>t::fL mb l (t::seen)
    | _,_=>fL mb l (t::seen)
def tv:Option aj→Option aj
 | some (.rw e k t xs _)=>some (.rw e k t xs [])
 | b=>b
def jp (pr:List Nat) : List (Nat×Option aj)→List Nat→List (Nat×Option aj)
 | [],_=>[]
 | (t,b)::l,seen=>match ae seen t with
  | true=>jp pr l seen
  | false=>match ae pr t with
   | true=>(t,tv b)::jp pr l (t::seen)
   | false=>jp pr l (t::seen)
def lv:List SV→List SV
 | []=>[]
 | _ :: l=>.junk::lv l
def jg (bx:List (Nat×Option aj)) : List Nat→List Nat
 | []=>[]
 | b::l=>match lkB bx b with
  | some (.st _ _)=>b::jg bx l
  | _=>jg bx l
def uW (bx:List (Nat×Option aj)) : List Nat→List (Nat×Option aj)→List (Nat×Option aj)
 | [],r=>r
 | b::l,r=>match lkB bx b with
  | some (.st ty cs)=>(b,some (.st ty (lv cs)))::uW bx l r
  | _=>uW bx l r
def aO (sc wr:List Nat) (ms:List Mod) (s:SS) : SS :=
 let pr:=fL (ax ms++sc) s.bx []
 ⟨jo wr pr (ax ms++(jg s.bx sc++pr)) s.sl [],uW s.bx sc (jp pr s.bx []),pr,s.ro,[]⟩
def nk (but:List Nat) : List SV→List Nat
 | []=>[]
 | .row t::l=>match ae but t with | true=>nk but l | false=>t::nk but l
 | _ :: l=>nk but l
def sI (s:SS) : List Mod→List Nat
 | []=>[]
 | .leaf i _ :: l=>nk [] [lkV s.sl i] ++ sI s l
 | .agg i _ :: l=>(match lkV s.sl i with | .ag cs=>nk [] cs | _=>[])++sI s l
 | .row .. :: l=>sI s l
 | .box b _ _ rows::l=>(match lkB s.bx b with | some (.st _ cs)=>nk (rows.map (·.2.1)) cs | _=>[])++sI s l
def clr (s:SS) : SS:=⟨s.sl,s.bx,s.pr,s.ro,[]⟩
def j9 (s:SS) : List (Nat×Nat×Nat×Nat×Ty)→List SV→List (Nat×Option aj)→Option (List SV×List (Nat×Option aj))
 | [],cs,bx=>some (cs,bx)
 | (j,R,e,k,t)::l,cs,bx=>match cs[j]? with
  | some (.d .nl)=>(match lkB bx R,decide (0 < k∧R < 1000000),ae s.pr R with
   | none,true,false=>j9 s l (cs.set j (.row R)) ((R,some (.rw e k t [] []))::bx)
   | _,_,_=>none)
  | _=>j9 s l cs bx
def rX (wr:List Nat) : List Mod→SS→Option SS
 | [],s=>some s
 | .row i R e k t::l,s=>match lkV s.sl i with
  | .d .nl=>(match Nat.beq i R,lkB s.bx i,decide (0 < k∧i < 1000000),ae wr i,ae s.pr i with
   | true,none,true,true,false=>rX wr l ⟨(i,.row i)::s.sl,(i,some (.rw e k t [] []))::s.bx,s.pr,s.ro,s.oc⟩
   | _,_,_,_,_=>none)
  | _=>rX wr l s
 | .box b _ _ [] :: l,s=>rX wr l s
 | .box b _ _ rows::l,s=>match lkB s.bx b with
  | some (.st ty cs)=>(match ae s.pr b,j9 s rows cs s.bx with
   | false,some (cs,bx)=>rX wr l ⟨s.sl,(b,some (.st ty cs))::bx,s.pr,s.ro,s.oc⟩
   | _,_=>none)
  | _=>none
 | _ :: l,s=>rX wr l s
def xq (wr:List Nat) (ms:List Mod) (s:SS) : Option SS:=match rX wr ms s with
 | some s=>d8 (sI s ms) s
 | none=>none
def gV (ms:List Mod) (s:SS) : Option (dy ms):=match d8 (sI s ms) s with
 | some s=>jI s ms
 | none=>none
inductive jU where
 | n
 | s (a b:jU)
 | lp (ms:List Mod) (id:Nat) (ret:Bool) (b:jU)
 | j (ms:List Mod) (h:jU)
def jU.l:jU→jU
 | .s a _=>a
 | .j _ (.s a _)=>a
 | _=>.n
def jU.r:jU→jU
 | .s _ b=>b
 | .j _ (.s _ b)=>b
 | _=>.n
structure Cx where
 P:Program
 T:List (Nat×Ent)
 n:Nat
 rs:List PT
 vars:List ResultVar
 fz:List (Nat×List Nat)
 sc:List Nat
 fb:List (Nat×List Nat)
def lkF:List (Nat×List Nat)→Nat→List Nat
 | [],_=>[]
 | (j,v)::l,i=>match Nat.beq i j with | true=>v | false=>lkF l i
def wrC:Code→List Nat
 | .region _ ops _=>aR ops.toList
 | .seq a b=>wrC a++wrC b
 | .cond (.tmp i) a b=>i::(wrC a++wrC b)
 | .cond _ a b=>wrC a++wrC b
 | .block _ c=>wrC c
 | .loop c=>wrC c
 | _=>[]
def uY (P:Program) (s:SS) : List ResultVar→Option (List SV)
 | []=>some []
 | .tmp t::l=>match uY P s l with | some vs=>some (lkV s.sl t::vs) | none=>none
 | .cell t ty::l=>match yp P s ty (lkV s.sl t),uY P s l with | some v,some vs=>some (v::vs) | _,_=>none
def EP:List (Nat×Nat×Nat×Ty)→Nat→Bool
 | [],_=>false
 | (j,_)::l,i=>match Nat.beq i j with | true=>true | false=>EP l i
def pf (rows:List (Nat×Nat×Nat×Ty)) : Nat→List SV→List Nat
 | _,[]=>[]
 | j,c::cs=>match EP rows j with | true=>pf rows (j + 1) cs | false=>wR c++pf rows (j + 1) cs
def D8:PT→SV→List Nat
 | .own ..,_=>[]
 | .agr _ rows,.ag cs=>pf rows 0 cs
 | .agr ..,_=>[]
 | _,v=>wR v
def xZ:List PT→List SV→List Nat
 | p::ps,v::vs=>D8 p v++xZ ps vs
 | _,_=>[]
def jS (i:Nat) : Nat:=1000000 + 64 * i
def EM (s:SS) (i:Nat) : IB→List Nat
 | .bx _ _ rows=>(match lkB s.bx (jS i) with | some (.st _ cs)=>pf rows 0 cs | _=>[])
 | _=>[]
def BQ (s:SS) : Nat→List IB→List Nat
 | _,[]=>[]
 | i,b::l=>EM s i b++BQ s (i + 1) l
def DA (s:SS) (i:Nat) : (b:IB)→Option (b.den×List Nat)
 | .no=>some ((),[])
 | .own e k t=>(match jA s e k t (.row (jS i)) with | some (xs,_)=>some (xs,[]) | none=>none)
 | .bx ty n rows=>(match lkB s.bx (jS i) with
  | some (.st ty' cs)=>chk (ty' == ty) (vZ s rows n cs)
  | _=>none)
def yO (s:SS) : Nat→(ls:List IB)→Option (mD ls×List (List Nat))
 | _,[]=>some ((),[])
 | i,b::ls=>match DA s i b,yO s (i + 1) ls with | some (o,js),some (os,kss)=>some ((o,os),js::kss) | _,_=>none
def ul (s:SS) : (rs:List PT)→List SV→Option (aq rs×List (List Nat))
 | [],[]=>some ((),[])
 | [p],[v]=>(match xy s p v with | some (x,is)=>some (x,[is]) | none=>none)
 | p::q::l,v::vs=>(match xy s p v,ul s (q::l) vs with | some (x,is),some (xs,iss)=>some ((x,xs),is::iss) | _,_=>none)
 | _,_=>none
def BO:(rs:List PT)→mD (aX rs)→aq (ci rs)→aq rs
 | [],_,_=>()
 | [.io _],o,_=>o
 | .io _ :: _ :: _,o,r=>(o,r)
 | .own .. :: _,_,r=>r
 | .mv .. :: _,_,r=>r
 | .bx .. :: _,_,r=>r
 | .agr .. :: _,_,r=>r
 | .lf _ :: _,_,r=>r
 | .ag _ :: _,_,r=>r
 | .pl _ :: _,_,r=>r
 | .ps _ :: _,_,r=>r
 | .fn .. :: _,_,r=>r
def bF:Nat→List IB→List Nat
 | _,[]=>[]
 | i,.no::l=>bF (i + 1) l
 | i,.own .. :: l=>jS i::bF (i + 1) l
 | i,.bx .. :: l=>jS i::bF (i + 1) l
def DM (C:Cx) (s:SS) : Option (aq C.rs):=match uY C.P s C.vars with
 | some vs=>(match d8 (BQ s 0 (aX C.rs)++xZ (ci C.rs) vs) s with
  | some s1=>(match uY C.P s1 C.vars with
   | some ws=>(match yO s1 0 (aX C.rs),ul s1 (ci C.rs) ws with
    | some (o,kss),some (r,jss)=>chk (jm (bF 0 (aX C.rs)++(aw kss++aw jss))) (some (BO C.rs o r))
    | _,_=>none)
   | none=>none)
  | none=>none)
 | none=>none
def oz (C:Cx) (s:SS) : Option (aq C.rs):=match fV C.rs with
 | true=>DM C (clr s)
 | false=>(match uY C.P (clr s) C.vars with
  | some vs=>tb (clr s) C.rs vs
  | none=>none)
def AQ:List Oper→Bool
 | []=>true
 | o::l=>match o.op,o.dst with | .store ..,some _=>false | _,_=>AQ l
def BW:List Oper→Bool
 | []=>false
 | o::l=>match o.op with | .buildSlice ..=>true | _=>BW l
def yw:List Oper→Bool
 | []=>false
 | o::l=>match kz o with | some _=>true | none=>yw l
def AN (ops:Array Oper) : Nat→Nat
 | 0=>0
 | n + 1=>match (List.range n).all fun k=>mP ops 4 n k with | true=>AN ops n | false=>n + 1
def df (ops:Array Oper) : Nat:=match BW ops.toList,yw ops.toList with
 | true,true=>AN ops ops.toList.length
 | _,_=>ops.toList.length
def A8 (C:Cx) (id:Nat) (ops:Array Oper) (draw:Bool) (s:SS) {ρ : Type} (k:SS→Option ρ) : Option ρ :=
 match d8 (lkF C.fz id) s with
 | none=>none
 | some s0=>let s:SS:=⟨s0.sl,s0.bx,s0.pr,s0.ro,[]⟩; match draw with
  | false=>chk (AQ ops.toList&&s7 C.n ops.toList) (j2 true C.P C.T ops [] 1000 0 [] ops.toList s k)
  | true=>chk (AQ ops.toList) (chk (rm (mH (dR C.T s ops.toList [] [])) C.n ops) (match Nat.beq (df ops) ops.toList.length with
   | true=>j2 false C.P C.T ops (dR C.T s ops.toList [] []) 1000 0 [] ops.toList s k
   | false=>chk (uS (df ops) ops&&decide (df ops≤ops.toList.length)) (j2 false C.P C.T ops (dR C.T s ops.toList [] []) 1000 0 [] (ops.toList.take (df ops)) s fun s=>j2 true C.P C.T ops [] 1000 0 [] (ops.toList.drop (df ops)) s k)))
def CY (C:Cx) (id:Nat) (ops:Array Oper) (draw:Bool) (s:SS) {ρ : Type} (k:SS→Option ρ) : Option ρ:=match lkF C.fb id with
 | []=>A8 C id ops draw s k
 | t::l=>chk (yH s (t::l)) (A8 C id ops draw s fun s=>match sS C.sc (t::l) s with | some s=>k s | none=>none)
def sv (C:Cx) (wr:List Nat) (h:jU) (body:(ρ : Type)→SS→(Exit→SS→Option ρ)→(aq C.rs→Option ρ)→Option ρ) (ρ : Type) (s:SS) (k:Exit→SS→Option ρ) (kr:aq C.rs→Option ρ) : Option ρ :=
 match h with
 | .j ms _=>match rX wr ms (clr s) with
  | none=>none
  | some s1=>chk (jn C.sc wr ms s.pr s1) (Option.bind (body (dy ms) ⟨s1.sl,s1.bx,(aO C.sc wr ms s1).pr,s1.ro,s1.oc⟩ (fun e s'=>match e with | .normal=>gV ms s' | _=>none) (fun _=>none)) fun st =>
   match dq ms st (aO C.sc wr ms s1) with
   | some s2=>k .normal ⟨s2.sl,s2.bx,s.pr,s.ro,s.oc⟩
   | none=>none)
 | _=>body ρ s k kr
def l7 (C:Cx) : Code→jU→(ρ : Type)→SS→(Exit→SS→Option ρ)→(aq C.rs→Option ρ)→Option ρ
 | .skip,_,_,s,k,_=>k .normal s
 | .label _,_,_,s,k,_=>k .normal s
 | .exit id,_,_,s,k,_=>k (.exit id) s
 | .ret,_,_,s,_,kr=>Option.bind (oz C s) kr
 | .region id ops draw,h,ρ,s,k,kr=>sv C (aR ops.toList) h (fun _ s k _=>CY C id ops draw s fun s=>k .normal s) ρ s k kr
 | .seq a b,h,ρ,s,k,kr=>sv C (wrC a++wrC b) h (fun ρ s k kr=>l7 C a h.l ρ s (fun e s'=>match e with | .normal=>l7 C b h.r ρ s' k kr | e=>k e s') kr) ρ s k kr
 | .cond c a b,h,ρ,s,k,kr=>sv C (wrC (.cond c a b)) h (fun ρ s k kr=>match evX s c with
   | .d (.bool t)=>if t=true then l7 C a h.l ρ (lu s c true) k kr else l7 C b h.r ρ (lu s c false) k kr
   | _=>none) ρ s k kr
 | .block id c,h,ρ,s,k,kr=>sv C (wrC c) h (fun ρ s k kr=>l7 C c h.l ρ s (fun e s'=>match e with | .exit id'=>(match Nat.beq id' id with | true=>k .normal s' | false=>k (.exit id') s') | e=>k e s') kr) ρ s k kr
 | .loop c,.lp ms id ret hb,_,s,k,kr=>match xq (wrC c) ms (clr s) with
  | none=>none
  | some s0=>chk (jn C.sc (wrC c) ms s.pr s0) (match jI s0 ms with
   | none=>none
   | some st0=>match ret with
    | false=>Option.bind (aN (fun st=>match dq ms st (aO C.sc (wrC c) ms s0) with
      | none=>none
      | some sh=>l7 C c hb (dy ms⊕dy ms) sh (fun e s'=>match e with
       | .normal=>Option.bind (gV ms s') fun st'=>some (.inl st')
       | .exit id'=>(match Nat.beq id' id with | true=>Option.bind (gV ms s') fun st'=>some (.inr st') | false=>none)
       | _=>none) (fun _=>none)) aB st0) fun st=>match dq ms st (aO C.sc (wrC c) ms s0) with
      | some s2=>k (.exit id) ⟨s2.sl,s2.bx,s.pr,s.ro,s.oc⟩
      | none=>none
    | true=>Option.bind (aN (fun st=>match dq ms st (aO C.sc (wrC c) ms s0) with
      | none=>none
      | some sh=>l7 C c hb (dy ms⊕(dy ms⊕aq C.rs)) sh (fun e s'=>match e with
       | .normal=>Option.bind (gV ms s') fun st'=>some (.inl st')
       | .exit id'=>(match Nat.beq id' id with | true=>Option.bind (gV ms s') fun st'=>some (.inr (.inl st')) | false=>none)
       | _=>none) (fun r=>some (.inr (.inr r)))) aB st0) fun o=>match o with
      | .inr r=>kr r
      | .inl st=>match dq ms st (aO C.sc (wrC c) ms s0) with
       | some s2=>k (.exit id) ⟨s2.sl,s2.bx,s.pr,s.ro,s.oc⟩
       | none=>none)
 | _,_,_,_,_,_=>none
def n5:Nat→List SV→List (Nat×SV)
 | _,[]=>[]
 | i,v::vs=>(i,v)::n5 (i + 1) vs
def dw (C:Cx) (c:Code) (h:jU) (ps:List PT) (x:bb ps) : Option (aq C.rs) :=
 l7 C c h (aq C.rs) ⟨n5 0 (oJ ps x),[],[],false,[]⟩ (fun e s=>match e with | .normal=>oz C s | _=>none) (fun r=>some r)
def ep (i:Nat) : PT→List Nat
 | .own ..=>[jS i]
 | .mv ..=>[900000 + 64 * i]
 | .bx _ _ rows=>jS i::List.range' (900000 + 64 * i) rows.length
 | .agr _ rows=>List.range' (900000 + 64 * i) rows.length
 | _=>[]
def au:Nat→List PT→List (List Nat)
 | _,[]=>[]
 | i,p::ps=>ep i p::au (i + 1) ps
def EI:PT→IB→Bool
 | .own ..,.own ..=>true
 | .bx ..,.bx ..=>true
 | .own ..,_=>false
 | .bx ..,_=>false
 | .agr ..,_=>false
 | .io _,_=>false
 | _,.no=>true
 | _,_=>false
def xa:List PT→List IB→Bool
 | [],[]=>true
 | p::ps,b::ls=>match EI p b with | true=>xa ps ls | false=>false
 | _,_=>false
def xX (C:Cx) (c:Code) (h:jU) (ps:List PT) (x:bb ps) : Option (aq C.rs):=match vP ps (au 0 ps) x with
 | some (vs,bx)=>chk (jm (idU bx)) (l7 C c h (aq C.rs) ⟨n5 0 vs,bx,[],false,[]⟩ (fun e s=>match e with | .normal=>oz C s | _=>none) (fun r=>some r))
 | none=>none
end
section
theorem aa {ρ : Type} {b:Bool} {k:Option ρ} {r : ρ} (h:chk b k=some r) : b=true∧k=some r:=by
 cases b
 ·cases h
 ·exact ⟨rfl,h⟩
theorem bj (j:Nat) (v:SV) (l:List (Nat×SV)) (i:Nat) : lkV ((j,v)::l) i=if i=j then v else lkV l i:=by
 simp only [lkV]
 by_cases h:i=j
 ·subst h; simp
 ·have:Nat.beq i j=false:=by rw [← Bool.not_eq_true,Nat.beq_eq]; exact h
  rw [this,if_neg h]
theorem ab (j:Nat) (v:Option aj) (l:List (Nat×Option aj)) (i:Nat) : lkB ((j,v)::l) i=if i=j then v else lkB l i:=by
 simp only [lkB]
 by_cases h:i=j
 ·subst h; simp
 ·have:Nat.beq i j=false:=by rw [← Bool.not_eq_true,Nat.beq_eq]; exact h
  rw [this,if_neg h]
theorem iM (j:Nat) (v:Pin) (l:List (Nat×Pin)) (i:Nat) : lkP ((j,v)::l) i=if i=j then some v else lkP l i:=by
 simp only [lkP]
 by_cases h:i=j
 ·subst h; simp
 ·have:Nat.beq i j=false:=by rw [← Bool.not_eq_true,Nat.beq_eq]; exact h
  rw [this,if_neg h]
theorem bk (a b:Nat) : Nat.beq a b=decide (a=b):=by
 by_cases h:a=b
 ·subst h; simp
 ·have:Nat.beq a b=false:=by rw [← Bool.not_eq_true,Nat.beq_eq]; exact h
  simp [this,h]
theorem kQ (l:List (Nat×SV)) (dst:Option Nat) (v:SV) (i:Nat) : lkV (jc l dst v) i=if dst=some i then v else lkV l i:=by
 cases dst with
 | none=>simp [jc]
 | some d =>
  simp only [jc,bj,Option.some.injEq]
  by_cases h:i=d
  ·subst h; simp
  ·rw [if_neg h,if_neg (Ne.symm h)]
theorem tT:∀ cs:List SD,nA cs=cs.map .d
 | []=>rfl
 | c::cs=>by simp [nA,tT cs]
theorem eb:∀ (t:Ty) (x:t.den),(aA t x).length=tyN t
 | .int _,_=>rfl
 | .bool,_=>rfl
 | .str,_=>rfl
 | .sl _,_=>rfl
 | .st i,x=>CQ i x
theorem pu:∀ (t:Ty) (x:t.den),(nQ t x).map SD.toD=aA t x
 | .int _,_=>rfl
 | .bool,_=>rfl
 | .str,_=>rfl
 | .sl _,_=>rfl
 | .st i,x=>jY i x
theorem yJ:∀ (t:Ty) (x:t.den),∀ c∈nQ t x,c≠.nl
 | .int _,_,c,h=>by simp [nQ] at h; subst h; exact fun e=>by cases e
 | .bool,_,c,h=>by simp [nQ] at h; subst h; exact fun e=>by cases e
 | .str,_,c,h=>by simp [nQ] at h; subst h; exact fun e=>by cases e
 | .sl _,_,c,h=>by simp [nQ] at h; subst h; exact fun e=>by cases e
 | .st i,x,c,h=>lI i x c h
theorem bP {α : Type} {x : α} {Q:Prop} (h:(none:Option α)=some x) : Q:=by cases h
theorem uj:∀ {t:Ty} {cs:List SD} {x:t.den},Du t cs=some x→cs.map SD.toD=aA t x
 | .st i,cs,x,h=>nh h
 | .int k,[],x,h=>bP (x:=x) h
 | .int k,[c],x,h=>(SD.as_ok (t:=(.int k)) h).symm
 | .int k,_ :: _ :: _,x,h=>bP (x:=x) h
 | .bool,[],x,h=>bP (x:=x) h
 | .bool,[c],x,h=>(SD.as_ok (t:=.bool) h).symm
 | .bool,_ :: _ :: _,x,h=>bP (x:=x) h
 | .str,[],x,h=>bP (x:=x) h
 | .str,[c],x,h=>(SD.as_ok (t:=.str) h).symm
 | .str,_ :: _ :: _,x,h=>bP (x:=x) h
 | .sl t,[],x,h=>bP (x:=x) h
 | .sl t,[c],x,h=>(SD.as_ok (t:=(.sl t)) h).symm
 | .sl t,_ :: _ :: _,x,h=>bP (x:=x) h
def uL:SD→D→Prop
 | .nl,y=>y = .v (.slice none 0 0)
 | c,y=>nrm y=c.toD
theorem uL.nrm {c:SD} {y:D} (h:uL c y) : nrm y=c.toD:=by
 cases c <;> first | exact h | (cases h; rfl)
theorem uL.of {c:SD} (hc:c≠.nl) : uL c c.toD:=by
 cases c <;> first | rfl | exact absurd rfl hc
theorem BC {y:D} {x:Value} (h:nrm y = .v x) : y = .v x:=by
 unfold Go.Proofs.Ytkmpjphbkhpgbaa.nrm at h
 split at h
 ·cases h
 ·exact h
theorem Ef {y:D} {es:List (List D)} (h:nrm y = .sl es) : y = .sl es∨(es = []∧y = .v (.slice none 0 0)):=by
 unfold Go.Proofs.Ytkmpjphbkhpgbaa.nrm at h
 split at h
 ·injection h with h; exact .inr ⟨h.symm,rfl⟩
 ·exact .inl h
inductive an (B:List (Nat×Option aj)) : SV→PV→Prop
 | junk (q:PV) : an B .junk q
 | d (c:SD) (y:D) (h:uL c y) : an B (.d c) (.d y)
 | ag (cs:List SV) (qs:List PV) (hl:cs.length=qs.length) (hr:∀ (j:Nat) c q,cs[j]? = some c→qs[j]? = some q→an B c q) : an B (.ag cs) (.ag qs)
 | tup (cs:List SV) (qs:List PV) (hl:cs.length=qs.length) (hr:∀ (j:Nat) c q,cs[j]? = some c→qs[j]? = some q→an B c q) : an B (.tup cs) (.tup qs)
 | ptr (t o:Nat) (ty:TypeId) (cs:List SV) (hb:lkB B t=some (.st ty cs)) : an B (.ptr t o) (.ptr t o)
 | row (t n e k:Nat) (ty:Ty) (xs:List ty.den) (pins:List (Nat×Pin)) (hb:lkB B t=some (.rw e k ty xs pins)) (hn:xs.length=n) : an B (.row t) (.row t n)
 | re (t p o n i e k:Nat) (ty:Ty) (xs:List ty.den) (pins:List (Nat×Pin)) (pin:Pin) (hb:lkB B t=some (.rw e k ty xs pins)) (hn:xs.length=n) (hp:lkP pins p=some pin) (hi:i=pin.i.toNat) : an B (.re t p o) (.re t n i o)
 | vw (t lo hi n e k:Nat) (ty:Ty) (xs:List ty.den) (pins:List (Nat×Pin)) (hb:lkB B t=some (.rw e k ty xs pins)) (hn:xs.length=n) : an B (.vw t lo hi) (.vw t n lo hi)
 | fe (cs:List SD) (ds:List D) (h:ds=cs.map SD.toD) (hn:∀ c∈cs,c≠.nl) : an B (.fe cs) (.fe ds)
 | fn (f:FuncId) (ps qs:List SV) (ps' qs':List PV) (hl:ps.length=ps'.length) (hr:∀ (j:Nat) c q,ps[j]? = some c→ps'[j]? = some q→an B c q) (hl2:qs.length=qs'.length) (hr2:∀ (j:Nat) c q,qs[j]? = some c→qs'[j]? = some q→an B c q) : an B (.fn f ps qs) (.fn f ps' qs')
structure aL (B:List (Nat×Option aj)) (cs:List SV) (qs:List PV) : Prop where
 len:cs.length=qs.length
 rep:∀ (j:Nat) c q,cs[j]? = some c→qs[j]? = some q→an B c q
def Ex (ty:Ty) (xs:List ty.den) (pins:List (Nat×Pin)) : Prop:=∀ p pin,lkP pins p=some pin→pin.i.toNat < xs.length∧∀ cs,pin.cs=some cs→∃ x,xs[pin.i.toNat]? = some x∧cs=nQ ty x
def eg (B:List (Nat×Option aj)) (oc:Bool) : Option aj→Option Box→Prop
 | none,q=>oc=false→q=none
 | some (.st ty cs),q=>∃ qs,q=some (.st ty qs)∧aL B cs qs
 | some (.rw e k ty xs pins),q=>q=some (.rw e k (xs.map (aA ty)))∧Ex ty xs pins
structure Sim (s:SS) (p:PS) : Prop where
 sl:∀ i,an s.bx (lkV s.sl i) (p.t i)
 bx:∀ t,eg s.bx (ae s.oc t) (lkB s.bx t) (p.b t)
structure BLe (B B':List (Nat×Option aj)) : Prop where
 rw:∀ t e k ty xs pins,lkB B t=some (.rw e k ty xs pins)→∃ e' k' ty' xs' pins',lkB B' t=some (.rw e' k' ty' xs' pins')∧xs'.length=xs.length∧∀ p pin,lkP pins p=some pin→∃ pin',lkP pins' p=some pin'∧pin'.i=pin.i
 st:∀ t ty cs,lkB B t=some (.st ty cs)→∃ ty' cs',lkB B' t=some (.st ty' cs')
theorem BLe.refl (B:List (Nat×Option aj)) : BLe B B:=⟨fun _ e k ty xs pins h=>⟨e,k,ty,xs,pins,h,rfl,fun _ pin hp=>⟨pin,hp,rfl⟩⟩,fun _ ty cs h=>⟨ty,cs,h⟩⟩
theorem an.mono {B B':List (Nat×Option aj)} {v:SV} {q:PV} (h:an B v q) (hB:BLe B B') : an B' v q:=by
 induction h with
 | junk q=>exact .junk q
 | d c y h=>exact .d c y h
 | ag cs qs hl hr ih=>exact .ag cs qs hl ih
 | tup cs qs hl hr ih=>exact .tup cs qs hl ih
 | ptr t o ty cs hb=>obtain ⟨ty',cs',h1⟩:=hB.st t ty cs hb; exact .ptr t o ty' cs' h1
 | row t n e k ty xs pins hb hn =>
  obtain ⟨e',k',ty',xs',pins',h1,h2,h3⟩:=hB.rw t e k ty xs pins hb
  exact .row t n e' k' ty' xs' pins' h1 (h2.trans hn)
 | re t p o n i e k ty xs pins pin hb hn hp hi =>
  obtain ⟨e',k',ty',xs',pins',h1,h2,h3⟩:=hB.rw t e k ty xs pins hb
  obtain ⟨pin',h4,h5⟩:=h3 p pin hp
  exact .re t p o n i e' k' ty' xs' pins' pin' h1 (h2.trans hn) h4 (by rw [h5]; exact hi)
 | vw t lo hi n e k ty xs pins hb hn =>
  obtain ⟨e',k',ty',xs',pins',h1,h2,h3⟩:=hB.rw t e k ty xs pins hb
  exact .vw t lo hi n e' k' ty' xs' pins' h1 (h2.trans hn)
 | fe cs ds h hn=>exact .fe cs ds h hn
 | fn f ps qs ps' qs' hl hr hl2 hr2 ih ih2=>exact .fn f ps qs ps' qs' hl ih hl2 ih2
theorem aL.mono {B B':List (Nat×Option aj)} {cs:List SV} {qs:List PV} (h:aL B cs qs) (hB:BLe B B') : aL B' cs qs:=⟨h.len,fun j c q h1 h2=>(h.rep j c q h1 h2).mono hB⟩
theorem eg.mono {B B':List (Nat×Option aj)} {oc:Bool} {b:Option aj} {q:Option Box} (h:eg B oc b q) (hB:BLe B B') : eg B' oc b q:=by
 cases b with
 | none=>exact h
 | some b=>cases b with
  | st ty cs=>obtain ⟨qs,h1,h2⟩:=h; exact ⟨qs,h1,h2.mono hB⟩
  | rw e k ty xs pins=>exact h
variable {B:List (Nat×Option aj)}
theorem aL.nil:aL B [] []:=⟨rfl,fun j c q h=>by simp at h⟩
theorem aL.cons {c:SV} {q:PV} {cs:List SV} {qs:List PV} (h:an B c q) (hs:aL B cs qs) : aL B (c::cs) (q::qs) :=
 ⟨by simp [hs.len],fun j c' q' h1 h2=>by
  cases j with
  | zero=>simp at h1 h2; subst h1 h2; exact h
  | succ j=>simp at h1 h2; exact hs.rep j _ _ h1 h2⟩
theorem aL.head {c:SV} {q:PV} {cs:List SV} {qs:List PV} (h:aL B (c::cs) (q::qs)) : an B c q:=h.rep 0 c q rfl rfl
theorem aL.tail {c:SV} {q:PV} {cs:List SV} {qs:List PV} (h:aL B (c::cs) (q::qs)) : aL B cs qs :=
 ⟨by have:=h.len; simpa using this,fun j c' q' h1 h2=>h.rep (j + 1) c' q' (by simpa using h1) (by simpa using h2)⟩
theorem aL.cases {cs:List SV} {qs:List PV} (h:aL B cs qs) : (cs = []∧qs = [])∨∃ c q cs' qs',cs=c::cs'∧qs=q::qs'∧an B c q∧aL B cs' qs':=by
 cases cs with
 | nil=>cases qs with
  | nil=>exact .inl ⟨rfl,rfl⟩
  | cons q qs=>have:=h.len; simp at this
 | cons c cs=>cases qs with
  | nil=>have:=h.len; simp at this
  | cons q qs=>exact .inr ⟨c,q,cs,qs,rfl,rfl,h.head,h.tail⟩
theorem aL.take {cs:List SV} {qs:List PV} (h:aL B cs qs) (n:Nat) : aL B (cs.take n) (qs.take n) :=
 ⟨by simp [h.len],fun j c q h1 h2=>by
  rw [List.getElem?_take] at h1 h2
  split at h1
  ·rename_i hj; rw [if_pos hj] at h2; exact h.rep j c q h1 h2
  ·cases h1⟩
theorem aL.drop {cs:List SV} {qs:List PV} (h:aL B cs qs) (n:Nat) : aL B (cs.drop n) (qs.drop n) :=
 ⟨by simp [h.len],fun j c q h1 h2=>by
  rw [List.getElem?_drop] at h1 h2
  exact h.rep _ c q h1 h2⟩
theorem aL.append {cs ds:List SV} {qs ws:List PV} (h:aL B cs qs) (h':aL B ds ws) : aL B (cs++ds) (qs++ws) :=
 ⟨by simp [h.len,h'.len],fun j c q h1 h2=>by
  rw [List.getElem?_append] at h1 h2
  rw [h.len] at h1
  split at h1
  ·rename_i hj; rw [if_pos hj] at h2; exact h.rep j c q h1 h2
  ·rename_i hj; rw [if_neg hj] at h2; exact h'.rep _ c q h1 h2⟩
theorem ey {α : Type} : ∀ (cs:List α) (o:Nat) (ns:List α),o + ns.length≤cs.length→eP cs o ns=splice cs o ns
 | [],0,[],_=>rfl
 | [],0,n::ns,h=>by simp at h
 | [],o + 1,ns,h=>by simp at h
 | c::cs,0,[],_=>by simp [eP,splice]
 | c::cs,0,n::ns,h=>by
  simp only [eP]
  rw [ey cs 0 ns (by simp at h ⊢; omega)]
  simp [splice]
 | c::cs,o + 1,ns,h=>by
  simp only [eP]
  rw [ey cs o ns (by simp at h ⊢; omega)]
  unfold splice
  rw [show o + 1 + ns.length=(o + ns.length) + 1 by omega]
  simp
theorem aL.splice {cs ns:List SV} {qs ws:List PV} (h:aL B cs qs) (h':aL B ns ws) (o:Nat) : aL B (Go.Proofs.Ytkmpjphbkhpgbaa.splice cs o ns) (Go.Proofs.Ytkmpjphbkhpgbaa.splice qs o ws):=by
 unfold Go.Proofs.Ytkmpjphbkhpgbaa.splice
 rw [h'.len]
 exact ((h.take o).append h').append (h.drop _)
end
section
variable {B:List (Nat×Option aj)} {s:SS} {p:PS}
theorem dE (hs:Sim s p) {dst:Option Nat} {v:SV} {q:PV} (hv:an s.bx v q) : Sim (s.upd dst v .no) (p.upd dst q none):=by
 refine ⟨fun i=>?_,fun t=>hs.bx t⟩
 show an s.bx (lkV (jc s.sl dst v) i) (lG p.t dst q i)
 rw [kQ]
 unfold lG
 split
 ·exact hv
 ·exact hs.sl i
theorem ni {sl:List (Nat×SV)} {pr oc:List Nat} {ro:Bool} {dst:Option Nat} {v:SV} {q:PV} {B':List (Nat×Option aj)} {u:Option (Nat×Box)} (h1:∀ i,dst≠some i→an B' (lkV sl i) (p.t i)) (h2:∀ t,eg B' (ae oc t) (lkB B' t) (bt p.b u t)) (hv:an B' v q) :
  Sim ⟨jc sl dst v,B',pr,ro,oc⟩ (p.upd dst q u):=by
 refine ⟨fun i=>?_,h2⟩
 show an B' (lkV (jc sl dst v) i) (lG p.t dst q i)
 rw [kQ]
 unfold lG
 split
 ·exact hv
 ·rename_i h; exact h1 i h
theorem fK (hs:Sim s p) {pr:List Nat} {ro:Bool} {dst:Option Nat} {v:SV} {q:PV} {t:Nat} {b:aj} {b':Box} (hB:BLe s.bx ((t,some b)::s.bx)) (hb:∀ oc,eg ((t,some b)::s.bx) oc (some b) (some b')) (hv:an ((t,some b)::s.bx) v q) :
  Sim ⟨jc s.sl dst v,(t,some b)::s.bx,pr,ro,s.oc⟩ (p.upd dst q (some (t,b'))):=by
 refine ni (fun i _=>(hs.sl i).mono hB) (fun t'=>?_) hv
 rw [ab]
 simp only [bt]
 split
 ·exact hb _
 ·exact (hs.bx t').mono hB
theorem CS (hs:Sim s p) {pr:List Nat} {ro:Bool} {dst:Option Nat} {v:SV} {q:PV} {t:Nat} {b:aj} (hB:BLe s.bx ((t,some b)::s.bx)) (hb:∀ oc,eg ((t,some b)::s.bx) oc (some b) (p.b t)) (hv:an ((t,some b)::s.bx) v q) :
  Sim ⟨jc s.sl dst v,(t,some b)::s.bx,pr,ro,s.oc⟩ (p.upd dst q none):=by
 refine ni (fun i _=>(hs.sl i).mono hB) (fun t'=>?_) hv
 rw [ab]
 simp only [bt]
 split
 ·rename_i h; subst h; exact hb _
 ·exact (hs.bx t').mono hB
theorem hL {b:aj} {t:Nat} (h:lkB B t=none) : BLe B ((t,some b)::B):=by
 refine ⟨fun t' e k ty xs pins h1=>?_,fun t' ty cs h1=>?_⟩
 ·have : ¬ t' = t:=fun e=>by rw [e,h] at h1; cases h1
  exact ⟨e,k,ty,xs,pins,by rw [ab,if_neg this]; exact h1,rfl,fun _ pin hp=>⟨pin,hp,rfl⟩⟩
 ·have : ¬ t' = t:=fun e=>by rw [e,h] at h1; cases h1
  exact ⟨ty,cs,by rw [ab,if_neg this]; exact h1⟩
theorem xD {ty ty':TypeId} {cs cs':List SV} {t:Nat} (h:lkB B t=some (.st ty cs)) : BLe B ((t,some (.st ty' cs'))::B):=by
 refine ⟨fun t' e k ty xs pins h1=>?_,fun t' ty2 cs2 h1=>?_⟩
 ·have : ¬ t' = t:=fun e=>by rw [e,h] at h1; cases h1
  exact ⟨e,k,ty,xs,pins,by rw [ab,if_neg this]; exact h1,rfl,fun _ pin hp=>⟨pin,hp,rfl⟩⟩
 ·rw [ab]
  split
  ·exact ⟨_,_,rfl⟩
  ·exact ⟨_,_,h1⟩
theorem xE {e k:Nat} {ty:Ty} {xs xs':List ty.den} {pins pins':List (Nat×Pin)} {t:Nat} (h:lkB B t=some (.rw e k ty xs pins)) (hl:xs'.length=xs.length) (hp:∀ p pin,lkP pins p=some pin→∃ pin',lkP pins' p=some pin'∧pin'.i=pin.i) : BLe B ((t,some (.rw e k ty xs' pins'))::B):=by
 refine ⟨fun t' e2 k2 ty2 xs2 pins2 h1=>?_,fun t' ty2 cs2 h1=>?_⟩
 ·rw [ab]
  split
  ·rename_i ht
   subst ht
   rw [h] at h1
   injection h1 with h1
   injection h1 with e1 e2 e3 e4 e5
   subst e3
   have e4:=eq_of_heq e4
   subst e4 e5
   exact ⟨e,k,ty,xs',pins',rfl,hl,hp⟩
  ·exact ⟨e2,k2,ty2,xs2,pins2,h1,rfl,fun _ pin hp=>⟨pin,hp,rfl⟩⟩
 ·have : ¬ t' = t:=fun e=>by rw [e,h] at h1; cases h1
  exact ⟨_,_,by rw [ab,if_neg this]; exact h1⟩
def uU (t:Nat) : aj→aj
 | .st ty cs=>.st ty (cX t cs)
 | b=>b
theorem dn (t:Nat) : ∀ (l:List (Nat×Option aj)) (i:Nat),lkB (fj t l) i=(lkB l i).map (uU t)
 | [],_=>rfl
 | (j,none)::l,i=>by simp only [fj,ab,dn t l i]; split <;> rfl
 | (j,some (.st ty cs))::l,i=>by simp only [fj,ab,dn t l i]; split <;> rfl
 | (j,some (.rw e k ty xs pins))::l,i=>by simp only [fj,ab,dn t l i]; split <;> rfl
theorem nB (t:Nat) : ∀ (l:List (Nat×SV)) (i:Nat),lkV (pQ t l) i=stale t (lkV l i)
 | [],_=>rfl
 | (j,v)::l,i=>by simp only [pQ,bj,nB t l i]; split <;> rfl
theorem er (t:Nat) : ∀ (cs:List SV) (j:Nat),(cX t cs)[j]? = (cs[j]?).map (stale t)
 | [],j=>by simp [cX]
 | c::cs,0=>by simp [cX]
 | c::cs,j + 1=>by simpa [cX] using er t cs j
theorem dD (t:Nat) : ∀ cs:List SV,(cX t cs).length=cs.length
 | []=>rfl
 | c::cs=>by simp [cX,dD t cs]
structure AF (t:Nat) (B B':List (Nat×Option aj)) : Prop where
 rw:∀ t',t'≠t→∀ e k ty xs pins,lkB B t' = some (.rw e k ty xs pins)→lkB B' t' = some (.rw e k ty xs pins)
 st:∀ t' ty cs,lkB B t' = some (.st ty cs)→∃ ty' cs',lkB B' t' = some (.st ty' cs')
theorem an.stale {B':List (Nat×Option aj)} {t:Nat} {v:SV} {q:PV} (h:an B v q) (hB:AF t B B') : an B' (stale t v) q:=by
 induction h with
 | junk q=>exact .junk q
 | d c y h=>exact .d c y h
 | ag cs qs hl hr ih =>
  refine .ag _ qs (by rw [dD]; exact hl) (fun j c q h1 h2=>?_)
  rw [er,zm] at h1
  obtain ⟨c',h3,rfl⟩:=h1
  exact ih j c' q h3 h2
 | tup cs qs hl hr ih =>
  refine .tup _ qs (by rw [dD]; exact hl) (fun j c q h1 h2=>?_)
  rw [er,zm] at h1
  obtain ⟨c',h3,rfl⟩:=h1
  exact ih j c' q h3 h2
 | ptr t' o ty cs hb=>obtain ⟨ty',cs',h1⟩:=hB.st t' ty cs hb; exact .ptr t' o ty' cs' h1
 | row t' n e k ty xs pins hb hn =>
  simp only [Go.Proofs.Ytkmpjphbkhpgbaa.stale,bk]
  by_cases h:t' = t
  ·simp only [h,decide_true]; exact .junk _
  ·simp only [h,decide_false]; exact .row t' n e k ty xs pins (hB.rw t' h _ _ _ _ _ hb) hn
 | re t' p o n i e k ty xs pins pin hb hn hp hi =>
  simp only [Go.Proofs.Ytkmpjphbkhpgbaa.stale,bk]
  by_cases h:t' = t
  ·simp only [h,decide_true]; exact .junk _
  ·simp only [h,decide_false]; exact .re t' p o n i e k ty xs pins pin (hB.rw t' h _ _ _ _ _ hb) hn hp hi
 | vw t' lo hi n e k ty xs pins hb hn =>
  simp only [Go.Proofs.Ytkmpjphbkhpgbaa.stale,bk]
  by_cases h:t' = t
  ·simp only [h,decide_true]; exact .junk _
  ·simp only [h,decide_false]; exact .vw t' lo hi n e k ty xs pins (hB.rw t' h _ _ _ _ _ hb) hn
 | fe cs ds h hn=>exact .fe cs ds h hn
 | fn f ps qs ps' qs' hl hr hl2 hr2 ih ih2 =>
  refine .fn f _ _ ps' qs' (by rw [dD]; exact hl) (fun j c q h1 h2=>?_) (by rw [dD]; exact hl2) (fun j c q h1 h2=>?_)
  ·rw [er,zm] at h1
   obtain ⟨c',h3,rfl⟩:=h1
   exact ih j c' q h3 h2
  ·rw [er,zm] at h1
   obtain ⟨c',h3,rfl⟩:=h1
   exact ih2 j c' q h3 h2
theorem aL.stale {B':List (Nat×Option aj)} {t:Nat} {cs:List SV} {qs:List PV} (h:aL B cs qs) (hB:AF t B B') : aL B' (cX t cs) qs :=
 ⟨by rw [dD]; exact h.len,fun j c q h1 h2=>by
  rw [er,zm] at h1
  obtain ⟨c',h3,rfl⟩:=h1
  exact (h.rep j c' q h3 h2).stale hB⟩
theorem AR (hs:Sim s p) {dst:Option Nat} {v:SV} {q:PV} {t e k:Nat} {ty:Ty} {zs xs0:List ty.den} {pins0:List (Nat×Pin)} (h0:lkB s.bx t=some (.rw e k ty xs0 pins0)) (hv:an ((t,some (.rw e k ty zs []))::fj t s.bx) v q) :
  Sim (s.upd dst v (.grow t (.rw e k ty zs []))) (p.upd dst q (some (t,.rw e k (zs.map (aA ty))))):=by
 have hX:AF t s.bx ((t,some (.rw e k ty zs []))::fj t s.bx):=by
  refine ⟨fun t' ht e2 k2 ty2 xs2 pins2 h=>?_,fun t' ty2 cs2 h=>?_⟩
  ·rw [ab,if_neg ht,dn,h]
   rfl
  ·have : ¬ t' = t:=fun e=>by rw [e,h0] at h; cases h
   rw [ab,if_neg this,dn,h]
   exact ⟨_,_,rfl⟩
 refine ni (fun i _=>?_) (fun t'=>?_) hv
 ·rw [nB]
  exact (hs.sl i).stale hX
 ·rw [ab]
  simp only [bt]
  split
  ·exact ⟨rfl,fun p pin h=>by cases h⟩
  ·rename_i ht
   rw [dn]
   have h:=hs.bx t'
   cases hb:lkB s.bx t' with
   | none=>rw [hb] at h; exact h
   | some b =>
    rw [hb] at h
    cases b with
    | st ty2 cs=>obtain ⟨qs,h1,h2⟩:=h; exact ⟨qs,h1,h2.stale hX⟩
    | rw e2 k2 ty2 xs2 pins2=>exact h
def dP:Option aj→Option aj→Prop
 | some (.rw e k ty xs _),b=>∃ pins',b=some (.rw e k ty xs pins')
 | a,b=>b=a
theorem dP.refl (a:Option aj) : dP a a:=by
 match a with
 | none=>rfl
 | some (.st _ _)=>rfl
 | some (.rw _ _ _ _ pins)=>exact ⟨pins,rfl⟩
theorem dP.trans {a b c:Option aj} (h:dP a b) (h':dP b c) : dP a c:=by
 match a,h with
 | none,h=>cases h; exact h'
 | some (.st _ _),h=>cases h; exact h'
 | some (.rw _ _ _ _ _),⟨pins,h⟩ =>
  subst h
  obtain ⟨pins',h'⟩:=h'
  exact ⟨pins',h'⟩
mutual
def dX (pr:List Nat) : SV→Bool
 | .row t=>ae pr t
 | .re _ _ _=>false
 | .vw _ _ _=>false
 | .ag cs=>b4 pr cs
 | .tup cs=>b4 pr cs
 | .fn _ ps qs=>b4 pr ps&&b4 pr qs
 | _=>true
def b4 (pr:List Nat) : List SV→Bool
 | []=>true
 | c::cs=>dX pr c&&b4 pr cs
end
structure bM (sc W:List Nat) (s s':SS) : Prop where
 pr:s'.pr=s.pr
 ro:s'.ro=s.ro
 bx:∀ t,ae s.pr t=true→dP (lkB s.bx t) (lkB s'.bx t)
 sl:∀ i,ae W i=false→dX s.pr (lkV s.sl i)=true→lkV s'.sl i=lkV s.sl i
 st:∀ t,ae sc t=true→∀ ty cs,lkB s.bx t=some (.st ty cs)→∃ cs',lkB s'.bx t=some (.st ty cs')∧cs'.length=cs.length
variable {sc:List Nat}
theorem bM.refl (W:List Nat) (s:SS) : bM sc W s s:=⟨rfl,rfl,fun _ _=>.refl _,fun _ _ _=>rfl,fun _ _ _ cs h=>⟨cs,h,rfl⟩⟩
theorem bM.trans {W:List Nat} {s s' s'':SS} (h:bM sc W s s') (h':bM sc W s' s'') : bM sc W s s'' :=
 ⟨h'.pr.trans h.pr,h'.ro.trans h.ro,fun t ht=>(h.bx t ht).trans (h'.bx t (by rw [h.pr]; exact ht)),fun i hi hsf=>by
  have e:=h.sl i hi hsf
  rw [h'.sl i hi (by rw [e,h.pr]; exact hsf),e],fun t ht ty cs h1=>by
  obtain ⟨cs1,h2,h3⟩:=h.st t ht ty cs h1
  obtain ⟨cs2,h4,h5⟩:=h'.st t ht ty cs1 h2
  exact ⟨cs2,h4,h5.trans h3⟩⟩
theorem bM.wide {W W':List Nat} {s s':SS} (h:bM sc W s s') (hW:∀ i,ae W i=true→ae W' i=true) : bM sc W' s s' :=
 ⟨h.pr,h.ro,h.bx,fun i hi hsf=>h.sl i (by cases e:ae W i; rfl; rw [hW i e] at hi; cases hi) hsf,h.st⟩
theorem mn {s:SS} {t:Nat} (h:wrB s t=true) : s.ro=false∧ae s.pr t=false:=by
 unfold wrB at h
 split at h
 ·cases h
 ·rename_i h1; exact ⟨h1,by simpa using h⟩
theorem eE {s:SS} {t:Nat} (h:tR s t=true) : ae s.oc t=false∧ae s.pr t=false:=by
 unfold tR at h
 split at h
 ·cases h
 ·rename_i h1; exact ⟨h1,by simpa using h⟩
def OkU (s:SS) : Upd→Prop
 | .no=>True
 | .new t _=>ae s.pr t=false∧lkB s.bx t=none
 | .set t b=>ae s.pr t=false∧∀ ty cs,lkB s.bx t=some (.st ty cs)→∃ cs',b = .st ty cs'∧cs'.length=cs.length
 | .grow t _=>ae s.pr t=false∧∀ ty cs,lkB s.bx t≠some (.st ty cs)
 | .pin t b=>dP (lkB s.bx t) (some b)
def OkW (s:SS) (dst:Option Nat) (u:Upd) (w:Option (Nat×Box)) : Prop:=∀ t b,w=some (t,b)→((lkB s.bx t=none∧dst=some t)∨s.ro=false)∧cn.memL (AL u) t=true
theorem bJ {s:SS} {dst:Option Nat} {u:Upd} : OkW s dst u none:=fun _ _ h=>by cases h
theorem qn (t:Nat) : cn.memL [t] t=true:=by rw [ny]; simp
theorem mG {s:SS} {dst:Option Nat} {t:Nat} {b:Box} {sb:aj} (h:lkB s.bx t=none) (hd:dst=some t) : OkW s dst (.new t sb) (some (t,b)):=fun t' b' e=>by injection e with e; injection e with e1 e2; subst e1; exact ⟨.inl ⟨h,hd⟩,qn t⟩
theorem w9 {s:SS} {dst:Option Nat} {t:Nat} {b:Box} {sb:aj} (h:s.ro=false) : OkW s dst (.set t sb) (some (t,b)):=fun t' b' e=>by injection e with e; injection e with e1 e2; subst e1; exact ⟨.inr h,qn t⟩
theorem Ed {s:SS} {dst:Option Nat} {t:Nat} {b:Box} {sb:aj} (h:s.ro=false) : OkW s dst (.grow t sb) (some (t,b)):=fun t' b' e=>by injection e with e; injection e with e1 e2; subst e1; exact ⟨.inr h,qn t⟩
theorem qk {pr:List Nat} {t t':Nat} (ht:ae pr t=false) (h:ae pr t' = true) : ¬ t' = t:=fun e=>by rw [e,ht] at h; cases h
mutual
theorem pP {pr:List Nat} {t:Nat} (ht:ae pr t=false) : ∀ v:SV,dX pr v=true→stale t v=v
 | .junk,_=>rfl
 | .d _,_=>rfl
 | .fe _,_=>rfl
 | .ptr _ _,_=>rfl
 | .row t',h=>by
  have:=qk ht (show ae pr t' = true from h)
  simp only [stale,bk,this,decide_false]
 | .re _ _ _,h=>by cases h
 | .vw _ _ _,h=>by cases h
 | .ag cs,h=>by simp only [stale]; rw [eS ht cs h]
 | .tup cs,h=>by simp only [stale]; rw [eS ht cs h]
 | .fn f ps qs,h=>by
  have h:(b4 pr ps&&b4 pr qs)=true:=h
  rw [Bool.and_eq_true] at h
  simp only [stale]; rw [eS ht ps h.1,eS ht qs h.2]
theorem eS {pr:List Nat} {t:Nat} (ht:ae pr t=false) : ∀ cs:List SV,b4 pr cs=true→cX t cs=cs
 | [],_=>rfl
 | c::cs,h=>by
  simp only [b4,Bool.and_eq_true] at h
  simp only [cX]
  rw [pP ht c h.1,eS ht cs h.2]
end
mutual
theorem uT {t:Nat} : ∀ v:SV,gj v=true→stale t v=v
 | .junk,_=>rfl
 | .d _,_=>rfl
 | .fe _,_=>rfl
 | .ptr _ _,_=>rfl
 | .row _,h=>by cases h
 | .re _ _ _,h=>by cases h
 | .vw _ _ _,h=>by cases h
 | .ag cs,h=>by simp only [stale]; rw [dk cs h]
 | .tup cs,h=>by simp only [stale]; rw [dk cs h]
 | .fn f ps qs,h=>by
  have h:(match aZ ps with | true=>aZ qs | false=>false)=true:=h
  split at h
  ·rename_i h1; simp only [stale]; rw [dk ps h1,dk qs h]
  ·cases h
theorem dk {t:Nat} : ∀ cs:List SV,aZ cs=true→cX t cs=cs
 | [],_=>rfl
 | c::cs,h=>by
  simp only [aZ] at h
  split at h
  ·rename_i h1
   simp only [cX]
   rw [uT c h1,dk cs h]
  ·cases h
end
def ed (s:SS) : Prop:=∀ t,ae s.pr t=true→∃ b,lkB s.bx t=some b∧mB b=true
theorem bM.prOk {W:List Nat} {s s':SS} (h:bM sc W s s') (hp:ed s) : ed s':=by
 intro t ht
 rw [h.pr] at ht
 obtain ⟨b,h1,h2⟩:=hp t ht
 have:=h.bx t ht
 rw [h1] at this
 cases b with
 | st ty cs=>exact ⟨_,this,h2⟩
 | rw e k ty xs pins =>
  obtain ⟨pins',h3⟩:=this
  exact ⟨_,h3,rfl⟩
theorem mO {W:List Nat} {dst:Option Nat} {v:SV} {u:Upd} (hu:OkU s u) (hW:∀ d,dst=some d→ae W d=true) (hpr:ed s) : bM sc W s (s.upd dst v u):=by
 have sl:∀ i,ae W i=false→lkV (jc s.sl dst v) i=lkV s.sl i:=fun i hi=>by
  rw [kQ,if_neg (fun e=>by rw [hW i e] at hi; cases hi)]
 have one:∀ t b,ae s.pr t=false→∀ t',ae s.pr t' = true→dP (lkB s.bx t') (lkB ((t,some b)::s.bx) t'):=fun t b ht t' ht'=>by
  rw [ab,if_neg (fun e=>by rw [e,ht] at ht'; cases ht')]
  exact .refl _
 cases u with
 | no=>exact ⟨rfl,rfl,fun _ _=>.refl _,fun i hi _=>sl i hi,fun _ _ _ cs h=>⟨cs,h,rfl⟩⟩
 | new t b =>
  refine ⟨rfl,rfl,one t b hu.1,fun i hi _=>sl i hi,fun t' _ ty cs h=>⟨cs,?_,rfl⟩⟩
  show lkB ((t,some b)::s.bx) t' = _
  rw [ab,if_neg (fun e=>by rw [e,hu.2] at h; cases h)]
  exact h
 | set t b =>
  refine ⟨rfl,rfl,one t b hu.1,fun i hi _=>sl i hi,fun t' _ ty cs h=>?_⟩
  show ∃ cs',lkB ((t,some b)::s.bx) t' = _∧_
  rw [ab]
  by_cases e:t' = t
  ·rw [if_pos e]
   rw [e] at h
   obtain ⟨cs',h1,h2⟩:=hu.2 ty cs h
   exact ⟨cs',by rw [h1],h2⟩
  ·rw [if_neg e]; exact ⟨cs,h,rfl⟩
 | pin t b =>
  refine ⟨rfl,rfl,fun t' _=>?_,fun i hi _=>sl i hi,fun t' _ ty cs h=>?_⟩
  ·show dP _ (lkB ((t,some b)::s.bx) t')
   rw [ab]
   split
   ·rename_i e; subst e; exact hu
   ·exact .refl _
  ·show ∃ cs',lkB ((t,some b)::s.bx) t' = _∧_
   rw [ab]
   by_cases e:t' = t
   ·rw [if_pos e]
    have hu:dP (lkB s.bx t) (some b):=hu
    rw [← e,h] at hu
    exact ⟨cs,hu,rfl⟩
   ·rw [if_neg e]; exact ⟨cs,h,rfl⟩
 | grow t b =>
  refine ⟨rfl,rfl,fun t' ht'=>?_,fun i hi hsf=>?_,fun t' _ ty cs h=>?_⟩
  ·show dP _ (lkB ((t,some b)::fj t s.bx) t')
   rw [ab,if_neg (fun e=>by rw [e,hu.1] at ht'; cases ht'),dn]
   obtain ⟨b',h1,h2⟩:=hpr t' ht'
   rw [h1]
   cases b' with
   | st ty cs=>simp only [Option.map_some,uU]; rw [dk cs h2]; rfl
   | rw e k ty xs pins=>exact ⟨pins,rfl⟩
  ·show lkV (jc (pQ t s.sl) dst v) i = _
   rw [kQ,if_neg (fun e=>by rw [hW i e] at hi; cases hi),nB]
   exact pP hu.1 _ hsf
  ·show ∃ cs',lkB ((t,some b)::fj t s.bx) t' = _∧_
   rw [ab,if_neg (fun e=>hu.2 ty cs (by rw [← e]; exact h)),dn,h]
   exact ⟨_,rfl,dD t cs⟩
end
section
variable {B:List (Nat×Option aj)} {s:SS} {p:PS} {P:Program} {ρ : Type}
theorem th {v:Value} {c:SD} (h:tj v=some c) : uL c (.v v)∧v.oneCell' = true:=by
 unfold tj at h
 split at h
 ·injection h with h; subst h; exact ⟨rfl,rfl⟩
 ·injection h with h; subst h; exact ⟨rfl,rfl⟩
 ·injection h with h; subst h; exact ⟨rfl,rfl⟩
 ·injection h with h; subst h; exact ⟨rfl,rfl⟩
 ·cases h
theorem mg {B:List (Nat×Option aj)} : ∀ {l:List Value} {cs:List SV},rC l=some cs→aL B cs (l.map fun x=>.d (.v x))∧∀ x∈l,x.oneCell' = true
 | [],cs,h=>by injection h with h; subst h; exact ⟨.nil,fun x hx=>by cases hx⟩
 | v::l,cs,h=>by
  simp only [rC] at h
  split at h
  ·rename_i c cs' h1 h2
   injection h with h
   subst h
   obtain ⟨k1,k2⟩:=th h1
   obtain ⟨k3,k4⟩:=mg h2
   refine ⟨.cons (.d _ _ k1) k3,fun x hx=>?_⟩
   rcases List.mem_cons.1 hx with rfl | hx
   ·exact k2
   ·exact k4 x hx
  ·cases h
theorem C8 {v:Value} (e:qj v = .d (.v v)) : an B (match tj v with | some c=>.d c | none=>.junk) (qj v):=by
 split
 ·rename_i c h
  rw [e]
  exact .d _ _ (th h).1
 ·exact .junk _
theorem ru (v:Value) : an B (ur v) (qj v):=by
 have key:=C8 (B:=B) (v:=v)
 cases v with
 | agg xs =>
  simp only [ur]
  split
  ·rename_i cs h
   obtain ⟨h1,h2⟩:=mg (B:=B) h
   have:xs.all (·.oneCell')=true:=by
    rw [← Array.all_toList,List.all_eq_true]
    exact h2
   simp only [qj,this,if_true]
   exact .ag _ _ h1.len h1.rep
  ·exact .junk _
 | tuple xs=>exact .junk _
 | _=>exact key rfl
theorem aI (hs:Sim s p) (x:Operand) : an s.bx (evX s x) (ev p x):=by
 cases x with
 | tmp i=>exact hs.sl i
 | const v=>exact ru v
 | global g=>exact .junk _
 | func f=>exact .fn f [] [] [] [] rfl (fun j c q h=>by simp at h) rfl (fun j c q h=>by simp at h)
theorem dv {k:IntKind} {x:Int} {q:PV} (h:an B (.d (.int k x)) q) : q = .d (.v (.int k x)):=by
 cases h with
 | d c y h=>rw [BC (show nrm y = .v _ from h)]
theorem dV {x:Bool} {q:PV} (h:an B (.d (.bool x)) q) : q = .d (.v (.bool x)):=by
 cases h with
 | d c y h=>rw [BC (show nrm y = .v _ from h)]
theorem ia {x:ByteArray} {q:PV} (h:an B (.d (.str x)) q) : q = .d (.v (.string x)):=by
 cases h with
 | d c y h=>rw [BC (show nrm y = .v _ from h)]
theorem xS {q:PV} (h:an B (.d .nl) q) : q = .d (.v (.slice none 0 0)):=by
 cases h with
 | d c y h=>rw [show y = .v (.slice none 0 0) from h]
theorem xR {ty:Ty} {xs:List ty.den} {q:PV} (h:an B (.d (.sl ty xs)) q) : q = .d (.sl (xs.map (aA ty)))∨(xs = []∧q = .d (.v (.slice none 0 0))):=by
 cases h with
 | d c y h =>
  rcases Ef (show nrm y = .sl _ from h) with h | ⟨h1,h2⟩
  ·rw [h]; exact .inl rfl
  ·rw [h2]; exact .inr ⟨by simpa using h1,rfl⟩
theorem pF {cs:List SV} {q:PV} (h:an B (.ag cs) q) : ∃ qs,q = .ag qs∧aL B cs qs:=by
 cases h with
 | ag _ qs hl hr=>exact ⟨qs,rfl,hl,hr⟩
theorem AH {cs:List SV} {q:PV} (h:an B (.tup cs) q) : ∃ qs,q = .tup qs∧aL B cs qs:=by
 cases h with
 | tup _ qs hl hr=>exact ⟨qs,rfl,hl,hr⟩
theorem cv (k:IntKind) (x:Int) : an B (.d (.int k x)) (.d (.v (.int k x))):=.d _ _ rfl
theorem ch (x:Bool) : an B (.d (.bool x)) (.d (.v (.bool x))):=.d _ _ rfl
theorem lg (x:ByteArray) : an B (.d (.str x)) (.d (.v (.string x))):=.d _ _ rfl
theorem wB (ty:Ty) (xs:List ty.den) : an B (.d (.sl ty xs)) (.d (.sl (xs.map (aA ty)))):=.d _ _ rfl
theorem tH (hs:Sim s p) {t:Nat} {q:PV} {c:SD} (hv:an s.bx (.row t) q) (h:CU s t=some c) : ∃ e k ty xs pins,lkB s.bx t=some (.rw e k ty xs pins)∧c = .sl ty xs∧q = .row t xs.length∧p.b t=some (.rw e k (xs.map (aA ty))):=by
 unfold CU at h
 split at h
 ·rename_i e k ty xs pins hb
  injection h with h
  have hbx:=hs.bx t
  rw [hb] at hbx
  cases hv with
  | row _ n e2 k2 ty2 xs2 pins2 hb2 hn =>
   rw [hb] at hb2
   injection hb2 with hb2
   injection hb2 with e1 e2 e3 e4 e5
   subst e3
   have e4:=eq_of_heq e4
   subst e4
   exact ⟨e,k,ty,xs,pins,hb,h.symm,by rw [hn],hbx.1⟩
 ·cases h
theorem up (hs:Sim s p) {v:SV} {q:PV} {ty:Ty} {xs:List ty.den} (hv:an s.bx v q) (h:i1 s v=some (.sl ty xs)) : dS p.b q=some (xs.map (aA ty)):=by
 unfold i1 at h
 split at h
 ·injection h with h
  subst h
  rcases xR hv with rfl | ⟨rfl,rfl⟩
  ·rfl
  ·simp [dS]
 ·obtain ⟨e,k,ty2,xs2,pins,h1,h2,rfl,h4⟩:=tH hs hv h
  injection h2 with e1 e2
  subst e1
  have e2:=eq_of_heq e2
  subst e2
  simp [dS,h4]
 ·cases h
theorem DB {v:SV} {q:PV} (hv:an s.bx v q) (h:i1 s v=some .nl) : q = .d (.v (.slice none 0 0)):=by
 unfold i1 at h
 split at h
 ·injection h with h
  subst h
  exact xS hv
 ·unfold CU at h
  split at h
  ·injection h with h; cases h
  ·cases h
 ·cases h
theorem Cl (hs:Sim s p) {v:SV} {q:PV} {c:SD} (hv:an s.bx v q) (h:i1 s v=some c) : asData p.b q = .d c.toD∧(gj v=true→clean q=true∧asData bW q = .d c.toD):=by
 unfold i1 at h
 split at h
 ·injection h with h
  subst h
  cases hv with
  | d c y h=>simp only [asData,h.nrm,clean,and_self,implies_true]
 ·obtain ⟨e,k,ty2,xs2,pins,h1,rfl,rfl,h4⟩:=tH hs hv h
  refine ⟨by simp [asData,h4,SD.toD],fun h=>by simp [gj] at h⟩
 ·cases h
theorem yS (hs:Sim s p) : ∀ {cs:List SV} {qs:List PV} {ds:List SD},aL s.bx cs qs→uo s cs=some ds→aE p.b qs=ds.map (fun c=>.d c.toD)∧(aZ cs=true→ba qs=true∧aE bW qs=ds.map (fun c=>.d c.toD))
 | [],qs,ds,h,hd=>by
  rcases h.cases with ⟨_,rfl⟩ | ⟨_,_,_,_,h1,_⟩
  ·injection hd with hd; subst hd; simp [aE,ba]
  ·cases h1
 | c::cs,qs,ds,h,hd=>by
  rcases h.cases with ⟨h1,_⟩ | ⟨c',q,cs',qs',h1,rfl,h2,h3⟩
  ·cases h1
  ·injection h1 with e1 e2
   subst e1 e2
   simp only [uo] at hd
   split at hd
   ·rename_i d ds' k1 k2
    injection hd with hd
    subst hd
    obtain ⟨m1,m2⟩:=Cl hs h2 k1
    obtain ⟨m3,m4⟩:=yS hs h3 k2
    refine ⟨by simp [aE,m1,m3],fun hn=>?_⟩
    simp only [aZ] at hn
    split at hn
    ·rename_i hn1
     obtain ⟨n1,n2⟩:=m2 hn1
     obtain ⟨n3,n4⟩:=m4 hn
     simp [aE,ba,n1,n2,n3,n4]
    ·cases hn
   ·cases hd
theorem nX {v:SV} {q:PV} {cs:List SV} (hv:an B v q) (h:uC v=some cs) : ∃ qs,nY q=some qs∧aL B cs qs:=by
 cases hv with
 | junk q=>cases h
 | tup=>cases h
 | ag cs' qs hl hr=>injection h with h; subst h; exact ⟨qs,rfl,hl,hr⟩
 | d c y hd=>injection h with h; subst h; exact ⟨_,rfl,.cons (.d c y hd) .nil⟩
 | ptr t o ty cs' hb=>injection h with h; subst h; exact ⟨_,rfl,.cons (.ptr t o ty cs' hb) .nil⟩
 | row t n e k ty xs pins hb hn=>injection h with h; subst h; exact ⟨_,rfl,.cons (.row t n e k ty xs pins hb hn) .nil⟩
 | re t p o n i e k ty xs pins pin hb hn hp hi=>injection h with h; subst h; exact ⟨_,rfl,.cons (.re t p o n i e k ty xs pins pin hb hn hp hi) .nil⟩
 | vw t lo hi n e k ty xs pins hb hn=>injection h with h; subst h; exact ⟨_,rfl,.cons (.vw t lo hi n e k ty xs pins hb hn) .nil⟩
 | fe cs' ds hd hn=>injection h with h; subst h; exact ⟨_,rfl,.cons (.fe cs' ds hd hn) .nil⟩
 | fn f ps qs ps' qs' hl hr hl2 hr2=>injection h with h; subst h; exact ⟨_,rfl,.cons (.fn f ps qs ps' qs' hl hr hl2 hr2) .nil⟩
theorem vg {cs:List SV} {qs:List PV} (h:aL B cs qs) {size:Nat} {agg:Bool} {v:SV} (hp:yg size agg cs=some v) : ∃ q,oy size agg qs=some q∧an B v q:=by
 unfold yg at hp
 unfold oy
 split at hp
 ·rename_i ha
  rw [if_pos ha]
  split at hp
  ·rename_i hl
   injection hp with hp
   subst hp
   rw [h.len] at hl
   rw [if_pos hl]
   have:=h.take size
   exact ⟨_,rfl,.ag _ _ this.len this.rep⟩
  ·cases hp
 ·rename_i ha
  rw [if_neg ha]
  rcases h.cases with ⟨rfl,rfl⟩ | ⟨c,q,cs',qs',rfl,rfl,h1,h2⟩
  ·cases hp
  ·injection hp with hp; subst hp; exact ⟨q,rfl,h1⟩
theorem qp (cs:List SD) (h:∀ c∈cs,c≠.nl) : aL B (nA cs) ((cs.map SD.toD).map .d):=by
 induction cs with
 | nil=>exact .nil
 | cons c cs ih=>exact .cons (.d _ _ (uL.of (h c List.mem_cons_self))) (ih fun c hc=>h c (List.mem_cons_of_mem _ hc))
end
section
variable {B:List (Nat×Option aj)} {s:SS} {p:PS} {P:Program} {ρ : Type}
def ml (s:SS) (k:SV→Option ρ) (res : ρ) (e:Option PV) : Prop:=∃ v q,e=some q∧k v=some res∧an s.bx v q
theorem bD {k:SV→Option ρ} {res : ρ} {e:Option PV} {v:SV} {q:PV} (he:e=some q) (hk:k v=some res) (hv:an s.bx v q) : ml s k res e:=⟨v,q,he,hk,hv⟩
theorem BK {x:Operand} {n:Int} {kd:IntKind} {y:Int} (h:BP x=some n) (hy:evX s x = .d (.int kd y)) : y=n:=by
 unfold BP at h
 split at h
 ·injection h with h
  subst h
  simp only [evX,ur,tj] at hy
  injection hy with hy
  injection hy with _ hy
  exact hy.symm
 ·cases h
theorem Aj {op:BinOp} {kd:IntKind} {lit:Option Int} {x y:Int} {k:SV→Option ρ} {res : ρ} (hl:∀ n,lit=some n→y=n) (h:xF op kd lit x y k=some res) : ml s k res (m7 op kd x y):=by
 cases op <;> simp only [xF] at h
 case add=>exact bD rfl h (cv _ _)
 case sub=>exact bD rfl h (cv _ _)
 case mul=>exact bD rfl h (cv _ _)
 case quo =>
  split at h
  ·rename_i n
   obtain ⟨h1,h2⟩:=aa h
   have hy:=hl n rfl
   subst hy
   have : ¬ y=0:=by simpa using h1
   exact bD (by simp [m7,this]) h2 (cv _ _)
  ·obtain ⟨q,h1,h2⟩:=a8 h
   split at h1
   ·cases h1
   ·rename_i hy
    injection h1 with h1
    subst h1
    exact bD (by simp [m7,hy]) h2 (cv _ _)
 case rem =>
  split at h
  ·rename_i n
   obtain ⟨h1,h2⟩:=aa h
   have hy:=hl n rfl
   subst hy
   have : ¬ y=0:=by simpa using h1
   exact bD (by simp [m7,this]) h2 (cv _ _)
  ·obtain ⟨q,h1,h2⟩:=a8 h
   unfold CW at h1
   split at h1
   ·cases h1
   ·rename_i hy
    injection h1 with h1
    subst h1
    exact bD (by simp [m7,hy]) h2 (cv _ _)
 case eql=>exact bD rfl h (ch _)
 case neq=>exact bD rfl h (ch _)
 case lss=>exact bD rfl h (ch _)
 case leq=>exact bD rfl h (ch _)
 case gtr=>exact bD rfl h (ch _)
 case geq=>exact bD rfl h (ch _)
 case and=>exact bD rfl h (cv _ _)
 case or=>exact bD rfl h (cv _ _)
 case xor=>exact bD rfl h (cv _ _)
 all_goals cases h
theorem y8 {op:BinOp} {kd:IntKind} {lit:Option Int} {x y:Int} {k:SV→Option ρ} {res : ρ} (hl:∀ n,lit=some n→y=n) (h:wN op kd lit x y k=some res) : ml s k res (jd op kd x y):=by
 unfold wN at h
 split at h
 ·rename_i n
  obtain ⟨h1,h2⟩:=aa h
  have hy:=hl n rfl
  subst hy
  have : ¬ y < 0:=by have:=zd h1; omega
  split at h2
  ·exact bD (by simp [jd,this]) h2 (cv _ _)
  ·exact bD (by simp [jd,this]) h2 (cv _ _)
  ·cases h2
 ·obtain ⟨u,h1,h2⟩:=a8 h
  split at h1
  ·cases h1
  ·rename_i hy
   split at h2
   ·exact bD (by simp [jd,hy]) h2 (cv _ _)
   ·exact bD (by simp [jd,hy]) h2 (cv _ _)
   ·cases h2
theorem y4 {op:BinOp} {x y:ByteArray} {k:SV→Option ρ} {res : ρ} (h:wG op x y k=some res) : ml s k res (uR op x y):=by
 cases op <;> simp only [wG] at h
 case add =>
  obtain ⟨z,h1,h2⟩:=a8 h
  unfold DK at h1
  split at h1
  ·rename_i hz
   injection h1 with h1
   subst h1
   exact bD (by simp only [uR,hz,if_true]) h2 (lg _)
  ·cases h1
 case eql=>exact bD rfl h (ch _)
 case neq=>exact bD rfl h (ch _)
 case lss=>exact bD rfl h (ch _)
 case leq=>exact bD rfl h (ch _)
 case gtr=>exact bD rfl h (ch _)
 case geq=>exact bD rfl h (ch _)
 all_goals cases h
theorem wC {op:BinOp} {x y:Bool} {k:SV→Option ρ} {res : ρ} (h:tw op x y k=some res) : ml s k res (ic op x y):=by
 cases op <;> simp only [tw] at h
 case eql=>exact bD rfl h (ch _)
 case neq=>exact bD rfl h (ch _)
 all_goals cases h
theorem sV:∀ {l m:List Nat},ub l m=true→l=m
 | [],[],_=>rfl
 | [],_ :: _,h=>by cases h
 | _ :: _,[],h=>by cases h
 | a::l,b::m,h=>by
  simp only [ub,bk] at h
  by_cases e:a=b
  ·simp only [e,decide_true] at h; rw [e,sV h]
  ·simp only [e,decide_false] at h; cases h
theorem sW {c d:SD} {q w:PV} {n:Nat} {r:Bool} (hc:an B (.d c) q) (hd:an B (.d d) w) (hn:xg (.d c)=some n) (h:jq c d=some r) : nP n q w=some r:=by
 cases c with
 | int k a =>
  cases d <;> simp only [jq] at h <;> try cases h
  rw [dv hc,dv hd]
  injection hn with hn
  subst hn
  exact h
 | bool a =>
  cases d <;> simp only [jq] at h <;> try cases h
  rw [dV hc,dV hd]
  injection hn with hn
  subst hn
  rfl
 | str a =>
  cases d <;> simp only [jq] at h <;> try cases h
  rw [ia hc,ia hd]
  injection hn with hn
  subst hn
  rfl
 | sl t xs=>cases hn
 | nl=>cases hn
theorem Dk:∀ {cs ds:List SV} {qs ws:List PV} {l:List Nat} {r:Bool},aL B cs qs→aL B ds ws→pn cs=some l→oI cs ds=some r→dA l qs ws=some r:=by
 intro cs
 induction cs with
 | nil=>intro ds qs ws l r _ _ _ h; cases ds <;> simp [oI] at h
 | cons c cs ih =>
  intro ds qs ws l r hc hd hl h
  rcases hc.cases with ⟨h1,_⟩ | ⟨c',q,cs',qs',h1,rfl,hcq,hcs⟩
  ·cases h1
  injection h1 with e1 e2
  subst e1 e2
  rcases hd.cases with ⟨rfl,_⟩ | ⟨d,w,ds',ws',rfl,rfl,hdw,hds⟩
  ·cases c <;> cases cs <;> simp [oI] at h
  simp only [pn] at hl
  split at hl
  ·rename_i n l' hn hl'
   injection hl with hl
   subst hl
   cases c with
   | d c =>
    cases d with
    | d d =>
     by_cases hlast:cs = []∧ds' = []
     ·obtain ⟨rfl,rfl⟩:=hlast
      simp only [oI] at h
      have:=sW hcq hdw hn h
      rcases hcs.cases with ⟨_,rfl⟩ | ⟨_,_,_,_,h1,_⟩
      ·rcases hds.cases with ⟨_,rfl⟩ | ⟨_,_,_,_,h1,_⟩
       ·injection hl' with hl'
        subst hl'
        simp [dA,this]
       ·cases h1
      ·cases h1
     ·have h:(match jq c d,oI cs ds' with | some a,some r=>some (a&&r) | _,_=>none)=some r:=by
       cases cs with
       | nil=>cases ds' with
        | nil=>exact absurd ⟨rfl,rfl⟩ hlast
        | cons=>exact h
       | cons=>exact h
      split at h
      ·rename_i a r' k1 k2
       injection h with h
       subst h
       simp [dA,sW hcq hdw hn k1,ih hcs hds hl' k2]
      ·cases h
    | _=>cases cs <;> simp [oI] at h
   | _=>simp [xg] at hn
  ·cases hl
theorem DH {op:BinOp} {t:TypeId} {lit:Option Int} {v w:SV} {q r:PV} {k:SV→Option ρ} {res : ρ} (hv:an s.bx v q) (hw:an s.bx w r) (hl:∀ n kd y,lit=some n→w = .d (.int kd y)→y=n) (h:Eu P op t lit v w k=some res) : ml s k res (jx P op t q r):=by
 unfold Eu at h
 split at h
 ·rename_i kd x kd' y
  obtain rfl:=dv hv
  obtain rfl:=dv hw
  have e:jx P op t (.d (.v (.int kd x))) (.d (.v (.int kd' y)))=if tX op then jd op kd x y else if kd=kd' then m7 op kd x y else none:=rfl
  rw [e]
  split at h
  ·rename_i hs
   rw [if_pos hs]
   exact y8 (fun n hn=>hl n kd' y hn rfl) h
  ·rename_i hs
   rw [if_neg (by simp [hs])]
   split at h
   ·rename_i hk
    rw [if_pos hk]
    exact Aj (fun n hn=>hl n kd' y hn rfl) h
   ·cases h
 ·obtain rfl:=ia hv
  obtain rfl:=ia hw
  exact y4 h
 ·obtain rfl:=dV hv
  obtain rfl:=dV hw
  split at h
  ·rename_i hu
   rename_i x y _
   have e:jx P op t (.d (.v (.bool x))) (.d (.v (.bool y)))=ic op x y:=by simp [jx,asI,asS,asB,hu]
   rw [e]
   exact wC h
  ·cases h
 ·rename_i xs ys
  obtain ⟨qs,rfl,hq⟩:=pF hv
  obtain ⟨ws,rfl,hws⟩:=pF hw
  split at h
  ·rename_i l l' r h1 h2 h3
   obtain ⟨h4,h5⟩:=aa h
   obtain rfl:=sV h4
   have h6:=Dk hq hws h2 h3
   have e:jx P op t (.ag qs) (.ag ws)=ic op r true:=by simp [jx,asI,asS,asB,ug,h1,h6]
   rw [e]
   split at h5
   ·exact bD (by simp [ic]) h5 (ch _)
   ·exact bD (by simp [ic]) h5 (ch _)
   ·cases h5
  ·cases h
 ·cases h
theorem D0 {op:UnOp} {v:SV} {q:PV} {k:SV→Option ρ} {res : ρ} (hv:an s.bx v q) (h:unX op v k=some res) : ml s k res (yM op q):=by
 unfold unX at h
 split at h
 ·obtain rfl:=dV hv; exact bD rfl h (ch _)
 ·obtain rfl:=dv hv; exact bD rfl h (cv _ _)
 ·cases h
theorem oK:∀ (xs:List Int) (acc:ByteArray),kV (List.map (aA (.int .u8)) xs) acc=some (xs.foldl (fun r n=>r.push (UInt8.ofNat n.toNat)) acc)
 | [],acc=>rfl
 | x::xs,acc=>oK xs (acc.push (UInt8.ofNat x.toNat))
theorem rg {b:Nat→Option Box} {src dst e:TypeId} {q:PV} {x:Int} {xs:List Int} (h1:P.underlying src=some (.slice e)) (h2:P.underlying dst=some .string) (h3:P.underlying e=some (.int .u8)) (h4:dS b q=some (List.map (aA (.int .u8)) (x::xs))) :
  cN P b src dst q=(kV (List.map (aA (.int .u8)) (x::xs)) ByteArray.empty).map fun s=>.d (.v (.string s)):=by
 unfold cN
 rw [h1,h2]
 simp only [h3,h4]
 rfl
theorem rd {b:Nat→Option Box} {src dst:TypeId} {q:PV} {u:TypeDesc} (h1:P.underlying src=some u) (hne:∀ e,u = .slice e→False) : cN P b src dst q=jv P src dst q:=by
 unfold cN
 split
 ·rename_i e h3 h4
  rw [h1] at h3
  injection h3 with h3
  exact absurd h3 (hne e)
 ·rfl
theorem Cr (hs:Sim s p) {src dst:TypeId} {v:SV} {q:PV} {k:SV→Option ρ} {res : ρ} (hv:an s.bx v q) (h:Cs P s src dst v k=some res) : ml s k res (cN P p.b src dst q):=by
 unfold Cs at h
 split at h
 ·cases h
 ·rename_i e h1
  split at h
  ·rename_i h2
   split at h
   ·rename_i xs h3 h4
    obtain ⟨z,h5,h6⟩:=a8 h
    have h7:=up hs hv h4
    unfold ED at h5
    split at h5
    ·cases h5
    ·rename_i hne
     injection h5 with h5
     cases xs with
     | nil=>exact absurd rfl hne
     | cons x xs =>
      refine bD ?_ h6 (lg _)
      rw [rg h1 h2 h3 h7]
      exact congrArg (Option.map _) ((oK _ _).trans (congrArg some h5))
   ·cases h
  ·cases h
 ·rename_i u hne h1
  rw [show cN P p.b src dst q=jv P src dst q from rd h1 (fun e he=>hne e he)]
  split at h
  ·rename_i h2
   obtain rfl:=dv hv
   exact bD (by simp [jv,h1,h2,asI]) h (cv _ _)
  ·rename_i h2
   obtain rfl:=ia hv
   exact bD (by simp [jv,h1,h2,asS]) h (lg _)
  ·cases h
theorem rZ {t:TypeId} {f:Nat} {v:SV} {q:PV} {k:SV→Option ρ} {res : ρ} (hv:an s.bx v q) (h:l5 P t v f k=some res) : ml s k res (cH P t q f):=by
 unfold l5 at h
 split at h
 ·rename_i off size agg hf
  obtain ⟨h1,h2⟩:=aa h
  have hsz : ¬ size=0:=by simpa using h1
  split at h2
  ·cases hv with
   | ptr _ _ ty cs hb=>exact bD (by simp [cH,hf,hsz]) h2 (.ptr _ _ ty cs hb)
  ·cases hv with
   | fe cs ds hd hn=>exact bD (q:=.fe (ds.drop off)) (by simp [cH,hf,hsz]) h2 (.fe _ _ (by rw [hd,List.map_drop]) (fun c hc=>hn c (List.mem_of_mem_drop hc)))
  ·cases hv with
   | re _ _ _ n i e k ty xs pins pin hb hn hp hi=>exact bD (q:=.re _ n i (_ + off)) (by simp [cH,hf,hsz]) h2 (.re _ _ _ n i e k ty xs pins pin hb hn hp hi)
  ·cases h2
 ·cases h
theorem Db {v:SV} {q:PV} {k:SV→Option ρ} {res : ρ} (hv:an s.bx v q) (h:Eh v k=some res) : ml s k res (l8 q):=by
 unfold Eh at h
 split at h
 ·cases hv with
  | ptr _ _ ty cs hb=>exact bD (by simp [l8]) h (.ptr _ _ ty cs hb)
 ·cases hv with
  | re _ _ _ n i e k ty xs pins pin hb hn hp hi=>exact bD (q:=.re _ n i _) (by simp [l8]) h (.re _ _ _ n i e k ty xs pins pin hb hn hp hi)
 ·cases hv with
  | fe cs ds hd hn=>exact bD (q:=.fe ds) (by simp [l8]) h (.fe _ _ hd hn)
 ·cases h
theorem zT {t:TypeId} {f:Nat} {v:SV} {q:PV} {k:SV→Option ρ} {res : ρ} (hv:an s.bx v q) (h:xo P t v f k=some res) : ml s k res (kv P t q f):=by
 unfold xo at h
 split at h
 ·rename_i off size agg cs hf
  obtain ⟨qs,rfl,hq⟩:=pF hv
  split at h
  ·rename_i v' h1
   obtain ⟨q',h2,h3⟩:=vg (hq.drop off) h1
   exact bD (by simp [kv,hf,h2]) h h3
  ·cases h
 ·cases h
theorem CE (hs:Sim s p) {v:SV} {q:PV} {cs:List SV} (hv:an s.bx v q) (h:CF s v=some cs) : ∃ qs,kC p.b q=some qs∧aL s.bx cs qs:=by
 unfold CF at h
 split at h
 ·rename_i t off
  cases hv
  split at h
  ·rename_i ty cs' hb
   injection h with h
   subst h
   have:=hs.bx t
   rw [hb] at this
   obtain ⟨qs,h1,h2⟩:=this
   exact ⟨qs.drop off,by simp [kC,h1],h2.drop off⟩
  ·cases h
 ·injection h with h
  subst h
  cases hv with
  | fe _ ds hd hn=>exact ⟨_,rfl,by rw [hd]; exact qp _ hn⟩
 ·rename_i t pi off
  split at h
  ·rename_i e k ty xs pins hb
   split at h
   ·rename_i j cs' hp
    injection h with h
    subst h
    have hbx:=hs.bx t
    rw [hb] at hbx
    obtain ⟨h1,h2⟩:=hbx
    obtain ⟨h3,h4⟩:=h2 pi _ hp
    obtain ⟨x,h5,h6⟩:=h4 cs' rfl
    cases hv with
    | re _ _ _ n i e2 k2 ty2 xs2 pins2 pin2 hb2 hn2 hp2 hi2 =>
     rw [hb] at hb2
     injection hb2 with hb2
     injection hb2 with e1 e2 e3 e4 e5
     subst e3
     have e4:=eq_of_heq e4
     subst e4 e5
     rw [hp] at hp2
     injection hp2 with hp2
     subst hp2
     refine ⟨((aA ty x).drop off).map .d,by simp [kC,h1,hn2,hi2,h5],?_⟩
     have:=qp (B:=s.bx) (cs'.drop off) (fun c hc=>by rw [h6] at hc; exact yJ ty x c (List.mem_of_mem_drop hc))
     rw [h6] at this ⊢
     rw [List.map_drop,pu] at this
     simpa [List.map_drop] using this
   ·cases h
  ·cases h
 ·cases h
theorem vp (hs:Sim s p) {t:TypeId} {v w:SV} {q:PV} (hv:an s.bx v q) (h:yp P s t v=some w) : ∃ r,g8 P p.b t q=some r∧an s.bx w r:=by
 unfold yp at h
 split at h
 ·rename_i i cl h1 h2
  obtain ⟨qs,h3,h4⟩:=CE hs hv h2
  obtain ⟨r,h5,h6⟩:=vg h4 h
  exact ⟨r,by simp [g8,h1,h3,h5],h6⟩
 ·cases h
theorem zJ {v:SV} {q:PV} {i:Int} (hv:an B v q) (h:nF v=some i) : ∃ k,q = .d (.v (.int k i)):=by
 unfold nF at h
 split at h
 ·injection h with h; subst h; exact ⟨_,dv hv⟩
 ·cases h
theorem dZ {q:PV} {k:IntKind} {i:Int} {n:Nat} (h:q = .d (.v (.int k i))) (h0 : 0≤i) : k9 (some q) n=some i.toNat:=by
 subst h
 simp [k9,asI,h0]
end
section
variable {B:List (Nat×Option aj)} {s:SS} {p:PS} {P:Program} {ρ : Type}
def wy (s:SS) (p:PS) (dst:Option Nat) (k:SV→Upd→Option ρ) (res : ρ) (e:Option (PV×Option (Nat×Box))) : Prop :=
 ∃ v u q w,e=some (q,w)∧k v u=some res∧Sim (s.upd dst v u) (p.upd dst q w)∧OkU s u∧OkW s dst u w
theorem ml.done (hs:Sim s p) {dst:Option Nat} {k:SV→Upd→Option ρ} {res : ρ} {e:Option PV} (h:ml s (fun v=>k v .no) res e) : wy s p dst k res (e.map fun r=>(r,none)):=by
 obtain ⟨v,q,rfl,h2,h3⟩:=h
 exact ⟨v,.no,q,none,rfl,h2,dE hs h3,trivial,bJ⟩
theorem nG {α : Type} {xs:List α} {i:Int} {x : α} (h:bw xs i=some x) : 0≤i∧xs[i.toNat]? = some x∧i.toNat < xs.length:=by
 unfold bw at h
 split at h
 ·rename_i h0
  exact ⟨h0,h,(zg.1 h).1⟩
 ·cases h
theorem rY (hs:Sim s p) {dst:Option Nat} {t:TypeId} {v w:SV} {q r:PV} {k:SV→Upd→Option ρ} {res : ρ} (hv:an s.bx v q) (hw:an s.bx w r) (h:lY P s dst t v w k=some res) :
  wy s p dst k res ((b8 P p.b t q r).map fun r=>(r,none)):=by
 unfold lY at h
 split at h
 ·rename_i e kd i d hu
  obtain rfl:=dv hw
  split at h
  ·rename_i ie hie
   split at h
   ·rename_i ty xs
    obtain ⟨h1,h2⟩:=aa h
    obtain ⟨x,h3,h4⟩:=a8 h2
    obtain ⟨k0,k1,k2⟩:=nG h3
    have hl:(aA ty x).length=ie.size:=by rw [eb]; simpa using h1
    rcases xR hv with rfl | ⟨rfl,_⟩
    ·refine ⟨_,.no,.fe (aA ty x),none,?_,h4,dE hs (.fe _ _ (pu ty x).symm (yJ ty x)),trivial,bJ⟩
     simp [b8,hu,asI,hie,k0,k1,hl]
    ·simp at k2
   ·rename_i t'
    split at h
    ·rename_i e' kk ty xs pins hb
     obtain ⟨h1,h2⟩:=aa h
     obtain ⟨h2,h3⟩:=aa h2
     obtain ⟨x,h4,h5⟩:=a8 h3
     obtain ⟨k0,k1,k2⟩:=nG h4
     have hbx:=hs.bx t'
     rw [hb] at hbx
     obtain ⟨hbx,hpins⟩:=hbx
     have hkk:kk=ie.size:=by simpa using h1
     have hnp:lkP pins d=none:=by simpa using h2
     cases hv with
     | row _ n e2 k2' ty2 xs2 pins2 hb2 hn2 =>
      rw [hb] at hb2
      injection hb2 with hb2
      injection hb2 with e1 e2 e3 e4 e5
      subst e3
      have e4:=eq_of_heq e4
      subst e4 e5 hn2
      refine ⟨_,_,.re t' xs.length i.toNat 0,none,?_,h5,?_,(show dP (lkB s.bx t') _ from by rw [hb]; exact ⟨_,rfl⟩),bJ⟩
      ·simp [b8,hu,asI,hie,k0,hbx,hkk,k2]
      ·have hble:BLe s.bx ((t',some (.rw e' kk ty xs ((d,⟨i,some (nQ ty x)⟩)::pins)))::s.bx):=xE hb rfl (fun p pin hp=>⟨pin,by
        rw [iM,if_neg (fun e=>by rw [e,hnp] at hp; cases hp)]; exact hp,rfl⟩)
       refine CS hs hble (fun _=>⟨hbx,fun p pin hp=>?_⟩) (.re t' d 0 xs.length i.toNat e' kk ty xs _ ⟨i,some (nQ ty x)⟩ (by rw [ab,if_pos rfl]) rfl (by rw [iM,if_pos rfl]) rfl)
       rw [iM] at hp
       split at hp
       ·injection hp with hp
        subst hp
        exact ⟨k2,fun cs hc=>⟨x,k1,by injection hc with hc; exact hc.symm⟩⟩
       ·exact hpins p pin hp
    ·cases h
   ·cases h
  ·cases h
 ·cases h
theorem kO {cs:List SV} {qs:List PV} {ds:List SD} (h:aL B cs qs) (hd:jH cs=some ds) : qs.mapM toD=some (ds.map SD.toD):=by
 induction cs generalizing qs ds with
 | nil =>
  rcases h.cases with ⟨_,rfl⟩ | ⟨_,_,_,_,h1,_⟩
  ·injection hd with hd; subst hd; rfl
  ·cases h1
 | cons c cs ih =>
  rcases h.cases with ⟨h1,_⟩ | ⟨c',q,cs',qs',h1,rfl,h2,h3⟩
  ·cases h1
  ·injection h1 with e1 e2
   subst e1 e2
   simp only [jH] at hd
   split at hd
   ·rename_i d ds' k1 k2
    injection hd with hd
    subst hd
    have:=ih h3 k2
    unfold D7 at k1
    split at k1
    ·injection k1 with k1
     subst k1
     cases h2 with
     | d _ y hy=>simp [List.mapM_cons,toD,hy.nrm,this]
    ·cases k1
   ·cases hd
theorem nm:∀ {cs:List SV} {ds:List SD},jH cs=some ds→cs.length=ds.length
 | [],ds,h=>by injection h with h; subst h; rfl
 | c::cs,ds,h=>by
  simp only [jH] at h
  split at h
  ·rename_i d ds' k1 k2
   injection h with h
   subst h
   simp [nm k2]
  ·cases h
theorem eH:∀ (l:List (Nat×Pin)) (i:Nat),lkP (lh l) i=(lkP l i).map fun pin=>⟨pin.i,none⟩
 | [],_=>rfl
 | (j,⟨n,cs⟩)::l,i=>by simp only [lh,iM,eH l i]; split <;> rfl
theorem y5 (hs:Sim s p) {dst:Option Nat} (hd:dst=none) {t:TypeId} {v w:SV} {q r:PV} {k:SV→Upd→Option ρ} {res : ρ} (hv:an s.bx v q) (hw:an s.bx w r) (h:wJ P s t v w k=some res) :
  wy s p dst k res ((ec P p.b t q r).map fun u=>(.junk,some u)):=by
 unfold wJ at h
 split at h
 ·rename_i i ns hi hns
  obtain ⟨ws,hws,hcs⟩:=nX hw hns
  split at h
  ·rename_i x off
   cases hv
   split at h
   ·rename_i ty cs hb
    obtain ⟨h1,h2⟩:=aa h
    obtain ⟨h2,h3⟩:=aa h2
    obtain ⟨h3,h4⟩:=aa h3
    have h1:ns.length=i.size:=by simpa using h1
    have h2:=zd h2
    obtain ⟨hro,h3⟩:=mn h3
    have hbx:=hs.bx x
    rw [hb] at hbx
    obtain ⟨qs,hq1,hq2⟩:=hbx
    have l1:=hcs.len
    have l2:=hq2.len
    refine ⟨_,_,.junk,some (x,.st ty (splice qs off ws)),?_,h4,?_,⟨h3,fun ty2 cs2 h=>?_⟩,w9 hro⟩
    ·simp only [ec,hi,hws,hq1]
     rw [if_pos ⟨by omega,by omega⟩]
     rfl
    ·refine fK hs (xD hb) (fun _=>⟨_,rfl,?_⟩) (.junk _)
     rw [ey cs off ns h2]
     exact (hq2.splice hcs off).mono (xD hb)
    ·rw [hb] at h
     injection h with h
     injection h with e1 e2
     subst e1 e2
     refine ⟨_,rfl,?_⟩
     rw [ey cs off ns h2]
     unfold splice
     simp
     omega
   ·cases h
  ·rename_i x pi off
   split at h
   ·rename_i e kk ty xs pins ds hb hds
    split at h
    ·rename_i j cs0 hp
     obtain ⟨h1,h2⟩:=aa h
     obtain ⟨h2,h3⟩:=aa h2
     obtain ⟨h3,h4⟩:=aa h3
     have h1:ns.length=i.size:=by simpa using h1
     have h2:=zd h2
     obtain ⟨hro,h3⟩:=mn h3
     split at h4
     ·rename_i cs' hcs'
      split at h4
      ·rename_i y hy
       have hbx:=hs.bx x
       rw [hb] at hbx
       obtain ⟨hbx,hpins⟩:=hbx
       obtain ⟨k1,k2⟩:=hpins pi _ hp
       have hy2:=uj hy
       cases hv with
       | re _ _ _ n i2 e2 k2' ty2 xs2 pins2 pin2 hb2 hn2 hp2 hi2 =>
        rw [hb] at hb2
        injection hb2 with hb2
        injection hb2 with e1 e2 e3 e4 e5
        subst e3
        have e4:=eq_of_heq e4
        subst e4 e5 hn2
        rw [hp] at hp2
        injection hp2 with hp2
        subst hp2
        simp only at hi2 k1 k2
        subst hi2
        obtain ⟨x0,hx0⟩ : ∃ x0,xs[j.toNat]? = some x0:=⟨xs[j.toNat],by simp [k1]⟩
        have hds':ws.mapM toD=some (ds.map SD.toD):=kO hcs hds
        have hlen0:(aA ty x0).length=tyN ty:=eb ty x0
        have hsp:splice (aA ty x0) off (ds.map SD.toD)=aA ty y:=by
         split at hcs'
         ·rename_i hfull
          injection hcs' with hcs'
          subst hcs'
          have h0:off=0:=by omega
          subst h0
          rw [← hy2]
          have:(ds.map SD.toD).length=(aA ty x0).length:=by simp [hfull,hlen0]
          simp [splice,this]
         ·cases cs0 with
          | none=>cases hcs'
          | some cs0 =>
           injection hcs' with hcs'
           obtain ⟨x1,h7,h8⟩:=k2 cs0 rfl
           rw [hx0] at h7
           injection h7 with h7
           subst h7
           have h9:cs0.length=tyN ty:=by
            have:=pu ty x0
            rw [← h8] at this
            have:=congrArg List.length this
            simpa [hlen0] using this
           rw [← hy2,← hcs']
           show _ = List.map SD.toD (eP cs0 off ds)
           rw [ey cs0 off ds (by omega),lK,h8,pu]
        have hble:BLe s.bx ((x,some (.rw e kk ty (xs.set j.toNat y) ((pi,⟨j,some (nQ ty y)⟩)::lh pins)))::s.bx):=xE hb (by simp) (fun p2 pin2 hp2=>by
         rw [iM]
         by_cases e:p2=pi
         ·subst e
          rw [hp] at hp2
          injection hp2 with hp2
          subst hp2
          exact ⟨_,if_pos rfl,rfl⟩
         ·rw [if_neg e,eH,hp2]
          exact ⟨_,rfl,rfl⟩)
        refine ⟨_,_,.junk,some (x,.rw e kk ((xs.map (aA ty)).set j.toNat (splice (aA ty x0) off (ds.map SD.toD)))),?_,h4,?_,⟨h3,fun ty2 cs2 h=>by rw [hb] at h; cases h⟩,w9 hro⟩
        ·have hl2:(ds.map SD.toD).length=i.size:=by rw [List.length_map,← nm hds]; exact h1
         have hl3:off + (ds.map SD.toD).length≤(aA ty x0).length:=by rw [hlen0,List.length_map]; exact h2
         simp only [ec,hi,hws,hbx,hds',List.getElem?_map,hx0,Option.map_some,List.length_map]
         rw [List.length_map] at hl2 hl3
         rw [if_pos ⟨trivial,hl2,hl3⟩]
         rfl
        ·rw [hsp,← List.map_set]
         refine fK hs hble (fun _=>⟨rfl,fun p2 pin2 hp2=>?_⟩) (.junk _)
         rw [iM] at hp2
         split at hp2
         ·injection hp2 with hp2
          subst hp2
          exact ⟨by simpa using k1,fun cs hc=>⟨y,by simp [k1],by injection hc with hc; exact hc.symm⟩⟩
         ·rw [eH,zm] at hp2
          obtain ⟨pin3,h7,rfl⟩:=hp2
          exact ⟨by simpa using (hpins p2 pin3 h7).1,fun cs hc=>by cases hc⟩
      ·cases h4
     ·cases h4
    ·cases h
   ·cases h
  ·cases h
 ·cases h
end
section
variable {B:List (Nat×Option aj)} {s:SS} {p:PS} {P:Program} {ρ : Type}
theorem qO (hs:Sim s p) (place:Nat→Option (Nat×Nat)) : ∀ {l:List (Nat×Operand)} {cs cs':List SV} {qs:List PV},aL s.bx cs qs→vJ place cs (lQ s l)=some cs'→∃ qs',qP place qs (l.map fun (i,x)=>(i,ev p x))=some qs'∧aL s.bx cs' qs'
 | [],cs,cs',qs,h,hf=>by injection hf with hf; subst hf; exact ⟨qs,rfl,h⟩
 | (i,x)::l,cs,cs',qs,h,hf=>by
  simp only [lQ,vJ] at hf
  split at hf
  ·rename_i off size ns h1 h2
   obtain ⟨h3,h4⟩:=aa hf
   obtain ⟨h4,h5⟩:=aa h4
   obtain ⟨ws,h6,h7⟩:=nX (aI hs x) h2
   replace h3:ns.length=size:=by simpa using h3
   replace h4:=zd h4
   rw [ey cs off ns h4] at h5
   obtain ⟨qs',h8,h9⟩:=qO hs place (h.splice h7 off) h5
   refine ⟨qs',?_,h9⟩
   have l1:=h7.len
   have l2:=h.len
   simp only [List.map_cons,qP,h1,h6]
   rw [if_pos ⟨by omega,by omega⟩]
   exact h8
  ·cases hf
theorem kL {i:TI} {z:List SV} (h:pD i=some z) : aL B z (gc i):=(mg h).1
theorem uZ {cs:List SV} {qs:List PV} (h:aL B cs qs) : ∀ n,aL B (A7 n cs) (List.replicate n qs).flatten
 | 0=>.nil
 | n + 1=>by rw [List.replicate_succ,List.flatten_cons]; exact h.append (uZ h n)
theorem tg (k:Nat) : ∀ (n:Nat) (l:List SD),(uA k n l).map (List.map SD.toD)=i6 k n (l.map SD.toD)
 | 0,_=>rfl
 | n + 1,l=>by simp only [uA,i6,List.map_cons,List.map_take,tg k n,List.map_drop]
theorem te {t:Ty} : ∀ {l:List (List SD)} {xs:List t.den},un t l=some xs→l.map (List.map SD.toD)=xs.map (aA t)
 | [],xs,h=>by injection h with h; subst h; rfl
 | c::l,xs,h=>by
  simp only [un] at h
  split at h
  ·rename_i x xs' h1 h2
   injection h with h
   subst h
   simp only [List.map_cons,uj h1,te h2]
  ·cases h
theorem rD (hs:Sim s p) {dst:Option Nat} {t:TypeId} {n:Nat} {l:List (Nat×Operand)} {k:SV→Upd→Option ρ} {res : ρ} (h:kA P s dst t n (lQ s l) k=some res) :
  wy s p dst k res (cU P p.b dst t n (l.map fun (i,x)=>(i,ev p x))):=by
 unfold kA at h
 split at h
 ·rename_i d e hu
  split at h
  ·rename_i i ty hi hb hty
   split at h
   ·rename_i z hz
    have h1:=(aa h).1
    replace h:=(aa h).2
    have h2:=(aa h).1
    replace h:=(aa h).2
    have h3:=(aa h).1
    replace h:=(aa h).2
    have h4:=(aa h).1
    replace h:=(aa h).2
    replace h1:=zd h1
    replace h2:=zd h2
    replace h3:=zd h3
    obtain ⟨hfr,h4⟩:=eE h4
    split at h
    ·rename_i cs hcs
     split at h
     ·rename_i ds hds
      split at h
      ·rename_i xs hxs
       obtain ⟨h5,h6⟩:=aa h
       obtain ⟨qs,h7,h8⟩:=qO hs _ (uZ (kL (B:=s.bx) hz) n) hcs
       have h9:=kO h8 hds
       have hbd:p.b d=none:=by have:=hs.bx d; rw [hb] at this; exact this hfr
       have hch:i6 i.size n (ds.map SD.toD)=xs.map (aA ty):=by rw [← tg,te hxs]
       have hlen:xs.length=n:=by
        have:=congrArg List.length hch
        rw [nW,List.length_map] at this
        exact this.symm
       refine ⟨_,_,.row d n,some (d,.rw e i.size (xs.map (aA ty))),?_,h6,?_,⟨h4,hb⟩,mG hb rfl⟩
       ·simp only [cU,hu,hi,hbd]
        rw [if_pos ⟨h1,h2,h3⟩]
        simp only [h7,h9,hch]
       ·exact fK hs (hL hb) (fun _=>⟨rfl,fun p pin hp=>by cases hp⟩) (.row d n e i.size ty xs [] (by rw [ab,if_pos rfl]) hlen)
      ·cases h
     ·cases h
    ·cases h
   ·cases h
  ·cases h
 ·cases h
theorem tr {α : Type} {l m z:List α} (h:m8 l m=some z) : l.length + m.length≤1000000∧z=l++m:=by
 unfold m8 at h
 split at h
 ·rename_i hl; injection h with h; exact ⟨hl,h.symm⟩
 ·cases h
theorem tm {t:Ty} (h:t=t) (xs:List t.den) : mX h xs=xs:=rfl
theorem xG (hs:Sim s p) {dst:Option Nat} {t:TypeId} {v w:SV} {q r:PV} {k:SV→Upd→Option ρ} {res : ρ} (hv:an s.bx v q) (hw:an s.bx w r) (h:uH P s dst t v w k=some res) :
  wy s p dst k res (dp P p.b dst t q r)∧True:=by
 refine ⟨?_,trivial⟩
 unfold uH at h
 split at h
 ·rename_i e ty ys hu hdw
  have hr:=up hs hw hdw
  split at h
  ·rename_i i hi
   have h1:=(aa h).1
   replace h:=(aa h).2
   have h2:=(aa h).1
   replace h:=(aa h).2
   have h3:=(aa h).1
   replace h:=(aa h).2
   have h4:=(aa h).1
   replace h:=(aa h).2
   replace h1:=zd h1
   replace h2:=zd h2
   replace h3:=zd h3
   replace h4:tyN ty=i.size:=by simpa using h4
   have hla:lV i.size (ys.map (aA ty)):=by
    intro x hx
    obtain ⟨y,_,rfl⟩:=List.mem_map.1 hx
    rw [eb,h4]
   have sm:∀ n,n≤1000000→pR n i.bytes:=fun n hn=>by
    unfold pR
    exact Nat.le_trans (Nat.mul_le_mul hn h3) (by decide)
   split at h
   ·rename_i x
    split at h
    ·rename_i e' kk ty' xs pins hb
     split at h
     ·rename_i hty hsame
      obtain rfl:=hty
      have h5:=(aa h).1
      replace h:=(aa h).2
      have h6:=(aa h).1
      replace h:=(aa h).2
      have h7:=(aa h).1
      replace h:=(aa h).2
      replace h5:e' = e:=by simpa using h5
      replace h6:kk=i.size:=by simpa using h6
      obtain ⟨hfr,h7⟩:=mn h7
      obtain ⟨zs,h8,h9⟩:=a8 h
      rw [tm] at h8
      obtain ⟨h10,rfl⟩:=tr h8
      have hbx:=hs.bx x
      rw [hb] at hbx
      obtain ⟨hbx,_⟩:=hbx
      cases hv with
      | row _ n e2 k2 ty2 xs2 pins2 hb2 hn2 =>
       rw [hb] at hb2
       injection hb2 with hb2
       injection hb2 with q1 q2 q3 q4 q5
       subst q3
       have q4:=eq_of_heq q4
       subst q4 hn2
       refine ⟨_,_,.row x (xs.length + ys.length),some (x,.rw e' kk (xs.map (aA ty)++ys.map (aA ty))),?_,h9,?_,⟨h7,fun ty2 cs2 h=>by rw [hb] at h; cases h⟩,Ed hfr⟩
       ·simp only [dp,hu,hr,hi,hbx]
        rw [if_pos ⟨h1,h2,hla⟩,if_pos ⟨by simp,h5,h6,by simpa using sm _ h10⟩]
        simp [h5]
       ·rw [← List.map_append]
        exact AR hs hb (.row x _ e' kk ty (xs++ys) [] (by rw [ab,if_pos rfl]) (by simp))
     ·cases h
    ·cases h
   ·obtain rfl:=xS hv
    split at h
    ·rename_i d
     split at h
     ·rename_i hb
      have h7:=(aa h).1
      replace h:=(aa h).2
      obtain ⟨hfr,h7⟩:=eE h7
      obtain ⟨zs,h8,h9⟩:=a8 h
      obtain ⟨h10,rfl⟩:=tr h8
      have hbd:p.b d=none:=by have:=hs.bx d; rw [hb] at this; exact this hfr
      refine ⟨_,_,.row d zs.length,some (d,.rw e i.size (zs.map (aA ty))),?_,h9,?_,⟨h7,hb⟩,mG hb rfl⟩
      ·simp only [dp,hu,hr,hi,hbd]
       rw [if_pos ⟨h1,h2,hla⟩,if_pos ⟨trivial,trivial⟩,if_pos (by simpa using sm _ (by simpa using h10))]
       simp
      ·exact fK hs (hL hb) (fun _=>⟨rfl,fun p pin hp=>by cases hp⟩) (.row d _ e i.size ty _ [] (by rw [ab,if_pos rfl]) (by simp))
     ·cases h
    ·cases h
   ·cases h
  ·cases h
 ·cases h
theorem y7 (hs:Sim s p) {t:TypeId} {v:SV} {q:PV} {lo hi:Option Operand} {k:SV→Option ρ} {res : ρ} (hv:an s.bx v q) (h:wM P s t v (lo.map (evX s)) (hi.map (evX s)) k=some res) : ml s k res (ce P p.b t q (lo.map (ev p)) (hi.map (ev p))):=by
 have int:∀ {x:Operand} {i:Int},nF (evX s x)=some i→∃ kd,ev p x = .d (.v (.int kd i)):=fun {x i} h=>zJ (aI hs x) h
 unfold wM at h
 split at h
 ·rename_i e ty xs hu
  have hq:dS p.b q=some (xs.map (aA ty))∧∃ y,q = .d y:=by
   rcases xR hv with rfl | ⟨rfl,rfl⟩
   ·exact ⟨rfl,_,rfl⟩
   ·exact ⟨by simp [dS],_,rfl⟩
  obtain ⟨hq,y,rfl⟩:=hq
  split at h
  ·rename_i i hi'
   have h1:=(aa h).1
   replace h:=(aa h).2
   replace h1:tyN ty=i.size:=by simpa using h1
   have hla:lV i.size (xs.map (aA ty)):=by
    intro x hx
    obtain ⟨y,_,rfl⟩:=List.mem_map.1 hx
    rw [eb,h1]
   split at h
   ·rename_i hl hh
    rw [Option.map_eq_none_iff] at hl hh
    subst hl hh
    refine bD ?_ h (wB ty xs)
    simp only [ce,hu,hi',hq,Option.map_none,k9]
    rw [if_pos ⟨Nat.zero_le _,Nat.le_refl _,hla⟩]
    simp [List.take_of_length_le]
   ·rename_i l hl hh
    rw [Option.map_eq_none_iff] at hh
    rw [zm] at hl
    obtain ⟨lo,rfl,rfl⟩:=hl
    subst hh
    split at h
    ·rename_i li hli
     obtain ⟨kd,hkd⟩:=int hli
     obtain ⟨z,h2,h3⟩:=a8 h
     unfold loO at h2
     split at h2
     ·rename_i hc
      injection h2 with h2
      subst h2
      refine bD ?_ h3 (wB ty _)
      simp only [ce,hu,hi',hq,Option.map_none,Option.map_some,hkd,dZ rfl hc.1]
      simp only [k9,List.length_map]
      rw [if_pos ⟨hc.2,Nat.le_refl _,hla⟩]
      rw [← List.map_drop,← List.map_take,List.take_of_length_le (by simp)]
     ·cases h2
    ·cases h
   ·rename_i l hl hh
    rw [Option.map_eq_none_iff] at hl
    rw [zm] at hh
    obtain ⟨hi2,rfl,rfl⟩:=hh
    subst hl
    split at h
    ·rename_i li hli
     obtain ⟨kd,hkd⟩:=int hli
     obtain ⟨z,h2,h3⟩:=a8 h
     unfold hiO at h2
     split at h2
     ·rename_i hc
      injection h2 with h2
      subst h2
      refine bD ?_ h3 (wB ty _)
      simp only [ce,hu,hi',hq,Option.map_none,Option.map_some,hkd,dZ rfl hc.1]
      simp only [k9,List.length_map]
      rw [if_pos ⟨Nat.zero_le _,hc.2,hla⟩]
      simp
     ·cases h2
    ·cases h
   ·rename_i l l' hl hh
    rw [zm] at hl hh
    obtain ⟨lo,rfl,rfl⟩:=hl
    obtain ⟨hi2,rfl,rfl⟩:=hh
    split at h
    ·rename_i li hi3 hli hhi
     obtain ⟨kd,hkd⟩:=int hli
     obtain ⟨kd2,hkd2⟩:=int hhi
     obtain ⟨z,h2,h3⟩:=a8 h
     unfold lhO at h2
     split at h2
     ·rename_i hc
      injection h2 with h2
      subst h2
      refine bD ?_ h3 (wB ty _)
      simp only [ce,hu,hi',hq,Option.map_some,hkd,hkd2,dZ rfl hc.1,dZ rfl hc.2.1,List.length_map]
      rw [if_pos ⟨hc.2.2.1,hc.2.2.2,hla⟩]
      simp
     ·cases h2
    ·cases h
  ·cases h
 ·rename_i e x hu
  split at h
  ·rename_i i e' kk ty xs pins hi' hb
   have h1:=(aa h).1
   replace h:=(aa h).2
   replace h1:kk=i.size:=by simpa using h1
   have hbx:=hs.bx x
   rw [hb] at hbx
   obtain ⟨hbx,_⟩:=hbx
   have ox:∀ {o:Option Operand} {n:Nat} {l:Int},Ec (o.map (evX s)) (n:Int)=some l→0≤l→k9 (o.map (ev p)) n=some l.toNat:=by
    intro o n l ho h0
    cases o with
    | none=>injection ho with ho; subst ho; rfl
    | some y =>
     obtain ⟨kd,hkd⟩:=int (show nF (evX s y)=some l from ho)
     rw [Option.map_some,dZ hkd h0]
   cases hv with
   | row _ n e2 k2 ty2 xs2 pins2 hb2 hn2 =>
    rw [hb] at hb2
    injection hb2 with hb2
    injection hb2 with q1 q2 q3 q4 q5
    subst q3
    have q4:=eq_of_heq q4
    subst q4 hn2
    split at h
    ·rename_i l h' hl hh
     obtain ⟨_,h2,h3⟩:=a8 h
     unfold vwO at h2
     split at h2
     ·rename_i hc
      refine bD (q:=.vw x xs.length l.toNat h'.toNat) ?_ h3 (.vw x _ _ _ e' kk ty xs pins hb rfl)
      have hl':=ox (n:=0) hl hc.1
      have hh':=ox (n:=xs.length) hh hc.2.1
      simp only [ce,hu,hi',hbx,hl',hh',List.length_map]
      rw [if_pos ⟨trivial,h1,hc.2.2.1,hc.2.2.2⟩]
     ·cases h2
    ·cases h
  ·cases h
 ·rename_i x hu
  obtain rfl:=ia hv
  split at h
  ·rename_i l hl hh
   rw [Option.map_eq_none_iff] at hh
   rw [zm] at hl
   obtain ⟨lo,rfl,rfl⟩:=hl
   subst hh
   split at h
   ·rename_i li hli
    obtain ⟨kd,hkd⟩:=int hli
    obtain ⟨z,h2,h3⟩:=a8 h
    unfold EE at h2
    split at h2
    ·rename_i hc
     injection h2 with h2
     subst h2
     refine bD ?_ h3 (lg _)
     simp only [ce,hu,asS,Option.map_none,Option.map_some,hkd,dZ rfl hc.1]
     simp only [k9]
     rw [if_pos ⟨hc.2,Nat.le_refl _⟩]
    ·cases h2
   ·cases h
  ·rename_i l hl hh
   rw [Option.map_eq_none_iff] at hl
   rw [zm] at hh
   obtain ⟨hi2,rfl,rfl⟩:=hh
   subst hl
   split at h
   ·rename_i li hli
    obtain ⟨kd,hkd⟩:=int hli
    obtain ⟨z,h2,h3⟩:=a8 h
    unfold EG at h2
    split at h2
    ·rename_i hc
     injection h2 with h2
     subst h2
     refine bD ?_ h3 (lg _)
     simp only [ce,hu,asS,Option.map_none,Option.map_some,hkd,dZ rfl hc.1]
     simp only [k9]
     rw [if_pos ⟨Nat.zero_le _,hc.2⟩]
    ·cases h2
   ·cases h
  ·rename_i l l' hl hh
   rw [zm] at hl hh
   obtain ⟨lo,rfl,rfl⟩:=hl
   obtain ⟨hi2,rfl,rfl⟩:=hh
   split at h
   ·rename_i li hi3 hli hhi
    obtain ⟨kd,hkd⟩:=int hli
    obtain ⟨kd2,hkd2⟩:=int hhi
    obtain ⟨z,h2,h3⟩:=a8 h
    unfold EF at h2
    split at h2
    ·rename_i hc
     injection h2 with h2
     subst h2
     refine bD ?_ h3 (lg _)
     simp only [ce,hu,asS,Option.map_some,hkd,hkd2,dZ rfl hc.1,dZ rfl hc.2.1]
     rw [if_pos ⟨hc.2.2.1,hc.2.2.2⟩]
    ·cases h2
   ·cases h
  ·cases h
 ·cases h
theorem CR (hs:Sim s p) {v:SV} {q:PV} {ty:Ty} {ys:List ty.den} (hv:an s.bx v q) (h:D3 s v=some (.sl ty ys)) : dS p.b q=some (ys.map (aA ty)):=by
 unfold D3 at h
 split at h
 ·rename_i t lo hi
  split at h
  ·rename_i e kk ty2 xs pins hb
   injection h with h
   injection h with e1 e2
   subst e1
   have e2:=eq_of_heq e2
   subst e2
   have hbx:=hs.bx t
   rw [hb] at hbx
   obtain ⟨hbx,_⟩:=hbx
   cases hv with
   | vw _ _ _ n e2 k2 ty2 xs2 pins2 hb2 hn2 =>
    rw [hb] at hb2
    injection hb2 with hb2
    injection hb2 with q1 q2 q3 q4 q5
    subst q3
    have q4:=eq_of_heq q4
    subst q4 hn2
    simp only [dS,hbx,List.length_map,if_true]
    rw [← List.map_drop,← List.map_take]
  ·cases h
 ·exact up hs hv h
theorem Bm (hs:Sim s p) {v:SV} {q:PV} {x lo hi:Nat} {e kk:Nat} {ty:Ty} {xs:List ty.den} {pins:List (Nat×Pin)} (hb:lkB s.bx x=some (.rw e kk ty xs pins)) (hv:an s.bx v q) (h:Bn s v=some (x,lo,hi)) : yf q=some (x,xs.length,lo,hi):=by
 unfold Bn at h
 split at h
 ·rename_i t
  split at h
  ·rename_i e2 k2 ty2 xs2 pins2 hb2
   injection h with h
   injection h with q1 q2
   injection q2 with q2 q3
   subst q1 q2 q3
   cases hv with
   | row _ n e3 k3 ty3 xs3 pins3 hb3 hn3 =>
    rw [hb] at hb2 hb3
    injection hb2 with hb2
    injection hb2 with r1 r2 r3 r4 r5
    subst r3
    have r4:=eq_of_heq r4
    subst r4
    injection hb3 with hb3
    injection hb3 with r1 r2 r3 r4 r5
    subst r3
    have r4:=eq_of_heq r4
    subst r4 hn3
    rfl
  ·cases h
 ·injection h with h
  injection h with q1 q2
  injection q2 with q2 q3
  subst q1 q2 q3
  cases hv with
  | vw _ _ _ n e3 k3 ty3 xs3 pins3 hb3 hn3 =>
   rw [hb] at hb3
   injection hb3 with hb3
   injection hb3 with r1 r2 r3 r4 r5
   subst r3
   have r4:=eq_of_heq r4
   subst r4 hn3
   rfl
 ·cases h
theorem zC {α β : Type} (f : α→β) (xs ys:List α) (lo:Nat) : (dx xs lo ys).map f=dx (xs.map f) lo (ys.map f):=by
 simp [dx,List.map_take,List.map_drop]
theorem Cp (hs:Sim s p) {dst:Option Nat} {t:TypeId} {v w:SV} {q r:PV} {k:SV→Upd→Option ρ} {res : ρ} (hv:an s.bx v q) (hw:an s.bx w r) (h:Cq P s t v w k=some res) :
  wy s p dst k res ((g9 P p.b t q r).map fun r=>(r.1,some r.2)):=by
 unfold Cq at h
 split at h
 ·rename_i e ty ys x lo hi hu hsrc hpart
  split at h
  ·rename_i i e' kk ty' xs pins hi' hb
   split at h
   ·rename_i hty hsame
    obtain rfl:=hty
    have h1:=(aa h).1
    replace h:=(aa h).2
    have h2:=(aa h).1
    replace h:=(aa h).2
    have h3:=(aa h).1
    replace h:=(aa h).2
    replace h1:kk=i.size:=by simpa using h1
    replace h2:tyN ty=i.size:=by simpa using h2
    obtain ⟨hro,h3⟩:=mn h3
    obtain ⟨zs,h4,h5⟩:=a8 h
    rw [tm] at h4
    unfold fI at h4
    split at h4
    ·rename_i hc
     injection h4 with h4
     subst h4
     have hbx:=hs.bx x
     rw [hb] at hbx
     obtain ⟨hbx,hpins⟩:=hbx
     have hr:=CR hs hw hsrc
     have hp:=Bm hs hb hv hpart
     have hla:lV i.size (ys.map (aA ty)):=by
      intro x hx
      obtain ⟨y,_,rfl⟩:=List.mem_map.1 hx
      rw [eb,h2]
     have hlen:(dx xs lo (ys.take (hi - lo))).length=xs.length:=sE (by rw [List.length_take]; omega)
     have hble:BLe s.bx ((x,some (.rw e' kk ty (dx xs lo (ys.take (hi - lo))) (lh pins)))::s.bx):=xE hb hlen (fun p2 pin2 hp2=>by
      rw [eH,hp2]
      exact ⟨_,rfl,rfl⟩)
     refine ⟨_,_,.d (.v (.int .i64 (min ys.length (hi - lo) : Nat))),some (x,.rw e' kk ((dx xs lo (ys.take (hi - lo))).map (aA ty))),?_,h5,?_,⟨h3,fun ty2 cs2 h=>by rw [hb] at h; cases h⟩,w9 hro⟩
     ·simp only [g9,hu,hr,hp,hi',hbx,List.length_map]
      rw [if_pos ⟨trivial,h1,hla,hc.1,hc.2⟩,zC,List.map_take]
      rfl
     ·refine fK hs hble (fun _=>⟨rfl,fun p2 pin2 hp2=>?_⟩) (cv _ _)
      rw [eH,zm] at hp2
      obtain ⟨pin3,h7,rfl⟩:=hp2
      exact ⟨by rw [hlen]; exact (hpins p2 pin3 h7).1,fun cs hc=>by cases hc⟩
    ·cases h4
   ·cases h
  ·cases h
 ·cases h
theorem pE:∀ (l:List Value),(l.map fun z=>PV.d (.v z)).mapM toD=some (l.map fun z=>nrm (.v z))
 | []=>rfl
 | z::l=>by simp only [List.map_cons,List.mapM_cons,pE l,toD]; rfl
theorem BI (hs:Sim s p) {dst:Option Nat} {t:TypeId} {x y:Operand} {k:SV→Upd→Option ρ} {res : ρ} (h:BJ P s dst t (wO x y) (evX s x) k=some res) :
  wy s p dst k res (kT P p.b dst t (ev p x) (ev p y)):=by
 unfold BJ at h
 split at h
 ·rename_i d e kd n hu hx hsame
  have hpx:=aI hs x
  rw [hx] at hpx
  have hpx:=dv hpx
  have hpy:∃ kd',ev p y = .d (.v (.int kd' n)):=by
   unfold wO at hsame
   split at hsame
   ·rename_i i j hq
    have:i=j:=by simpa using hsame
    subst this
    exact ⟨kd,hpx⟩
   ·rename_i k1 n1 k2 m1 hq
    have:n1=m1:=by simpa using hsame
    subst this
    have:ev p (.const (.int k1 n1)) = .d (.v (.int k1 n1)):=rfl
    rw [this] at hpx
    injection hpx with hpx
    injection hpx with hpx
    injection hpx with q1 q2
    subst q2
    exact ⟨k2,rfl⟩
   ·cases hsame
  obtain ⟨kd',hpy⟩:=hpy
  split at h
  ·rename_i i ty hi hb hty
   split at h
   ·rename_i z hz
    split at h
    ·rename_i ds hds
     split at h
     ·rename_i z0 hz0
      have h1:=(aa h).1
      replace h:=(aa h).2
      have h2:=(aa h).1
      replace h:=(aa h).2
      have h3:=(aa h).1
      replace h:=(aa h).2
      have h4:=(aa h).1
      replace h:=(aa h).2
      replace h1:=zd h1
      replace h2:=zd h2
      obtain ⟨hfr,h4⟩:=eE h4
      obtain ⟨xs,h5,h6⟩:=a8 h
      unfold mkO at h5
      split at h5
      ·rename_i hc
       injection h5 with h5
       subst h5
       have hbd:p.b d=none:=by have:=hs.bx d; rw [hb] at this; exact this hfr
       have e1:(i.zero.map fun z=>nrm (.v z))=aA ty z0:=by
        have h7:=kO (kL (B:=s.bx) hz) hds
        rw [show gc i=i.zero.map (fun z=>PV.d (.v z)) from rfl,pE] at h7
        injection h7 with h7
        rw [h7]; exact uj hz0
       refine ⟨_,_,.row d n.toNat,some (d,.rw e i.size ((List.replicate n.toNat z0).map (aA ty))),?_,h6,?_,⟨h4,hb⟩,mG hb rfl⟩
       ·simp only [kT,hu,hpx,hpy,asI,hi,hbd]
        rw [if_pos ⟨trivial,hc.1,hc.2,h1,h2⟩,List.map_replicate,e1]
       ·exact fK hs (hL hb) (fun _=>⟨rfl,fun p pin hp=>by cases hp⟩) (.row d _ e i.size ty _ [] (by rw [ab,if_pos rfl]) (by simp))
      ·cases h5
     ·cases h
    ·cases h
   ·cases h
  ·cases h
 ·cases h
theorem nx (mx:Bool) : ∀ (l:List SV) (v w:SV) (q:PV) (qs:List PV),an B v q→aL B l qs→mI mx v l=some w→∃ r,(match mx with | true=>jt q qs | false=>jr q qs)=some r∧an B w r
 | [],v,w,q,qs,hv,hl,h=>by
  rcases hl.cases with ⟨_,rfl⟩ | ⟨_,_,_,_,h1,_⟩
  ·have:v=w:=by cases v <;> (injection h)
   subst this
   exact ⟨q,by cases mx <;> rfl,hv⟩
  ·cases h1
 | u::l,v,w,q,qs,hv,hl,h=>by
  rcases hl.cases with ⟨h1,_⟩ | ⟨u',r,l',qs',h1,rfl,h2,h3⟩
  ·cases h1
  ·injection h1 with e1 e2
   subst e1 e2
   unfold mI at h
   split at h
   ·rename_i heq; cases heq
   ·rename_i k x k' y l2 heq
    injection heq with e1 e2
    subst e1 e2
    obtain rfl:=dv hv
    obtain rfl:=dv h2
    obtain ⟨r',h4,h5⟩:=nx mx l _ w _ qs' (cv _ _) h3 h
    refine ⟨r',?_,h5⟩
    cases mx
    ·simp only [jr,qY,asI]; exact h4
    ·simp only [jt,ra,asI]; exact h4
   ·cases h
theorem Df (hs:Sim s p) {t:TypeId} {v:SV} {q:PV} {k:SV→Option ρ} {res : ρ} (hv:an s.bx v q) (h:Ej P s t v k=some res) : ml s k res (ku P t q):=by
 unfold Ej at h
 split at h
 ·rename_i e hu
  split at h
  ·rename_i ty xs hd
   refine bD ?_ h (cv _ _)
   have:xf q=some xs.length:=by
    unfold i1 at hd
    split at hd
    ·injection hd with hd
     subst hd
     rcases xR hv with rfl | ⟨rfl,rfl⟩
     ·simp [xf]
     ·rfl
    ·obtain ⟨e,k,ty2,xs2,pins,h1,h2,rfl,h4⟩:=tH hs hv hd
     injection h2 with e1 e2
     subst e1
     have e2:=eq_of_heq e2
     subst e2
     rfl
    ·cases hd
   simp [ku,hu,this]
  ·rename_i hd
   obtain rfl:=DB hv hd
   exact bD (by simp [ku,hu,xf]) h (cv _ _)
  ·split at h
   ·cases hv
    exact bD (by simp [ku,hu,xf]) h (cv _ _)
   ·cases h
 ·rename_i hu
  split at h
  ·obtain rfl:=ia hv
   exact bD (by simp [ku,hu,asS]) h (cv _ _)
  ·cases h
 ·cases h
end
section
mutual
def gP:PV→PV
 | .d x=>.d (nrm x)
 | .ag cs=>.ag (bO cs)
 | .tup cs=>.tup (bO cs)
 | .fn f ps qs=>.fn f (bO ps) (bO qs)
 | p=>p
def bO:List PV→List PV
 | []=>[]
 | c::cs=>gP c::bO cs
end
def iL:Box→Box
 | .st ty cs=>.st ty (bO cs)
 | b=>b
theorem cz:∀ cs:List PV,(bO cs).length=cs.length
 | []=>rfl
 | c::cs=>by simp [bO,cz cs]
theorem dL:∀ (cs:List PV) (j:Nat) (c:PV),(bO cs)[j]? = some c→∃ d,cs[j]? = some d∧c=gP d
 | [],j,c,h=>by simp [bO] at h
 | d::cs,0,c,h=>by simp [bO] at h; exact ⟨d,rfl,h.symm⟩
 | d::cs,j + 1,c,h=>by simp [bO] at h; simpa using dL cs j c h
section
variable {P:Program} {ρ ρ' ρ2:Nat→Value} {b b' b2:Nat→Option Box} {w w':World} {w0:WM} {F F' F0:Nat→Prop} {n:Nat} {σ τ : Nat→Nat}
theorem ah.nrmd {x:Value} {p:PV} (h:ah ρ b w F x p) : ah ρ b w F x (gP p):=by
 induction h with
 | junk x=>exact .junk x
 | d x d h=>exact .d x _ h.nrm
 | ag xs cs hl h1 hr ih=>exact .ag xs _ (by rw [cz]; exact hl) h1 (fun j x c h2 h3=>by obtain ⟨d,h4,rfl⟩:=dL cs j c h3; exact ih j x d h2 h4)
 | tup xs cs hl hr ih=>exact .tup xs _ (by rw [cz]; exact hl) (fun j x c h2 h3=>by obtain ⟨d,h4,rfl⟩:=dL cs j c h3; exact ih j x d h2 h4)
 | ptr t off g ty cs hb hρ=>exact .ptr t off g ty cs hb hρ
 | row t n A c e k es hb hn hc hA hρ=>exact .row t n A c e k es hb hn hc hA hρ
 | re t n i off a e k es hb hn hi hρ=>exact .re t n i off a e k es hb hn hi hρ
 | vw t n lo hi A m c e k es hb hn hl hh hm hρ=>exact .vw t n lo hi A m c e k es hb hn hl hh hm hρ
 | fe a cs us hF hcell hrep=>exact .fe a cs us hF hcell hrep
 | fn f xs ys ps qs hl hr hl2 hr2 ih ih2 =>
  exact .fn f xs ys _ _ (by rw [cz]; exact hl) (fun j x c h2 h3=>by obtain ⟨d,h4,rfl⟩:=dL ps j c h3; exact ih j x d h2 h4)
   (by rw [cz]; exact hl2) (fun j x c h2 h3=>by obtain ⟨d,h4,rfl⟩:=dL qs j c h3; exact ih2 j x d h2 h4)
end
mutual
def em (σ : Nat→Nat) : PV→PV
 | .ptr t o=>.ptr (σ t) o
 | .row t n=>.row (σ t) n
 | .re t n i o=>.re (σ t) n i o
 | .vw t n i o=>.vw (σ t) n i o
 | .ag cs=>.ag (ck σ cs)
 | .tup cs=>.tup (ck σ cs)
 | .fn f ps qs=>.fn f (ck σ ps) (ck σ qs)
 | p=>p
def ck (σ : Nat→Nat) : List PV→List PV
 | []=>[]
 | c::cs=>em σ c::ck σ cs
end
def k8 (σ : Nat→Nat) : Box→Box
 | .st ty cs=>.st ty (ck σ cs)
 | b=>b
def u5:Box→List Nat
 | .st _ cs=>aC cs
 | .rw ..=>[]
def ej (σ : Nat→Nat) : BU→BU
 | []=>[]
 | (t,B)::l=>(σ t,k8 σ B)::ej σ l
def aJ:BU→List Nat
 | []=>[]
 | (t,_)::l=>t::aJ l
theorem dK (σ : Nat→Nat) : ∀ cs:List PV,(ck σ cs).length=cs.length
 | []=>rfl
 | c::cs=>by simp [ck,dK σ cs]
theorem eA (σ : Nat→Nat) : ∀ (cs:List PV) (j:Nat) (c:PV),(ck σ cs)[j]? = some c→∃ d,cs[j]? = some d∧c=em σ d
 | [],j,c,h=>by simp [ck] at h
 | d::cs,0,c,h=>by simp [ck] at h; exact ⟨d,rfl,h.symm⟩
 | d::cs,j + 1,c,h=>by simp [ck] at h; simpa using eA σ cs j c h
theorem bR {t:Nat} : ∀ {cs:List PV} {j:Nat} {c:PV},cs[j]? = some c→t∈ao c→t∈aC cs
 | [],j,c,h,_=>by simp at h
 | d::cs,0,c,h,ht=>by simp at h; subst h; simp [aC,ht]
 | d::cs,j + 1,c,h,ht=>by simp [aC]; exact .inr (bR (by simpa using h) ht)
theorem bc:∀ {l:BU} {t:Nat},t∈aJ l↔∃ B,lkU l t=some B
 | [],t=>by simp [aJ,lkU]
 | (j,B)::l,t=>by
  simp only [aJ,List.mem_cons,lkU]
  by_cases h:t=j
  ·subst h; simp
  ·simp only [h,false_or,if_false]; exact bc
mutual
theorem u3 (σ : Nat→Nat) : ∀ p:PV,ao (em σ p)=(ao p).map σ
 | .junk=>rfl
 | .d _=>rfl
 | .ptr _ _=>rfl
 | .row _ _=>rfl
 | .re _ _ _ _=>rfl
 | .vw _ _ _ _=>rfl
 | .fe _=>rfl
 | .ag cs=>by simp only [em,ao,fZ σ cs]
 | .tup cs=>by simp only [em,ao,fZ σ cs]
 | .fn f ps qs=>by simp only [em,ao,fZ σ ps,fZ σ qs,List.map_append]
theorem fZ (σ : Nat→Nat) : ∀ cs:List PV,aC (ck σ cs)=(aC cs).map σ
 | []=>rfl
 | c::cs=>by simp only [ck,aC,u3 σ c,fZ σ cs,List.map_append]
end
mutual
theorem yb {σ τ : Nat→Nat} : ∀ (p:PV),(∀ t∈ao p,σ (τ t)=t)→em σ (em τ p)=p
 | .junk,_=>rfl
 | .d _,_=>rfl
 | .ptr t o,h=>by simp only [em]; rw [h t (by simp [ao])]
 | .row t o,h=>by simp only [em]; rw [h t (by simp [ao])]
 | .re t _ _ _,h=>by simp only [em]; rw [h t (by simp [ao])]
 | .vw t _ _ _,h=>by simp only [em]; rw [h t (by simp [ao])]
 | .fe _,_=>rfl
 | .ag cs,h=>by simp only [em]; rw [iJ cs h]
 | .tup cs,h=>by simp only [em]; rw [iJ cs h]
 | .fn f ps qs,h=>by simp only [em]; rw [iJ ps (fun t ht=>h t (by simp [ao,ht])),iJ qs (fun t ht=>h t (by simp [ao,ht]))]
theorem iJ {σ τ : Nat→Nat} : ∀ (cs:List PV),(∀ t∈aC cs,σ (τ t)=t)→ck σ (ck τ cs)=cs
 | [],_=>rfl
 | c::cs,h=>by simp only [ck]; rw [yb c (fun t ht=>h t (by simp [aC,ht])),iJ cs (fun t ht=>h t (by simp [aC,ht]))]
end
theorem pm {σ : Nat→Nat} : ∀ {l:BU} {t:Nat} {B:Box},(∀ s∈aJ l,∀ s'∈aJ l,σ s = σ s'→s=s')→lkU l t=some B→lkU (ej σ l) (σ t)=some (k8 σ B)
 | [],t,B,_,h=>by cases h
 | (j,C)::l,t,B,hinj,h=>by
  simp only [lkU] at h
  simp only [ej,lkU]
  by_cases ht:t=j
  ·subst ht
   rw [if_pos rfl] at h
   injection h with h
   subst h
   rw [if_pos rfl]
  ·rw [if_neg ht] at h
   have hm:t∈aJ l:=bc.2 ⟨B,h⟩
   rw [if_neg (fun e=>ht (hinj t (by simp [aJ,hm]) j (by simp [aJ]) e))]
   exact pm (fun s hs s' hs' e=>hinj s (by simp [aJ,hs]) s' (by simp [aJ,hs']) e) h
theorem kg {σ : Nat→Nat} : ∀ {l:BU} {i:Nat} {B:Box},lkU (ej σ l) i=some B→∃ t∈aJ l,i = σ t
 | [],i,B,h=>by cases h
 | (j,C)::l,i,B,h=>by
  simp only [ej,lkU] at h
  by_cases hi:i = σ j
  ·exact ⟨j,by simp [aJ],hi⟩
  ·rw [if_neg hi] at h
   obtain ⟨t,h1,h2⟩:=kg h
   exact ⟨t,by simp [aJ,h1],h2⟩
section
variable {P:Program} {ρ ρ' ρ2:Nat→Value} {b b' b2:Nat→Option Box} {w w':World} {w0:WM} {F F' F0:Nat→Prop} {n:Nat} {σ τ : Nat→Nat}
theorem ah.ren {x:Value} {p:PV} (h:ah ρ b w F x p) : (∀ t∈ao p,∀ B,b t=some B→b2 (σ t)=some (k8 σ B)∧ρ2 (σ t) = ρ t)→ah ρ2 b2 w F x (em σ p):=by
 induction h with
 | junk x=>exact fun _=>.junk x
 | d x d h=>exact fun _=>.d x d h
 | ag xs cs hl h1 hr ih=>exact fun hc=>.ag xs _ (by rw [dK]; exact hl) h1 (fun j x c h2 h3=>by obtain ⟨d,h4,rfl⟩:=eA σ cs j c h3; exact ih j x d h2 h4 (fun t ht=>hc t (bR h4 ht)))
 | tup xs cs hl hr ih=>exact fun hc=>.tup xs _ (by rw [dK]; exact hl) (fun j x c h2 h3=>by obtain ⟨d,h4,rfl⟩:=eA σ cs j c h3; exact ih j x d h2 h4 (fun t ht=>hc t (bR h4 ht)))
 | ptr t off g ty cs hb hρ =>
  intro hc
  obtain ⟨h1,h2⟩:=hc t (by simp [ao]) _ hb
  exact .ptr _ off g ty _ h1 (h2.trans hρ)
 | row t n A c e k es hb hn hcc hA hρ =>
  intro hc
  obtain ⟨h1,h2⟩:=hc t (by simp [ao]) _ hb
  exact .row _ n A c e k es h1 hn hcc hA (fun h=>h2.trans (hρ h))
 | re t n i off a e k es hb hn hi hρ =>
  intro hc
  obtain ⟨h1,h2⟩:=hc t (by simp [ao]) _ hb
  exact .re _ n i off a e k es h1 hn hi (fun h=>by obtain ⟨g,c,h3,h4⟩:=hρ h; exact ⟨g,c,h2.trans h3,h4⟩)
 | vw t n lo hi A m c e k es hb hn hl hh hm hρ =>
  intro hc
  obtain ⟨h1,h2⟩:=hc t (by simp [ao]) _ hb
  exact .vw _ n lo hi A m c e k es h1 hn hl hh hm (fun h=>by obtain ⟨g,c,h3,h4⟩:=hρ h; exact ⟨g,c,h2.trans h3,h4⟩)
 | fe a cs us hF hcell hrep=>exact fun _=>.fe a cs us hF hcell hrep
 | fn f xs ys ps qs hl hr hl2 hr2 ih ih2 =>
  intro hc
  exact .fn f xs ys _ _ (by rw [dK]; exact hl) (fun j x c h2 h3=>by obtain ⟨d,h4,rfl⟩:=eA σ ps j c h3; exact ih j x d h2 h4 (fun t ht=>hc t (by simp only [ao,List.mem_append]; exact .inl (bR h4 ht))))
   (by rw [dK]; exact hl2) (fun j x c h2 h3=>by obtain ⟨d,h4,rfl⟩:=eA σ qs j c h3; exact ih2 j x d h2 h4 (fun t ht=>hc t (by simp only [ao,List.mem_append]; exact .inr (bR h4 ht))))
theorem dj.ren {own own':Nat→Prop} {t:Nat} {B:Box} (h:dj ρ b own w F t B) (hρ : ρ2 (σ t) = ρ t) (ho:∀ g,blk (ρ t)=some g→own' g) (hc:∀ t∈u5 B,∀ B,b t=some B→b2 (σ t)=some (k8 σ B)∧ρ2 (σ t) = ρ t) : dj ρ2 b2 own' w F (σ t) (k8 σ B):=by
 cases h with
 | st ty cs g xs hr0 hg hF0 hh hl h1 hr =>
  exact .st ty _ g xs (hρ.trans hr0) (ho g (by rw [hr0]; rfl)) hF0 hh (by rw [dK]; exact hl) h1 (fun j x c h2 h3=>by obtain ⟨d,h4,rfl⟩:=eA σ cs j c h3; exact (hr j x d h2 h4).ren (fun t ht=>hc t (bR h4 ht)))
 | rw e k es xs hk0 h1 hF0 hk hl hr hown =>
  exact .rw e k es xs hk0 (by rw [hρ]; exact h1) (by rw [hρ]; exact hF0) hk hl hr (by rw [hρ]; exact ho)
 | gn e k es hr0=>exact .gn e k es (hρ.trans hr0)
theorem ah.nb {x:Value} {p:PV} (h:ah ρ b w F x p) : ah ρ (fun i=>(b i).map iL) w F x p:=by
 induction h with
 | junk x=>exact .junk x
 | d x d h=>exact .d x d h
 | ag xs cs hl h1 hr ih=>exact .ag xs _ hl h1 ih
 | tup xs cs hl hr ih=>exact .tup xs _ hl ih
 | ptr t off g ty cs hb hρ=>exact .ptr _ off g ty (bO cs) (by rw [hb]; rfl) hρ
 | row t n A c e k es hb hn hcc hA hρ=>exact .row _ n A c e k es (by rw [hb]; rfl) hn hcc hA hρ
 | re t n i off a e k es hb hn hi hρ=>exact .re _ n i off a e k es (by rw [hb]; rfl) hn hi hρ
 | vw t n lo hi A m c e k es hb hn hl hh hm hρ=>exact .vw _ n lo hi A m c e k es (by rw [hb]; rfl) hn hl hh hm hρ
 | fe a cs us hF hcell hrep=>exact .fe a cs us hF hcell hrep
 | fn f xs ys ps qs hl hr hl2 hr2 ih ih2=>exact .fn f xs ys _ _ hl ih hl2 ih2
theorem dj.nb {own:Nat→Prop} {t:Nat} {B:Box} (h:dj ρ b own w F t B) : dj ρ (fun i=>(b i).map iL) own w F t (iL B):=by
 cases h with
 | st ty cs g xs hr0 hg hF0 hh hl h1 hr=>exact .st ty _ g xs hr0 hg hF0 hh (by rw [cz]; exact hl) h1 (fun j x c h2 h3=>by obtain ⟨d,h4,rfl⟩:=dL cs j c h3; exact (hr j x d h2 h4).nb.nrmd)
 | rw e k es xs hk0 h1 hF0 hk hl hr hown=>exact .rw e k es xs hk0 h1 hF0 hk hl hr hown
 | gn e k es hr0=>exact .gn e k es hr0
def oW (ρ : Nat→Value) (b:Nat→Option Box) : Nat→Prop:=fun g=>∃ t B,b t=some B∧blk (ρ t)=some g
def qz (bi:BU) (K:List Nat) : Nat→Option Box:=fun t=>if t∈K then lkU bi t else none
def PCm (P:Program) (f:FuncId) (args:List PV) (bi:BU) (K:List Nat) (Q:PV→BU→Prop) : Prop :=
 bV P f=true∧∀ (w:World) (F:Nat→Prop) (ρ : Nat→Value) (vs:Array Value),Inv ⟨w,oW ρ (lkU bi),fun _=>none⟩ F ρ (lkU bi) w F→a7 ρ (lkU bi) w F vs.toList args →
  Calls P f vs w fun e w'=>∃ v ρ' F' r bo,Q r bo∧e = .returned v∧Inv ⟨w,oW ρ (lkU bi),fun _=>none⟩ F ρ' (lkU bo) w' F'∧Stp ρ (qz bi K) w F ρ' (lkU bo) w' F'∧ah ρ' (lkU bo) w' F' v r
def ut (l:BU) : Prop:=∀ t B,lkU l t=some B→∀ s∈u5 B,s∈aJ l
structure E8 (τi τ : Nat→Nat) (bi bo:BU) (K:List Nat) (u:BU) : Prop where
 out:∀ s B,lkU bo s=some B→lkU u (τ s)=some (k8 τ B)
 gone:∀ s B,lkU bi s=some B→s ∉ K→∃ e k es es',B = .rw e k es∧lkU u (τi s)=some (.rw e k es')∧es.length < es'.length
 only:∀ i B,lkU u i=some B→(∃ s∈aJ bo,i = τ s)∨(∃ s∈aJ bi,s ∉ K∧i = τi s)
structure Fb (τi τ : Nat→Nat) (bi bo:BU) (K:List Nat) : Prop where
 ii:∀ s∈aJ bi,∀ s'∈aJ bi,τi s = τi s'→s=s'
 oo:∀ s∈aJ bo,∀ s'∈aJ bo,τ s = τ s'→s=s'
 io:∀ s∈aJ bi,∀ s'∈aJ bo,τi s = τ s'→s=s'∧s∈K
 k:∀ s∈K,s∈aJ bi∧s∈aJ bo∧τi s = τ s
theorem Cy {f:FuncId} {τi:Nat→Nat} {args args':List PV} {bi u:BU} {K N:List Nat} {Q:PV→BU→Prop} {r':PV} (h:PCm P f args bi K Q) (hii:∀ s∈aJ bi,∀ s'∈aJ bi,τi s = τi s'→s=s')
  (hQ:∀ r bo,Q r bo→∃ τ,Fb τi τ bi bo K∧E8 τi τ bi bo K u∧em τ r=r'∧∀ s∈aJ bo,s ∉ K→τ s∈N) (hnew:∀ t∈N,t < 1000000)
  (ha:∀ s∈aC args,s∈aJ bi) (hargs:bO args' = ck τi args) (hbi:ut bi)
  (w0:WM) (F0:Nat→Prop) (ρ : Nat→Value) (b:Nat→Option Box) (w:World) (F:Nat→Prop) (vs:Array Value) (hb:∀ s B,lkU bi s=some B→∃ B',b (τi s)=some B'∧iL B' = k8 τi B) (hbn:∀ t∈N,b t=none)
  (hi:Inv w0 F0 ρ b w F) (hv:a7 ρ b w F vs.toList args') :
  Calls P f vs w fun e w'=>∃ v ρ' F',e = .returned v∧Inv w0 F0 ρ' (bG b u) w' F'∧Stp ρ b w F ρ' (bG b u) w' F'∧ah ρ' (bG b u) w' F' v r':=by
 classical
 obtain ⟨_,hcall⟩:=h
 have mkσ : ∀ (τ : Nat→Nat) (dom:Nat→Prop),(∀ s,dom s→∀ s',dom s'→τ s = τ s'→s=s')→∃ σ : Nat→Nat,∀ s,dom s→σ (τ s)=s:=fun τ dom hinj=>by
  refine ⟨fun i=>if h:∃ s,dom s∧τ s=i then h.choose else i,fun s hs=>?_⟩
  have hex:∃ s',dom s'∧τ s' = τ s:=⟨s,hs,rfl⟩
  show (if h:∃ s',dom s'∧τ s' = τ s then h.choose else τ s)=s
  rw [dif_pos hex]
  exact hinj _ hex.choose_spec.1 s hs hex.choose_spec.2
 obtain ⟨σ,hσ⟩:=mkσ τi (fun s=>s∈aJ bi) hii
 let ρ0:Nat→Value:=fun s=>ρ (τi s)
 let bn:Nat→Option Box:=fun i=>(b i).map iL
 have hbt:∀ s B,lkU bi s=some B→bn (τi s)=some (k8 τi B):=fun s B hs=>by
  obtain ⟨B',h1,h2⟩:=hb s B hs
  show (b (τi s)).map iL = _
  rw [h1,← h2]; rfl
 have hdi:∀ {s B},lkU bi s=some B→s∈aJ bi:=fun h=>bc.2 ⟨_,h⟩
 have hback:∀ s B,lkU bi s=some B→k8 σ (k8 τi B)=B:=fun s B hs=>by
  cases B with
  | st ty cs=>simp only [k8]; rw [iJ cs (fun t ht=>hσ t (hbi s _ hs t ht))]
  | rw=>rfl
 have hgo:∀ s∈aJ bi,∀ B',bn (τi s)=some B'→lkU bi (σ (τi s))=some (k8 σ B')∧ρ0 (σ (τi s)) = ρ (τi s):=fun s hs B' hB'=>by
  obtain ⟨B,hB⟩:=bc.1 hs
  rw [hbt s B hB] at hB'
  injection hB' with hB'
  subst hB'
  rw [hσ s hs,hback s B hB]
  exact ⟨hB,rfl⟩
 have hin:∀ {x:Value} {p:PV},(∀ s∈ao p,s∈aJ bi)→ah ρ bn w F x (em τi p)→ah ρ0 (lkU bi) w F x p:=fun {x p} hp hx=>by
  have:=hx.ren (σ:=σ) (b2:=lkU bi) (ρ2:=ρ0) (fun t ht B hB=>by
   rw [u3] at ht
   obtain ⟨s,hs,rfl⟩:=List.mem_map.1 ht
   exact hgo s (hp s hs) B hB)
  rw [yb p (fun t ht=>hσ t (hp t ht))] at this
  exact this
 have hown:∀ s B g,lkU bi s=some B→blk (ρ0 s)=some g→g < w.heap.size∧w0.own g∧¬ F g:=fun s B g hs hg=>by
  obtain ⟨B',h1,_⟩:=hb s B hs
  exact (hi.box _ _ h1).lt hg
 have hi0:Inv ⟨w,oW ρ0 (lkU bi),fun _=>none⟩ F ρ0 (lkU bi) w F:=by
  refine ⟨.of w rfl,fun _ h=>h,hi.flt,fun _ h=>.inl h,fun s B hs=>?_,fun s s' B B' g h1 h2 hne hg=>?_,fun t q h=>by cases h⟩
  ·obtain ⟨B1,h1,h2⟩:=hb s B hs
   have hbx:=(hi.box _ _ h1).nb
   rw [h2] at hbx
   have:=hbx.ren (σ:=σ) (ρ2:=ρ0) (b2:=lkU bi) (own':=WM.own ⟨w,oW ρ0 (lkU bi),fun _=>none⟩) (by show ρ (τi (σ (τi s))) = ρ (τi s); rw [hσ s (hdi hs)]) (fun g hg=>.inr ⟨s,B,hs,hg⟩) (fun t ht B' hB'=>by
    have ht:t∈(u5 B).map τi:=by
     cases B with
     | st ty cs=>show t∈(aC cs).map τi; rw [← fZ]; exact ht
     | rw=>exact ht
    obtain ⟨s',hs',rfl⟩:=List.mem_map.1 ht
    exact hgo s' (hbi s B hs s' hs') B' hB')
   rw [hσ s (hdi hs),hback s B hs] at this
   exact this
  ·obtain ⟨B1,m1,_⟩:=hb s B h1
   obtain ⟨B2,m2,_⟩:=hb s' B' h2
   exact hi.dist _ _ _ _ g m1 m2 (fun e=>hne (hii s (hdi h1) s' (hdi h2) e)) hg
 have hv0:a7 ρ0 (lkU bi) w F vs.toList args:=by
  have hlen:args'.length=args.length:=by rw [← cz args',hargs,dK]
  refine ⟨by rw [hv.len,hlen],fun j x c h1 h2=>hin (fun s hs=>ha s (bR h2 hs)) ?_⟩
  have hlt:j < args.length:=(zg.1 h2).1
  have h3:args'[j]? = some args'[j]:=by simp [hlen,hlt]
  have h4:=(hv.rep j x _ h1 h3).nb.nrmd
  have h5:(bO args')[j]? = some (gP args'[j]):=by
   have hl2:j < (bO args').length:=by rw [cz,hlen]; exact hlt
   obtain ⟨d,h6,h7⟩:=dL args' j _ (zq hl2)
   rw [h3] at h6
   injection h6 with h6
   rw [zq hl2,h7,h6]
  have h8:(ck τi args)[j]? = some (em τi c):=by
   have hl2:j < (ck τi args).length:=by rw [dK]; exact hlt
   obtain ⟨d,h6,h7⟩:=eA τi args j _ (zq hl2)
   rw [h2] at h6
   injection h6 with h6
   rw [zq hl2,h7,h6]
  rw [hargs,h8] at h5
  injection h5 with h5
  rw [h5]
  exact h4
 refine (hcall w F ρ0 vs hi0 hv0).mono ?_
 rintro e w' ⟨v,ρ1,F',r,bo,hq,rfl,k1,k2,k3⟩
 obtain ⟨τ,hfit,hu,hr',hN⟩:=hQ r bo hq
 rw [← hr']
 have hnew:∀ s∈aJ bo,s ∉ K→τ s < 1000000:=fun s h1 h2=>hnew _ (hN s h1 h2)
 have hbn:∀ s∈aJ bo,s ∉ K→b (τ s)=none:=fun s h1 h2=>hbn _ (hN s h1 h2)
 obtain ⟨σo,hσo⟩:=mkσ τ (fun s=>s∈aJ bo) hfit.oo
 have hdo:∀ {s B},lkU bo s=some B→s∈aJ bo:=fun h=>bc.2 ⟨_,h⟩
 let ρ':Nat→Value:=fun i=>match lkU u i with | none=>ρ i | some _=>if ∃ s,s∈aJ bo∧τ s=i then ρ1 (σo i) else .tuple #[]
 have hρin:∀ s B,lkU bo s=some B→ρ' (τ s) = ρ1 s:=fun s B hs=>by
  show (match lkU u (τ s) with | none=>ρ (τ s) | some _=>if ∃ s',s'∈aJ bo∧τ s' = τ s then ρ1 (σo (τ s)) else .tuple #[]) = ρ1 s
  rw [hu.out s B hs]
  simp only [hσo s (hdo hs)]
  rw [if_pos ⟨s,hdo hs,rfl⟩]
 have hρgone:∀ s B,lkU bi s=some B→s ∉ K→ρ' (τi s) = .tuple #[]:=fun s B hs hn=>by
  obtain ⟨e,k,es,es',_,h1,_⟩:=hu.gone s B hs hn
  show (match lkU u (τi s) with | none=>ρ (τi s) | some _=>if ∃ s',s'∈aJ bo∧τ s' = τi s then ρ1 (σo (τi s)) else .tuple #[]) = .tuple #[]
  rw [h1]
  simp only
  rw [if_neg]
  rintro ⟨s',h2,h3⟩
  exact hn (hfit.io s (hdi hs) s' h2 h3.symm).2
 have hρout:∀ i,lkU u i=none→ρ' i = ρ i:=fun i h=>by
  show (match lkU u i with | none=>ρ i | some _=>if ∃ s,s∈aJ bo∧τ s=i then ρ1 (σo i) else .tuple #[]) = ρ i
  rw [h]
 have hbin:∀ s B,lkU bo s=some B→bG b u (τ s)=some (k8 τ B):=fun s B hs=>by
  simp only [bG,hu.out s B hs]
 have hbout:∀ i,lkU u i=none→bG b u i=b i:=fun i h=>by simp only [bG,h]
 have hgo':∀ s B,lkU bo s=some B→bG b u (τ s)=some (k8 τ B)∧ρ' (τ s) = ρ1 s:=fun s B hs=>⟨hbin s B hs,hρin s B hs⟩
 have huse:∀ s B,lkU bi s=some B→∃ C,lkU u (τi s)=some C:=fun s B hs=>by
  by_cases hk:s∈K
  ·obtain ⟨_,h2,h3⟩:=hfit.k s hk
   obtain ⟨C,hC⟩:=bc.1 h2
   exact ⟨_,by rw [h3]; exact hu.out s C hC⟩
  ·obtain ⟨e,k,es,es',_,h1,_⟩:=hu.gone s B hs hk; exact ⟨_,h1⟩
 have houtside:∀ i B,lkU u i=none→b i=some B→∀ g,blk (ρ i)=some g→g < w.heap.size∧¬ oW ρ0 (lkU bi) g:=fun i B h hB g hg=>by
  refine ⟨((hi.box i B hB).lt hg).1,?_⟩
  rintro ⟨s,C,hs,hg2⟩
  obtain ⟨B1,m1,_⟩:=hb s C hs
  refine hi.dist i (τi s) B _ g hB m1 (fun e=>?_) hg hg2
  obtain ⟨D,hD⟩:=huse s C hs
  rw [e,hD] at h
  cases h
 have hown':∀ g,WM.own ⟨w,oW ρ0 (lkU bi),fun _=>none⟩ g→w0.own g:=by
  rintro g (hg | ⟨s,B,hs,hg⟩)
  ·exact .inl (Nat.le_trans hi.ext.size hg)
  ·exact (hown s B g hs hg).2.1
 have hcase:∀ i B,bG b u i=some B→(∃ s C,lkU bo s=some C∧i = τ s∧B=k8 τ C)∨(lkU u i=none∧b i=some B)∨(∃ e k es,B = .rw e k es∧ρ' i = .tuple #[]):=fun i B hB=>by
  cases hl:lkU u i with
  | none=>exact .inr (.inl ⟨rfl,by rw [hbout i hl] at hB; exact hB⟩)
  | some C =>
   rcases hu.only i C hl with ⟨s,hs,rfl⟩ | ⟨s,hs,hk,rfl⟩
   ·obtain ⟨C',hC'⟩:=bc.1 hs
    rw [hbin s C' hC'] at hB
    injection hB with hB
    exact .inl ⟨s,C',hC',rfl,hB.symm⟩
   ·obtain ⟨B0,hB0⟩:=bc.1 hs
    obtain ⟨e,k,es,es',_,h1,_⟩:=hu.gone s B0 hB0 hk
    simp only [bG,h1] at hB
    injection hB with hB
    exact .inr (.inr ⟨e,k,es',hB.symm,hρgone s B0 hB0 hk⟩)
 have hold:∀ s∈aJ bo,∀ B,b (τ s)=some B→∃ B0,lkU bi s=some B0∧iL B=k8 τi B0∧qz bi K s=some B0∧ρ (τ s) = ρ0 s:=fun s hs B hB=>by
  by_cases hk:s∈K
  ·obtain ⟨h1,h2,h3⟩:=hfit.k s hk
   obtain ⟨B0,hB0⟩:=bc.1 h1
   obtain ⟨B1,m1,m2⟩:=hb s B0 hB0
   rw [h3,hB] at m1
   injection m1 with m1
   subst m1
   exact ⟨B0,hB0,m2,by unfold qz; rw [if_pos hk]; exact hB0,by show ρ (τ s) = ρ (τi s); rw [h3]⟩
  ·rw [hbn s hs hk] at hB
   cases hB
 have hs:Stp ρ b w F ρ' (bG b u) w' F':=by
  refine ⟨k2.hF,k2.hw,fun t ty cs ht=>?_,fun t e k es ht=>?_⟩
  ·cases hl:lkU u t with
   | none=>exact ⟨⟨ty,cs,by rw [hbout t hl]; exact ht⟩,hρout t hl⟩
   | some C =>
    rcases hu.only t C hl with ⟨s,hs,rfl⟩ | ⟨s,hs,hk,rfl⟩
    ·obtain ⟨B0,h1,h2,h3,h4⟩:=hold s hs _ ht
     cases B0 with
     | rw=>cases h2
     | st ty0 cs0 =>
      obtain ⟨⟨ty1,cs1,h5⟩,h6⟩:=k2.hst s ty0 cs0 h3
      exact ⟨⟨ty1,_,hbin s _ h5⟩,by rw [hρin s _ h5,h6,h4]⟩
    ·exfalso
     obtain ⟨B0,hB0⟩:=bc.1 hs
     obtain ⟨e,k,es,es',rfl,_⟩:=hu.gone s B0 hB0 hk
     obtain ⟨B1,m1,m2⟩:=hb s _ hB0
     rw [m1] at ht
     injection ht with ht
     subst ht
     cases m2
  ·cases hl:lkU u t with
   | none=>exact ⟨e,es,by rw [hbout t hl]; exact ht,Nat.le_refl _,fun _=>hρout t hl⟩
   | some C =>
    rcases hu.only t C hl with ⟨s,hs,rfl⟩ | ⟨s,hs,hk,rfl⟩
    ·obtain ⟨B0,h1,h2,h3,h4⟩:=hold s hs _ ht
     cases B0 with
     | st=>cases h2
     | rw e0 k0 es0 =>
      injection h2 with q1 q2 q3
      subst q1 q2 q3
      obtain ⟨e1,es1,h5,h6,h7⟩:=k2.hrw s _ _ _ h3
      exact ⟨e1,es1,hbin s _ h5,h6,fun he=>by rw [hρin s _ h5,h7 he,h4]⟩
    ·obtain ⟨B0,hB0⟩:=bc.1 hs
     obtain ⟨e1,k1',es1,es',rfl,h1,h2⟩:=hu.gone s B0 hB0 hk
     obtain ⟨B1,m1,m2⟩:=hb s _ hB0
     rw [m1] at ht
     injection ht with ht
     subst ht
     injection m2 with q1 q2 q3
     subst q1 q2 q3
     exact ⟨e,es',by simp only [bG,h1],Nat.le_of_lt h2,fun he=>by omega⟩
 refine ⟨v,ρ',F',rfl,⟨?_,fun g hg=>k1.f0 g (hi.f0 g hg),k1.flt,fun g hg=>?_,fun i B hB=>?_,fun i i' B B' g hB hB' hne hg=>?_,hi.reg_stp hs fun t ht hn=>?_⟩,hs,k3.ren fun t ht B hB=>hgo' t B hB⟩
 ·exact hi.ext.step k1.ext.os k1.ext.tape k1.ext.output k1.ext.size fun g hg hM=>k1.ext.block g (Nat.lt_of_lt_of_le hg hi.ext.size) fun ⟨s,B,hs,hg2⟩=>kP hg hM (hown s B g hs hg2).2.1
 ·rcases k1.fnew g hg with h | h
  ·exact hi.fnew g h
  ·exact .inr (hown' g h)
 ·rcases hcase i B hB with ⟨s,C,hC,rfl,rfl⟩ | ⟨hl,hB⟩ | ⟨e,k,es,rfl,hg⟩
  ·exact (k1.box s C hC).ren (hρin s C hC) (fun g hg=>hown' g ((k1.box s C hC).lt hg).2.1) (fun t ht B hB=>hgo' t B hB)
  ·refine (hi.box i B hB).mono hs (hρout i hl) (fun g hg=>?_) (fun g hg hF=>?_)
   ·obtain ⟨h1,h2⟩:=houtside i B hl hB g hg
    exact k1.ext.block g h1 h2
   ·obtain ⟨h1,h2⟩:=houtside i B hl hB g hg
    rcases k1.fnew g hF with h | h | h
    ·exact ((hi.box i B hB).lt hg).2.2 h
    ·exact absurd h1 (Nat.not_lt.2 h)
    ·exact h2 h
  ·exact .gn e k es hg
 ·have mixed:∀ s C i B,lkU bo s=some C→lkU u i=none→b i=some B→blk (ρ1 s)=some g→blk (ρ i)≠some g:=fun s C i B hC hl hB h1 h2=>by
   obtain ⟨m1,m2⟩:=houtside i B hl hB g h2
   rcases ((k1.box s C hC).lt h1).2.1 with h | h
   ·exact absurd m1 (Nat.not_lt.2 h)
   ·exact m2 h
  rcases hcase i B hB with ⟨s,C,hC,rfl,rfl⟩ | ⟨hl,hB⟩ | ⟨e,k,es,rfl,hgo⟩
  ·rw [hρin s C hC] at hg
   rcases hcase i' B' hB' with ⟨s',C',hC',rfl,rfl⟩ | ⟨hl',hB'⟩ | ⟨e,k,es,rfl,hgo⟩
   ·rw [hρin s' C' hC']
    exact k1.dist s s' C C' g hC hC' (fun e=>hne (by rw [e])) hg
   ·rw [hρout i' hl']
    exact mixed s C i' B' hC hl' hB' hg
   ·rw [hgo]; exact fun h=>by cases h
  ·rw [hρout i hl] at hg
   rcases hcase i' B' hB' with ⟨s',C',hC',rfl,rfl⟩ | ⟨hl',hB'⟩ | ⟨e,k,es,rfl,hgo⟩
   ·rw [hρin s' C' hC']
    exact fun h=>mixed s' C' i B hC' hl hB h hg
   ·rw [hρout i' hl']
    exact hi.dist i i' B B' g hB hB' hne hg
   ·rw [hgo]; exact fun h=>by cases h
  ·rw [hgo] at hg; cases hg
 ·cases hl:lkU u t with
  | none=>rw [hbout t hl]; exact hn
  | some C =>
   exfalso
   rcases hu.only t C hl with ⟨s,hs,rfl⟩ | ⟨s,hs,hk,rfl⟩
   ·by_cases hk:s∈K
    ·obtain ⟨h1,h2,h3⟩:=hfit.k s hk
     obtain ⟨B0,hB0⟩:=bc.1 h1
     obtain ⟨B1,m1,_⟩:=hb s B0 hB0
     rw [h3,hn] at m1
     cases m1
    ·have:=hnew s hs hk
     omega
   ·obtain ⟨B0,hB0⟩:=bc.1 hs
    obtain ⟨B1,m1,_⟩:=hb s B0 hB0
    rw [m1] at hn
    cases hn
end
end
section
section
variable {P:Program} {ρ ρ' ρ2:Nat→Value} {b b' b2:Nat→Option Box} {w w':World} {w0:WM} {F F' F0:Nat→Prop} {n:Nat}
theorem ah.to {x:Value} {p:PV} (h:ah ρ b w F x p) : (∀ t∈ao p,(∀ ty cs,b t=some (.st ty cs)→∃ cs',b2 t=some (.st ty cs'))∧∀ e k es,b t=some (.rw e k es)→b2 t=some (.rw e k es))→ah ρ b2 w F x p:=by
 induction h with
 | junk x=>exact fun _=>.junk x
 | d x d h=>exact fun _=>.d x d h
 | ag xs cs hl h1 hr ih=>exact fun hc=>.ag xs _ hl h1 (fun j x c h2 h3=>ih j x c h2 h3 (fun t ht=>hc t (bR h3 ht)))
 | tup xs cs hl hr ih=>exact fun hc=>.tup xs _ hl (fun j x c h2 h3=>ih j x c h2 h3 (fun t ht=>hc t (bR h3 ht)))
 | ptr t off g ty cs hb hρ =>
  intro hc
  obtain ⟨cs',h1⟩:=(hc t (by simp [ao])).1 _ _ hb
  exact .ptr _ off g ty _ h1 hρ
 | row t n A c e k es hb hn hcc hA hρ =>
  intro hc
  exact .row _ n A c e k es ((hc t (by simp [ao])).2 _ _ _ hb) hn hcc hA hρ
 | re t n i off a e k es hb hn hi hρ =>
  intro hc
  exact .re _ n i off a e k es ((hc t (by simp [ao])).2 _ _ _ hb) hn hi hρ
 | vw t n lo hi A m c e k es hb hn hl hh hm hρ =>
  intro hc
  exact .vw _ n lo hi A m c e k es ((hc t (by simp [ao])).2 _ _ _ hb) hn hl hh hm hρ
 | fe a cs us hF hcell hrep=>exact fun _=>.fe a cs us hF hcell hrep
 | fn f xs ys ps qs hl hr hl2 hr2 ih ih2 =>
  intro hc
  exact .fn f xs ys _ _ hl (fun j x c h2 h3=>ih j x c h2 h3 (fun t ht=>hc t (by simp only [ao,List.mem_append]; exact .inl (bR h3 ht))))
   hl2 (fun j x c h2 h3=>ih2 j x c h2 h3 (fun t ht=>hc t (by simp only [ao,List.mem_append]; exact .inr (bR h3 ht))))
mutual
theorem u4:∀ p:PV,ao (gP p)=ao p
 | .junk=>rfl
 | .d _=>rfl
 | .ptr _ _=>rfl
 | .row _ _=>rfl
 | .re _ _ _ _=>rfl
 | .vw _ _ _ _=>rfl
 | .fe _=>rfl
 | .ag cs=>by simp only [gP,ao,f4 cs]
 | .tup cs=>by simp only [gP,ao,f4 cs]
 | .fn f ps qs=>by simp only [gP,ao,f4 ps,f4 qs]
theorem f4:∀ cs:List PV,aC (bO cs)=aC cs
 | []=>rfl
 | c::cs=>by simp only [bO,aC,u4 c,f4 cs]
end
def mz (ρ : Nat→Value) (bi:BU) (K:List Nat) : Nat→Option (Value×Option (Nat×Nat)):=fun t=>if t∈K then (match lkU bi t with
 | some (.st _ _)=>some (ρ t,none)
 | some (.rw _ k es)=>some (ρ t,some (k,es.length))
 | none=>none) else none
def E6 (P:Program) (fn:Func) (K:List Nat) (Q:PV→BU→Prop) (e:Exit) (s:PS) : Prop :=
 (match e with | .normal=>True | .ret=>True | _=>False)∧∃ r bo,Q r bo∧(∀ t∈K,t∈aJ bo)∧(∀ s∈ao r,s∈aJ bo)∧ut bo∧(∃ p,ig P fn s=some p∧gP p=r)∧∀ t B,lkU bo t=some B→∃ B',s.b t=some B'∧iL B' = B
theorem zx {f:FuncId} {fn:Func} {c:Code} {args:List PV} {bi:BU} {K:List Nat} {Q:PV→BU→Prop} (hf:P.funcs[f]? = some fn) (hb:fn.body=some c) (hcb:bV P f=true) (hlen:args.length≤fn.ntmps)
  (hid:∀ t∈K,1000000≤t) (h:PWP P fn.ntmps c (E6 P fn K Q) ⟨eo args,lkU bi⟩) : PCm P f args bi K Q:=by
 refine ⟨hcb,fun w F ρ vs hi0 hv=>?_⟩
 refine calls_of_wp hf hb ?_
 have hl:vs.size=args.length:=by have:=hv.len; simpa using this
 have hi1:Inv ⟨w,oW ρ (lkU bi),mz ρ bi K⟩ F ρ (lkU bi) w F:=by
  refine ⟨⟨hi0.ext.os,hi0.ext.tape,hi0.ext.output,hi0.ext.size,hi0.ext.block⟩,hi0.f0,hi0.flt,hi0.fnew,hi0.box,hi0.dist,fun t q hq=>?_⟩
  have hq:mz ρ bi K t=some q:=hq
  unfold mz at hq
  split at hq
  ·rename_i hk
   split at hq
   ·rename_i ty cs hB
    injection hq with hq
    subst hq
    exact ⟨hid t hk,.inr ⟨⟨ty,cs,hB⟩,rfl⟩⟩
   ·rename_i e k es hB
    injection hq with hq
    subst hq
    exact ⟨hid t hk,.inr ⟨e,es,hB,Nat.le_refl _,fun _=>rfl⟩⟩
   ·cases hq
  ·cases hq
 have hc:fh fn.ntmps ⟨w,oW ρ (lkU bi),mz ρ bi K⟩ F ⟨eo args,lkU bi⟩ { tmps:=vs++Array.replicate (fn.ntmps - vs.size) undef,defers:=[] } w:=by
  refine ⟨by simp; omega,rfl,ρ,F,hi1,fun i=>?_⟩
  by_cases hi:i < vs.size
  ·have e1:(vs++Array.replicate (fn.ntmps - vs.size) undef).getD i undef=vs[i]:=by simp [Array.getElem?_append,hi]
   show ah ρ (lkU bi) w F _ (eo args i)
   rw [e1]
   have hia:i < args.length:=by omega
   unfold eo
   rw [zq hia]
   exact hv.rep i _ _ (by simp [hi]) (zq hia)
  ·show ah ρ (lkU bi) w F _ (eo args i)
   unfold eo
   rw [List.getElem?_eq_none (by omega)]
   exact .junk _
 refine wp_mono (h ⟨w,oW ρ (lkU bi),mz ρ bi K⟩ F _ w hc) fun e a' w' ⟨s',⟨hex,r,bo,hq,hid2,hr,hbo,⟨p,h1,h2⟩,h3⟩,_,hd,ρ',F',hi,hev⟩=>?_
 obtain ⟨v,hv1,hv2⟩:=pY (P:=P) hi hev h1
 have hto:∀ t∈aJ bo,(∀ ty cs,s'.b t=some (.st ty cs)→∃ cs',lkU bo t=some (.st ty cs'))∧∀ e k es,s'.b t=some (.rw e k es)→lkU bo t=some (.rw e k es):=fun t ht=>by
  obtain ⟨B,hB⟩:=bc.1 ht
  obtain ⟨B',hB',hn⟩:=h3 t B hB
  refine ⟨fun ty cs k=>?_,fun e k es k1=>?_⟩
  ·rw [hB'] at k
   injection k with k
   subst k
   exact ⟨_,by rw [hB,← hn]; rfl⟩
  ·rw [hB'] at k1
   injection k1 with k1
   subst k1
   rw [hB,← hn]; rfl
 have hbox:∀ t B,lkU bo t=some B→dj ρ' (lkU bo) (WM.own ⟨w,oW ρ (lkU bi),fun _=>none⟩) w' F' t B:=fun t B hB=>by
  obtain ⟨B',hB',rfl⟩:=h3 t B hB
  have hbx:=hi.box t B' hB'
  have hcl:=hbo t _ hB
  cases hbx with
  | st ty cs g xs hr0 hg hF0 hh hl h1 hr =>
   refine .st ty _ g xs hr0 hg hF0 hh (by rw [cz]; exact hl) h1 (fun j x c k1 k2=>?_)
   obtain ⟨d,k3,rfl⟩:=dL cs j c k2
   refine ((hr j x d k1 k3).to fun s hs=>hto s (hcl s ?_)).nrmd
   show s∈aC (bO cs)
   rw [f4]
   exact bR k3 hs
  | rw e k es xs hk0 m1 m2 m3 m4 m5 m6=>exact .rw e k es xs hk0 m1 m2 m3 m4 m5 m6
  | gn e k es m1=>exact .gn e k es m1
 have hstp:Stp ρ (qz bi K) w F ρ' (lkU bo) w' F':=by
  have hk:∀ t B,qz bi K t=some B→lkU bi t=some B∧t∈K∧t∈aJ bo:=fun t B ht=>by
   unfold qz at ht
   split at ht
   ·rename_i hk; exact ⟨ht,hk,hid2 t hk⟩
   ·cases ht
  refine ⟨fun g hg=>hi.f0 g hg,fun g hg=>?_,fun t ty cs ht=>?_,fun t e k es ht=>?_⟩
  ·exact hi.ext.block g (hi0.flt g hg) fun ⟨t,B,hB,hg2⟩=>((hi0.box t B hB).lt hg2).2.2 hg
  ·obtain ⟨ht,hkt,m1⟩:=hk t _ ht
   have m2:=(hi.reg t (ρ t,none) (by show mz ρ bi K t = _; unfold mz; rw [if_pos hkt,ht])).2
   rcases m2 with m2 | ⟨⟨ty',cs',m2⟩,m3⟩
   ·obtain ⟨B,hB⟩:=bc.1 m1
    obtain ⟨B',hB',_⟩:=h3 t B hB
    rw [m2] at hB'
    cases hB'
   ·obtain ⟨cs2,h5⟩:=(hto t m1).1 _ _ m2
    exact ⟨⟨_,_,h5⟩,m3⟩
  ·obtain ⟨ht,hkt,m1⟩:=hk t _ ht
   have m2:=(hi.reg t (ρ t,some (k,es.length)) (by show mz ρ bi K t = _; unfold mz; rw [if_pos hkt,ht])).2
   rcases m2 with m2 | ⟨e',es',m2,m3,m4⟩
   ·obtain ⟨B,hB⟩:=bc.1 m1
    obtain ⟨B',hB',_⟩:=h3 t B hB
    rw [m2] at hB'
    cases hB'
   ·exact ⟨e',es',(hto t m1).2 _ _ _ m2,m3,m4⟩
 have hinv:Inv ⟨w,oW ρ (lkU bi),fun _=>none⟩ F ρ' (lkU bo) w' F':=by
  refine ⟨⟨hi.ext.os,hi.ext.tape,hi.ext.output,hi.ext.size,hi.ext.block⟩,hi.f0,hi.flt,hi.fnew,hbox,fun t t' B B' g k1 k2 hne hg=>?_,fun t q hq=>by cases hq⟩
  obtain ⟨_,m1,_⟩:=h3 t B k1
  obtain ⟨_,m2,_⟩:=h3 t' B' k2
  exact hi.dist t t' _ _ g m1 m2 hne hg
 have hres:ah ρ' (lkU bo) w' F' v r:=by
  rw [← h2]
  exact (hv2.to fun s hs=>hto s (hr s (by rw [← h2,u4]; exact hs))).nrmd
 have fin:a'.defers = []∧∃ v,(results fn a'.tmps).run P w' = .ok v w'∧∃ v' ρ'' F'' r bo,Q r bo∧Ending.returned v = .returned v'∧Inv ⟨w,oW ρ (lkU bi),fun _=>none⟩ F ρ'' (lkU bo) w' F''∧Stp ρ (qz bi K) w F ρ'' (lkU bo) w' F''∧ah ρ'' (lkU bo) w' F'' v' r :=
  ⟨hd,v,hv1,v,ρ',F',r,bo,hq,rfl,hinv,hstp,hres⟩
 cases e with
 | normal=>exact fin
 | ret=>exact fin
 | exit _=>exact hex.elim
 | goto _=>exact hex.elim
 | panic _=>exact hex.elim
 | outgrown=>exact hex.elim
end
end
section
variable {B:List (Nat×Option aj)} {s:SS} {p:PS} {P:Program} {ρ : Type}
theorem fc (hs:Sim s p) : ∀ l:List Operand,aL s.bx (lb s l) (l.map (ev p))
 | []=>.nil
 | x::l=>.cons (aI hs x) (fc hs l)
theorem Bh {c:Bool} {v w z:SV} {q r:PV} (hv:an B v q) (hw:an B w r) (h:Bj c v w=some z) : an B z (if c then q else r):=by
 unfold Bj at h
 split at h
 ·split at h
  ·rename_i hk
   subst hk
   injection h with h
   subst h
   obtain rfl:=dv hv
   obtain rfl:=dv hw
   cases c
   ·exact cv _ _
   ·exact cv _ _
  ·cases h
 ·injection h with h
  subst h
  obtain rfl:=dV hv
  obtain rfl:=dV hw
  cases c
  ·exact ch _
  ·exact ch _
 ·injection h with h
  subst h
  obtain rfl:=ia hv
  obtain rfl:=ia hw
  cases c
  ·exact lg _
  ·exact lg _
 ·cases c
  ·injection h with h; subst h; exact hw
  ·injection h with h; subst h; exact hv
theorem y9 {x:ByteArray} {i z:Int} (h:AZ x i=some z) : 0≤i∧∃ c:UInt8,x.data.toList[i.toNat]? = some c∧z=(c.toNat:Int):=by
 unfold AZ at h
 split at h
 ·rename_i h0
  rw [zm] at h
  obtain ⟨c,h1,h2⟩:=h
  exact ⟨h0,c,h1,h2.symm⟩
 ·cases h
theorem sM {B:List (Nat×Option aj)} {kd:IntKind} : ∀ (cs:List SV) (xs:List Int),yr kd cs=some xs→∀ (j:Nat) (z:Int),xs[j]? = some z→∀ qs,aL B cs qs→∃ q,qs[j]? = some q∧q = .d (.v (.int kd z))
 | [],xs,h,j,z,hj,qs,hq=>by
  injection h with h
  subst h
  cases hj
 | c::cs,xs,h,j,z,hj,qs,hq=>by
  unfold yr at h
  split at h
  ·rename_i hc0
   cases hc0
  ·rename_i kd' x l hcl
   injection hcl with e1 e2
   subst e1 e2
   split at h
   ·rename_i hk
    subst hk
    split at h
    ·rename_i r hr
     injection h with h
     subst h
     have hlen : 0 < qs.length:=by rw [← hq.len]; exact Nat.succ_pos _
     match qs,hlen with
     | q::qs,_ =>
     cases j with
     | zero =>
      injection hj with hj
      subst hj
      exact ⟨q,rfl,dv (hq.rep 0 _ _ rfl rfl)⟩
     | succ j =>
      exact sM _ r hr j z hj qs ⟨by simpa using hq.len,fun i a b ha hb=>hq.rep (i + 1) a b ha hb⟩
    ·cases h
   ·cases h
  ·cases h
theorem Dn {o:Oper} (hs:Sim s p) {k:SV→Upd→Option ρ} {res : ρ} (hst:∀ t x y,o.op = .store t x y→o.dst=none) (h:Dp P o s k=some res) : wy s p o.dst k res (eff P o p):=by
 unfold Dp at h
 unfold eff
 split at h
 all_goals
  rename_i ho
  simp only [ho]
 ·exact ⟨_,.no,_,none,rfl,h,dE hs (aI hs _),trivial,bJ⟩
 ·exact ⟨_,.no,_,none,rfl,h,dE hs (aI hs _),trivial,bJ⟩
 ·rename_i c x y
  split at h
  ·rename_i t hc
   split at h
   ·rename_i v hv
    have hq:=aI hs c
    rw [hc] at hq
    have hb:asB (ev p c)=some t:=by rw [dV hq]; rfl
    simp only [hb]
    exact ⟨_,.no,_,none,rfl,h,dE hs (Bh (aI hs x) (aI hs y) hv),trivial,bJ⟩
   ·cases h
  ·cases h
 ·rename_i e
  split at h
  ·rename_i t i hd hi
   split at h
   ·rename_i z hb hz
    obtain ⟨h1,h2⟩:=aa h
    obtain ⟨hfr,h1⟩:=eE h1
    have hbd:p.b t=none:=by have:=hs.bx t; rw [hb] at this; exact this hfr
    refine ⟨_,_,.ptr t 0,some (t,.st e (gc i)),?_,h2,?_,⟨h1,hb⟩,mG hb hd⟩
    ·simp [kw,hd,hi,hbd]
    ·exact fK hs (hL hb) (fun _=>⟨_,rfl,kL hz⟩) (.ptr t 0 _ _ (by rw [ab,if_pos rfl]))
   ·cases h
  ·cases h
 ·rename_i e x
  split at h
  ·rename_i t cs hd hc
   split at h
   ·rename_i hb
    obtain ⟨h1,h2⟩:=aa h
    obtain ⟨hfr,h1⟩:=eE h1
    have hbd:p.b t=none:=by have:=hs.bx t; rw [hb] at this; exact this hfr
    obtain ⟨qs,h3,h4⟩:=nX (aI hs x) hc
    refine ⟨_,_,.ptr t 0,some (t,.st e qs),?_,h2,?_,⟨h1,hb⟩,mG hb hd⟩
    ·simp [rh,hd,h3,hbd]
    ·exact fK hs (hL hb) (fun _=>⟨_,rfl,h4.mono (hL hb)⟩) (.ptr t 0 _ _ (by rw [ab,if_pos rfl]))
   ·cases h
  ·cases h
 ·rename_i t ps
  split at h
  ·rename_i i pl hi hf
   split at h
   ·rename_i z hz
    split at h
    ·rename_i cs hcs
     obtain ⟨qs,h1,h2⟩:=qO hs _ (kL hz) hcs
     refine ⟨_,.no,.ag qs,none,?_,h,dE hs (.ag _ _ h2.len h2.rep),trivial,bJ⟩
     simp only [mW,hi,hf,h1]
     rfl
    ·cases h
   ·cases h
  ·cases h
 ·exact rD hs h
 ·rename_i t x
  split at h
  ·rename_i v hv
   obtain ⟨r,h1,h2⟩:=vp hs (aI hs x) hv
   exact ⟨_,.no,r,none,by simp [h1],h,dE hs h2,trivial,bJ⟩
  ·cases h
 ·rename_i t x y
  exact y5 hs (hst _ _ _ ho) (aI hs x) (aI hs y) h
 ·rename_i op t x y yt
  exact (DH (aI hs x) (aI hs y) (fun n kd z hn hz=>BK hn hz) h).done hs
 ·rename_i op t x
  exact (D0 (aI hs x) h).done hs
 ·rename_i src dst x
  exact (Cr hs (aI hs x) h).done hs
 ·rename_i t x lo hi
  exact (y7 hs (aI hs x) h).done hs
 ·rename_i t x f
  exact (rZ (aI hs x) h).done hs
 ·rename_i t x f
  exact (zT (aI hs x) h).done hs
 ·rename_i t x i
  exact rY hs (aI hs x) (aI hs i) h
 ·rename_i x i
  split at h
  ·rename_i vs hv
   split at h
   ·rename_i v hvi
    have hq:=aI hs x
    rw [hv] at hq
    obtain ⟨qs,h1,h2⟩:=AH hq
    have hlt:i < qs.length:=by rw [← h2.len]; exact (zg.1 hvi).1
    have hqi:qs[i]? = some qs[i]:=by simp [hlt]
    refine ⟨_,.no,qs[i],none,?_,h,dE hs (h2.rep i _ _ hvi hqi),trivial,bJ⟩
    simp [ju,h1,hqi]
   ·cases h
  ·cases h
 ·rename_i t x i
  split at h
  ·rename_i sx kd ix hu hx hi
   obtain ⟨z,h1,h2⟩:=a8 h
   obtain ⟨h3,c,h4,rfl⟩:=y9 h1
   have hq:=aI hs x
   rw [hx] at hq
   have hr:=aI hs i
   rw [hi] at hr
   refine ⟨_,.no,_,none,?_,h2,dE hs (cv .u8 _),trivial,bJ⟩
   simp [rc,pw,hu,ia hq,dv hr,asS,asI,h3,h4]
  ·rename_i n e cs kd0 ix hu hx hi
   split at h
   ·rename_i ie kd hie hue
    split at h
    ·rename_i xs hxs
     obtain ⟨hsz,h⟩:=aa h
     obtain ⟨hln,h⟩:=aa h
     obtain ⟨z,h1,h2⟩:=a8 h
     obtain ⟨h3,h4,h5⟩:=nG h1
     have hq:=aI hs x
     rw [hx] at hq
     have hr:=aI hs i
     rw [hi] at hr
     obtain ⟨qs,hq1,hq2⟩:=pF hq
     have hsz:=Nat.eq_of_beq_eq_true hsz
     have hln:=Nat.eq_of_beq_eq_true hln
     obtain ⟨q,hq3,rfl⟩:=sM cs xs hxs ix.toNat z h4 qs hq2
     refine ⟨_,.no,.d (.v (.int kd z)),none,?_,h2,dE hs (cv kd _),trivial,bJ⟩
     have hagg:ie.agg=false:=by
      obtain ⟨_,_,_,_,_,_,_,_,_,ha,_⟩:=bB hie
      rw [ha]; unfold db; rw [hue]
     have hd:(qs.drop ix.toNat).head? = some (.d (.v (.int kd z))):=by
      rw [List.head?_drop]; exact hq3
     simp [rc,hu,hq1,dv hr,asI,hie,hsz,hagg,oy,hd,h3,show ix < (n:Int) by omega]
    ·cases h
   ·cases h
  ·cases h
 ·rename_i c
  split at h
  ·rename_i f hf
   simp only [hf]
   unfold wj at h
   unfold jw
   have hargs:=fc hs c.args.toList
   split at h
   ·split at h
    ·rename_i x t hx ht
     rw [hx] at hargs
     rcases hargs.cases with ⟨h1,_⟩ | ⟨v,q,vs,qs,h1,h2,h3,h4⟩
     ·cases h1
     ·injection h1 with e1 e2
      subst e1 e2
      rcases h4.cases with ⟨_,rfl⟩ | ⟨_,_,_,_,h5,_⟩
      ·simp only [h2,ht]
       exact (Df hs h3 h).done hs
      ·cases h5
    ·cases h
   ·split at h
    ·rename_i x y t t' hx ht
     rw [hx] at hargs
     rcases hargs.cases with ⟨h1,_⟩ | ⟨v,q,vs,qs,h1,h2,h3,h4⟩
     ·cases h1
     ·injection h1 with e1 e2
      subst e1 e2
      rcases h4.cases with ⟨h5,_⟩ | ⟨v2,q2,vs2,qs2,h5,h6,h7,h8⟩
      ·cases h5
      ·injection h5 with e1 e2
       subst e1 e2
       rcases h8.cases with ⟨_,rfl⟩ | ⟨_,_,_,_,h9,_⟩
       ·subst h6
        simp only [h2,ht]
        split at h
        ·rename_i htt
         have htt:t' = t:=by simpa using htt
         rw [if_pos htt]
         exact (xG hs h3 h7 h).1
        ·cases h
       ·cases h9
    ·cases h
   ·split at h
    ·rename_i x xs hx
     rw [hx] at hargs
     rcases hargs.cases with ⟨h1,_⟩ | ⟨v,q,vs,qs,h1,h2,h3,h4⟩
     ·cases h1
     ·injection h1 with e1 e2
      subst e1 e2
      split at h
      ·rename_i w hw
       obtain ⟨r,h5,h6⟩:=nx false xs x w q qs h3 h4 hw
       simp only [h2]
       exact ⟨_,.no,r,none,by simp [show jr q qs=some r from h5],h,dE hs h6,trivial,bJ⟩
      ·cases h
    ·cases h
   ·split at h
    ·rename_i x xs hx
     rw [hx] at hargs
     rcases hargs.cases with ⟨h1,_⟩ | ⟨v,q,vs,qs,h1,h2,h3,h4⟩
     ·cases h1
     ·injection h1 with e1 e2
      subst e1 e2
      split at h
      ·rename_i w hw
       obtain ⟨r,h5,h6⟩:=nx true xs x w q qs h3 h4 hw
       simp only [h2]
       exact ⟨_,.no,r,none,by simp [show jt q qs=some r from h5],h,dE hs h6,trivial,bJ⟩
      ·cases h
    ·cases h
   ·split at h
    ·rename_i x y t t' hx ht
     rw [hx] at hargs
     rcases hargs.cases with ⟨h1,_⟩ | ⟨v,q,vs,qs,h1,h2,h3,h4⟩
     ·cases h1
     ·injection h1 with e1 e2
      subst e1 e2
      rcases h4.cases with ⟨h5,_⟩ | ⟨v2,q2,vs2,qs2,h5,h6,h7,h8⟩
      ·cases h5
      ·injection h5 with e1 e2
       subst e1 e2
       rcases h8.cases with ⟨_,rfl⟩ | ⟨_,_,_,_,h9,_⟩
       ·subst h6
        simp only [h2,ht]
        exact Cp hs h3 h7 h
       ·cases h9
    ·cases h
   ·cases h
  ·cases h
 ·rename_i f ps qs
  have h1:=fc hs ps.toList
  have h2:=fc hs qs.toList
  exact ⟨_,.no,_,none,rfl,h,dE hs (.fn f _ _ _ _ h1.len h1.rep h2.len h2.rep),trivial,bJ⟩
 ·rename_i t x y
  exact BI hs h
 ·rename_i x
  exact (Db (aI hs x) h).done hs
 ·cases h
def toC:(c:CT)→c.den→PV
 | .v t,x=>.d (gQ t x).toD
 | .a i,x=>.ag ((stD i x).map .d)
 | .pl t,x=>.fe [(gQ t x).toD]
 | .ps i,x=>.fe (stD i x)
def pM:(cs:List CT)→ky cs→List PV
 | [],_=>[]
 | c::cs,x=>toC c x.1::pM cs x.2
def gd:(p:PT)→p.den→PV
 | .lf t,x=>.d (gQ t x).toD
 | .ag i,x=>.ag ((stD i x).map .d)
 | .pl t,x=>.fe [(gQ t x).toD]
 | .ps i,x=>.fe (stD i x)
 | .fn f a b,x=>.fn f (pM a x.1) (pM b x.2)
 | .own ..,_=>.junk
 | .mv ..,_=>.junk
 | .bx ..,_=>.junk
 | .agr ..,_=>.junk
 | .io _,_=>.junk
def iA:(ps:List PT)→bb ps→List PV
 | [],_=>[]
 | p::ps,x=>gd p x.1::iA ps x.2
def mr:(rs:List PT)→aq rs→List PV
 | [],_=>[]
 | [p],x=>[gd p x]
 | p::q::l,x=>gd p x.1::mr (q::l) x.2
def toR (rs:List PT) (x:aq rs) : PV:=match rs,x with
 | [p],x=>gd p x
 | rs,x=>.tup (mr rs x)
def b5 (rows:List (Nat×Nat×Nat×Nat×Ty)) : Nat→List D→List PV
 | _,[]=>[]
 | j,d::ds=>(match gr rows j with
  | some (R,_,_,_)=>(match d with | .sl es=>.row R es.length | .v _=>.junk)
  | none=>.d d)::b5 rows (j + 1) ds
def aQ (rows:List (Nat×Nat×Nat×Nat×Ty)) : Nat→List D→BU
 | _,[]=>[]
 | j,d::ds=>match gr rows j with
  | some (R,e,k,_)=>(match d with | .sl es=>(R,.rw e k es)::aQ rows (j + 1) ds | .v _=>aQ rows (j + 1) ds)
  | none=>aQ rows (j + 1) ds
def rwU (e k:Nat) (t:Ty) (xs:List t.den) : Box:=.rw e k (xs.map (aA t))
def toI:(p:PT)→List Nat→p.den→PV×BU
 | .own e k t,is,xs=>(match is with | [i]=>(.row i (show List t.den from xs).length,[(i,rwU e k t xs)]) | _=>(.junk,[]))
 | .mv e k t,is,xs=>(match is with | [i]=>(.row i (show List t.den from xs).length,[(i,rwU e k t xs)]) | _=>(.junk,[]))
 | .bx ty n rows,is,x=>(match is with | i::is=>(.ptr i 0,(i,.st ty (b5 (eh rows is) 0 (stD n x)))::aQ (eh rows is) 0 (stD n x)) | _=>(.junk,[]))
 | .agr n rows,is,x=>(.ag (b5 (eh rows is) 0 (stD n x)),aQ (eh rows is) 0 (stD n x))
 | .io _,_,_=>(.junk,[])
 | .lf t,_,x=>(gd (.lf t) x,[])
 | .ag i,_,x=>(gd (.ag i) x,[])
 | .pl t,_,x=>(gd (.pl t) x,[])
 | .ps i,_,x=>(gd (.ps i) x,[])
 | .fn f a b,_,x=>(gd (.fn f a b) x,[])
def bQ:(ps:List PT)→List (List Nat)→bb ps→List PV×BU
 | [],_,_=>([],[])
 | p::ps,is::iss,x=>((toI p is x.1).1::(bQ ps iss x.2).1,(toI p is x.1).2++(bQ ps iss x.2).2)
 | _ :: _,[],_=>([],[])
def DP:Box→Box
 | .rw e k es=>.rw e k (es ++ [[]])
 | B=>B
def oB (l:BU) : List Nat→BU
 | []=>[]
 | t::ts=>(t,match lkU l t with | some B=>DP B | none=>.st 0 [])::oB l ts
def toO:(p:PT)→(b:IB)→List Nat→List Nat→p.den→b.den→BU
 | .own ..,.own e k t,is,_,_,xs=>(match is with | [i]=>[(i,rwU e k t xs)] | _=>[])
 | .bx ..,.bx ty n rows,is,js,_,x=>(match is with | i :: _=>(i,.st ty (b5 (eh rows js) 0 (stD n x)))::aQ (eh rows js) 0 (stD n x) | _=>[])
 | _,_,_,_,_,_=>[]
def qF:PT→List Nat→List Nat
 | .mv ..,is=>is
 | .bx ..,_ :: is=>is
 | _,_=>[]
def fG:List PT→List (List Nat)→List Nat
 | p::ps,is::iss=>qF p is++fG ps iss
 | _,_=>[]
def wD:(ps:List PT)→(ls:List IB)→List (List Nat)→List (List Nat)→bb ps→mD ls→BU
 | p::ps,b::ls,is::iss,js::kss,x,o=>toO p b is js x.1 o.1++wD ps ls iss kss x.2 o.2
 | _,_,_,_,_,_=>[]
def be:(rs:List PT)→List (List Nat)→aq rs→List PV×BU
 | [p],is :: _,x=>([(toI p is x).1],(toI p is x).2)
 | p::q::l,is::iss,x=>((toI p is x.1).1::(be (q::l) iss x.2).1,(toI p is x.1).2++(be (q::l) iss x.2).2)
 | _,_,_=>([],[])
def mF:List PV→PV
 | [v]=>v
 | vs=>.tup vs
def EK:(p:PT)→(b:IB)→p.den→b.den→Prop
 | .own _ _ t,.own _ _ t',x,o=>(show List t'.den from o).length=(show List t.den from x).length
 | _,_,_,_=>True
def vu:(ps:List PT)→(ls:List IB)→bb ps→mD ls→Prop
 | p::ps,b::ls,x,o=>EK p b x.1 o.1∧vu ps ls x.2 o.2
 | _,_,_,_=>True
def cY:List PT→List (List Nat)→Prop
 | [],[]=>True
 | p::ps,is::iss=>is.length=p.nI∧cY ps iss
 | _,_=>False
def dB:List IB→List (List Nat)→Prop
 | [],[]=>True
 | b::ls,js::kss=>js.length=b.nJ∧dB ls kss
 | _,_=>False
def gm (ps rs:List PT) (iss kss jss:List (List Nat)) (x:bb ps) (r:aq rs) : BU:=wD ps (aX rs) iss kss x (dr rs r)++((be (ci rs) jss (cZ rs r)).2++oB (bQ ps iss x).2 (fG ps iss))
def Fc (P:Program) (f:FuncId) (ps rs:List PT) (x:bb ps) (r:aq rs) : Prop :=
 vu ps (aX rs) x (dr rs r)∧∀ iss kss jss,cY ps iss→dB (aX rs) kss→cY (ci rs) jss→(aw iss++(aw kss++aw jss)).Nodup→(∀ j∈aw kss++aw jss,j < 1000000)→(∀ i∈aw iss,i∈aJ (bQ ps iss x).2)→bV P f=true ∧
  ∀ (w0:WM) (F0:Nat→Prop) (ρ : Nat→Value) (b:Nat→Option Box) (w:World) (F:Nat→Prop) (vs:Array Value) (args:List PV),bO args=(bQ ps iss x).1→(∀ t B,lkU (bQ ps iss x).2 t=some B→∃ B',b t=some B'∧iL B' = B)→(∀ t∈aw kss++aw jss,b t=none) →
   Inv w0 F0 ρ b w F→a7 ρ b w F vs.toList args→Calls P f vs w fun e w'=>∃ v ρ' F',e = .returned v∧Inv w0 F0 ρ' (bG b (gm ps rs iss kss jss x r)) w' F'∧Stp ρ b w F ρ' (bG b (gm ps rs iss kss jss x r)) w' F'∧ah ρ' (bG b (gm ps rs iss kss jss x r)) w' F' v (mF (be (ci rs) jss (cZ rs r)).1)
def aM (P:Program) (f:FuncId) (ps rs:List PT) (F:bb ps→Option (aq rs)) : Prop:=∀ x r,F x=some r→((fV ps||fV rs)=false→PC P f (iA ps x) (toR rs r))∧((fV ps||fV rs)=true→Fc P f ps rs x r)
def hZ (P:Program) (T:List (Nat×Ent)) : Prop:=∀ f vs en,lkE T f vs=some en→aM P f en.ps en.rs en.f
theorem hZ.nil:hZ P []:=fun f vs en h=>by cases h
theorem hZ.cons {T:List (Nat×Ent)} {f:FuncId} {ps rs:List PT} {F:bb ps→Option (aq rs)} (h:aM P f ps rs F) (hT:hZ P T) : hZ P ((f,⟨ps,rs,F⟩)::T):=by
 intro g vs en hg
 simp only [lkE,bk] at hg
 by_cases e:g=f
 ·subst e
  simp only [decide_true] at hg
  split at hg
  ·injection hg with hg
   subst hg
   exact h
  ·exact hT g vs en hg
 ·simp only [e,decide_false] at hg
  exact hT g vs en hg
theorem pv {t:Ty} {c:SD} {x:t.den} (h:c.as t=some x) : (gQ t x).toD=c.toD:=by
 have h1:=SD.as_ok h
 cases t with
 | st i=>simp [SD.as] at h
 | _=>simp only [aA,List.cons.injEq,and_true] at h1; exact h1
theorem Cm (hs:Sim s p) {t:Ty} {v:SV} {q:PV} {x:t.den} (hv:an s.bx v q) (h:Ds s t v=some x) : asData p.b q = .d (gQ t x).toD∧(gj v=true→clean q=true∧asData bW q = .d (gQ t x).toD):=by
 unfold Ds at h
 split at h
 ·rename_i c hc
  have:=Cl hs hv hc
  simp only [pv h]
  exact this
 ·cases h
theorem E5 (hs:Sim s p) {i:Nat} {v:SV} {q:PV} {x:ST i} (hv:an s.bx v q) (h:Dw s i v=some x) : asData p.b q = .ag ((stD i x).map .d)∧(gj v=true→clean q=true∧asData bW q = .ag ((stD i x).map .d)):=by
 unfold Dw at h
 split at h
 ·rename_i cs
  split at h
  ·rename_i ds hds
   obtain ⟨qs,rfl,hq⟩:=pF hv
   obtain ⟨h1,h2⟩:=yS hs hq hds
   have h3:=nh h
   have e:ds.map (fun c=>PV.d c.toD)=(stD i x).map .d:=by rw [← h3,List.map_map]; rfl
   refine ⟨by simp only [asData,h1,e],fun hn=>?_⟩
   obtain ⟨h4,h5⟩:=h2 hn
   exact ⟨by simpa [clean] using h4,by simp only [asData,h5,e]⟩
  ·cases h
 ·cases h
theorem ET {cs:List SD} {q:PV} (b:Nat→Option Box) (hv:an B (.fe cs) q) : asData b q = .fe (cs.map SD.toD)∧clean q=true:=by
 cases hv with
 | fe _ ds h hn=>subst h; exact ⟨rfl,rfl⟩
theorem zU {t:Ty} {v:SV} {q:PV} {x:t.den} (b:Nat→Option Box) (hv:an B v q) (h:yQ t v=some x) : asData b q = .fe [(gQ t x).toD]∧clean q=true:=by
 unfold yQ at h
 split at h
 ·rename_i c
  have e:(gQ t x).toD=c.toD:=pv h
  rw [e]
  exact ET b hv
 ·cases h
theorem zL {i:Nat} {v:SV} {q:PV} {x:ST i} (b:Nat→Option Box) (hv:an B v q) (h:yP i v=some x) : asData b q = .fe (stD i x)∧clean q=true:=by
 unfold yP at h
 split at h
 ·rename_i cs
  rw [← nh h]
  exact ET b hv
 ·cases h
theorem Dx (hs:Sim s p) {t:CT} {v:SV} {q:PV} {x:t.den} (hv:an s.bx v q) (h:EZ s t v=some x) : asData p.b q=toC t x∧(gj v=true→clean q=true∧asData bW q=toC t x):=by
 cases t with
 | v t=>exact Cm hs hv h
 | a i=>exact E5 hs hv h
 | pl t=>exact ⟨(zU p.b hv h).1,fun _=>⟨(zU p.b hv h).2,(zU bW hv h).1⟩⟩
 | ps i=>exact ⟨(zL p.b hv h).1,fun _=>⟨(zL p.b hv h).2,(zL bW hv h).1⟩⟩
theorem rp (hs:Sim s p) : ∀ {ps:List CT} {vs:List SV} {qs:List PV} {x:ky ps},aL s.bx vs qs→wb s ps vs=some x→aE p.b qs=pM ps x∧(aZ vs=true→ba qs=true∧aE bW qs=pM ps x)
 | [],[],qs,x,hv,h=>by
  rcases hv.cases with ⟨_,rfl⟩ | ⟨_,_,_,_,h1,_⟩
  ·simp [aE,pM,ba]
  ·cases h1
 | [],_ :: _,_,_,_,h=>by cases h
 | _ :: _,[],_,_,_,h=>by cases h
 | t::ps,v::vs,qs,x,hv,h=>by
  rcases hv.cases with ⟨h1,_⟩ | ⟨v',q,vs',qs',h1,rfl,h2,h3⟩
  ·cases h1
  ·injection h1 with e1 e2
   subst e1 e2
   simp only [wb] at h
   obtain ⟨y,h4,h5⟩:=a8 h
   obtain ⟨ys,h6,h7⟩:=a8 h5
   injection h7 with h7
   subst h7
   obtain ⟨m1,m2⟩:=Dx hs h2 h4
   obtain ⟨m3,m4⟩:=rp hs h3 h6
   refine ⟨by simp [aE,pM,m1,m3],fun hn=>?_⟩
   simp only [aZ] at hn
   split at hn
   ·rename_i hn1
    obtain ⟨n1,n2⟩:=m2 hn1
    obtain ⟨n3,n4⟩:=m4 hn
    simp [aE,ba,pM,n1,n2,n3,n4]
   ·cases hn
theorem DI {f:FuncId} {ps qs:List SV} {q:PV} (h:an B (.fn f ps qs) q) : ∃ ps' qs',q = .fn f ps' qs'∧aL B ps ps'∧aL B qs qs':=by
 cases h with
 | fn _ _ _ ps' qs' hl hr hl2 hr2=>exact ⟨ps',qs',rfl,⟨hl,hr⟩,hl2,hr2⟩
theorem px (hs:Sim s p) {t:PT} {v:SV} {q:PV} {x:t.den} (hv:an s.bx v q) (h:we s t v=some x) : asData p.b q=gd t x∧(gj v=true→clean q=true∧asData bW q=gd t x):=by
 cases t with
 | lf t=>exact Cm hs hv h
 | ag i=>exact E5 hs hv h
 | pl t=>exact ⟨(zU p.b hv h).1,fun _=>⟨(zU p.b hv h).2,(zU bW hv h).1⟩⟩
 | ps i=>exact ⟨(zL p.b hv h).1,fun _=>⟨(zL p.b hv h).2,(zL bW hv h).1⟩⟩
 | fn f a b =>
  have h:Es s f a b v=some x:=h
  unfold Es at h
  split at h
  ·rename_i f' ps qs
   split at h
   ·rename_i hf
    rw [bk] at hf
    have hf:=zd hf
    subst hf
    obtain ⟨y,h4,h5⟩:=a8 h
    obtain ⟨ys,h6,h7⟩:=a8 h5
    injection h7 with h7
    subst h7
    obtain ⟨ps',qs',rfl,k1,k2⟩:=DI hv
    obtain ⟨m1,m2⟩:=rp hs k1 h4
    obtain ⟨m3,m4⟩:=rp hs k2 h6
    refine ⟨by simp only [asData,gd,m1,m3],fun hn=>?_⟩
    simp only [gj] at hn
    split at hn
    ·rename_i hn1
     obtain ⟨n1,n2⟩:=m2 hn1
     obtain ⟨n3,n4⟩:=m4 hn
     exact ⟨by simp only [clean,n1,n3,Bool.and_self],by simp only [asData,gd,n2,n4]⟩
    ·cases hn
   ·cases h
  ·cases h
 | own=>exact bP (x:=x) h
 | mv=>exact bP (x:=x) h
 | bx=>exact bP (x:=x) h
 | agr=>exact bP (x:=x) h
 | io=>exact bP (x:=x) h
theorem wd (hs:Sim s p) : ∀ {ps:List PT} {vs:List SV} {qs:List PV} {x:bb ps},aL s.bx vs qs→yR s ps vs=some x→aE p.b qs=iA ps x∧(aZ vs=true→ba qs=true∧aE bW qs=iA ps x)
 | [],[],qs,x,hv,h=>by
  rcases hv.cases with ⟨_,rfl⟩ | ⟨_,_,_,_,h1,_⟩
  ·simp [aE,iA,ba]
  ·cases h1
 | [],_ :: _,_,_,_,h=>by cases h
 | _ :: _,[],_,_,_,h=>by cases h
 | t::ps,v::vs,qs,x,hv,h=>by
  rcases hv.cases with ⟨h1,_⟩ | ⟨v',q,vs',qs',h1,rfl,h2,h3⟩
  ·cases h1
  ·injection h1 with e1 e2
   subst e1 e2
   simp only [yR] at h
   obtain ⟨y,h4,h5⟩:=a8 h
   obtain ⟨ys,h6,h7⟩:=a8 h5
   injection h7 with h7
   subst h7
   obtain ⟨m1,m2⟩:=px hs h2 h4
   obtain ⟨m3,m4⟩:=wd hs h3 h6
   refine ⟨by simp [aE,iA,m1,m3],fun hn=>?_⟩
   simp only [aZ] at hn
   split at hn
   ·rename_i hn1
    obtain ⟨n1,n2⟩:=m2 hn1
    obtain ⟨n3,n4⟩:=m4 hn
    simp [aE,ba,iA,n1,n2,n3,n4]
   ·cases hn
theorem tD (i:Nat) (x:ST i) : aL B (nA (stC i x)) ((stD i x).map .d):=by
 rw [← jY i x]
 exact qp _ (lI i x)
theorem yG {t:Ty} (x:t.den) (h:∀ i,t≠.st i) : an B (.fe [gQ t x]) (.fe [(gQ t x).toD]):=by
 refine .fe _ _ rfl fun c hc=>?_
 simp only [List.mem_cons,List.not_mem_nil,or_false] at hc
 subst hc
 cases t with
 | st i=>exact absurd rfl (h i)
 | _=>exact fun e=>by cases e
theorem Cj:∀ (t:CT) (x:t.den),E0 t=true→an B (EX t x) (toC t x)
 | .v (.int _),x,_=>cv _ _
 | .v .bool,x,_=>ch _
 | .v .str,x,_=>lg _
 | .v (.sl t),x,_=>wB t x
 | .v (.st i),x,h=>by cases h
 | .a i,x,_=>.ag _ _ (tD (B:=B) i x).len (tD i x).rep
 | .pl t,x,h=>yG x fun i e=>by subst e; cases h
 | .ps i,x,_=>.fe _ _ (jY i x).symm (lI i x)
theorem nS:∀ (ps:List CT) (x:ky ps),rr ps=true→aL B (sZ ps x) (pM ps x)
 | [],_,_=>.nil
 | p::ps,x,h=>by
  simp only [rr] at h
  split at h
  ·rename_i hp; exact .cons (Cj p x.1 hp) (nS ps x.2 h)
  ·cases h
theorem mS:∀ (t:PT) (x:t.den),zu t=true→an B (zW t x) (gd t x)
 | .lf (.int _),x,_=>cv _ _
 | .lf .bool,x,_=>ch _
 | .lf .str,x,_=>lg _
 | .lf (.sl t),x,_=>wB t x
 | .lf (.st i),x,h=>by cases h
 | .ag i,x,_=>.ag _ _ (tD (B:=B) i x).len (tD i x).rep
 | .pl t,x,h=>yG x fun i e=>by subst e; cases h
 | .ps i,x,_=>.fe _ _ (jY i x).symm (lI i x)
 | .fn f a b,x,h=>by
  have h:(match rr a with | true=>rr b | false=>false)=true:=h
  split at h
  ·rename_i h1
   have k1:=nS (B:=B) a x.1 h1
   have k2:=nS (B:=B) b x.2 h
   exact .fn f _ _ _ _ k1.len k1.rep k2.len k2.rep
  ·cases h
 | .own ..,x,h=>by cases h
 | .mv ..,x,h=>by cases h
 | .bx ..,x,h=>by cases h
 | .agr ..,x,h=>by cases h
 | .io _,x,h=>by cases h
theorem s6:∀ (ps:List PT) (x:bb ps),j6 ps=true→aL B (oJ ps x) (iA ps x)
 | [],_,_=>.nil
 | p::ps,x,h=>by
  simp only [j6] at h
  split at h
  ·rename_i hp; exact .cons (mS p x.1 hp) (s6 ps x.2 h)
  ·cases h
theorem nR:∀ (rs:List PT) (x:aq rs),j6 rs=true→aL B (yK rs x) (mr rs x)
 | [],_,_=>.nil
 | [p],x,h=>by
  simp only [j6] at h
  split at h
  ·rename_i hp; exact .cons (mS p x hp) .nil
  ·cases h
 | p::q::l,x,h=>by
  have h':zu p=true∧j6 (q::l)=true:=by
   rw [j6] at h
   split at h
   ·rename_i hp; exact ⟨hp,h⟩
   ·cases h
  exact .cons (mS p x.1 h'.1) (nR (q::l) x.2 h'.2)
theorem Ci (rs:List PT) (x:aq rs) (h:j6 rs=true) : an B (EW rs x) (toR rs x):=by
 match rs,x,h with
 | [],x,h=>exact .tup _ _ rfl (fun j c q h1=>by simp [yK] at h1)
 | [p],x,h =>
  have:=nR (B:=B) [p] x h
  exact this.head
 | p::q::l,x,h =>
  have:=nR (B:=B) (p::q::l) x h
  exact .tup _ _ this.len this.rep
theorem qM:∀ {ds:List D},(∀ d∈ds,∃ x,d = .v x)→ko (ds.map .d)=true
 | [],_=>rfl
 | d::ds,h=>by
  obtain ⟨x,rfl⟩:=h d List.mem_cons_self
  simp [ko,flat,qM (fun d hd=>h d (List.mem_cons_of_mem _ hd))]
theorem sR:∀ (t:PT) (x:t.den),t.flat=true→flat (gd t x)=true
 | .lf (.int _),_,_=>rfl
 | .lf .bool,_,_=>rfl
 | .lf .str,_,_=>rfl
 | .lf (.sl _),_,h=>by cases h
 | .lf (.st _),_,h=>by cases h
 | .ag i,x,h=>by
  simp only [gd,flat]
  exact qM (D2 i x h)
 | .pl _,_,h=>by cases h
 | .ps _,_,h=>by cases h
 | .fn _ _ _,_,h=>by cases h
 | .own ..,_,h=>by cases h
 | .mv ..,_,h=>by cases h
 | .bx ..,_,h=>by cases h
 | .agr ..,_,h=>by cases h
 | .io _,_,h=>by cases h
theorem sQ:∀ (rs:List PT) (x:aq rs),gY rs=true→ko (mr rs x)=true
 | [],_,_=>rfl
 | [p],x,h=>by
  simp only [gY] at h
  split at h
  ·rename_i hp; simp [mr,ko,sR p x hp]
  ·cases h
 | p::q::l,x,h=>by
  have h':p.flat=true∧gY (q::l)=true:=by
   rw [gY] at h
   split at h
   ·rename_i hp; exact ⟨hp,h⟩
   ·cases h
  simp [mr,ko,sR p x.1 h'.1,sQ (q::l) x.2 h'.2]
theorem kx:∀ (ds:List D),ba (ds.map .d)=true
 | []=>rfl
 | d::ds=>by simp [ba,clean,kx ds]
theorem Af:∀ (t:CT) (x:t.den),clean (toC t x)=true
 | .v _,_=>rfl
 | .a i,x=>by simp [toC,clean,kx]
 | .pl _,_=>rfl
 | .ps _,_=>rfl
theorem rz:∀ (cs:List CT) (x:ky cs),ba (pM cs x)=true
 | [],_=>rfl
 | c::cs,x=>by simp only [pM,ba,Af c x.1,rz cs x.2,Bool.and_self]
theorem bT:∀ (t:PT) (x:t.den),clean (gd t x)=true
 | .lf _,_=>rfl
 | .ag i,x=>by simp [gd,clean,kx]
 | .pl _,_=>rfl
 | .ps _,_=>rfl
 | .fn _ a b,x=>by simp only [gd,clean,rz,Bool.and_self]
 | .own ..,_=>rfl
 | .mv ..,_=>rfl
 | .bx ..,_=>rfl
 | .agr ..,_=>rfl
 | .io _,_=>rfl
theorem ry:∀ (rs:List PT) (x:aq rs),ba (mr rs x)=true
 | [],_=>rfl
 | [p],x=>by simp only [mr,ba,Bool.and_true]; exact bT p x
 | p::q::l,x=>by simp only [mr,ba,Bool.and_eq_true]; exact ⟨bT p x.1,ry (q::l) x.2⟩
theorem iz (rs:List PT) (x:aq rs) : (∃ p,mr rs x = [p]∧toR rs x=p)∨toR rs x = .tup (mr rs x):=by
 match rs,x with
 | [],x=>exact .inr rfl
 | [p],x=>exact .inl ⟨_,rfl,rfl⟩
 | p::q::l,x=>exact .inr rfl
theorem Ca (rs:List PT) (x:aq rs) (h:gY rs=true) : flat (toR rs x)=true:=by
 have:=sQ rs x h
 rcases iz rs x with ⟨p,h1,h2⟩ | h1
 ·rw [h1] at this
  rw [h2]
  simpa [ko] using this
 ·rw [h1]
  simpa [flat] using this
theorem Ae (rs:List PT) (x:aq rs) : clean (toR rs x)=true:=by
 have:=ry rs x
 rcases iz rs x with ⟨p,h1,h2⟩ | h1
 ·rw [h1] at this
  rw [h2]
  simpa [ba] using this
 ·rw [h1]
  simpa [clean] using this
theorem Cu {T:List (Nat×Ent)} (hT:hZ P T) (hs:Sim s p) {f:Nat} {vs:List SV} {qs:List PV} (hM:zI T f vs=false) (hv:aL s.bx vs qs) {k:SV→Option ρ} {res : ρ} (h:yU T f s vs k=some res) : ∃ v r,uM P f p.b qs r∧k v=some res∧an s.bx v r:=by
 unfold yU at h
 split at h
 ·cases h
 ·rename_i en hen
  have h0:=(aa h).1
  replace h:=(aa h).2
  have h1:=(aa h).1
  replace h:=(aa h).2
  obtain ⟨x,h2,h⟩:=a8 h
  obtain ⟨r,h3,h4⟩:=a8 h
  obtain ⟨m1,m2⟩:=wd hs hv h2
  have hc:=(hT f _ en hen x r h3).1 (by unfold zI at hM; rw [hen] at hM; exact hM)
  refine ⟨_,toR en.rs r,?_,h4,Ci en.rs r h0⟩
  simp only [Bool.or_eq_true] at h1
  rcases h1 with h1 | h1
  ·obtain ⟨n1,n2⟩:=m2 h1
   exact .inl ⟨n1,Ae _ _,by rw [n2]; exact hc⟩
  ·exact .inr ⟨Ca _ _ h1,by rw [m1]; exact hc⟩
end
section
section
variable {P:Program} {n:Nat} {Qs:Exit→PS→Prop} {c:Code}
end
end
end Go.Proofs.Ytkmpjphbkhpgbaa
