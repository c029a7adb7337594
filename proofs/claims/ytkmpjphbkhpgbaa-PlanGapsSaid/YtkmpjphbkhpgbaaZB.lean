/- My texts, in one. -/
import Derived.Test.YtkmpjphbkhpgbaaZA
set_option linter.all false
set_option maxRecDepth 100000
set_option maxHeartbeats 4000000
namespace Go.Proofs.Ytkmpjphbkhpgbaa
open Go.RowKit
open IntKind (i64)
open Go.Proofs.Try (prog)
def ST:Nat→Type
 | 0=>ao
 | 1=>d6
 | 2=>eH
 | 3=>dZ
 | 4=>bm
 | 5=>cj
 | 6=>b5
 | 7=>bZ
 | 8=>ab
 | 11=>bW
 | 12=>bw
 | 17=>ax
 | _=>Unit
def Ty.den:Ty→Type
 | .int _=>Int
 | .bool=>Bool
 | .str=>ByteArray
 | .sl t=>List (Ty.den t)
 | .st i=>ST i
inductive SD where
 | int (k:IntKind) (x:Int)
 | bool (b:Bool)
 | str (s:ByteArray)
 | sl (t:Ty) (xs:List t.den)
 | nl
def stD:(i:Nat)→ST i→List D
 | 0,x=>ao.d x
 | 1,x=>d6.d x
 | 2,x=>eH.d x
 | 3,x=>dZ.d x
 | 4,x=>bm.d x
 | 5,x=>cj.d x
 | 6,x=>b5.d x
 | 7,x=>bZ.d x
 | 8,x=>ab.d x
 | 11,x=>bW.d x
 | 12,x=>bw.d x
 | 17,x=>ax.d x
 | 9,_=>[]
 | 10,_=>[]
 | 13,_=>[]
 | 14,_=>[]
 | 15,_=>[]
 | 16,_=>[]
 | 18,_=>[]
 | _ + 19,_=>[]
def az:(t:Ty)→t.den→List D
 | .int k,x=>[.v (.int k x)]
 | .bool,x=>[.v (.bool x)]
 | .str,x=>[.v (.string x)]
 | .sl t,xs=>[.sl (List.map (az t) xs)]
 | .st i,x=>stD i x
def j2 {t u:Ty} (h:t=u) (xs:List t.den) : List u.den:=h ▸ xs
def SD.toD:SD→D
 | .int k x=>.v (.int k x)
 | .bool x=>.v (.bool x)
 | .str x=>.v (.string x)
 | .sl t xs=>.sl (List.map (az t) xs)
 | .nl=>.sl []
def SD.as:(t:Ty)→SD→Option t.den
 | .int k,.int k' x=>if k' = k then some x else none
 | .bool,.bool x=>some x
 | .str,.str x=>some x
 | .sl t,.sl t' xs=>match Ty.same t' t with | some ⟨h⟩=>some (j2 h xs) | none=>none
 | .sl t,.nl=>some ([] : List t.den)
 | _,_=>none
def eK:(t:Ty)→t.den→SD
 | .int k,x=>.int k x
 | .bool,x=>.bool x
 | .str,x=>.str x
 | .sl t,xs=>.sl t xs
 | .st _,_=>.nl
def stN:Nat→Nat
 | 0=>2
 | 1=>8
 | 2=>14
 | 3=>2
 | 4=>3
 | 5=>2
 | 6=>9
 | 7=>8
 | 8=>6
 | 11=>3
 | 12=>10
 | 17=>2
 | _=>0
def Ao:TypeId→Option Nat
 | 24=>some 0
 | 99=>some 1
 | 79=>some 2
 | 68=>some 3
 | 71=>some 4
 | 45=>some 5
 | 81=>some 6
 | 54=>some 7
 | 26=>some 8
 | 83=>some 11
 | 51=>some 12
 | _=>none
def stF:Nat→Bool
 | 0=>true
 | 1=>true
 | 2=>false
 | 3=>true
 | 4=>false
 | 5=>false
 | 6=>true
 | 7=>true
 | 8=>true
 | 11=>true
 | 12=>false
 | 17=>true
 | _=>true
def stC:(i:Nat)→ST i→List SD
 | 0,(x:ao)=>[.int .i64 x.aL,.int .i64 x.an]
 | 1,(x:d6)=>[.int .i64 x.gX,.int .i64 x.aw,.int .i64 x.jW.aL,.int .i64 x.jW.an,.int .i64 x.wW,.int .i64 x.lm,.int .i64 x.rn,.int .i64 x.uc]
 | 2,(x:eH)=>[.int .i64 x.fId,.int .i64 x.wO,.str x.wQ,.int .i64 x.rl,.int .i64 x.gX,.int .i64 x.gb.aL,.int .i64 x.gb.an,.sl (.st 1) x.yM,.int .i64 x.rm,.int .i64 x.rp,.sl (.int .i64) x.ud,.sl (.int .i64) x.wU,.sl (.int .i64) x.yH,.sl (.int .i64) x.yK]
 | 3,(x:dZ)=>[.int .i64 x.wT,.int .i64 x.yJ]
 | 4,(x:bm)=>[.str x.yI,.sl (.st 3) x.yL,.int .i64 x.rl]
 | 5,(x:cj)=>[.sl (.str) x.lX,.sl (.st 4) x.lW]
 | 6,(x:b5)=>[.int .i64 x.fId,.int .i64 x.wY,.int .i64 x.lm,.int .i64 x.jW.aL,.int .i64 x.jW.an,.int .i64 x.gX,.int .i64 x.aw,.bool x.gb,.int .i64 x.ub]
 | 7,(x:bZ)=>[.int .i64 x.fId,.int .i64 x.aw,.int .i64 x.rn,.int .i64 x.yc.aL,.int .i64 x.yc.an,.int .i64 x.rm,.int .i64 x.rp,.bool x.fUp]
 | 8,(x:ab)=>[.int .i64 x.fId,.int .i64 x.aw,.int .i64 x.ae,.int .i64 x.ah,.int .i64 x.am.aL,.int .i64 x.am.an]
 | 11,(x:bW)=>[.int .i64 x.lm,.int .i64 x.wY,.int .i64 x.gX]
 | 12,(x:bw)=>[.sl (.str) x.uf.lX,.sl (.st 4) x.uf.lW,.sl (.st 7) x.wS,.sl (.st 2) x.yN,.sl (.st 6) x.wX,.sl (.st 11) x.wP,.sl (.st 8) x.wR,.int .i64 x.zZ,.int .i64 x.wV,.int .i64 x.zY]
 | 17,(x:ax)=>[.int .i64 x.fA,.int .i64 x.fP]
 | 9,_=>[]
 | 10,_=>[]
 | 13,_=>[]
 | 14,_=>[]
 | 15,_=>[]
 | 16,_=>[]
 | 18,_=>[]
 | _ + 19,_=>[]
def ao.k:List SD→Option ao
 | c0::c1 :: []=>Option.bind (c0.as (.int .i64)) fun x0=>Option.bind (c1.as (.int .i64)) fun x1=>some (⟨x0,x1⟩ : ao)
 | _=>none
def d6.k:List SD→Option d6
 | c0::c1::c2::c3::c4::c5::c6::c7 :: []=>Option.bind (c0.as (.int .i64)) fun x0=>Option.bind (c1.as (.int .i64)) fun x1=>Option.bind (c2.as (.int .i64)) fun x2=>Option.bind (c3.as (.int .i64)) fun x3=>Option.bind (c4.as (.int .i64)) fun x4=>Option.bind (c5.as (.int .i64)) fun x5=>Option.bind (c6.as (.int .i64)) fun x6=>Option.bind (c7.as (.int .i64)) fun x7=>some (⟨x0,x1,⟨x2,x3⟩,x4,x5,x6,x7⟩ : d6)
 | _=>none
def eH.k:List SD→Option eH
 | c0::c1::c2::c3::c4::c5::c6::c7::c8::c9::c10::c11::c12::c13 :: []=>Option.bind (c0.as (.int .i64)) fun x0=>Option.bind (c1.as (.int .i64)) fun x1=>Option.bind (c2.as (.str)) fun x2=>Option.bind (c3.as (.int .i64)) fun x3=>Option.bind (c4.as (.int .i64)) fun x4=>Option.bind (c5.as (.int .i64)) fun x5=>Option.bind (c6.as (.int .i64)) fun x6=>Option.bind (c7.as (.sl (.st 1))) fun x7=>Option.bind (c8.as (.int .i64)) fun x8=>Option.bind (c9.as (.int .i64)) fun x9=>Option.bind (c10.as (.sl (.int .i64))) fun x10=>Option.bind (c11.as (.sl (.int .i64))) fun x11=>Option.bind (c12.as (.sl (.int .i64))) fun x12=>Option.bind (c13.as (.sl (.int .i64))) fun x13=>some (⟨x0,x1,x2,x3,x4,⟨x5,x6⟩,x7,x8,x9,x10,x11,x12,x13⟩ : eH)
 | _=>none
def dZ.k:List SD→Option dZ
 | c0::c1 :: []=>Option.bind (c0.as (.int .i64)) fun x0=>Option.bind (c1.as (.int .i64)) fun x1=>some (⟨x0,x1⟩ : dZ)
 | _=>none
def bm.k:List SD→Option bm
 | c0::c1::c2 :: []=>Option.bind (c0.as (.str)) fun x0=>Option.bind (c1.as (.sl (.st 3))) fun x1=>Option.bind (c2.as (.int .i64)) fun x2=>some (⟨x0,x1,x2⟩ : bm)
 | _=>none
def cj.k:List SD→Option cj
 | c0::c1 :: []=>Option.bind (c0.as (.sl (.str))) fun x0=>Option.bind (c1.as (.sl (.st 4))) fun x1=>some (⟨x0,x1⟩ : cj)
 | _=>none
def b5.k:List SD→Option b5
 | c0::c1::c2::c3::c4::c5::c6::c7::c8 :: []=>Option.bind (c0.as (.int .i64)) fun x0=>Option.bind (c1.as (.int .i64)) fun x1=>Option.bind (c2.as (.int .i64)) fun x2=>Option.bind (c3.as (.int .i64)) fun x3=>Option.bind (c4.as (.int .i64)) fun x4=>Option.bind (c5.as (.int .i64)) fun x5=>Option.bind (c6.as (.int .i64)) fun x6=>Option.bind (c7.as (.bool)) fun x7=>Option.bind (c8.as (.int .i64)) fun x8=>some (⟨x0,x1,x2,⟨x3,x4⟩,x5,x6,x7,x8⟩ : b5)
 | _=>none
def bZ.k:List SD→Option bZ
 | c0::c1::c2::c3::c4::c5::c6::c7 :: []=>Option.bind (c0.as (.int .i64)) fun x0=>Option.bind (c1.as (.int .i64)) fun x1=>Option.bind (c2.as (.int .i64)) fun x2=>Option.bind (c3.as (.int .i64)) fun x3=>Option.bind (c4.as (.int .i64)) fun x4=>Option.bind (c5.as (.int .i64)) fun x5=>Option.bind (c6.as (.int .i64)) fun x6=>Option.bind (c7.as (.bool)) fun x7=>some (⟨x0,x1,x2,⟨x3,x4⟩,x5,x6,x7⟩ : bZ)
 | _=>none
def ab.k:List SD→Option ab
 | c0::c1::c2::c3::c4::c5 :: []=>Option.bind (c0.as (.int .i64)) fun x0=>Option.bind (c1.as (.int .i64)) fun x1=>Option.bind (c2.as (.int .i64)) fun x2=>Option.bind (c3.as (.int .i64)) fun x3=>Option.bind (c4.as (.int .i64)) fun x4=>Option.bind (c5.as (.int .i64)) fun x5=>some (⟨x0,x1,x2,x3,⟨x4,x5⟩⟩ : ab)
 | _=>none
def bW.k:List SD→Option bW
 | c0::c1::c2 :: []=>Option.bind (c0.as (.int .i64)) fun x0=>Option.bind (c1.as (.int .i64)) fun x1=>Option.bind (c2.as (.int .i64)) fun x2=>some (⟨x0,x1,x2⟩ : bW)
 | _=>none
def bw.k:List SD→Option bw
 | c0::c1::c2::c3::c4::c5::c6::c7::c8::c9 :: []=>Option.bind (c0.as (.sl (.str))) fun x0=>Option.bind (c1.as (.sl (.st 4))) fun x1=>Option.bind (c2.as (.sl (.st 7))) fun x2=>Option.bind (c3.as (.sl (.st 2))) fun x3=>Option.bind (c4.as (.sl (.st 6))) fun x4=>Option.bind (c5.as (.sl (.st 11))) fun x5=>Option.bind (c6.as (.sl (.st 8))) fun x6=>Option.bind (c7.as (.int .i64)) fun x7=>Option.bind (c8.as (.int .i64)) fun x8=>Option.bind (c9.as (.int .i64)) fun x9=>some (⟨⟨x0,x1⟩,x2,x3,x4,x5,x6,x7,x8,x9⟩ : bw)
 | _=>none
def ax.k:List SD→Option ax
 | c0::c1 :: []=>Option.bind (c0.as (.int .i64)) fun x0=>Option.bind (c1.as (.int .i64)) fun x1=>some (⟨x0,x1⟩ : ax)
 | _=>none
def stK:(i:Nat)→List SD→Option (ST i)
 | 0,cs=>ao.k cs
 | 1,cs=>d6.k cs
 | 2,cs=>eH.k cs
 | 3,cs=>dZ.k cs
 | 4,cs=>bm.k cs
 | 5,cs=>cj.k cs
 | 6,cs=>b5.k cs
 | 7,cs=>bZ.k cs
 | 8,cs=>ab.k cs
 | 11,cs=>bW.k cs
 | 12,cs=>bw.k cs
 | 17,cs=>ax.k cs
 | 9,_=>none
 | 10,_=>none
 | 13,_=>none
 | 14,_=>none
 | 15,_=>none
 | 16,_=>none
 | 18,_=>none
 | _ + 19,_=>none
theorem SD.as_ok {t:Ty} {c:SD} {x:t.den} (h:c.as t=some x) : az t x = [c.toD]:=by
 unfold SD.as at h
 split at h
 ·split at h
  ·rename_i hk
   subst hk
   injection h with h
   subst h
   rfl
  ·cases h
 ·injection h with h
  subst h
  rfl
 ·injection h with h
  subst h
  rfl
 ·split at h
  ·rename_i hk _
   subst hk
   injection h with h
   subst h
   rfl
  ·cases h
 ·injection h with h
  subst h
  rfl
 ·cases h
theorem gC:∀ (i:Nat) (x:ST i),(stC i x).map SD.toD=stD i x
 | 0,(x:ao)=>rfl
 | 1,(x:d6)=>rfl
 | 2,(x:eH)=>rfl
 | 3,(x:dZ)=>rfl
 | 4,(x:bm)=>rfl
 | 5,(x:cj)=>rfl
 | 6,(x:b5)=>rfl
 | 7,(x:bZ)=>rfl
 | 8,(x:ab)=>rfl
 | 11,(x:bW)=>rfl
 | 12,(x:bw)=>rfl
 | 17,(x:ax)=>rfl
 | 9,_=>rfl
 | 10,_=>rfl
 | 13,_=>rfl
 | 14,_=>rfl
 | 15,_=>rfl
 | 16,_=>rfl
 | 18,_=>rfl
 | _ + 19,_=>rfl
theorem i0:∀ (i:Nat) (x:ST i) (c:SD),c∈stC i x→c≠.nl
 | 0,(x:ao),c,h=>by
  simp only [stC,List.mem_cons,List.not_mem_nil,or_false] at h
  rcases h with rfl | rfl <;> (intro e; cases e)
 | 1,(x:d6),c,h=>by
  simp only [stC,List.mem_cons,List.not_mem_nil,or_false] at h
  rcases h with rfl | rfl | rfl | rfl | rfl | rfl | rfl | rfl <;> (intro e; cases e)
 | 2,(x:eH),c,h=>by
  simp only [stC,List.mem_cons,List.not_mem_nil,or_false] at h
  rcases h with rfl | rfl | rfl | rfl | rfl | rfl | rfl | rfl | rfl | rfl | rfl | rfl | rfl | rfl <;> (intro e; cases e)
 | 3,(x:dZ),c,h=>by
  simp only [stC,List.mem_cons,List.not_mem_nil,or_false] at h
  rcases h with rfl | rfl <;> (intro e; cases e)
 | 4,(x:bm),c,h=>by
  simp only [stC,List.mem_cons,List.not_mem_nil,or_false] at h
  rcases h with rfl | rfl | rfl <;> (intro e; cases e)
 | 5,(x:cj),c,h=>by
  simp only [stC,List.mem_cons,List.not_mem_nil,or_false] at h
  rcases h with rfl | rfl <;> (intro e; cases e)
 | 6,(x:b5),c,h=>by
  simp only [stC,List.mem_cons,List.not_mem_nil,or_false] at h
  rcases h with rfl | rfl | rfl | rfl | rfl | rfl | rfl | rfl | rfl <;> (intro e; cases e)
 | 7,(x:bZ),c,h=>by
  simp only [stC,List.mem_cons,List.not_mem_nil,or_false] at h
  rcases h with rfl | rfl | rfl | rfl | rfl | rfl | rfl | rfl <;> (intro e; cases e)
 | 8,(x:ab),c,h=>by
  simp only [stC,List.mem_cons,List.not_mem_nil,or_false] at h
  rcases h with rfl | rfl | rfl | rfl | rfl | rfl <;> (intro e; cases e)
 | 11,(x:bW),c,h=>by
  simp only [stC,List.mem_cons,List.not_mem_nil,or_false] at h
  rcases h with rfl | rfl | rfl <;> (intro e; cases e)
 | 12,(x:bw),c,h=>by
  simp only [stC,List.mem_cons,List.not_mem_nil,or_false] at h
  rcases h with rfl | rfl | rfl | rfl | rfl | rfl | rfl | rfl | rfl | rfl <;> (intro e; cases e)
 | 17,(x:ax),c,h=>by
  simp only [stC,List.mem_cons,List.not_mem_nil,or_false] at h
  rcases h with rfl | rfl <;> (intro e; cases e)
 | 9,_,c,h=>by cases h
 | 10,_,c,h=>by cases h
 | 13,_,c,h=>by cases h
 | 14,_,c,h=>by cases h
 | 15,_,c,h=>by cases h
 | 16,_,c,h=>by cases h
 | 18,_,c,h=>by cases h
 | _ + 19,_,c,h=>by cases h
theorem xC:∀ (i:Nat) (x:ST i),(stD i x).length=stN i
 | 0,(x:ao)=>rfl
 | 1,(x:d6)=>rfl
 | 2,(x:eH)=>rfl
 | 3,(x:dZ)=>rfl
 | 4,(x:bm)=>rfl
 | 5,(x:cj)=>rfl
 | 6,(x:b5)=>rfl
 | 7,(x:bZ)=>rfl
 | 8,(x:ab)=>rfl
 | 11,(x:bW)=>rfl
 | 12,(x:bw)=>rfl
 | 17,(x:ax)=>rfl
 | 9,_=>rfl
 | 10,_=>rfl
 | 13,_=>rfl
 | 14,_=>rfl
 | 15,_=>rfl
 | 16,_=>rfl
 | 18,_=>rfl
 | _ + 19,_=>rfl
theorem yX:∀ (i:Nat) (x:ST i),stF i=true→∀ d∈stD i x,∃ y,d = .v y
 | 0,(x:ao),_,d,h=>by
  simp only [stD,ao.d,List.mem_cons,List.not_mem_nil,or_false] at h
  rcases h with rfl | rfl <;> exact ⟨_,rfl⟩
 | 1,(x:d6),_,d,h=>by
  simp only [stD,d6.d,List.mem_cons,List.not_mem_nil,or_false] at h
  rcases h with rfl | rfl | rfl | rfl | rfl | rfl | rfl | rfl <;> exact ⟨_,rfl⟩
 | 2,(x:eH),h,_,_=>by cases h
 | 3,(x:dZ),_,d,h=>by
  simp only [stD,dZ.d,List.mem_cons,List.not_mem_nil,or_false] at h
  rcases h with rfl | rfl <;> exact ⟨_,rfl⟩
 | 4,(x:bm),h,_,_=>by cases h
 | 5,(x:cj),h,_,_=>by cases h
 | 6,(x:b5),_,d,h=>by
  simp only [stD,b5.d,List.mem_cons,List.not_mem_nil,or_false] at h
  rcases h with rfl | rfl | rfl | rfl | rfl | rfl | rfl | rfl | rfl <;> exact ⟨_,rfl⟩
 | 7,(x:bZ),_,d,h=>by
  simp only [stD,bZ.d,List.mem_cons,List.not_mem_nil,or_false] at h
  rcases h with rfl | rfl | rfl | rfl | rfl | rfl | rfl | rfl <;> exact ⟨_,rfl⟩
 | 8,(x:ab),_,d,h=>by
  simp only [stD,ab.d,List.mem_cons,List.not_mem_nil,or_false] at h
  rcases h with rfl | rfl | rfl | rfl | rfl | rfl <;> exact ⟨_,rfl⟩
 | 11,(x:bW),_,d,h=>by
  simp only [stD,bW.d,List.mem_cons,List.not_mem_nil,or_false] at h
  rcases h with rfl | rfl | rfl <;> exact ⟨_,rfl⟩
 | 12,(x:bw),h,_,_=>by cases h
 | 17,(x:ax),_,d,h=>by
  simp only [stD,ax.d,List.mem_cons,List.not_mem_nil,or_false] at h
  rcases h with rfl | rfl <;> exact ⟨_,rfl⟩
 | 9,_,_,_,h=>by cases h
 | 10,_,_,_,h=>by cases h
 | 13,_,_,_,h=>by cases h
 | 14,_,_,_,h=>by cases h
 | 15,_,_,_,h=>by cases h
 | 16,_,_,_,h=>by cases h
 | 18,_,_,_,h=>by cases h
 | _ + 19,_,_,_,h=>by cases h
theorem aK {α β : Type} {o:Option α} {k : α→Option β} {r : β} (h:o.bind k=some r) : ∃ x,o=some x∧k x=some r:=by
 cases o with
 | none=>cases h
 | some x=>exact ⟨x,rfl,h⟩
theorem aq {t:Ty} {c:SD} {β : Type} {k:t.den→Option β} {r : β} (h:(c.as t).bind k=some r) : ∃ x,az t x = [c.toD]∧k x=some r:=by
 obtain ⟨x,h1,h2⟩:=aK h
 exact ⟨x,SD.as_ok h1,h2⟩
theorem ao.k_ok {cs:List SD} {x:ao} (h:ao.k cs=some x) : cs.map SD.toD=ao.d x:=by
 unfold ao.k at h
 split at h
 ·rename_i c0 c1
  obtain ⟨x0,q0,h⟩:=aq h
  obtain ⟨x1,q1,h⟩:=aq h
  injection h with h
  subst h
  simp only [az,List.cons.injEq,and_true] at q0 q1
  simp only [List.map_cons,List.map_nil,ao.d,← q0,← q1]
  try rfl
 ·cases h
theorem d6.k_ok {cs:List SD} {x:d6} (h:d6.k cs=some x) : cs.map SD.toD=d6.d x:=by
 unfold d6.k at h
 split at h
 ·rename_i c0 c1 c2 c3 c4 c5 c6 c7
  obtain ⟨x0,q0,h⟩:=aq h
  obtain ⟨x1,q1,h⟩:=aq h
  obtain ⟨x2,q2,h⟩:=aq h
  obtain ⟨x3,q3,h⟩:=aq h
  obtain ⟨x4,q4,h⟩:=aq h
  obtain ⟨x5,q5,h⟩:=aq h
  obtain ⟨x6,q6,h⟩:=aq h
  obtain ⟨x7,q7,h⟩:=aq h
  injection h with h
  subst h
  simp only [az,List.cons.injEq,and_true] at q0 q1 q2 q3 q4 q5 q6 q7
  simp only [List.map_cons,List.map_nil,d6.d,← q0,← q1,← q2,← q3,← q4,← q5,← q6,← q7]
  try rfl
 ·cases h
theorem eH.k_ok {cs:List SD} {x:eH} (h:eH.k cs=some x) : cs.map SD.toD=eH.d x:=by
 unfold eH.k at h
 split at h
 ·rename_i c0 c1 c2 c3 c4 c5 c6 c7 c8 c9 c10 c11 c12 c13
  obtain ⟨x0,q0,h⟩:=aq h
  obtain ⟨x1,q1,h⟩:=aq h
  obtain ⟨x2,q2,h⟩:=aq h
  obtain ⟨x3,q3,h⟩:=aq h
  obtain ⟨x4,q4,h⟩:=aq h
  obtain ⟨x5,q5,h⟩:=aq h
  obtain ⟨x6,q6,h⟩:=aq h
  obtain ⟨x7,q7,h⟩:=aq h
  obtain ⟨x8,q8,h⟩:=aq h
  obtain ⟨x9,q9,h⟩:=aq h
  obtain ⟨x10,q10,h⟩:=aq h
  obtain ⟨x11,q11,h⟩:=aq h
  obtain ⟨x12,q12,h⟩:=aq h
  obtain ⟨x13,q13,h⟩:=aq h
  injection h with h
  subst h
  simp only [az,List.cons.injEq,and_true] at q0 q1 q2 q3 q4 q5 q6 q7 q8 q9 q10 q11 q12 q13
  simp only [List.map_cons,List.map_nil,eH.d,← q0,← q1,← q2,← q3,← q4,← q5,← q6,← q7,← q8,← q9,← q10,← q11,← q12,← q13]
  try rfl
 ·cases h
theorem dZ.k_ok {cs:List SD} {x:dZ} (h:dZ.k cs=some x) : cs.map SD.toD=dZ.d x:=by
 unfold dZ.k at h
 split at h
 ·rename_i c0 c1
  obtain ⟨x0,q0,h⟩:=aq h
  obtain ⟨x1,q1,h⟩:=aq h
  injection h with h
  subst h
  simp only [az,List.cons.injEq,and_true] at q0 q1
  simp only [List.map_cons,List.map_nil,dZ.d,← q0,← q1]
  try rfl
 ·cases h
theorem bm.k_ok {cs:List SD} {x:bm} (h:bm.k cs=some x) : cs.map SD.toD=bm.d x:=by
 unfold bm.k at h
 split at h
 ·rename_i c0 c1 c2
  obtain ⟨x0,q0,h⟩:=aq h
  obtain ⟨x1,q1,h⟩:=aq h
  obtain ⟨x2,q2,h⟩:=aq h
  injection h with h
  subst h
  simp only [az,List.cons.injEq,and_true] at q0 q1 q2
  simp only [List.map_cons,List.map_nil,bm.d,← q0,← q1,← q2]
  try rfl
 ·cases h
theorem cj.k_ok {cs:List SD} {x:cj} (h:cj.k cs=some x) : cs.map SD.toD=cj.d x:=by
 unfold cj.k at h
 split at h
 ·rename_i c0 c1
  obtain ⟨x0,q0,h⟩:=aq h
  obtain ⟨x1,q1,h⟩:=aq h
  injection h with h
  subst h
  simp only [az,List.cons.injEq,and_true] at q0 q1
  simp only [List.map_cons,List.map_nil,cj.d,← q0,← q1]
  try rfl
 ·cases h
theorem b5.k_ok {cs:List SD} {x:b5} (h:b5.k cs=some x) : cs.map SD.toD=b5.d x:=by
 unfold b5.k at h
 split at h
 ·rename_i c0 c1 c2 c3 c4 c5 c6 c7 c8
  obtain ⟨x0,q0,h⟩:=aq h
  obtain ⟨x1,q1,h⟩:=aq h
  obtain ⟨x2,q2,h⟩:=aq h
  obtain ⟨x3,q3,h⟩:=aq h
  obtain ⟨x4,q4,h⟩:=aq h
  obtain ⟨x5,q5,h⟩:=aq h
  obtain ⟨x6,q6,h⟩:=aq h
  obtain ⟨x7,q7,h⟩:=aq h
  obtain ⟨x8,q8,h⟩:=aq h
  injection h with h
  subst h
  simp only [az,List.cons.injEq,and_true] at q0 q1 q2 q3 q4 q5 q6 q7 q8
  simp only [List.map_cons,List.map_nil,b5.d,← q0,← q1,← q2,← q3,← q4,← q5,← q6,← q7,← q8]
  try rfl
 ·cases h
theorem bZ.k_ok {cs:List SD} {x:bZ} (h:bZ.k cs=some x) : cs.map SD.toD=bZ.d x:=by
 unfold bZ.k at h
 split at h
 ·rename_i c0 c1 c2 c3 c4 c5 c6 c7
  obtain ⟨x0,q0,h⟩:=aq h
  obtain ⟨x1,q1,h⟩:=aq h
  obtain ⟨x2,q2,h⟩:=aq h
  obtain ⟨x3,q3,h⟩:=aq h
  obtain ⟨x4,q4,h⟩:=aq h
  obtain ⟨x5,q5,h⟩:=aq h
  obtain ⟨x6,q6,h⟩:=aq h
  obtain ⟨x7,q7,h⟩:=aq h
  injection h with h
  subst h
  simp only [az,List.cons.injEq,and_true] at q0 q1 q2 q3 q4 q5 q6 q7
  simp only [List.map_cons,List.map_nil,bZ.d,← q0,← q1,← q2,← q3,← q4,← q5,← q6,← q7]
  try rfl
 ·cases h
theorem ab.k_ok {cs:List SD} {x:ab} (h:ab.k cs=some x) : cs.map SD.toD=ab.d x:=by
 unfold ab.k at h
 split at h
 ·rename_i c0 c1 c2 c3 c4 c5
  obtain ⟨x0,q0,h⟩:=aq h
  obtain ⟨x1,q1,h⟩:=aq h
  obtain ⟨x2,q2,h⟩:=aq h
  obtain ⟨x3,q3,h⟩:=aq h
  obtain ⟨x4,q4,h⟩:=aq h
  obtain ⟨x5,q5,h⟩:=aq h
  injection h with h
  subst h
  simp only [az,List.cons.injEq,and_true] at q0 q1 q2 q3 q4 q5
  simp only [List.map_cons,List.map_nil,ab.d,← q0,← q1,← q2,← q3,← q4,← q5]
  try rfl
 ·cases h
theorem bW.k_ok {cs:List SD} {x:bW} (h:bW.k cs=some x) : cs.map SD.toD=bW.d x:=by
 unfold bW.k at h
 split at h
 ·rename_i c0 c1 c2
  obtain ⟨x0,q0,h⟩:=aq h
  obtain ⟨x1,q1,h⟩:=aq h
  obtain ⟨x2,q2,h⟩:=aq h
  injection h with h
  subst h
  simp only [az,List.cons.injEq,and_true] at q0 q1 q2
  simp only [List.map_cons,List.map_nil,bW.d,← q0,← q1,← q2]
  try rfl
 ·cases h
theorem bw.k_ok {cs:List SD} {x:bw} (h:bw.k cs=some x) : cs.map SD.toD=bw.d x:=by
 unfold bw.k at h
 split at h
 ·rename_i c0 c1 c2 c3 c4 c5 c6 c7 c8 c9
  obtain ⟨x0,q0,h⟩:=aq h
  obtain ⟨x1,q1,h⟩:=aq h
  obtain ⟨x2,q2,h⟩:=aq h
  obtain ⟨x3,q3,h⟩:=aq h
  obtain ⟨x4,q4,h⟩:=aq h
  obtain ⟨x5,q5,h⟩:=aq h
  obtain ⟨x6,q6,h⟩:=aq h
  obtain ⟨x7,q7,h⟩:=aq h
  obtain ⟨x8,q8,h⟩:=aq h
  obtain ⟨x9,q9,h⟩:=aq h
  injection h with h
  subst h
  simp only [az,List.cons.injEq,and_true] at q0 q1 q2 q3 q4 q5 q6 q7 q8 q9
  simp only [List.map_cons,List.map_nil,bw.d,← q0,← q1,← q2,← q3,← q4,← q5,← q6,← q7,← q8,← q9]
  try rfl
 ·cases h
theorem ax.k_ok {cs:List SD} {x:ax} (h:ax.k cs=some x) : cs.map SD.toD=ax.d x:=by
 unfold ax.k at h
 split at h
 ·rename_i c0 c1
  obtain ⟨x0,q0,h⟩:=aq h
  obtain ⟨x1,q1,h⟩:=aq h
  injection h with h
  subst h
  simp only [az,List.cons.injEq,and_true] at q0 q1
  simp only [List.map_cons,List.map_nil,ax.d,← q0,← q1]
  try rfl
 ·cases h
theorem kc:∀ {i:Nat} {cs:List SD} {x:ST i},stK i cs=some x→cs.map SD.toD=stD i x
 | 0,_,(_:ao),h=>ao.k_ok h
 | 1,_,(_:d6),h=>d6.k_ok h
 | 2,_,(_:eH),h=>eH.k_ok h
 | 3,_,(_:dZ),h=>dZ.k_ok h
 | 4,_,(_:bm),h=>bm.k_ok h
 | 5,_,(_:cj),h=>cj.k_ok h
 | 6,_,(_:b5),h=>b5.k_ok h
 | 7,_,(_:bZ),h=>bZ.k_ok h
 | 8,_,(_:ab),h=>ab.k_ok h
 | 11,_,(_:bW),h=>bW.k_ok h
 | 12,_,(_:bw),h=>bw.k_ok h
 | 17,_,(_:ax),h=>ax.k_ok h
 | 9,_,x,h=>by
  have h2:none=some x:=h
  cases h2
 | 10,_,x,h=>by
  have h2:none=some x:=h
  cases h2
 | 13,_,x,h=>by
  have h2:none=some x:=h
  cases h2
 | 14,_,x,h=>by
  have h2:none=some x:=h
  cases h2
 | 15,_,x,h=>by
  have h2:none=some x:=h
  cases h2
 | 16,_,x,h=>by
  have h2:none=some x:=h
  cases h2
 | 18,_,x,h=>by
  have h2:none=some x:=h
  cases h2
 | _ + 19,_,x,h=>by
  have h2:none=some x:=h
  cases h2
section
inductive SV where
 | junk
 | d (x:SD)
 | ag (cs:List SV)
 | tup (cs:List SV)
 | ptr (t off:Nat)
 | row (t:Nat)
 | re (t p off:Nat)
 | vw (t lo hi:Nat)
 | fe (cs:List SD)
 | fn (f:FuncId) (ps qs:List SV)
structure Pin where
 i:Int
 cs:Option (List SD)
inductive aj where
 | st (ty:TypeId) (cs:List SV)
 | rw (e k:Nat) (t:Ty) (xs:List t.den) (pins:List (Nat×Pin))
def lkV:List (Nat×SV)→Nat→SV
 | [],_=>.junk
 | (j,v)::l,i=>match Nat.beq i j with | true=>v | false=>lkV l i
def lkB:List (Nat×Option aj)→Nat→Option aj
 | [],_=>none
 | (j,v)::l,i=>match Nat.beq i j with | true=>v | false=>lkB l i
def lkP:List (Nat×Pin)→Nat→Option Pin
 | [],_=>none
 | (j,v)::l,i=>match Nat.beq i j with | true=>some v | false=>lkP l i
def af:List Nat→Nat→Bool
 | [],_=>false
 | j::l,i=>match Nat.beq i j with | true=>true | false=>af l i
structure SS where
 sl:List (Nat×SV)
 bx:List (Nat×Option aj)
 pr:List Nat
 ro:Bool
 oc:List Nat
def wrB (s:SS) (t:Nat) : Bool:=match s.ro with | true=>false | false=>!(af s.pr t)
def pF (s:SS) (t:Nat) : Bool:=match af s.oc t with | true=>false | false=>!(af s.pr t)
def kI:(t:Ty)→t.den→List SD
 | .int k,x=>[.int k x]
 | .bool,x=>[.bool x]
 | .str,x=>[.str x]
 | .sl t,xs=>[.sl t xs]
 | .st i,x=>stC i x
def yl:(t:Ty)→List SD→Option t.den
 | .st i,cs=>stK i cs
 | .int k,[c]=>c.as (.int k)
 | .bool,[c]=>c.as .bool
 | .str,[c]=>c.as .str
 | .sl t,[c]=>c.as (.sl t)
 | _,_=>none
def tyN:Ty→Nat
 | .st i=>stN i
 | _=>1
def o7:Value→Option SD
 | .int k n=>some (.int k n)
 | .bool t=>some (.bool t)
 | .string s=>some (.str s)
 | .slice none 0 0=>some .nl
 | _=>none
def nQ:List Value→Option (List SV)
 | []=>some []
 | v::l=>match o7 v,nQ l with | some c,some cs=>some (.d c::cs) | _,_=>none
def p7:Value→SV
 | .agg xs=>match nQ xs.toList with | some cs=>.ag cs | none=>.junk
 | v=>match o7 v with | some c=>.d c | none=>.junk
def evX (s:SS) : Operand→SV
 | .tmp i=>lkV s.sl i
 | .const v=>p7 v
 | .func f=>.fn f [] []
 | _=>.junk
def xF (s:SS) (t:Nat) : Option SD:=match lkB s.bx t with
 | some (.rw _ _ ty xs _)=>some (.sl ty xs)
 | _=>none
def fD (s:SS) : SV→Option SD
 | .d x=>some x
 | .row t=>xF s t
 | _=>none
def pZ (s:SS) : List SV→Option (List SD)
 | []=>some []
 | v::l=>match fD s v,pZ s l with | some c,some cs=>some (c::cs) | _,_=>none
def qa:SV→Option (List SV)
 | .ag cs=>some cs
 | .junk=>none
 | .tup _=>none
 | v=>some [v]
mutual
def stale (t:Nat) : SV→SV
 | .row t'=>match Nat.beq t' t with | true=>.junk | false=>.row t'
 | .re t' p o=>match Nat.beq t' t with | true=>.junk | false=>.re t' p o
 | .vw t' p o=>match Nat.beq t' t with | true=>.junk | false=>.vw t' p o
 | .ag cs=>.ag (bS t cs)
 | .tup cs=>.tup (bS t cs)
 | .fn f ps qs=>.fn f (bS t ps) (bS t qs)
 | v=>v
def bS (t:Nat) : List SV→List SV
 | []=>[]
 | c::cs=>stale t c::bS t cs
end
def mi (t:Nat) : List (Nat×SV)→List (Nat×SV)
 | []=>[]
 | (i,v)::l=>(i,stale t v)::mi t l
def dE (t:Nat) : List (Nat×Option aj)→List (Nat×Option aj)
 | []=>[]
 | (i,some (.st ty cs))::l=>(i,some (.st ty (bS t cs)))::dE t l
 | (i,b)::l=>(i,b)::dE t l
inductive Upd where
 | no
 | new (t:Nat) (b:aj)
 | set (t:Nat) (b:aj)
 | pin (t:Nat) (b:aj)
 | grow (t:Nat) (b:aj)
def vL:Upd→List Nat
 | .no=>[]
 | .new t _=>[t]
 | .set t _=>[t]
 | .pin _ _=>[]
 | .grow t _=>[t]
def fO (sl:List (Nat×SV)) (dst:Option Nat) (v:SV) : List (Nat×SV):=match dst with | some d=>(d,v)::sl | none=>sl
def SS.upd (s:SS) (dst:Option Nat) (v:SV) : Upd→SS
 | .no=>⟨fO s.sl dst v,s.bx,s.pr,s.ro,s.oc⟩
 | .new t b=>⟨fO s.sl dst v,(t,some b)::s.bx,s.pr,s.ro,s.oc⟩
 | .set t b=>⟨fO s.sl dst v,(t,some b)::s.bx,s.pr,s.ro,s.oc⟩
 | .pin t b=>⟨fO s.sl dst v,(t,some b)::s.bx,s.pr,s.ro,s.oc⟩
 | .grow t b=>⟨fO (mi t s.sl) dst v,(t,some b)::dE t s.bx,s.pr,s.ro,s.oc⟩
def dr {α : Type} : List α→Nat→List α→List α
 | cs,0,[]=>cs
 | _ :: cs,0,n::ns=>n::dr cs 0 ns
 | [],_,_=>[]
 | c::cs,o + 1,ns=>c::dr cs o ns
def tF (size:Nat) (agg:Bool) (cl:List SV) : Option SV :=
 if agg then (if size≤cl.length then some (.ag (cl.take size)) else none) else cl.head?
def kv:List SD→List SV
 | []=>[]
 | c::cs=>.d c::kv cs
variable {ρ : Type}
def chk (b:Bool) (k:Option ρ) : Option ρ:=match b with | true=>k | false=>none
def wC:Operand→Option Int
 | .const (.int _ n)=>some n
 | _=>none
def te (op:BinOp) (kd:IntKind) (lit:Option Int) (x y:Int) (k:SV→Option ρ) : Option ρ :=
 match op with
 | .add=>k (.d (.int kd (kd.wrap (x + y))))
 | .sub=>k (.d (.int kd (kd.wrap (x - y))))
 | .mul=>k (.d (.int kd (kd.wrap (x * y))))
 | .quo=>match lit with
  | some n=>chk (!(n==0)) (k (.d (.int kd (kd.wrap (x.tdiv y)))))
  | none=>Option.bind (if y=0 then none else some (kd.wrap (x.tdiv y))) fun q=>k (.d (.int kd q))
 | .rem=>match lit with
  | some n=>chk (!(n==0)) (k (.d (.int kd (x.tmod y))))
  | none=>Option.bind (xH x y) fun q=>k (.d (.int kd q))
 | .eql=>k (.d (.bool (x==y)))
 | .neq=>k (.d (.bool (x != y)))
 | .lss=>k (.d (.bool (decide (x < y))))
 | .leq=>k (.d (.bool (decide (x≤y))))
 | .gtr=>k (.d (.bool (decide (x > y))))
 | .geq=>k (.d (.bool (decide (x≥y))))
 | .and=>k (.d (.int kd (bits .and kd x y)))
 | .or=>k (.d (.int kd (bits .or kd x y)))
 | .xor=>k (.d (.int kd (bits .xor kd x y)))
 | _=>none
def ss (op:BinOp) (kd:IntKind) (lit:Option Int) (x y:Int) (k:SV→Option ρ) : Option ρ :=
 match lit with
 | some n=>chk (decide (0≤n)) (match op with
  | .shl=>k (.d (.int kd (kd.wrap (x * 2 ^ (min y.toNat kd.bits)))))
  | .shr=>k (.d (.int kd (x.fdiv (2 ^ (min y.toNat kd.bits)))))
  | _=>none)
 | none=>Option.bind (if y < 0 then none else some ()) fun _=>(match op with
  | .shl=>k (.d (.int kd (kd.wrap (x * 2 ^ (min y.toNat kd.bits)))))
  | .shr=>k (.d (.int kd (x.fdiv (2 ^ (min y.toNat kd.bits)))))
  | _=>none)
def sj (op:BinOp) (x y:ByteArray) (k:SV→Option ρ) : Option ρ :=
 match op with
 | .add=>Option.bind (yC x y) fun z=>k (.d (.str z))
 | .eql=>k (.d (.bool (x.toList==y.toList)))
 | .neq=>k (.d (.bool (!(x.toList==y.toList))))
 | .lss=>k (.d (.bool (Op.bytesLess x.toList y.toList)))
 | .leq=>k (.d (.bool (Op.bytesLess x.toList y.toList||(x.toList==y.toList))))
 | .gtr=>k (.d (.bool (!(Op.bytesLess x.toList y.toList||(x.toList==y.toList)))))
 | .geq=>k (.d (.bool (!(Op.bytesLess x.toList y.toList))))
 | _=>none
def pm (op:BinOp) (x y:Bool) (k:SV→Option ρ) : Option ρ :=
 match op with
 | .eql=>k (.d (.bool (x==y)))
 | .neq=>k (.d (.bool (!(x==y))))
 | _=>none
def gc:SD→SD→Option Bool
 | .int k a,.int k' b=>if k=k' then some (a==b) else none
 | .bool a,.bool b=>some (a==b)
 | .str a,.str b=>some (a.toList==b.toList)
 | _,_=>none
def lq:List SV→List SV→Option Bool
 | [.d x],[.d y]=>gc x y
 | .d x::xs,.d y::ys=>match gc x y,lq xs ys with
  | some a,some r=>some (a&&r)
  | _,_=>none
 | _,_=>none
def sO:SV→Option Nat
 | .d (.int _ _)=>some 0
 | .d (.bool _)=>some 1
 | .d (.str _)=>some 2
 | _=>none
def lV:List SV→Option (List Nat)
 | []=>some []
 | v::l=>match sO v,lV l with | some a,some r=>some (a::r) | _,_=>none
def pO:List Nat→List Nat→Bool
 | [],[]=>true
 | a::l,b::m=>match Nat.beq a b with | true=>pO l m | false=>false
 | _,_=>false
def zC (P:Program) (op:BinOp) (t:TypeId) (lit:Option Int) (p q:SV) (k:SV→Option ρ) : Option ρ :=
 match p,q with
 | .d (.int kd x),.d (.int kd' y)=>match pK op with
  | true=>ss op kd lit x y k
  | false=>if kd=kd' then te op kd lit x y k else none
 | .d (.str x),.d (.str y)=>sj op x y k
 | .d (.bool x),.d (.bool y)=>match P.underlying t with
  | some .bool=>pm op x y k
  | _=>none
 | .ag xs,.ag ys=>match zv P t,lV xs,lq xs ys with
  | some l,some l',some r=>chk (pO l l') (match op with
   | .eql=>k (.d (.bool r))
   | .neq=>k (.d (.bool (!r)))
   | _=>none)
  | _,_,_=>none
 | _,_=>none
def unX (op:UnOp) (p:SV) (k:SV→Option ρ) : Option ρ :=
 match op,p with
 | .not,.d (.bool x)=>k (.d (.bool (!x)))
 | .neg,.d (.int kd x)=>k (.d (.int kd (kd.wrap (0 - x))))
 | _,_=>none
def xj (P:Program) (s:SS) (src dst:TypeId) (p:SV) (k:SV→Option ρ) : Option ρ :=
 match P.underlying src with
 | none=>none
 | some (.slice e)=>(match P.underlying dst with
  | some .string=>(match P.underlying e,fD s p with
   | some (.int .u8),some (.sl (.int .u8) xs)=>Option.bind (zJ (xs:List Int)) fun z=>k (.d (.str z))
   | _,_=>none)
  | _=>none)
 | some _=>match P.underlying dst,p with
  | some (.int kd),.d (.int _ x)=>k (.d (.int kd (kd.wrap x)))
  | some .string,.d (.str x)=>k (.d (.str x))
  | _,_=>none
def jm (P:Program) (t:TypeId) (p:SV) (f:Nat) (k:SV→Option ρ) : Option ρ :=
 match (kF P t)[f]? with
 | some (off,size,_)=>chk (!(size==0)) (match p with
  | .ptr t o=>k (.ptr t (o + off))
  | .fe cs=>k (.fe (cs.drop off))
  | .re t p o=>k (.re t p (o + off))
  | _=>none)
 | none=>none
def sS (P:Program) (t:TypeId) (p:SV) (f:Nat) (k:SV→Option ρ) : Option ρ :=
 match (kF P t)[f]?,p with
 | some (off,size,agg),.ag cs=>match tF size agg (cs.drop off) with | some v=>k v | none=>none
 | _,_=>none
def xx (s:SS) : SV→Option (List SV)
 | .ptr t off=>match lkB s.bx t with | some (.st _ cs)=>some (cs.drop off) | _=>none
 | .fe cs=>some (kv cs)
 | .re t p off=>match lkB s.bx t with
  | some (.rw _ _ _ _ pins)=>match lkP pins p with
   | some ⟨_,some cs⟩=>some (kv (cs.drop off))
   | _=>none
  | _=>none
 | _=>none
def tR (P:Program) (s:SS) (t:TypeId) (p:SV) : Option SV :=
 match cX P t,xx s p with
 | some i,some cl=>tF i.size i.agg cl
 | _,_=>none
def jg (P:Program) (s:SS) (dst:Option Nat) (t:TypeId) (p q:SV) (k:SV→Upd→Option ρ) : Option ρ :=
 match P.underlying t,q,dst with
 | some (.slice e),.d (.int _ i),some d=>match cX P e with
  | some ie=>match p with
   | .d (.sl ty xs)=>chk (tyN ty==ie.size) (Option.bind (cp xs i) fun x=>k (.fe (kI ty x)) .no)
   | .row t'=>match lkB s.bx t' with
    | some (.rw e' kk ty xs pins)=>chk (kk==ie.size) (chk (lkP pins d).isNone (Option.bind (cp xs i) fun x=>k (.re t' d 0) (.pin t' (.rw e' kk ty xs ((d,⟨i,some (kI ty x)⟩)::pins)))))
    | _=>none
   | _=>none
  | none=>none
 | _,_,_=>none
def y0:SV→Option SD
 | .d x=>some x
 | _=>none
def gv:List SV→Option (List SD)
 | []=>some []
 | v::l=>match y0 v,gv l with | some c,some cs=>some (c::cs) | _,_=>none
def iL:List (Nat×Pin)→List (Nat×Pin)
 | []=>[]
 | (i,⟨j,_⟩)::l=>(i,⟨j,none⟩)::iL l
def so (P:Program) (s:SS) (t:TypeId) (p q:SV) (k:SV→Upd→Option ρ) : Option ρ :=
 match cX P t,qa q with
 | some i,some ns=>match p with
  | .ptr x off=>match lkB s.bx x with
   | some (.st ty cs)=>chk (ns.length==i.size) (chk (decide (off + ns.length≤cs.length)) (chk (wrB s x) (k .junk (.set x (.st ty (dr cs off ns))))))
   | _=>none
  | .re x pi off=>match lkB s.bx x,gv ns with
   | some (.rw e kk ty xs pins),some ds=>match lkP pins pi with
    | some ⟨j,cs⟩=>chk (ns.length==i.size) (chk (decide (off + ds.length≤tyN ty)) (chk (wrB s x) (match (if ds.length=tyN ty then some ds else cs.map fun cs=>dr cs off ds) with
     | some cs'=>match yl ty cs' with
      | some y=>k .junk (.set x (.rw e kk ty (xs.set j.toNat y) ((pi,⟨j,some (kI ty y)⟩)::iL pins)))
      | none=>none
     | none=>none)))
    | none=>none
   | _,_=>none
  | _=>none
 | _,_=>none
def rh (place:Nat→Option (Nat×Nat)) : List SV→List (Nat×SV)→Option (List SV)
 | cs,[]=>some cs
 | cs,(i,p)::rest=>match place i,qa p with
  | some (off,size),some ns=>chk (ns.length==size) (chk (decide (off + ns.length≤cs.length)) (rh place (dr cs off ns) rest))
  | _,_=>none
def l6 (i:TI) : Option (List SV):=nQ i.zero
def p8:Nat→Nat→List SD→List (List SD)
 | _,0,_=>[]
 | k,n + 1,l=>l.take k::p8 k n (l.drop k)
def pY (t:Ty) : List (List SD)→Option (List t.den)
 | []=>some []
 | c::l=>match yl t c,pY t l with | some x,some xs=>some (x::xs) | _,_=>none
def yW (P:Program) : Nat→TypeId→Option Ty
 | 0,_=>none
 | d + 1,t=>match Ao t with
  | some i=>some (.st i)
  | none=>match P.underlying t with
   | some (.int k)=>some (.int k)
   | some .bool=>some .bool
   | some .string=>some .str
   | some (.slice e)=>(yW P d e).map .sl
   | _=>none
def vV {α : Type} : Nat→List α→List α
 | 0,_=>[]
 | n + 1,l=>l++vV n l
def hZ (P:Program) (s:SS) (dst:Option Nat) (t:TypeId) (len:Nat) (parts:List (Nat×SV)) (k:SV→Upd→Option ρ) : Option ρ :=
 match dst,P.underlying t with
 | some d,some (.slice e)=>match cX P e,lkB s.bx d,yW P 4 e with
  | some i,none,some ty=>match l6 i with
   | some z=>chk (decide (0 < i.size)) (chk (decide (len≤1000)) (chk (decide (len * i.size≤16777216)) (chk (pF s d) (match rh (fun j=>some (j * i.size,i.size)) (vV len z) parts with
    | some cs=>match gv cs with
     | some ds=>match pY ty (p8 i.size len ds) with
      | some xs=>chk (tyN ty==i.size) (k (.row d) (.new d (.rw e i.size ty xs [])))
      | none=>none
     | none=>none
    | none=>none))))
   | none=>none
  | _,_,_=>none
 | _,_=>none
def qg (P:Program) (s:SS) (dst:Option Nat) (t:TypeId) (p q:SV) (k:SV→Upd→Option ρ) : Option ρ :=
 match P.underlying t,fD s q with
 | some (.slice e),some (.sl ty ys)=>match cX P e with
  | some i=>chk (decide (0 < i.size)) (chk (decide (0 < i.bytes)) (chk (decide (i.bytes≤1000000)) (chk (tyN ty==i.size) (match p with
   | .row x=>match lkB s.bx x with
    | some (.rw e' kk ty' xs _)=>match Ty.same ty ty' with
     | some ⟨h⟩=>chk (e' == e) (chk (kk==i.size) (chk (wrB s x) (Option.bind (fI xs (j2 h ys)) fun zs=>k (.row x) (.grow x (.rw e' kk ty' zs [])))))
     | none=>none
    | _=>none
   | .d .nl=>match dst with
    | some d=>match lkB s.bx d with
     | none=>chk (pF s d) (Option.bind (fI ([] : List ty.den) ys) fun zs=>k (.row d) (.new d (.rw e i.size ty zs [])))
     | some _=>none
    | none=>none
   | _=>none))))
  | none=>none
 | _,_=>none
def ky:SV→Option Int
 | .d (.int _ i)=>some i
 | _=>none
def vwO (n:Nat) (l h:Int) : Option Unit:=if 0≤l∧0≤h∧l.toNat≤h.toNat∧h.toNat≤n then some () else none
def y6 (lo:Option SV) (n:Int) : Option Int:=match lo with
 | none=>some n
 | some v=>ky v
def yO {α : Type} (xs:List α) (lo hi:Nat) (ys:List α) : Option (List α):=if lo≤hi∧hi≤xs.length then some (dy xs lo (ys.take (hi - lo))) else none
def mkO {α : Type} (z : α) (n:Int) : Option (List α):=if 0≤n∧n≤1000000 then some (List.replicate n.toNat z) else none
def yY (s:SS) : SV→Option SD
 | .vw t lo hi=>match lkB s.bx t with
  | some (.rw _ _ ty xs _)=>some (.sl ty ((xs.drop lo).take (hi - lo)))
  | _=>none
 | v=>fD s v
def we (s:SS) : SV→Option (Nat×Nat×Nat)
 | .row t=>match lkB s.bx t with
  | some (.rw _ _ _ xs _)=>some (t,0,xs.length)
  | _=>none
 | .vw t lo hi=>some (t,lo,hi)
 | _=>none
def xh (P:Program) (s:SS) (t:TypeId) (p q:SV) (k:SV→Upd→Option ρ) : Option ρ :=
 match P.underlying t,yY s q,we s p with
 | some (.slice e),some (.sl ty ys),some (x,lo,hi)=>match cX P e,lkB s.bx x with
  | some i,some (.rw e' kk ty' xs pins)=>match Ty.same ty ty' with
   | some ⟨h⟩=>chk (kk==i.size) (chk (tyN ty==i.size) (chk (wrB s x) (Option.bind (yO xs lo hi (j2 h ys)) fun zs=>k (.d (.int .i64 (min ys.length (hi - lo) : Nat))) (.set x (.rw e' kk ty' zs (iL pins))))))
   | none=>none
  | _,_=>none
 | _,_,_=>none
def su:Operand→Operand→Bool
 | .tmp i,.tmp j=>Nat.beq i j
 | .const (.int _ n),.const (.int _ m)=>n==m
 | _,_=>false
def wv (P:Program) (s:SS) (dst:Option Nat) (t:TypeId) (same:Bool) (p:SV) (k:SV→Upd→Option ρ) : Option ρ :=
 match dst,P.underlying t,p,same with
 | some d,some (.slice e),.d (.int _ n),true=>match cX P e,lkB s.bx d,yW P 4 e with
  | some i,none,some ty=>match l6 i with
   | some z=>(match gv z with
    | some ds=>(match yl ty ds with
     | some z0=>chk (decide (0 < i.size)) (chk (decide (i.bytes≤1000000)) (chk (tyN ty==i.size) (chk (pF s d) (Option.bind (mkO z0 n) fun xs=>k (.row d) (.new d (.rw e i.size ty xs []))))))
     | none=>none)
    | none=>none)
   | none=>none
  | _,_,_=>none
 | _,_,_,_=>none
def sr (P:Program) (s:SS) (t:TypeId) (p:SV) (lo hi:Option SV) (k:SV→Option ρ) : Option ρ :=
 match P.underlying t,p with
 | some (.slice e),.d (.sl ty xs)=>match cX P e with
  | some i=>chk (tyN ty==i.size) (match lo,hi with
   | none,none=>k (.d (.sl ty xs))
   | some l,none=>match ky l with | some l=>Option.bind (loO xs l) fun z=>k (.d (.sl ty z)) | none=>none
   | none,some h=>match ky h with | some h=>Option.bind (hiO xs h) fun z=>k (.d (.sl ty z)) | none=>none
   | some l,some h=>match ky l,ky h with | some l,some h=>Option.bind (lhO xs l h) fun z=>k (.d (.sl ty z)) | _,_=>none)
  | none=>none
 | some (.slice e),.row x=>match cX P e,lkB s.bx x with
  | some i,some (.rw _ kk ty xs _)=>chk (kk==i.size) (match y6 lo 0,y6 hi xs.length with
   | some l,some h=>Option.bind (vwO xs.length l h) fun _=>k (.vw x l.toNat h.toNat)
   | _,_=>none)
  | _,_=>none
 | some .string,.d (.str x)=>match lo,hi with
   | some l,none=>match ky l with | some l=>Option.bind (zK x l) fun z=>k (.d (.str z)) | none=>none
   | none,some h=>match ky h with | some h=>Option.bind (zM x h) fun z=>k (.d (.str z)) | none=>none
   | some l,some h=>match ky l,ky h with | some l,some h=>Option.bind (zL x l h) fun z=>k (.d (.str z)) | _,_=>none
   | none,none=>none
 | _,_=>none
def jN (mx:Bool) : SV→List SV→Option SV
 | p,[]=>some p
 | .d (.int k x),.d (.int _ y)::l=>jN mx (.d (.int k (match mx with | true=>if y > x then y else x | false=>if y < x then y else x))) l
 | _,_=>none
def zi (P:Program) (s:SS) (t:TypeId) (v:SV) (k:SV→Option ρ) : Option ρ :=
 match P.underlying t with
 | some (.slice _)=>match fD s v with
  | some (.sl _ xs)=>k (.d (.int .i64 (xs.length:Int)))
  | some .nl=>k (.d (.int .i64 0))
  | _=>match v with
   | .vw _ lo hi=>k (.d (.int .i64 ((hi - lo:Nat) : Int)))
   | _=>none
 | some .string=>match v with
  | .d (.str x)=>k (.d (.int .i64 (x.size:Int)))
  | _=>none
 | _=>none
def rR (P:Program) (s:SS) (dst:Option Nat) (f:Builtin) (args:List SV) (ts:List TypeId) (k:SV→Upd→Option ρ) : Option ρ :=
 match f with
 | .len=>(match args,ts with | [x],[t]=>zi P s t x fun v=>k v .no | _,_=>none)
 | .append=>(match args,ts with | [x,y],[t,t']=>(match Nat.beq t' t with | true=>qg P s dst t x y k | false=>none) | _,_=>none)
 | .min=>(match args with | x::xs=>(match jN false x xs with | some v=>k v .no | none=>none) | _=>none)
 | .max=>(match args with | x::xs=>(match jN true x xs with | some v=>k v .no | none=>none) | _=>none)
 | .copy=>(match args,ts with | [x,y],[t,_]=>xh P s t x y k | _,_=>none)
 | _=>none
def i8 (s:SS) : List (Nat×Operand)→List (Nat×SV)
 | []=>[]
 | (i,x)::l=>(i,evX s x)::i8 s l
def iH (s:SS) : List Operand→List SV
 | []=>[]
 | x::l=>evX s x::iH s l
def wb (c:Bool) (v w:SV) : Option SV :=
 match v,w with
 | .d (.int k x),.d (.int k' y)=>if k=k' then some (.d (.int k (if c=true then x else y))) else none
 | .d (.bool x),.d (.bool y)=>some (.d (.bool (if c=true then x else y)))
 | .d (.str x),.d (.str y)=>some (.d (.str (if c=true then x else y)))
 | v,w=>match c with | true=>some v | false=>some w
def zc (p:SV) (k:SV→Option ρ) : Option ρ:=match p with
 | .ptr t o=>k (.ptr t o)
 | .re t q o=>k (.re t q o)
 | .fe cs=>k (.fe cs)
 | _=>none
def tT (kd:IntKind) : List SV→Option (List Int)
 | []=>some []
 | .d (.int kd' x)::l=>if kd' = kd then (match tT kd l with | some r=>some (x::r) | none=>none) else none
 | _=>none
def yi (P:Program) (o:Oper) (s:SS) (k:SV→Upd→Option ρ) : Option ρ :=
 match o.op with
 | .move x=>k (evX s x) .no
 | .assign x=>k (evX s x) .no
 | .pick c x y=>match evX s c with
  | .d (.bool t)=>match wb t (evX s x) (evX s y) with | some v=>k v .no | none=>none
  | _=>none
 | .alloc e=>match o.dst,cX P e with
  | some t,some i=>match lkB s.bx t,l6 i with
   | none,some z=>chk (pF s t) (k (.ptr t 0) (.new t (.st e z)))
   | _,_=>none
  | _,_=>none
 | .box e x=>match o.dst,qa (evX s x) with
  | some t,some cs=>match lkB s.bx t with
   | none=>chk (pF s t) (k (.ptr t 0) (.new t (.st e cs)))
   | some _=>none
  | _,_=>none
 | .build t ps=>match cX P t,y5 P t with
  | some i,some pl=>match l6 i with
   | some z=>(match rh pl z (i8 s ps.toList) with | some cs=>k (.ag cs) .no | none=>none)
   | none=>none
  | _,_=>none
 | .buildSlice t n ps=>hZ P s o.dst t n (i8 s ps.toList) k
 | .load t x=>match tR P s t (evX s x) with | some v=>k v .no | none=>none
 | .store t x y=>so P s t (evX s x) (evX s y) k
 | .binOp op t x y _=>zC P op t (wC y) (evX s x) (evX s y) fun v=>k v .no
 | .unOp op _ x=>unX op (evX s x) fun v=>k v .no
 | .convert src dst x=>xj P s src dst (evX s x) fun v=>k v .no
 | .slice t x lo hi none=>sr P s t (evX s x) (lo.map (evX s)) (hi.map (evX s)) fun v=>k v .no
 | .fieldAddr t x f=>jm P t (evX s x) f fun v=>k v .no
 | .field t x f=>sS P t (evX s x) f fun v=>k v .no
 | .indexAddr t x i=>jg P s o.dst t (evX s x) (evX s i) k
 | .extract x i=>match evX s x with
  | .tup vs=>match vs[i]? with | some v=>k v .no | none=>none
  | _=>none
 | .index t x i=>match P.underlying t,evX s x,evX s i with
  | some .string,.d (.str x),.d (.int _ i)=>Option.bind (vS x i) fun z=>k (.d (.int .u8 z)) .no
  | some (.array n e),.ag cs,.d (.int _ i)=>match cX P e,P.underlying e with
   | some ie,some (.int kd)=>match tT kd cs with
    | some xs=>chk (Nat.beq ie.size 1) (chk (Nat.beq xs.length n) (Option.bind (cp xs i) fun z=>k (.d (.int kd z)) .no))
    | none=>none
   | _,_=>none
  | _,_,_=>none
 | .call c=>match c.callee with
  | .builtin f=>rR P s o.dst f (iH s c.args.toList) c.argTypes.toList k
  | _=>none
 | .makeFunc (.func f) ps qs=>k (.fn f (iH s ps.toList) (iH s qs.toList)) .no
 | .makeSlice t x y=>wv P s o.dst t (su x y) (evX s x) k
 | .nilCheck x=>zc (evX s x) fun v=>k v .no
 | _=>none
end
section
inductive CT where
 | v (t:Ty)
 | a (i:Nat)
 | pl (t:Ty)
 | ps (i:Nat)
def CT.den:CT→Type
 | .v t=>t.den
 | .a i=>ST i
 | .pl t=>t.den
 | .ps i=>ST i
def hL:List CT→Type
 | []=>Unit
 | c::cs=>c.den×hL cs
inductive IB where
 | no
 | own (e k:Nat) (t:Ty)
 | bx (ty n:Nat) (rows:List (Nat×Nat×Nat×Ty))
def IB.den:IB→Type
 | .no=>Unit
 | .own _ _ t=>List t.den
 | .bx _ n _=>ST n
def IB.nJ:IB→Nat
 | .bx _ _ rows=>rows.length
 | _=>0
def gO:Nat→List IB→List (List Nat)
 | _,[]=>[]
 | base,b::l=>List.range' base b.nJ::gO (base + b.nJ) l
def mg:List IB→Nat
 | []=>0
 | b::l=>b.nJ + mg l
def lC:List IB→Type
 | []=>Unit
 | b::l=>b.den×lC l
inductive PT where
 | lf (t:Ty)
 | ag (i:Nat)
 | pl (t:Ty)
 | ps (i:Nat)
 | fn (f:FuncId) (a b:List CT)
 | own (e k:Nat) (t:Ty)
 | mv (e k:Nat) (t:Ty)
 | bx (ty n:Nat) (rows:List (Nat×Nat×Nat×Ty))
 | agr (n:Nat) (rows:List (Nat×Nat×Nat×Ty))
 | io (l:List IB)
def PT.den:PT→Type
 | .lf t=>t.den
 | .ag i=>ST i
 | .pl t=>t.den
 | .ps i=>ST i
 | .fn _ a b=>hL a×hL b
 | .own _ _ t=>List t.den
 | .mv _ _ t=>List t.den
 | .bx _ n _=>ST n
 | .agr n _=>ST n
 | .io l=>lC l
def PT.isM:PT→Bool
 | .own ..=>true
 | .mv ..=>true
 | .bx ..=>true
 | .agr ..=>true
 | .io _=>true
 | _=>false
def eC:List PT→Bool
 | []=>false
 | p::l=>match p.isM with | true=>true | false=>eC l
def PT.flat:PT→Bool
 | .lf (.int _)=>true
 | .lf .bool=>true
 | .lf .str=>true
 | .lf _=>false
 | .ag i=>stF i
 | _=>false
def z8:(c:CT)→c.den→SV
 | .v t,x=>.d (eK t x)
 | .a i,x=>.ag (kv (stC i x))
 | .pl t,x=>.fe [eK t x]
 | .ps i,x=>.fe (stC i x)
def oQ:(cs:List CT)→hL cs→List SV
 | [],_=>[]
 | c::cs,x=>z8 c x.1::oQ cs x.2
def vi:(p:PT)→p.den→SV
 | .lf t,x=>.d (eK t x)
 | .ag i,x=>.ag (kv (stC i x))
 | .pl t,x=>.fe [eK t x]
 | .ps i,x=>.fe (stC i x)
 | .fn f a b,x=>.fn f (oQ a x.1) (oQ b x.2)
 | .own ..,_=>.junk
 | .mv ..,_=>.junk
 | .bx ..,_=>.junk
 | .agr ..,_=>.junk
 | .io _,_=>.junk
def yk (s:SS) (t:Ty) (v:SV) : Option t.den:=match fD s v with | some c=>c.as t | none=>none
def yn (s:SS) (i:Nat) : SV→Option (ST i)
 | .ag cs=>match pZ s cs with | some cs=>stK i cs | none=>none
 | _=>none
def uq (t:Ty) : SV→Option t.den
 | .fe [c]=>c.as t
 | _=>none
def up (i:Nat) : SV→Option (ST i)
 | .fe cs=>stK i cs
 | _=>none
def Ab (s:SS) : (c:CT)→SV→Option c.den
 | .v t,v=>yk s t v
 | .a i,v=>yn s i v
 | .pl t,v=>uq t v
 | .ps i,v=>up i v
def rK (s:SS) : (cs:List CT)→List SV→Option (hL cs)
 | [],[]=>some ()
 | c::cs,v::vs=>Option.bind (Ab s c v) fun x=>Option.bind (rK s cs vs) fun xs=>some (x,xs)
 | _,_=>none
def zy (s:SS) (f:FuncId) (a b:List CT) : SV→Option (hL a×hL b)
 | .fn f' ps qs=>match Nat.beq f' f with
  | true=>Option.bind (rK s a ps) fun x=>Option.bind (rK s b qs) fun y=>some (x,y)
  | false=>none
 | _=>none
def rN (s:SS) : (p:PT)→SV→Option p.den
 | .lf t,v=>yk s t v
 | .ag i,v=>yn s i v
 | .pl t,v=>uq t v
 | .ps i,v=>up i v
 | .fn f a b,v=>zy s f a b v
 | .own ..,_=>none
 | .mv ..,_=>none
 | .bx ..,_=>none
 | .agr ..,_=>none
 | .io _,_=>none
def bT:List PT→Type
 | []=>Unit
 | p::ps=>p.den×bT ps
def au:List PT→Type
 | []=>Unit
 | [p]=>p.den
 | p::q::l=>p.den×au (q::l)
def lr:(ps:List PT)→bT ps→List SV
 | [],_=>[]
 | p::ps,x=>vi p x.1::lr ps x.2
def ur (s:SS) : (ps:List PT)→List SV→Option (bT ps)
 | [],[]=>some ()
 | p::ps,v::vs=>Option.bind (rN s p v) fun x=>Option.bind (ur s ps vs) fun xs=>some (x,xs)
 | _,_=>none
def uj:(rs:List PT)→au rs→List SV
 | [],_=>[]
 | [p],x=>[vi p x]
 | p::q::l,x=>vi p x.1::uj (q::l) x.2
def z7 (rs:List PT) (x:au rs) : SV:=match rs,x with
 | [p],x=>vi p x
 | rs,x=>.tup (uj rs x)
def oW (s:SS) : (rs:List PT)→List SV→Option (au rs)
 | [],[]=>some ()
 | [p],[v]=>rN s p v
 | p::q::l,v::vs=>Option.bind (rN s p v) fun x=>Option.bind (oW s (q::l) vs) fun xs=>some (x,xs)
 | _,_=>none
def eS:List PT→Bool
 | []=>true
 | p::l=>match p.flat with | true=>eS l | false=>false
def Ac:CT→Bool
 | .v (.st _)=>false
 | .pl (.st _)=>false
 | _=>true
def nH:List CT→Bool
 | []=>true
 | c::l=>match Ac c with | true=>nH l | false=>false
def uS:PT→Bool
 | .lf (.st _)=>false
 | .pl (.st _)=>false
 | .fn _ a b=>match nH a with | true=>nH b | false=>false
 | .lf _=>true
 | .pl _=>true
 | .ag _=>true
 | .ps _=>true
 | _=>false
def gL:List PT→Bool
 | []=>true
 | p::l=>match uS p with | true=>gL l | false=>false
def gK:List PT→Bool
 | []=>true
 | p::l=>match p.isM||uS p with | true=>gK l | false=>false
structure Ent where
 ps:List PT
 rs:List PT
 f:bT ps→Option (au rs)
def Aq:PT→SV→Bool
 | .fn f _ _,.fn g _ _=>Nat.beq g f
 | .fn _ _ _,_=>false
 | _,_=>true
def yG:List PT→List SV→Bool
 | [],_=>true
 | _ :: _,[]=>true
 | p::ps,v::vs=>match Aq p v with | true=>yG ps vs | false=>false
def lkE:List (Nat×Ent)→Nat→List SV→Option Ent
 | [],_,_=>none
 | (j,v)::l,i,vs=>match Nat.beq i j with
  | true=>(match yG v.ps vs with | true=>some v | false=>lkE l i vs)
  | false=>lkE l i vs
mutual
def ep:SV→Bool
 | .row _=>false
 | .ptr _ _=>false
 | .re _ _ _=>false
 | .vw _ _ _=>false
 | .ag cs=>aH cs
 | .tup cs=>aH cs
 | .fn _ ps qs=>match aH ps with | true=>aH qs | false=>false
 | _=>true
def aH:List SV→Bool
 | []=>true
 | c::cs=>match ep c with | true=>aH cs | false=>false
end
def jV:List (Nat×Nat×Nat×Nat×Ty)→Nat→Option (Nat×Nat×Nat×Ty)
 | [],_=>none
 | (j,R,e,k,t)::l,i=>match Nat.beq j i with | true=>some (R,e,k,t) | false=>jV l i
def cellsOf (s:SS) (rows:List (Nat×Nat×Nat×Nat×Ty)) : Nat→List SV→Option (List SD)
 | _,[]=>some []
 | j,c::cs=>match jV rows j with
  | some (R,e,k,t)=>(match c,lkB s.bx R with
   | .row R',some (.rw e' k' t' xs _)=>(match Ty.same t' t with
    | some ⟨h⟩=>chk (Nat.beq R' R) (chk (e' == e) (chk (k' == k) (match cellsOf s rows (j + 1) cs with | some r=>some (.sl t (j2 h xs)::r) | none=>none)))
    | none=>none)
   | _,_=>none)
  | none=>(match c,cellsOf s rows (j + 1) cs with
   | .d x,some r=>some (x::r)
   | _,_=>none)
def bB (rows:List (Nat×Nat×Nat×Nat×Ty)) : Nat→List SD→List (Nat×Option aj)→Option (List SV×List (Nat×Option aj))
 | _,[],bx=>some ([],bx)
 | j,c::cs,bx=>match jV rows j with
  | some (R,e,k,t)=>(match c.as (.sl t),bB rows (j + 1) cs bx with
   | some xs,some (vs,bx)=>some (.row R::vs,(R,some (.rw e k t xs []))::bx)
   | _,_=>none)
  | none=>(match bB rows (j + 1) cs bx with
   | some (vs,bx)=>some (.d c::vs,bx)
   | none=>none)
def fL:List (Nat×Nat×Nat×Ty)→List Nat→List (Nat×Nat×Nat×Nat×Ty)
 | (j,e,k,t)::l,R::is=>(j,R,e,k,t)::fL l is
 | _,_=>[]
def PT.nI:PT→Nat
 | .own ..=>1
 | .mv ..=>1
 | .bx _ _ rows=>rows.length + 1
 | .agr _ rows=>rows.length
 | _=>0
def rr (rows:List (Nat×Nat×Nat×Ty)) (is:List Nat) (n:Nat) (x:ST n) : Option (List SV×List (Nat×Option aj)):=bB (fL rows is) 0 (stC n x) []
def rv:(p:PT)→List Nat→p.den→Option (SV×List (Nat×Option aj))
 | .own e k t,is,xs=>(match is with | [i]=>some (.row i,[(i,some (.rw e k t xs []))]) | _=>none)
 | .mv e k t,is,xs=>(match is with | [i]=>some (.row i,[(i,some (.rw e k t xs []))]) | _=>none)
 | .bx ty n rows,is,x=>(match is with | i::is=>(match rr rows is n x with | some (vs,bx)=>some (.ptr i 0,(i,some (.st ty vs))::bx) | none=>none) | _=>none)
 | .agr n rows,is,x=>(match rr rows is n x with | some (vs,bx)=>some (.ag vs,bx) | none=>none)
 | .io _,_,_=>none
 | .lf t,_,x=>some (.d (eK t x),[])
 | .ag i,_,x=>some (.ag (kv (stC i x)),[])
 | .pl t,_,x=>some (.fe [eK t x],[])
 | .ps i,_,x=>some (.fe (stC i x),[])
 | .fn f a b,_,x=>some (.fn f (oQ a x.1) (oQ b x.2),[])
def um:(ps:List PT)→List (List Nat)→bT ps→Option (List SV×List (Nat×Option aj))
 | [],[],_=>some ([],[])
 | p::ps,is::iss,x=>(match rv p is x.1,um ps iss x.2 with | some (v,b),some (vs,bs)=>some (v::vs,b++bs) | _,_=>none)
 | _,_,_=>none
def lQ:List (Nat×Nat×Nat×Ty)→List SV→Option (List Nat)
 | [],_=>some []
 | (j,_)::l,cs=>(match cs[j]?,lQ l cs with | some (.row R),some is=>some (R::is) | _,_=>none)
def rF (s:SS) (rows:List (Nat×Nat×Nat×Ty)) (n:Nat) (cs:List SV) : Option (ST n×List Nat):=match lQ rows cs with
 | some is=>(match cellsOf s (fL rows is) 0 cs with
  | some ds=>(match stK n ds with | some x=>some (x,is) | none=>none)
  | none=>none)
 | none=>none
def gp (s:SS) (e k:Nat) (t:Ty) : SV→Option (List t.den×List Nat)
 | .row i=>(match lkB s.bx i with
  | some (.rw e' k' t' xs _)=>(match Ty.same t' t with
   | some ⟨h⟩=>chk (e' == e) (chk (k' == k) (some (j2 h xs,[i])))
   | none=>none)
  | _=>none)
 | _=>none
def rL (s:SS) (ty n:Nat) (rows:List (Nat×Nat×Nat×Ty)) : SV→Option (ST n×List Nat)
 | .ptr i 0=>(match lkB s.bx i with
  | some (.st ty' cs)=>chk (ty' == ty) (match rF s rows n cs with | some (x,is)=>some (x,i::is) | none=>none)
  | _=>none)
 | _=>none
def s8 (s:SS) (n:Nat) (rows:List (Nat×Nat×Nat×Ty)) : SV→Option (ST n×List Nat)
 | .ag cs=>rF s rows n cs
 | _=>none
def rH (s:SS) (p:PT) (v:SV) : Option (p.den×List Nat):=chk (ep v) (match rN s p v with | some x=>some (x,[]) | none=>none)
def s7 (s:SS) : (p:PT)→SV→Option (p.den×List Nat)
 | .own e k t,v=>gp s e k t v
 | .mv e k t,v=>gp s e k t v
 | .bx ty n rows,v=>rL s ty n rows v
 | .agr n rows,v=>s8 s n rows v
 | .io _,_=>none
 | .lf t,v=>rH s (.lf t) v
 | .ag i,v=>rH s (.ag i) v
 | .pl t,v=>rH s (.pl t) v
 | .ps i,v=>rH s (.ps i) v
 | .fn f a b,v=>rH s (.fn f a b) v
def oY (s:SS) : (ps:List PT)→List SV→Option (bT ps×List (List Nat))
 | [],[]=>some ((),[])
 | p::ps,v::vs=>(match s7 s p v,oY s ps vs with | some (x,is),some (xs,iss)=>some ((x,xs),is::iss) | _,_=>none)
 | _,_=>none
structure MU where
 ks:List Nat
 us:List (Nat×Option aj)
 gs:List Nat
mutual
def stV (ks:List Nat) : SV→SV
 | .row t=>match af ks t with | true=>.junk | false=>.row t
 | .re t p o=>match af ks t with | true=>.junk | false=>.re t p o
 | .vw t p o=>match af ks t with | true=>.junk | false=>.vw t p o
 | .ag cs=>.ag (gy ks cs)
 | .tup cs=>.tup (gy ks cs)
 | .fn f ps qs=>.fn f (gy ks ps) (gy ks qs)
 | v=>v
def gy (ks:List Nat) : List SV→List SV
 | []=>[]
 | c::cs=>stV ks c::gy ks cs
end
def uD (ks:List Nat) : List (Nat×SV)→List (Nat×SV)
 | []=>[]
 | (i,v)::l=>(i,stV ks v)::uD ks l
def i1 (ks:List Nat) : List (Nat×Option aj)→List (Nat×Option aj)
 | []=>[]
 | (i,some (.st ty cs))::l=>(i,some (.st ty (gy ks cs)))::i1 ks l
 | (i,b)::l=>(i,b)::i1 ks l
def SS.updM (s:SS) (dst:Option Nat) (v:SV) (m:MU) : SS:=⟨fO (uD m.ks s.sl) dst v,m.us++i1 m.ks s.bx,s.pr,s.ro,m.gs++s.oc⟩
def cg:List PT→List IB
 | .io l :: _=>l
 | _=>[]
def dx:List PT→List PT
 | .io _ :: l=>l
 | l=>l
def mD:(rs:List PT)→au rs→lC (cg rs)
 | [],_=>()
 | [.io _],r=>r
 | .io _ :: _ :: _,r=>r.1
 | .own .. :: _,_=>()
 | .mv .. :: _,_=>()
 | .bx .. :: _,_=>()
 | .agr .. :: _,_=>()
 | .lf _ :: _,_=>()
 | .ag _ :: _,_=>()
 | .pl _ :: _,_=>()
 | .ps _ :: _,_=>()
 | .fn .. :: _,_=>()
def la:(rs:List PT)→au rs→au (dx rs)
 | [],_=>()
 | [.io _],_=>()
 | .io _ :: _ :: _,r=>r.2
 | .own .. :: _,r=>r
 | .mv .. :: _,r=>r
 | .bx .. :: _,r=>r
 | .agr .. :: _,r=>r
 | .lf _ :: _,r=>r
 | .ag _ :: _,r=>r
 | .pl _ :: _,r=>r
 | .ps _ :: _,r=>r
 | .fn .. :: _,r=>r
def pC (s:SS) (i:Nat) : List (Nat×Pin):=match lkB s.bx i with | some (.rw _ _ _ _ pins)=>iL pins | _=>[]
def cO:List Nat→List (Nat×Option aj)
 | []=>[]
 | t::l=>(t,none)::cO l
def zw (s:SS) : (p:PT)→(b:IB)→List Nat→List Nat→b.den→Option MU
 | .own ..,.own e k t,is,_,xs=>(match is with | [i]=>some ⟨[],[(i,some (.rw e k t xs (pC s i)))],[]⟩ | _=>none)
 | .mv ..,.no,is,_,_=>(match is with | [i]=>some ⟨[i],[],[i]⟩ | _=>none)
 | .bx ..,.bx ty n rows,is,js,x=>(match is with | i::is=>(match rr rows js n x with | some (vs,bx)=>some ⟨is,(i,some (.st ty vs))::bx,is⟩ | none=>none) | _=>none)
 | .lf _,.no,_,_,_=>some ⟨[],[],[]⟩
 | .ag _,.no,_,_,_=>some ⟨[],[],[]⟩
 | .pl _,.no,_,_,_=>some ⟨[],[],[]⟩
 | .ps _,.no,_,_,_=>some ⟨[],[],[]⟩
 | .fn ..,.no,_,_,_=>some ⟨[],[],[]⟩
 | _,_,_,_,_=>none
def MU.app (a b:MU) : MU:=⟨a.ks++b.ks,a.us++b.us,a.gs++b.gs⟩
def ul (s:SS) : (ps:List PT)→(ls:List IB)→List (List Nat)→List (List Nat)→lC ls→Option MU
 | [],[],[],[],_=>some ⟨[],[],[]⟩
 | p::ps,b::ls,is::iss,js::kss,o=>(match zw s p b is js o.1,ul s ps ls iss kss o.2 with | some m,some m'=>some (m.app m') | _,_=>none)
 | _,_,_,_,_=>none
def pQ:(rs:List PT)→List (List Nat)→au rs→Option (List SV×List (Nat×Option aj))
 | [],[],_=>some ([],[])
 | [p],[is],x=>(match rv p is x with | some (v,b)=>some ([v],b) | none=>none)
 | p::q::l,is::iss,x=>(match rv p is x.1,pQ (q::l) iss x.2 with | some (v,b),some (vs,bs)=>some (v::vs,b++bs) | _,_=>none)
 | _,_,_=>none
def wk:List SV→SV
 | [v]=>v
 | vs=>.tup vs
def dF:Nat→List PT→List (List Nat)
 | _,[]=>[]
 | base,p::l=>List.range' base p.nI::dF (base + p.nI) l
def bf:List (List Nat)→List Nat
 | []=>[]
 | l::ls=>l++bf ls
def i9:List Nat→Bool
 | []=>true
 | a::l=>match af l a with | true=>false | false=>i9 l
def tJ (s:SS) : List Nat→Bool
 | []=>true
 | j::l=>match pF s j,lkB s.bx j,Nat.blt j 1000000 with | true,none,true=>tJ s l | _,_,_=>false
def tI (s:SS) : List Nat→Bool
 | []=>true
 | i::l=>match af s.pr i with | true=>false | false=>tI s l
def idU:List (Nat×Option aj)→List Nat
 | []=>[]
 | (i,_)::l=>i::idU l
def sk:List Nat→List Nat→Bool
 | [],_=>true
 | a::l,m=>match af m a with | true=>sk l m | false=>false
def yP (ps:List PT) (iss:List (List Nat)) (x:bT ps) : Bool:=match um ps iss x with | some (_,bi)=>i9 (idU bi)&&sk (bf iss) (idU bi) | none=>false
def tK (s:SS) : List (Nat×Option aj)→Bool
 | []=>true
 | (i,b)::l=>(match lkB s.bx i with
  | some (.st ty cs)=>(match b with | some (.st ty' cs')=>ty==ty' && Nat.beq cs.length cs'.length | _=>false)
  | _=>true)&&tK s l
section
variable {ρ : Type}
def u9 (T:List (Nat×Ent)) (f:Nat) (args:List SV) : Bool:=match lkE T f args with | some en=>eC en.ps||eC en.rs | none=>false
def uv (T:List (Nat×Ent)) (f:Nat) (s:SS) (args:List SV) (k:SV→Option ρ) : Option ρ :=
 match lkE T f args with
 | none=>none
 | some en=>chk (gL en.rs) (chk (aH args||eS en.rs) (Option.bind (ur s en.ps args) fun x=>Option.bind (en.f x) fun r=>k (z7 en.rs r)))
def uw (T:List (Nat×Ent)) (f:Nat) (s:SS) (dst:Option Nat) (args:List SV) (k:SV→MU→Option ρ) : Option ρ :=
 match s.ro with
 | true=>none
 | false=>match lkE T f args,dst with
  | some en,some d=>(match oY s en.ps args with
   | some (x,iss)=>Option.bind (en.f x) fun r =>
    let kss:=gO (500000 + 64 * d) (cg en.rs)
    let jss:=dF (500000 + 64 * d + mg (cg en.rs)) (dx en.rs)
    match ul s en.ps (cg en.rs) iss kss (mD en.rs r),pQ (dx en.rs) jss (la en.rs r) with
    | some m,some (vs,bs)=>chk (tI s (idU m.us++(m.ks++m.gs))&&(tJ s (idU bs++(bf kss++bf jss))&&(i9 (bf iss++(bf kss++bf jss))&&(i9 (idU (m.us++(bs++cO m.gs)))&&(tK s (m.us++cO m.gs)&&(sk (bf iss) (idU m.us++m.gs)&&(sk (idU m.us++m.gs) (bf iss++bf kss)&&(yP en.ps iss x&&(sk (bf kss++bf jss) (idU m.us++idU bs)&&(gK (dx en.rs)&&gK en.ps)))))))))) (k (wk vs) ⟨m.ks,m.us++(bs++cO m.gs),m.gs⟩)
    | _,_=>none
   | none=>none)
  | _,_=>none
def iR (s:SS) (x:Operand) (b:Bool) : SS:=match x with
 | .tmp i=>⟨(i,.d (.bool b))::s.sl,s.bx,s.pr,s.ro,s.oc⟩
 | _=>s
def tt (g:Nat) : List Oper→Option (List Oper×Nat×List Oper)
 | []=>none
 | o::l=>match (match o.op,o.dst with | .pick (.tmp g') _ _,some d=>(match Nat.beq g' g with | true=>some d | false=>none) | _,_=>none) with
  | some d=>some ([o],d,l)
  | none=>match tt g l with
   | some (a,d,b)=>some (o::a,d,b)
   | none=>none
def aC:List Oper→List Nat
 | []=>[]
 | o::l=>match o.dst with | some d=>d::aC l | none=>aC l
def dS:List Nat→List (Nat×SV)→List (Nat×SV)
 | [],l=>l
 | d::ds,l=>(d,.junk)::dS ds l
def lM (d:Nat) (s:SS) : Option Bool:=match lkV s.sl d with | .d (.bool b)=>some b | _=>none
mutual
def gU (t:Nat) (c:SD) : SV→SV
 | .row t'=>match Nat.beq t' t with | true=>.d c | false=>.row t'
 | .re t' p o=>match Nat.beq t' t with | true=>.junk | false=>.re t' p o
 | .vw t' p o=>match Nat.beq t' t with | true=>.junk | false=>.vw t' p o
 | .ag cs=>.ag (dC t c cs)
 | .tup cs=>.tup (dC t c cs)
 | .fn f ps qs=>.fn f (dC t c ps) (dC t c qs)
 | v=>v
def dC (t:Nat) (c:SD) : List SV→List SV
 | []=>[]
 | v::vs=>gU t c v::dC t c vs
end
def nc (t:Nat) (c:SD) : List (Nat×SV)→List (Nat×SV)
 | []=>[]
 | (i,v)::l=>(i,gU t c v)::nc t c l
def fy (t:Nat) (c:SD) : List (Nat×Option aj)→List (Nat×Option aj)
 | []=>[]
 | (i,some (.st ty cs))::l=>(i,some (.st ty (dC t c cs)))::fy t c l
 | (i,b)::l=>(i,b)::fy t c l
def sR (t:Nat) (s:SS) : Option SS:=match lkB s.bx t with
 | some (.rw _ _ ty xs _)=>match af s.pr t with
  | false=>some ⟨nc t (.sl ty xs) s.sl,(t,none)::fy t (.sl ty xs) s.bx,s.pr,s.ro,s.oc⟩
  | true=>some s
 | _=>some s
def cP:List Nat→SS→Option SS
 | [],s=>some s
 | t::l,s=>match sR t s with | some s=>cP l s | none=>none
mutual
def jl (t:Nat) (ds:List SD) : SV→SV
 | .ptr t' o=>match Nat.beq t' t with | true=>.fe (ds.drop o) | false=>.ptr t' o
 | .ag cs=>.ag (ex t ds cs)
 | .tup cs=>.tup (ex t ds cs)
 | .fn f ps qs=>.fn f (ex t ds ps) (ex t ds qs)
 | v=>v
def ex (t:Nat) (ds:List SD) : List SV→List SV
 | []=>[]
 | v::vs=>jl t ds v::ex t ds vs
end
def nd (t:Nat) (ds:List SD) : List (Nat×SV)→List (Nat×SV)
 | []=>[]
 | (i,v)::l=>(i,jl t ds v)::nd t ds l
def fC (t:Nat) (ds:List SD) : List (Nat×Option aj)→List (Nat×Option aj)
 | []=>[]
 | (i,some (.st ty cs))::l=>(i,some (.st ty (ex t ds cs)))::fC t ds l
 | (i,b)::l=>(i,b)::fC t ds l
def za:List SD→Bool
 | []=>true
 | .nl :: _=>false
 | _ :: l=>za l
def fbX (sc:List Nat) (t:Nat) (s:SS) : Option SS:=match lkB s.bx t with
 | some (.st _ cs)=>(match gv cs with
  | some ds=>chk (za ds&&(!(af s.pr t) && !(af sc t))) (some ⟨nd t ds s.sl,(t,none)::fC t ds s.bx,s.pr,s.ro,s.oc⟩)
  | none=>none)
 | _=>none
def oJ (sc:List Nat) : List Nat→SS→Option SS
 | [],s=>some s
 | t::l,s=>match fbX sc t s with | some s=>oJ sc l s | none=>none
def ua (s:SS) : List Nat→Bool
 | []=>true
 | t::l=>match lkB s.bx t with | none=>ua s l | some _=>false
mutual
def sy:SV→List Nat
 | .row t=>[t]
 | .fn _ ps qs=>fW ps++fW qs
 | .ag cs=>fW cs
 | _=>[]
def fW:List SV→List Nat
 | []=>[]
 | c::cs=>sy c++fW cs
end
def wg:List (Nat×SV)→List SV
 | []=>[]
 | (_,v)::l=>v::wg l
def kl:List PT→List SV→List SV
 | p::ps,v::vs=>(match p.isM with | true=>kl ps vs | false=>v::kl ps vs)
 | _,_=>[]
def xN (q:Bool) (T:List (Nat×Ent)) (o:Oper) (s:SS) : Option SS:=match q,s.ro,o.guard with
 | true,false,none=>(match o.op,hP o with
  | .buildSlice _ _ ps,_=>cP (fW (wg (i8 s ps.toList))) s
  | _,some (x,xs)=>(match evX s x with
   | .fn f ps qs=>(match lkE T f (ps++iH s xs++qs) with
    | some en=>(match eC en.ps||eC en.rs with
     | true=>cP (fW (kl en.ps (ps++iH s xs++qs))) s
     | false=>(match eS en.rs with | true=>some s | false=>cP (fW (ps++iH s xs++qs)) s))
    | none=>some s)
   | _=>some s)
  | _,_=>some s)
 | _,_,_=>some s
mutual
def iP:SV→Option (List Nat)
 | .junk=>none
 | .ptr t _=>some [t]
 | .row t=>some [t]
 | .re t _ _=>some [t]
 | .vw t _ _=>some [t]
 | .ag cs=>e8 cs
 | .tup cs=>e8 cs
 | .fn _ ps qs=>match e8 ps,e8 qs with | some a,some b=>some (a++b) | _,_=>none
 | .d _=>some []
 | .fe _=>some []
def e8:List SV→Option (List Nat)
 | []=>some []
 | c::cs=>match iP c,e8 cs with | some a,some b=>some (a++b) | _,_=>none
end
def t6 (o:Oper) (s:SS) : Option (List Nat):=match o.op with
 | .load _ x=>iP (evX s x)
 | .store _ x _=>iP (evX s x)
 | .indexAddr _ x _=>iP (evX s x)
 | .slice _ x _ _ _=>iP (evX s x)
 | .convert _ _ x=>iP (evX s x)
 | .call c=>(match c.callee with
  | .value f=>(match iP (evX s f),e8 (iH s c.args.toList) with | some a,some b=>some (a++b) | _,_=>none)
  | _=>e8 (iH s c.args.toList))
 | _=>some []
def sn:List Nat→List Nat→Bool
 | [],_=>true
 | a::l,m=>match bt.memL m a with | true=>sn l m | false=>false
def jK:List Bd→Nat→Bd
 | [],_=>([],[])
 | x :: _,0=>x
 | _ :: l,i + 1=>jK l i
def oE (q:Bool) (B:List Bd) (i:Nat) (o:Oper) (s:SS) (u:Upd) : Bool:=match q with
 | true=>true
 | false=>match t6 o s with
  | some fs=>sn fs (jK B i).1&&sn (vL u) (jK B i).2
  | none=>false
def t7 (q:Bool) (B:List Bd) (i:Nat) (o:Oper) (s:SS) (m:MU) : Bool:=match q with
 | true=>true
 | false=>match t6 o s with
  | some fs=>sn fs (jK B i).1&&sn (idU m.us) (jK B i).2
  | none=>false
def gH (q:Bool) (P:Program) (T:List (Nat×Ent)) (ops:Array Oper) (B:List Bd) : Nat→Nat→List Nat→List Oper→{ρ : Type} → SS→(SS→Option ρ)→Option ρ
 | _,_,_,[],_,s,k=>k s
 | 0,_,_,_ :: _,_,_,_=>none
 | n + 1,i,kn,o::l,_,s,k =>
  let go:=fun (_:Unit)=>match xN q T o s with
   | none=>none
   | some s=>(match hP o with
    | some (x,xs)=>(match evX s x with
     | .fn f ps qs=>(match u9 T f (ps++iH s xs++qs) with
      | false=>chk (oE q B i o s .no) (uv T f s (ps++iH s xs++qs) fun r=>gH q P T ops B n (i + 1) kn l (s.upd o.dst r .no) k)
      | true=>uw T f s o.dst (ps++iH s xs++qs) fun v m=>chk (t7 q B i o s m) (gH q P T ops B n (i + 1) kn l (s.updM o.dst v m) k))
     | _=>none)
    | none=>yi P o s fun v u=>chk (oE q B i o s u) (gH q P T ops B n (i + 1) kn l (s.upd o.dst v u) k))
  let skip:=fun (_:Unit)=>gH q P T ops B n (i + 1) kn l (s.upd o.dst (.tup []) .no) k
  match o.guard with
  | none=>go ()
  | some (j,want)=>match (ops[j]?).bind (·.dst) with
   | none=>none
   | some g=>match lkV s.sl g with
    | .tup []=>skip ()
    | .d (.bool b)=>(match af kn g with
     | true=>(match b with
      | true=>(match want with | true=>go () | false=>skip ())
      | false=>(match want with | true=>skip () | false=>go ()))
     | false=>(match tt g (o::l) with
      | none=>none
      | some (l1,d,l2)=>Option.bind (if b=true then gH q P T ops B n i (g::kn) l1 ⟨(g,.d (.bool true))::s.sl,s.bx,s.pr,true,s.oc⟩ (lM d) else gH q P T ops B n i (g::kn) l1 ⟨(g,.d (.bool false))::s.sl,s.bx,s.pr,true,s.oc⟩ (lM d)) fun qb =>
       gH q P T ops B n (i + l1.length) kn l2 ⟨(d,.d (.bool qb))::dS (aC l1) s.sl,s.bx,s.pr,s.ro,aC l1++s.oc⟩ k))
    | _=>none
end
def lkN:List (Nat×List Nat)→Nat→Option (List Nat)
 | [],_=>none
 | (j,v)::l,i=>match Nat.beq i j with | true=>some v | false=>lkN l i
def cD (m:List (Nat×List Nat)) (s:SS) : Operand→List Nat
 | .tmp i=>(match lkN m i with | some l=>l | none=>(match iP (lkV s.sl i) with | some l=>l | none=>[]))
 | _=>[]
def k9 (m:List (Nat×List Nat)) (s:SS) : List Operand→List Nat
 | []=>[]
 | x::l=>cD m s x++k9 m s l
def zN (m:List (Nat×List Nat)) (s:SS) : List (Nat×Operand)→List Nat
 | []=>[]
 | (_,x)::l=>cD m s x++zN m s l
def Ae (mb:List (Nat×List Nat)) (s:SS) (t:Nat) : List Nat:=match lkN mb t with
 | some l=>l
 | none=>(match lkB s.bx t with | some (.st _ cs)=>(match e8 cs with | some l=>l | none=>[]) | _=>[])
def xo (mb:List (Nat×List Nat)) (s:SS) : List Nat→List Nat
 | []=>[]
 | t::l=>Ae mb s t++xo mb s l
def zD (mb:List (Nat×List Nat)) (s:SS) (x:List Nat) : List Nat→List (Nat×List Nat)
 | []=>mb
 | t::l=>(t,x++Ae mb s t)::zD mb s x l
def nB:Option Nat→List Nat
 | some d=>[d]
 | none=>[]
def eJ (m:List (Nat×List Nat)) (dst:Option Nat) (l:List Nat) : List (Nat×List Nat):=match dst with | some d=>(d,l)::m | none=>m
def zO:List (Nat×Ent)→Nat→Option Ent
 | [],_=>none
 | (j,v)::l,i=>match Nat.beq i j with | true=>some v | false=>zO l i
def Ap (T:List (Nat×Ent)) (o:Oper) (f:Operand) : Option (List Nat):=match f,o.dst with
 | .func g,some d=>(match zO T g with
  | some en=>(match eC en.ps||eC en.rs with | true=>some (bf (gO (500000 + 64 * d) (cg en.rs))++bf (dF (500000 + 64 * d + mg (cg en.rs)) (dx en.rs))) | false=>none)
  | none=>none)
 | _,_=>none
def cE (T:List (Nat×Ent)) (s:SS) : List Oper→List (Nat×List Nat)→List (Nat×List Nat)→List Bd
 | [],_,_=>[]
 | o::l,m,mb=>match o.op with
  | .move x=>([],[])::cE T s l (eJ m o.dst (cD m s x)) mb
  | .assign x=>([],[])::cE T s l (eJ m o.dst (cD m s x)) mb
  | .pick _ x y=>([],[])::cE T s l (eJ m o.dst (cD m s x++cD m s y)) mb
  | .build _ ps=>([],[])::cE T s l (eJ m o.dst (zN m s ps.toList)) mb
  | .extract x _=>([],[])::cE T s l (eJ m o.dst (cD m s x)) mb
  | .field _ x _=>([],[])::cE T s l (eJ m o.dst (cD m s x)) mb
  | .fieldAddr _ x _=>([],[])::cE T s l (eJ m o.dst (cD m s x)) mb
  | .nilCheck x=>([],[])::cE T s l (eJ m o.dst (cD m s x)) mb
  | .indexAddr _ x _=>(cD m s x,[])::cE T s l (eJ m o.dst (cD m s x)) mb
  | .load _ x=>(cD m s x,[])::cE T s l (eJ m o.dst (xo mb s (cD m s x))) mb
  | .store _ x y=>(cD m s x,cD m s x)::cE T s l m (zD mb s (cD m s y) (cD m s x))
  | .alloc _=>([],nB o.dst)::cE T s l (eJ m o.dst (nB o.dst)) mb
  | .box _ x=>([],nB o.dst)::cE T s l (eJ m o.dst (nB o.dst)) (zD mb s (cD m s x) (nB o.dst))
  | .buildSlice _ _ _=>([],nB o.dst)::cE T s l (eJ m o.dst (nB o.dst)) mb
  | .slice _ x _ _ _=>(cD m s x,[])::cE T s l (eJ m o.dst (cD m s x)) mb
  | .makeSlice _ _ _=>([],nB o.dst)::cE T s l (eJ m o.dst (nB o.dst)) mb
  | .convert _ _ x=>(cD m s x,[])::cE T s l (eJ m o.dst []) mb
  | .makeFunc _ a b=>([],[])::cE T s l (eJ m o.dst (k9 m s a.toList++k9 m s b.toList)) mb
  | .call c=>(match c.callee with
   | .builtin .append=>(match c.args.toList with
    | x::y :: _=>(cD m s x++cD m s y,cD m s x++nB o.dst)::cE T s l (eJ m o.dst (cD m s x++nB o.dst)) mb
    | _=>([],[])::cE T s l m mb)
   | .builtin .copy=>(match c.args.toList with
    | x::y :: _=>(cD m s x++cD m s y,cD m s x)::cE T s l (eJ m o.dst []) mb
    | _=>([],[])::cE T s l m mb)
   | .value f=>(match Ap T o f with
    | none=>(cD m s f++k9 m s c.args.toList,[])::cE T s l (eJ m o.dst []) mb
    | some js=>(k9 m s c.args.toList,k9 m s c.args.toList++(xo mb s (k9 m s c.args.toList)++js))::cE T s l (eJ m o.dst js) mb)
   | _=>(k9 m s c.args.toList,[])::cE T s l (eJ m o.dst []) mb)
  | _=>([],[])::cE T s l m mb
def qo (m:Nat) (ops:Array Oper) : Bool:=(List.range ops.size).all fun i=>decide (i < m)||(List.range i).all fun k=>jS ops 4 i k
inductive Mod where
 | leaf (i:Nat) (t:Ty)
 | agg (i n:Nat)
 | row (i R e k:Nat) (t:Ty)
 | box (b ty n:Nat) (rows:List (Nat×Nat×Nat×Nat×Ty))
def Mod.den:Mod→Type
 | .leaf _ t=>t.den
 | .agg _ n=>ST n
 | .row _ _ _ _ t=>List t.den
 | .box _ _ n _=>ST n
def cn:List Mod→Type
 | []=>Unit
 | [m]=>m.den
 | m::m' :: l=>m.den×cn (m' :: l)
def zk:Option aj→Bool
 | some (.rw ..)=>true
 | _=>false
def kD (s:SS) : (m:Mod)→Option m.den
 | .leaf i t=>match lkV s.sl i with
  | .d c=>c.as t
  | _=>none
 | .agg i n=>match lkV s.sl i with
  | .ag cs=>(match gv cs with | some cs=>stK n cs | none=>none)
  | _=>none
 | .row i R e k t=>match lkV s.sl i,lkB s.bx R with
  | .row R',some (.rw e' k' t' xs _)=>match Ty.same t' t with
   | some ⟨h⟩=>chk (Nat.beq R' R) (chk (e' == e) (chk (k' == k) (some (j2 h xs))))
   | none=>none
  | _,_=>none
 | .box b ty n rows=>match lkB s.bx b with
  | some (.st ty' cs)=>chk (ty' == ty) (chk (rows.all fun r=>zk (lkB s.bx r.2.1)) (match cellsOf s rows 0 cs with | some ds=>stK n ds | none=>none))
  | _=>none
def gw (s:SS) : (l:List Mod)→Option (cn l)
 | []=>some ()
 | [m]=>kD s m
 | m::m' :: l=>Option.bind (kD s m) fun x=>Option.bind (gw s (m' :: l)) fun xs=>some (x,xs)
def ft:(m:Mod)→m.den→SS→Option SS
 | .leaf i t,x,s=>some ⟨(i,.d (eK t x))::s.sl,s.bx,s.pr,s.ro,s.oc⟩
 | .agg i n,x,s=>some ⟨(i,.ag (kv (stC n x)))::s.sl,s.bx,s.pr,s.ro,s.oc⟩
 | .row i R e k t,xs,s=>some ⟨(i,.row R)::s.sl,(R,some (.rw e k t xs []))::s.bx,s.pr,s.ro,s.oc⟩
 | .box b ty n rows,x,s=>match bB rows 0 (stC n x) s.bx with
  | some (vs,bx)=>some ⟨s.sl,(b,some (.st ty vs))::bx,s.pr,s.ro,s.oc⟩
  | none=>none
def ci:(l:List Mod)→cn l→SS→Option SS
 | [],_,s=>some s
 | [m],x,s=>ft m x s
 | m::m' :: l,x,s=>match ci (m' :: l) x.2 s with | some s=>ft m x.1 s | none=>none
def ap:List Mod→List Nat
 | []=>[]
 | .row _ R _ _ _ :: l=>R::ap l
 | .box b _ _ rows::l=>b::(rows.map (·.2.1)++ap l)
 | _ :: l=>ap l
def yF (R:Nat) : SV→Bool
 | .row R'=>Nat.beq R' R
 | _=>false
def er (wr:List Nat) (s:SS) : List Mod→Bool
 | []=>true
 | .leaf i _ :: l=>(match af wr i with | true=>er wr s l | false=>false)
 | .agg i _ :: l=>(match af wr i with | true=>er wr s l | false=>false)
 | .row i R _ _ _ :: l=>(match af s.pr R,af wr i||yF R (lkV s.sl i) with | false,true=>er wr s l | _,_=>false)
 | .box b _ _ rows::l=>(match af s.pr b,rows.all fun r=>!(af s.pr r.2.1) with | false,true=>er wr s l | _,_=>false)
def iz (mb sc:List Nat) : List (Nat×Option aj)→List Nat→Bool
 | [],_=>true
 | (t,b)::l,seen=>match af seen t with
  | true=>iz mb sc l seen
  | false=>match b with
   | some (.st _ cs)=>(match af mb t||(af sc t||aH cs) with | true=>iz mb sc l (t::seen) | false=>false)
   | _=>iz mb sc l (t::seen)
def rD:List Nat→List Nat→Bool
 | [],_=>true
 | a::l,m=>match af m a with | true=>false | false=>rD l m
mutual
def f6 (sc wr:List Nat) (ms:List Mod) (pr:List Nat) (s:SS) : Bool:=er wr s ms&&(rD sc pr&&(rD sc (ap ms)&&iz (ap ms) sc s.bx []))
def n7 (pr kb:List Nat) : SV→Bool
 | .row t=>af pr t
 | .re _ _ _=>false
 | .vw _ _ _=>false
 | .ptr t _=>af kb t
 | .ag cs=>cH pr kb cs
 | .tup cs=>cH pr kb cs
 | .fn _ ps qs=>match cH pr kb ps with | true=>cH pr kb qs | false=>false
 | _=>true
def cH (pr kb:List Nat) : List SV→Bool
 | []=>true
 | c::cs=>match n7 pr kb c with | true=>cH pr kb cs | false=>false
end
def f8 (wr pr kb:List Nat) : List (Nat×SV)→List Nat→List (Nat×SV)
 | [],_=>[]
 | (i,v)::l,seen=>match af seen i with
  | true=>f8 wr pr kb l seen
  | false=>match af wr i with
   | true=>f8 wr pr kb l (i::seen)
   | false=>match n7 pr kb v with
    | true=>(i,v)::f8 wr pr kb l (i::seen)
    | false=>f8 wr pr kb l (i::seen)
def jG:aj→Bool
 | .st _ cs=>aH cs
 | .rw ..=>true
def dN (mb:List Nat) : List (Nat×Option aj)→List Nat→List Nat
 | [],_=>[]
 | (t,b)::l,seen=>match af seen t with
  | true=>dN mb l seen
  | false=>match b with
   | none=>dN mb l (t::seen)
   | some b=>match af mb t,jG b with
    | false,true=>t::dN mb l (t::seen)
    | _,_=>dN mb l (t::seen)
def pk:Option aj→Option aj
 | some (.rw e k t xs _)=>some (.rw e k t xs [])
 | b=>b
def ga (pr:List Nat) : List (Nat×Option aj)→List Nat→List (Nat×Option aj)
 | [],_=>[]
 | (t,b)::l,seen=>match af seen t with
  | true=>ga pr l seen
  | false=>match af pr t with
   | true=>(t,pk b)::ga pr l (t::seen)
   | false=>ga pr l (t::seen)
def iT:List SV→List SV
 | []=>[]
 | _ :: l=>.junk::iT l
def fV (bx:List (Nat×Option aj)) : List Nat→List Nat
 | []=>[]
 | b::l=>match lkB bx b with
  | some (.st _ _)=>b::fV bx l
  | _=>fV bx l
def qu (bx:List (Nat×Option aj)) : List Nat→List (Nat×Option aj)→List (Nat×Option aj)
 | [],r=>r
 | b::l,r=>match lkB bx b with
  | some (.st ty cs)=>(b,some (.st ty (iT cs)))::qu bx l r
  | _=>qu bx l r
def aB (sc wr:List Nat) (ms:List Mod) (s:SS) : SS :=
 let pr:=dN (ap ms++sc) s.bx []
 ⟨f8 wr pr (ap ms++(fV s.bx sc++pr)) s.sl [],qu s.bx sc (ga pr s.bx []),pr,s.ro,[]⟩
def kh (but:List Nat) : List SV→List Nat
 | []=>[]
 | .row t::l=>match af but t with | true=>kh but l | false=>t::kh but l
 | _ :: l=>kh but l
def oz (s:SS) : List Mod→List Nat
 | []=>[]
 | .leaf i _ :: l=>kh [] [lkV s.sl i] ++ oz s l
 | .agg i _ :: l=>(match lkV s.sl i with | .ag cs=>kh [] cs | _=>[])++oz s l
 | .row .. :: l=>oz s l
 | .box b _ _ rows::l=>(match lkB s.bx b with | some (.st _ cs)=>kh (rows.map (·.2.1)) cs | _=>[])++oz s l
def clr (s:SS) : SS:=⟨s.sl,s.bx,s.pr,s.ro,[]⟩
def gN (s:SS) : List (Nat×Nat×Nat×Nat×Ty)→List SV→List (Nat×Option aj)→Option (List SV×List (Nat×Option aj))
 | [],cs,bx=>some (cs,bx)
 | (j,R,e,k,t)::l,cs,bx=>match cs[j]? with
  | some (.d .nl)=>(match lkB bx R,decide (0 < k∧R < 1000000),af s.pr R with
   | none,true,false=>gN s l (cs.set j (.row R)) ((R,some (.rw e k t [] []))::bx)
   | _,_,_=>none)
  | _=>gN s l cs bx
def n8 (wr:List Nat) : List Mod→SS→Option SS
 | [],s=>some s
 | .row i R e k t::l,s=>match lkV s.sl i with
  | .d .nl=>(match Nat.beq i R,lkB s.bx i,decide (0 < k∧i < 1000000),af wr i,af s.pr i with
   | true,none,true,true,false=>n8 wr l ⟨(i,.row i)::s.sl,(i,some (.rw e k t [] []))::s.bx,s.pr,s.ro,s.oc⟩
   | _,_,_,_,_=>none)
  | _=>n8 wr l s
 | .box b _ _ [] :: l,s=>n8 wr l s
 | .box b _ _ rows::l,s=>match lkB s.bx b with
  | some (.st ty cs)=>(match af s.pr b,gN s rows cs s.bx with
   | false,some (cs,bx)=>n8 wr l ⟨s.sl,(b,some (.st ty cs))::bx,s.pr,s.ro,s.oc⟩
   | _,_=>none)
  | _=>none
 | _ :: l,s=>n8 wr l s
def sV (wr:List Nat) (ms:List Mod) (s:SS) : Option SS:=match n8 wr ms s with
 | some s=>cP (oz s ms) s
 | none=>none
def eP (ms:List Mod) (s:SS) : Option (cn ms):=match cP (oz s ms) s with
 | some s=>gw s ms
 | none=>none
inductive iJ where
 | n
 | s (a b:iJ)
 | lp (ms:List Mod) (id:Nat) (ret:Bool) (b:iJ)
 | j (ms:List Mod) (h:iJ)
def iJ.l:iJ→iJ
 | .s a _=>a
 | .j _ (.s a _)=>a
 | _=>.n
def iJ.r:iJ→iJ
 | .s _ b=>b
 | .j _ (.s _ b)=>b
 | _=>.n
structure Cx where
 P:Program
 T:List (Nat×Ent)
 n:Nat
 rs:List PT
 vars:List ResultVar
 fz:List (Nat×List Nat)
 sc:List Nat
 fb:List (Nat×List Nat)
def lkF:List (Nat×List Nat)→Nat→List Nat
 | [],_=>[]
 | (j,v)::l,i=>match Nat.beq i j with | true=>v | false=>lkF l i
def wrC:Code→List Nat
 | .region _ ops _=>aC ops.toList
 | .seq a b=>wrC a++wrC b
 | .cond (.tmp i) a b=>i::(wrC a++wrC b)
 | .cond _ a b=>wrC a++wrC b
 | .block _ c=>wrC c
 | .loop c=>wrC c
 | _=>[]
def qx (P:Program) (s:SS) : List ResultVar→Option (List SV)
 | []=>some []
 | .tmp t::l=>match qx P s l with | some vs=>some (lkV s.sl t::vs) | none=>none
 | .cell t ty::l=>match tR P s ty (lkV s.sl t),qx P s l with | some v,some vs=>some (v::vs) | _,_=>none
def zT:List (Nat×Nat×Nat×Ty)→Nat→Bool
 | [],_=>false
 | (j,_)::l,i=>match Nat.beq i j with | true=>true | false=>zT l i
def lO (rows:List (Nat×Nat×Nat×Ty)) : Nat→List SV→List Nat
 | _,[]=>[]
 | j,c::cs=>match zT rows j with | true=>lO rows (j + 1) cs | false=>sy c++lO rows (j + 1) cs
def y4:PT→SV→List Nat
 | .own ..,_=>[]
 | .agr _ rows,.ag cs=>lO rows 0 cs
 | .agr ..,_=>[]
 | _,v=>sy v
def tz:List PT→List SV→List Nat
 | p::ps,v::vs=>y4 p v++tz ps vs
 | _,_=>[]
def pM (i:Nat) : Nat:=1000000 + 64 * i
def zR (s:SS) (i:Nat) : IB→List Nat
 | .bx _ _ rows=>(match lkB s.bx (pM i) with | some (.st _ cs)=>lO rows 0 cs | _=>[])
 | _=>[]
def wD (s:SS) : Nat→List IB→List Nat
 | _,[]=>[]
 | i,b::l=>zR s i b++wD s (i + 1) l
def yq (s:SS) (i:Nat) : (b:IB)→Option (b.den×List Nat)
 | .no=>some ((),[])
 | .own e k t=>(match gp s e k t (.row (pM i)) with | some (xs,_)=>some (xs,[]) | none=>none)
 | .bx ty n rows=>(match lkB s.bx (pM i) with
  | some (.st ty' cs)=>chk (ty' == ty) (rF s rows n cs)
  | _=>none)
def uo (s:SS) : Nat→(ls:List IB)→Option (lC ls×List (List Nat))
 | _,[]=>some ((),[])
 | i,b::ls=>match yq s i b,uo s (i + 1) ls with | some (o,js),some (os,kss)=>some ((o,os),js::kss) | _,_=>none
def pW (s:SS) : (rs:List PT)→List SV→Option (au rs×List (List Nat))
 | [],[]=>some ((),[])
 | [p],[v]=>(match s7 s p v with | some (x,is)=>some (x,[is]) | none=>none)
 | p::q::l,v::vs=>(match s7 s p v,pW s (q::l) vs with | some (x,is),some (xs,iss)=>some ((x,xs),is::iss) | _,_=>none)
 | _,_=>none
def wB:(rs:List PT)→lC (cg rs)→au (dx rs)→au rs
 | [],_,_=>()
 | [.io _],o,_=>o
 | .io _ :: _ :: _,o,r=>(o,r)
 | .own .. :: _,_,r=>r
 | .mv .. :: _,_,r=>r
 | .bx .. :: _,_,r=>r
 | .agr .. :: _,_,r=>r
 | .lf _ :: _,_,r=>r
 | .ag _ :: _,_,r=>r
 | .pl _ :: _,_,r=>r
 | .ps _ :: _,_,r=>r
 | .fn .. :: _,_,r=>r
def qS:Nat→List IB→List Nat
 | _,[]=>[]
 | i,.no::l=>qS (i + 1) l
 | i,.own .. :: l=>pM i::qS (i + 1) l
 | i,.bx .. :: l=>pM i::qS (i + 1) l
def yE (C:Cx) (s:SS) : Option (au C.rs):=match qx C.P s C.vars with
 | some vs=>(match cP (wD s 0 (cg C.rs)++tz (dx C.rs) vs) s with
  | some s1=>(match qx C.P s1 C.vars with
   | some ws=>(match uo s1 0 (cg C.rs),pW s1 (dx C.rs) ws with
    | some (o,kss),some (r,jss)=>chk (i9 (qS 0 (cg C.rs)++(bf kss++bf jss))) (some (wB C.rs o r))
    | _,_=>none)
   | none=>none)
  | none=>none)
 | none=>none
def mY (C:Cx) (s:SS) : Option (au C.rs):=match eC C.rs with
 | true=>yE C (clr s)
 | false=>(match qx C.P (clr s) C.vars with
  | some vs=>oW (clr s) C.rs vs
  | none=>none)
def vP:List Oper→Bool
 | []=>true
 | o::l=>match o.op,o.dst with | .store ..,some _=>false | _,_=>vP l
def wF:List Oper→Bool
 | []=>false
 | o::l=>match o.op with | .buildSlice ..=>true | _=>wF l
def tU:List Oper→Bool
 | []=>false
 | o::l=>match hP o with | some _=>true | none=>tU l
def vN (ops:Array Oper) : Nat→Nat
 | 0=>0
 | n + 1=>match (List.range n).all fun k=>jS ops 4 n k with | true=>vN ops n | false=>n + 1
def b7 (ops:Array Oper) : Nat:=match wF ops.toList,tU ops.toList with
 | true,true=>vN ops ops.toList.length
 | _,_=>ops.toList.length
def vX (C:Cx) (id:Nat) (ops:Array Oper) (draw:Bool) (s:SS) {ρ : Type} (k:SS→Option ρ) : Option ρ :=
 match cP (lkF C.fz id) s with
 | none=>none
 | some s0=>let s:SS:=⟨s0.sl,s0.bx,s0.pr,s0.ro,[]⟩; match draw with
  | false=>chk (vP ops.toList&&oT C.n ops.toList) (gH true C.P C.T ops [] 1000 0 [] ops.toList s k)
  | true=>chk (vP ops.toList) (chk (nC (jK (cE C.T s ops.toList [] [])) C.n ops) (match Nat.beq (b7 ops) ops.toList.length with
   | true=>gH false C.P C.T ops (cE C.T s ops.toList [] []) 1000 0 [] ops.toList s k
   | false=>chk (qo (b7 ops) ops&&decide (b7 ops≤ops.toList.length)) (gH false C.P C.T ops (cE C.T s ops.toList [] []) 1000 0 [] (ops.toList.take (b7 ops)) s fun s=>gH true C.P C.T ops [] 1000 0 [] (ops.toList.drop (b7 ops)) s k)))
def xJ (C:Cx) (id:Nat) (ops:Array Oper) (draw:Bool) (s:SS) {ρ : Type} (k:SS→Option ρ) : Option ρ:=match lkF C.fb id with
 | []=>vX C id ops draw s k
 | t::l=>chk (ua s (t::l)) (vX C id ops draw s fun s=>match oJ C.sc (t::l) s with | some s=>k s | none=>none)
def ol (C:Cx) (wr:List Nat) (h:iJ) (body:(ρ : Type)→SS→(Exit→SS→Option ρ)→(au C.rs→Option ρ)→Option ρ) (ρ : Type) (s:SS) (k:Exit→SS→Option ρ) (kr:au C.rs→Option ρ) : Option ρ :=
 match h with
 | .j ms _=>match n8 wr ms (clr s) with
  | none=>none
  | some s1=>chk (f6 C.sc wr ms s.pr s1) (Option.bind (body (cn ms) ⟨s1.sl,s1.bx,(aB C.sc wr ms s1).pr,s1.ro,s1.oc⟩ (fun e s'=>match e with | .normal=>eP ms s' | _=>none) (fun _=>none)) fun st =>
   match ci ms st (aB C.sc wr ms s1) with
   | some s2=>k .normal ⟨s2.sl,s2.bx,s.pr,s.ro,s.oc⟩
   | none=>none)
 | _=>body ρ s k kr
def jX (C:Cx) : Code→iJ→(ρ : Type)→SS→(Exit→SS→Option ρ)→(au C.rs→Option ρ)→Option ρ
 | .skip,_,_,s,k,_=>k .normal s
 | .label _,_,_,s,k,_=>k .normal s
 | .exit id,_,_,s,k,_=>k (.exit id) s
 | .ret,_,_,s,_,kr=>Option.bind (mY C s) kr
 | .region id ops draw,h,ρ,s,k,kr=>ol C (aC ops.toList) h (fun _ s k _=>xJ C id ops draw s fun s=>k .normal s) ρ s k kr
 | .seq a b,h,ρ,s,k,kr=>ol C (wrC a++wrC b) h (fun ρ s k kr=>jX C a h.l ρ s (fun e s'=>match e with | .normal=>jX C b h.r ρ s' k kr | e=>k e s') kr) ρ s k kr
 | .cond c a b,h,ρ,s,k,kr=>ol C (wrC (.cond c a b)) h (fun ρ s k kr=>match evX s c with
   | .d (.bool t)=>if t=true then jX C a h.l ρ (iR s c true) k kr else jX C b h.r ρ (iR s c false) k kr
   | _=>none) ρ s k kr
 | .block id c,h,ρ,s,k,kr=>ol C (wrC c) h (fun ρ s k kr=>jX C c h.l ρ s (fun e s'=>match e with | .exit id'=>(match Nat.beq id' id with | true=>k .normal s' | false=>k (.exit id') s') | e=>k e s') kr) ρ s k kr
 | .loop c,.lp ms id ret hb,_,s,k,kr=>match sV (wrC c) ms (clr s) with
  | none=>none
  | some s0=>chk (f6 C.sc (wrC c) ms s.pr s0) (match gw s0 ms with
   | none=>none
   | some st0=>match ret with
    | false=>Option.bind (aN (fun st=>match ci ms st (aB C.sc (wrC c) ms s0) with
      | none=>none
      | some sh=>jX C c hb (cn ms⊕cn ms) sh (fun e s'=>match e with
       | .normal=>Option.bind (eP ms s') fun st'=>some (.inl st')
       | .exit id'=>(match Nat.beq id' id with | true=>Option.bind (eP ms s') fun st'=>some (.inr st') | false=>none)
       | _=>none) (fun _=>none)) ar st0) fun st=>match ci ms st (aB C.sc (wrC c) ms s0) with
      | some s2=>k (.exit id) ⟨s2.sl,s2.bx,s.pr,s.ro,s.oc⟩
      | none=>none
    | true=>Option.bind (aN (fun st=>match ci ms st (aB C.sc (wrC c) ms s0) with
      | none=>none
      | some sh=>jX C c hb (cn ms⊕(cn ms⊕au C.rs)) sh (fun e s'=>match e with
       | .normal=>Option.bind (eP ms s') fun st'=>some (.inl st')
       | .exit id'=>(match Nat.beq id' id with | true=>Option.bind (eP ms s') fun st'=>some (.inr (.inl st')) | false=>none)
       | _=>none) (fun r=>some (.inr (.inr r)))) ar st0) fun o=>match o with
      | .inr r=>kr r
      | .inl st=>match ci ms st (aB C.sc (wrC c) ms s0) with
       | some s2=>k (.exit id) ⟨s2.sl,s2.bx,s.pr,s.ro,s.oc⟩
       | none=>none)
 | _,_,_,_,_,_=>none
def qf:Nat→List SV→List (Nat×SV)
 | _,[]=>[]
 | i,v::vs=>(i,v)::qf (i + 1) vs
def i5 (C:Cx) (c:Code) (h:iJ) (ps:List PT) (x:bT ps) : Option (au C.rs) :=
 jX C c h (au C.rs) ⟨qf 0 (lr ps x),[],[],false,[]⟩ (fun e s=>match e with | .normal=>mY C s | _=>none) (fun r=>some r)
end
section
theorem aa {ρ : Type} {b:Bool} {k:Option ρ} {r : ρ} (h:chk b k=some r) : b=true∧k=some r:=by
 cases b
 ·cases h
 ·exact ⟨rfl,h⟩
theorem aO (j:Nat) (v:SV) (l:List (Nat×SV)) (i:Nat) : lkV ((j,v)::l) i=if i=j then v else lkV l i:=by
 simp only [lkV]
 by_cases h:i=j
 ·subst h; simp
 ·have:Nat.beq i j=false:=by rw [← Bool.not_eq_true,Nat.beq_eq]; exact h
  rw [this,if_neg h]
theorem ac (j:Nat) (v:Option aj) (l:List (Nat×Option aj)) (i:Nat) : lkB ((j,v)::l) i=if i=j then v else lkB l i:=by
 simp only [lkB]
 by_cases h:i=j
 ·subst h; simp
 ·have:Nat.beq i j=false:=by rw [← Bool.not_eq_true,Nat.beq_eq]; exact h
  rw [this,if_neg h]
theorem fv (j:Nat) (v:Pin) (l:List (Nat×Pin)) (i:Nat) : lkP ((j,v)::l) i=if i=j then some v else lkP l i:=by
 simp only [lkP]
 by_cases h:i=j
 ·subst h; simp
 ·have:Nat.beq i j=false:=by rw [← Bool.not_eq_true,Nat.beq_eq]; exact h
  rw [this,if_neg h]
theorem aP (a b:Nat) : Nat.beq a b=decide (a=b):=by
 by_cases h:a=b
 ·subst h; simp
 ·have:Nat.beq a b=false:=by rw [← Bool.not_eq_true,Nat.beq_eq]; exact h
  simp [this,h]
theorem iw (l:List (Nat×SV)) (dst:Option Nat) (v:SV) (i:Nat) : lkV (fO l dst v) i=if dst=some i then v else lkV l i:=by
 cases dst with
 | none=>simp [fO]
 | some d =>
  simp only [fO,aO,Option.some.injEq]
  by_cases h:i=d
  ·subst h; simp
  ·rw [if_neg h,if_neg (Ne.symm h)]
theorem pH:∀ cs:List SD,kv cs=cs.map .d
 | []=>rfl
 | c::cs=>by simp [kv,pH cs]
theorem ez:∀ (t:Ty) (x:t.den),(az t x).length=tyN t
 | .int _,_=>rfl
 | .bool,_=>rfl
 | .str,_=>rfl
 | .sl _,_=>rfl
 | .st i,x=>xC i x
theorem lY:∀ (t:Ty) (x:t.den),(kI t x).map SD.toD=az t x
 | .int _,_=>rfl
 | .bool,_=>rfl
 | .str,_=>rfl
 | .sl _,_=>rfl
 | .st i,x=>gC i x
theorem uh:∀ (t:Ty) (x:t.den),∀ c∈kI t x,c≠.nl
 | .int _,_,c,h=>by simp [kI] at h; subst h; exact fun e=>by cases e
 | .bool,_,c,h=>by simp [kI] at h; subst h; exact fun e=>by cases e
 | .str,_,c,h=>by simp [kI] at h; subst h; exact fun e=>by cases e
 | .sl _,_,c,h=>by simp [kI] at h; subst h; exact fun e=>by cases e
 | .st i,x,c,h=>i0 i x c h
theorem be {α : Type} {x : α} {Q:Prop} (h:(none:Option α)=some x) : Q:=by cases h
theorem pV:∀ {t:Ty} {cs:List SD} {x:t.den},yl t cs=some x→cs.map SD.toD=az t x
 | .st i,cs,x,h=>kc h
 | .int k,[],x,h=>be (x:=x) h
 | .int k,[c],x,h=>(SD.as_ok (t:=(.int k)) h).symm
 | .int k,_ :: _ :: _,x,h=>be (x:=x) h
 | .bool,[],x,h=>be (x:=x) h
 | .bool,[c],x,h=>(SD.as_ok (t:=.bool) h).symm
 | .bool,_ :: _ :: _,x,h=>be (x:=x) h
 | .str,[],x,h=>be (x:=x) h
 | .str,[c],x,h=>(SD.as_ok (t:=.str) h).symm
 | .str,_ :: _ :: _,x,h=>be (x:=x) h
 | .sl t,[],x,h=>be (x:=x) h
 | .sl t,[c],x,h=>(SD.as_ok (t:=(.sl t)) h).symm
 | .sl t,_ :: _ :: _,x,h=>be (x:=x) h
def qi:SD→D→Prop
 | .nl,y=>y = .v (.slice none 0 0)
 | c,y=>nrm y=c.toD
theorem qi.nrm {c:SD} {y:D} (h:qi c y) : nrm y=c.toD:=by
 cases c <;> first | exact h | (cases h; rfl)
theorem qi.of {c:SD} (hc:c≠.nl) : qi c c.toD:=by
 cases c <;> first | rfl | exact absurd rfl hc
theorem wl {y:D} {x:Value} (h:nrm y = .v x) : y = .v x:=by
 unfold Go.Proofs.Ytkmpjphbkhpgbaa.nrm at h
 split at h
 ·cases h
 ·exact h
theorem y9 {y:D} {es:List (List D)} (h:nrm y = .sl es) : y = .sl es∨(es = []∧y = .v (.slice none 0 0)):=by
 unfold Go.Proofs.Ytkmpjphbkhpgbaa.nrm at h
 split at h
 ·injection h with h; exact .inr ⟨h.symm,rfl⟩
 ·exact .inl h
inductive al (B:List (Nat×Option aj)) : SV→PV→Prop
 | junk (q:PV) : al B .junk q
 | d (c:SD) (y:D) (h:qi c y) : al B (.d c) (.d y)
 | ag (cs:List SV) (qs:List PV) (hl:cs.length=qs.length) (hr:∀ (j:Nat) c q,cs[j]? = some c→qs[j]? = some q→al B c q) : al B (.ag cs) (.ag qs)
 | tup (cs:List SV) (qs:List PV) (hl:cs.length=qs.length) (hr:∀ (j:Nat) c q,cs[j]? = some c→qs[j]? = some q→al B c q) : al B (.tup cs) (.tup qs)
 | ptr (t o:Nat) (ty:TypeId) (cs:List SV) (hb:lkB B t=some (.st ty cs)) : al B (.ptr t o) (.ptr t o)
 | row (t n e k:Nat) (ty:Ty) (xs:List ty.den) (pins:List (Nat×Pin)) (hb:lkB B t=some (.rw e k ty xs pins)) (hn:xs.length=n) : al B (.row t) (.row t n)
 | re (t p o n i e k:Nat) (ty:Ty) (xs:List ty.den) (pins:List (Nat×Pin)) (pin:Pin) (hb:lkB B t=some (.rw e k ty xs pins)) (hn:xs.length=n) (hp:lkP pins p=some pin) (hi:i=pin.i.toNat) : al B (.re t p o) (.re t n i o)
 | vw (t lo hi n e k:Nat) (ty:Ty) (xs:List ty.den) (pins:List (Nat×Pin)) (hb:lkB B t=some (.rw e k ty xs pins)) (hn:xs.length=n) : al B (.vw t lo hi) (.vw t n lo hi)
 | fe (cs:List SD) (ds:List D) (h:ds=cs.map SD.toD) (hn:∀ c∈cs,c≠.nl) : al B (.fe cs) (.fe ds)
 | fn (f:FuncId) (ps qs:List SV) (ps' qs':List PV) (hl:ps.length=ps'.length) (hr:∀ (j:Nat) c q,ps[j]? = some c→ps'[j]? = some q→al B c q) (hl2:qs.length=qs'.length) (hr2:∀ (j:Nat) c q,qs[j]? = some c→qs'[j]? = some q→al B c q) : al B (.fn f ps qs) (.fn f ps' qs')
structure aA (B:List (Nat×Option aj)) (cs:List SV) (qs:List PV) : Prop where
 len:cs.length=qs.length
 rep:∀ (j:Nat) c q,cs[j]? = some c→qs[j]? = some q→al B c q
def zE (ty:Ty) (xs:List ty.den) (pins:List (Nat×Pin)) : Prop:=∀ p pin,lkP pins p=some pin→pin.i.toNat < xs.length∧∀ cs,pin.cs=some cs→∃ x,xs[pin.i.toNat]? = some x∧cs=kI ty x
def cZ (B:List (Nat×Option aj)) (oc:Bool) : Option aj→Option Box→Prop
 | none,q=>oc=false→q=none
 | some (.st ty cs),q=>∃ qs,q=some (.st ty qs)∧aA B cs qs
 | some (.rw e k ty xs pins),q=>q=some (.rw e k (xs.map (az ty)))∧zE ty xs pins
structure Sim (s:SS) (p:PS) : Prop where
 sl:∀ i,al s.bx (lkV s.sl i) (p.t i)
 bx:∀ t,cZ s.bx (af s.oc t) (lkB s.bx t) (p.b t)
structure BLe (B B':List (Nat×Option aj)) : Prop where
 rw:∀ t e k ty xs pins,lkB B t=some (.rw e k ty xs pins)→∃ e' k' ty' xs' pins',lkB B' t=some (.rw e' k' ty' xs' pins')∧xs'.length=xs.length∧∀ p pin,lkP pins p=some pin→∃ pin',lkP pins' p=some pin'∧pin'.i=pin.i
 st:∀ t ty cs,lkB B t=some (.st ty cs)→∃ ty' cs',lkB B' t=some (.st ty' cs')
theorem BLe.refl (B:List (Nat×Option aj)) : BLe B B:=⟨fun _ e k ty xs pins h=>⟨e,k,ty,xs,pins,h,rfl,fun _ pin hp=>⟨pin,hp,rfl⟩⟩,fun _ ty cs h=>⟨ty,cs,h⟩⟩
theorem al.mono {B B':List (Nat×Option aj)} {v:SV} {q:PV} (h:al B v q) (hB:BLe B B') : al B' v q:=by
 induction h with
 | junk q=>exact .junk q
 | d c y h=>exact .d c y h
 | ag cs qs hl hr ih=>exact .ag cs qs hl ih
 | tup cs qs hl hr ih=>exact .tup cs qs hl ih
 | ptr t o ty cs hb=>obtain ⟨ty',cs',h1⟩:=hB.st t ty cs hb; exact .ptr t o ty' cs' h1
 | row t n e k ty xs pins hb hn =>
  obtain ⟨e',k',ty',xs',pins',h1,h2,h3⟩:=hB.rw t e k ty xs pins hb
  exact .row t n e' k' ty' xs' pins' h1 (h2.trans hn)
 | re t p o n i e k ty xs pins pin hb hn hp hi =>
  obtain ⟨e',k',ty',xs',pins',h1,h2,h3⟩:=hB.rw t e k ty xs pins hb
  obtain ⟨pin',h4,h5⟩:=h3 p pin hp
  exact .re t p o n i e' k' ty' xs' pins' pin' h1 (h2.trans hn) h4 (by rw [h5]; exact hi)
 | vw t lo hi n e k ty xs pins hb hn =>
  obtain ⟨e',k',ty',xs',pins',h1,h2,h3⟩:=hB.rw t e k ty xs pins hb
  exact .vw t lo hi n e' k' ty' xs' pins' h1 (h2.trans hn)
 | fe cs ds h hn=>exact .fe cs ds h hn
 | fn f ps qs ps' qs' hl hr hl2 hr2 ih ih2=>exact .fn f ps qs ps' qs' hl ih hl2 ih2
theorem aA.mono {B B':List (Nat×Option aj)} {cs:List SV} {qs:List PV} (h:aA B cs qs) (hB:BLe B B') : aA B' cs qs:=⟨h.len,fun j c q h1 h2=>(h.rep j c q h1 h2).mono hB⟩
theorem cZ.mono {B B':List (Nat×Option aj)} {oc:Bool} {b:Option aj} {q:Option Box} (h:cZ B oc b q) (hB:BLe B B') : cZ B' oc b q:=by
 cases b with
 | none=>exact h
 | some b=>cases b with
  | st ty cs=>obtain ⟨qs,h1,h2⟩:=h; exact ⟨qs,h1,h2.mono hB⟩
  | rw e k ty xs pins=>exact h
variable {B:List (Nat×Option aj)}
theorem aA.nil:aA B [] []:=⟨rfl,fun j c q h=>by simp at h⟩
theorem aA.cons {c:SV} {q:PV} {cs:List SV} {qs:List PV} (h:al B c q) (hs:aA B cs qs) : aA B (c::cs) (q::qs) :=
 ⟨by simp [hs.len],fun j c' q' h1 h2=>by
  cases j with
  | zero=>simp at h1 h2; subst h1 h2; exact h
  | succ j=>simp at h1 h2; exact hs.rep j _ _ h1 h2⟩
theorem aA.head {c:SV} {q:PV} {cs:List SV} {qs:List PV} (h:aA B (c::cs) (q::qs)) : al B c q:=h.rep 0 c q rfl rfl
theorem aA.tail {c:SV} {q:PV} {cs:List SV} {qs:List PV} (h:aA B (c::cs) (q::qs)) : aA B cs qs :=
 ⟨by have:=h.len; simpa using this,fun j c' q' h1 h2=>h.rep (j + 1) c' q' (by simpa using h1) (by simpa using h2)⟩
theorem aA.cases {cs:List SV} {qs:List PV} (h:aA B cs qs) : (cs = []∧qs = [])∨∃ c q cs' qs',cs=c::cs'∧qs=q::qs'∧al B c q∧aA B cs' qs':=by
 cases cs with
 | nil=>cases qs with
  | nil=>exact .inl ⟨rfl,rfl⟩
  | cons q qs=>have:=h.len; simp at this
 | cons c cs=>cases qs with
  | nil=>have:=h.len; simp at this
  | cons q qs=>exact .inr ⟨c,q,cs,qs,rfl,rfl,h.head,h.tail⟩
theorem aA.take {cs:List SV} {qs:List PV} (h:aA B cs qs) (n:Nat) : aA B (cs.take n) (qs.take n) :=
 ⟨by simp [h.len],fun j c q h1 h2=>by
  rw [List.getElem?_take] at h1 h2
  split at h1
  ·rename_i hj; rw [if_pos hj] at h2; exact h.rep j c q h1 h2
  ·cases h1⟩
theorem aA.drop {cs:List SV} {qs:List PV} (h:aA B cs qs) (n:Nat) : aA B (cs.drop n) (qs.drop n) :=
 ⟨by simp [h.len],fun j c q h1 h2=>by
  rw [List.getElem?_drop] at h1 h2
  exact h.rep _ c q h1 h2⟩
theorem aA.append {cs ds:List SV} {qs ws:List PV} (h:aA B cs qs) (h':aA B ds ws) : aA B (cs++ds) (qs++ws) :=
 ⟨by simp [h.len,h'.len],fun j c q h1 h2=>by
  rw [List.getElem?_append] at h1 h2
  rw [h.len] at h1
  split at h1
  ·rename_i hj; rw [if_pos hj] at h2; exact h.rep j c q h1 h2
  ·rename_i hj; rw [if_neg hj] at h2; exact h'.rep _ c q h1 h2⟩
theorem dc {α : Type} : ∀ (cs:List α) (o:Nat) (ns:List α),o + ns.length≤cs.length→dr cs o ns=splice cs o ns
 | [],0,[],_=>rfl
 | [],0,n::ns,h=>by simp at h
 | [],o + 1,ns,h=>by simp at h
 | c::cs,0,[],_=>by simp [dr,splice]
 | c::cs,0,n::ns,h=>by
  simp only [dr]
  rw [dc cs 0 ns (by simp at h ⊢; omega)]
  simp [splice]
 | c::cs,o + 1,ns,h=>by
  simp only [dr]
  rw [dc cs o ns (by simp at h ⊢; omega)]
  unfold splice
  rw [show o + 1 + ns.length=(o + ns.length) + 1 by omega]
  simp
theorem aA.splice {cs ns:List SV} {qs ws:List PV} (h:aA B cs qs) (h':aA B ns ws) (o:Nat) : aA B (Go.Proofs.Ytkmpjphbkhpgbaa.splice cs o ns) (Go.Proofs.Ytkmpjphbkhpgbaa.splice qs o ws):=by
 unfold Go.Proofs.Ytkmpjphbkhpgbaa.splice
 rw [h'.len]
 exact ((h.take o).append h').append (h.drop _)
end
section
variable {B:List (Nat×Option aj)} {s:SS} {p:PS}
theorem cv (hs:Sim s p) {dst:Option Nat} {v:SV} {q:PV} (hv:al s.bx v q) : Sim (s.upd dst v .no) (p.upd dst q none):=by
 refine ⟨fun i=>?_,fun t=>hs.bx t⟩
 show al s.bx (lkV (fO s.sl dst v) i) (iY p.t dst q i)
 rw [iw]
 unfold iY
 split
 ·exact hv
 ·exact hs.sl i
theorem ke {sl:List (Nat×SV)} {pr oc:List Nat} {ro:Bool} {dst:Option Nat} {v:SV} {q:PV} {B':List (Nat×Option aj)} {u:Option (Nat×Box)} (h1:∀ i,dst≠some i→al B' (lkV sl i) (p.t i)) (h2:∀ t,cZ B' (af oc t) (lkB B' t) (aW p.b u t)) (hv:al B' v q) :
  Sim ⟨fO sl dst v,B',pr,ro,oc⟩ (p.upd dst q u):=by
 refine ⟨fun i=>?_,h2⟩
 show al B' (lkV (fO sl dst v) i) (iY p.t dst q i)
 rw [iw]
 unfold iY
 split
 ·exact hv
 ·rename_i h; exact h1 i h
theorem dM (hs:Sim s p) {pr:List Nat} {ro:Bool} {dst:Option Nat} {v:SV} {q:PV} {t:Nat} {b:aj} {b':Box} (hB:BLe s.bx ((t,some b)::s.bx)) (hb:∀ oc,cZ ((t,some b)::s.bx) oc (some b) (some b')) (hv:al ((t,some b)::s.bx) v q) :
  Sim ⟨fO s.sl dst v,(t,some b)::s.bx,pr,ro,s.oc⟩ (p.upd dst q (some (t,b'))):=by
 refine ke (fun i _=>(hs.sl i).mono hB) (fun t'=>?_) hv
 rw [ac]
 simp only [aW]
 split
 ·exact hb _
 ·exact (hs.bx t').mono hB
theorem xE (hs:Sim s p) {pr:List Nat} {ro:Bool} {dst:Option Nat} {v:SV} {q:PV} {t:Nat} {b:aj} (hB:BLe s.bx ((t,some b)::s.bx)) (hb:∀ oc,cZ ((t,some b)::s.bx) oc (some b) (p.b t)) (hv:al ((t,some b)::s.bx) v q) :
  Sim ⟨fO s.sl dst v,(t,some b)::s.bx,pr,ro,s.oc⟩ (p.upd dst q none):=by
 refine ke (fun i _=>(hs.sl i).mono hB) (fun t'=>?_) hv
 rw [ac]
 simp only [aW]
 split
 ·rename_i h; subst h; exact hb _
 ·exact (hs.bx t').mono hB
theorem eX {b:aj} {t:Nat} (h:lkB B t=none) : BLe B ((t,some b)::B):=by
 refine ⟨fun t' e k ty xs pins h1=>?_,fun t' ty cs h1=>?_⟩
 ·have : ¬ t' = t:=fun e=>by rw [e,h] at h1; cases h1
  exact ⟨e,k,ty,xs,pins,by rw [ac,if_neg this]; exact h1,rfl,fun _ pin hp=>⟨pin,hp,rfl⟩⟩
 ·have : ¬ t' = t:=fun e=>by rw [e,h] at h1; cases h1
  exact ⟨ty,cs,by rw [ac,if_neg this]; exact h1⟩
theorem tb {ty ty':TypeId} {cs cs':List SV} {t:Nat} (h:lkB B t=some (.st ty cs)) : BLe B ((t,some (.st ty' cs'))::B):=by
 refine ⟨fun t' e k ty xs pins h1=>?_,fun t' ty2 cs2 h1=>?_⟩
 ·have : ¬ t' = t:=fun e=>by rw [e,h] at h1; cases h1
  exact ⟨e,k,ty,xs,pins,by rw [ac,if_neg this]; exact h1,rfl,fun _ pin hp=>⟨pin,hp,rfl⟩⟩
 ·rw [ac]
  split
  ·exact ⟨_,_,rfl⟩
  ·exact ⟨_,_,h1⟩
theorem tc {e k:Nat} {ty:Ty} {xs xs':List ty.den} {pins pins':List (Nat×Pin)} {t:Nat} (h:lkB B t=some (.rw e k ty xs pins)) (hl:xs'.length=xs.length) (hp:∀ p pin,lkP pins p=some pin→∃ pin',lkP pins' p=some pin'∧pin'.i=pin.i) : BLe B ((t,some (.rw e k ty xs' pins'))::B):=by
 refine ⟨fun t' e2 k2 ty2 xs2 pins2 h1=>?_,fun t' ty2 cs2 h1=>?_⟩
 ·rw [ac]
  split
  ·rename_i ht
   subst ht
   rw [h] at h1
   injection h1 with h1
   injection h1 with e1 e2 e3 e4 e5
   subst e3
   have e4:=eq_of_heq e4
   subst e4 e5
   exact ⟨e,k,ty,xs',pins',rfl,hl,hp⟩
  ·exact ⟨e2,k2,ty2,xs2,pins2,h1,rfl,fun _ pin hp=>⟨pin,hp,rfl⟩⟩
 ·have : ¬ t' = t:=fun e=>by rw [e,h] at h1; cases h1
  exact ⟨_,_,by rw [ac,if_neg this]; exact h1⟩
def qq (t:Nat) : aj→aj
 | .st ty cs=>.st ty (bS t cs)
 | b=>b
theorem cf (t:Nat) : ∀ (l:List (Nat×Option aj)) (i:Nat),lkB (dE t l) i=(lkB l i).map (qq t)
 | [],_=>rfl
 | (j,none)::l,i=>by simp only [dE,ac,cf t l i]; split <;> rfl
 | (j,some (.st ty cs))::l,i=>by simp only [dE,ac,cf t l i]; split <;> rfl
 | (j,some (.rw e k ty xs pins))::l,i=>by simp only [dE,ac,cf t l i]; split <;> rfl
theorem kw (t:Nat) : ∀ (l:List (Nat×SV)) (i:Nat),lkV (mi t l) i=stale t (lkV l i)
 | [],_=>rfl
 | (j,v)::l,i=>by simp only [mi,aO,kw t l i]; split <;> rfl
theorem da (t:Nat) : ∀ (cs:List SV) (j:Nat),(bS t cs)[j]? = (cs[j]?).map (stale t)
 | [],j=>by simp [bS]
 | c::cs,0=>by simp [bS]
 | c::cs,j + 1=>by simpa [bS] using da t cs j
theorem cu (t:Nat) : ∀ cs:List SV,(bS t cs).length=cs.length
 | []=>rfl
 | c::cs=>by simp [bS,cu t cs]
structure vG (t:Nat) (B B':List (Nat×Option aj)) : Prop where
 rw:∀ t',t'≠t→∀ e k ty xs pins,lkB B t' = some (.rw e k ty xs pins)→lkB B' t' = some (.rw e k ty xs pins)
 st:∀ t' ty cs,lkB B t' = some (.st ty cs)→∃ ty' cs',lkB B' t' = some (.st ty' cs')
theorem al.stale {B':List (Nat×Option aj)} {t:Nat} {v:SV} {q:PV} (h:al B v q) (hB:vG t B B') : al B' (stale t v) q:=by
 induction h with
 | junk q=>exact .junk q
 | d c y h=>exact .d c y h
 | ag cs qs hl hr ih =>
  refine .ag _ qs (by rw [cu]; exact hl) (fun j c q h1 h2=>?_)
  rw [da,zm] at h1
  obtain ⟨c',h3,rfl⟩:=h1
  exact ih j c' q h3 h2
 | tup cs qs hl hr ih =>
  refine .tup _ qs (by rw [cu]; exact hl) (fun j c q h1 h2=>?_)
  rw [da,zm] at h1
  obtain ⟨c',h3,rfl⟩:=h1
  exact ih j c' q h3 h2
 | ptr t' o ty cs hb=>obtain ⟨ty',cs',h1⟩:=hB.st t' ty cs hb; exact .ptr t' o ty' cs' h1
 | row t' n e k ty xs pins hb hn =>
  simp only [Go.Proofs.Ytkmpjphbkhpgbaa.stale,aP]
  by_cases h:t' = t
  ·simp only [h,decide_true]; exact .junk _
  ·simp only [h,decide_false]; exact .row t' n e k ty xs pins (hB.rw t' h _ _ _ _ _ hb) hn
 | re t' p o n i e k ty xs pins pin hb hn hp hi =>
  simp only [Go.Proofs.Ytkmpjphbkhpgbaa.stale,aP]
  by_cases h:t' = t
  ·simp only [h,decide_true]; exact .junk _
  ·simp only [h,decide_false]; exact .re t' p o n i e k ty xs pins pin (hB.rw t' h _ _ _ _ _ hb) hn hp hi
 | vw t' lo hi n e k ty xs pins hb hn =>
  simp only [Go.Proofs.Ytkmpjphbkhpgbaa.stale,aP]
  by_cases h:t' = t
  ·simp only [h,decide_true]; exact .junk _
  ·simp only [h,decide_false]; exact .vw t' lo hi n e k ty xs pins (hB.rw t' h _ _ _ _ _ hb) hn
 | fe cs ds h hn=>exact .fe cs ds h hn
 | fn f ps qs ps' qs' hl hr hl2 hr2 ih ih2 =>
  refine .fn f _ _ ps' qs' (by rw [cu]; exact hl) (fun j c q h1 h2=>?_) (by rw [cu]; exact hl2) (fun j c q h1 h2=>?_)
  ·rw [da,zm] at h1
   obtain ⟨c',h3,rfl⟩:=h1
   exact ih j c' q h3 h2
  ·rw [da,zm] at h1
   obtain ⟨c',h3,rfl⟩:=h1
   exact ih2 j c' q h3 h2
theorem aA.stale {B':List (Nat×Option aj)} {t:Nat} {cs:List SV} {qs:List PV} (h:aA B cs qs) (hB:vG t B B') : aA B' (bS t cs) qs :=
 ⟨by rw [cu]; exact h.len,fun j c q h1 h2=>by
  rw [da,zm] at h1
  obtain ⟨c',h3,rfl⟩:=h1
  exact (h.rep j c' q h3 h2).stale hB⟩
theorem vQ (hs:Sim s p) {dst:Option Nat} {v:SV} {q:PV} {t e k:Nat} {ty:Ty} {zs xs0:List ty.den} {pins0:List (Nat×Pin)} (h0:lkB s.bx t=some (.rw e k ty xs0 pins0)) (hv:al ((t,some (.rw e k ty zs []))::dE t s.bx) v q) :
  Sim (s.upd dst v (.grow t (.rw e k ty zs []))) (p.upd dst q (some (t,.rw e k (zs.map (az ty))))):=by
 have hX:vG t s.bx ((t,some (.rw e k ty zs []))::dE t s.bx):=by
  refine ⟨fun t' ht e2 k2 ty2 xs2 pins2 h=>?_,fun t' ty2 cs2 h=>?_⟩
  ·rw [ac,if_neg ht,cf,h]
   rfl
  ·have : ¬ t' = t:=fun e=>by rw [e,h0] at h; cases h
   rw [ac,if_neg this,cf,h]
   exact ⟨_,_,rfl⟩
 refine ke (fun i _=>?_) (fun t'=>?_) hv
 ·rw [kw]
  exact (hs.sl i).stale hX
 ·rw [ac]
  simp only [aW]
  split
  ·exact ⟨rfl,fun p pin h=>by cases h⟩
  ·rename_i ht
   rw [cf]
   have h:=hs.bx t'
   cases hb:lkB s.bx t' with
   | none=>rw [hb] at h; exact h
   | some b =>
    rw [hb] at h
    cases b with
    | st ty2 cs=>obtain ⟨qs,h1,h2⟩:=h; exact ⟨qs,h1,h2.stale hX⟩
    | rw e2 k2 ty2 xs2 pins2=>exact h
def cA:Option aj→Option aj→Prop
 | some (.rw e k ty xs _),b=>∃ pins',b=some (.rw e k ty xs pins')
 | a,b=>b=a
theorem cA.refl (a:Option aj) : cA a a:=by
 match a with
 | none=>rfl
 | some (.st _ _)=>rfl
 | some (.rw _ _ _ _ pins)=>exact ⟨pins,rfl⟩
theorem cA.trans {a b c:Option aj} (h:cA a b) (h':cA b c) : cA a c:=by
 match a,h with
 | none,h=>cases h; exact h'
 | some (.st _ _),h=>cases h; exact h'
 | some (.rw _ _ _ _ _),⟨pins,h⟩ =>
  subst h
  obtain ⟨pins',h'⟩:=h'
  exact ⟨pins',h'⟩
mutual
def cI (pr:List Nat) : SV→Bool
 | .row t=>af pr t
 | .re _ _ _=>false
 | .vw _ _ _=>false
 | .ag cs=>bj pr cs
 | .tup cs=>bj pr cs
 | .fn _ ps qs=>bj pr ps&&bj pr qs
 | _=>true
def bj (pr:List Nat) : List SV→Bool
 | []=>true
 | c::cs=>cI pr c&&bj pr cs
end
structure bc (sc W:List Nat) (s s':SS) : Prop where
 pr:s'.pr=s.pr
 ro:s'.ro=s.ro
 bx:∀ t,af s.pr t=true→cA (lkB s.bx t) (lkB s'.bx t)
 sl:∀ i,af W i=false→cI s.pr (lkV s.sl i)=true→lkV s'.sl i=lkV s.sl i
 st:∀ t,af sc t=true→∀ ty cs,lkB s.bx t=some (.st ty cs)→∃ cs',lkB s'.bx t=some (.st ty cs')∧cs'.length=cs.length
variable {sc:List Nat}
theorem bc.refl (W:List Nat) (s:SS) : bc sc W s s:=⟨rfl,rfl,fun _ _=>.refl _,fun _ _ _=>rfl,fun _ _ _ cs h=>⟨cs,h,rfl⟩⟩
theorem bc.trans {W:List Nat} {s s' s'':SS} (h:bc sc W s s') (h':bc sc W s' s'') : bc sc W s s'' :=
 ⟨h'.pr.trans h.pr,h'.ro.trans h.ro,fun t ht=>(h.bx t ht).trans (h'.bx t (by rw [h.pr]; exact ht)),fun i hi hsf=>by
  have e:=h.sl i hi hsf
  rw [h'.sl i hi (by rw [e,h.pr]; exact hsf),e],fun t ht ty cs h1=>by
  obtain ⟨cs1,h2,h3⟩:=h.st t ht ty cs h1
  obtain ⟨cs2,h4,h5⟩:=h'.st t ht ty cs1 h2
  exact ⟨cs2,h4,h5.trans h3⟩⟩
theorem bc.wide {W W':List Nat} {s s':SS} (h:bc sc W s s') (hW:∀ i,af W i=true→af W' i=true) : bc sc W' s s' :=
 ⟨h.pr,h.ro,h.bx,fun i hi hsf=>h.sl i (by cases e:af W i; rfl; rw [hW i e] at hi; cases hi) hsf,h.st⟩
theorem jz {s:SS} {t:Nat} (h:wrB s t=true) : s.ro=false∧af s.pr t=false:=by
 unfold wrB at h
 split at h
 ·cases h
 ·rename_i h1; exact ⟨h1,by simpa using h⟩
theorem dh {s:SS} {t:Nat} (h:pF s t=true) : af s.oc t=false∧af s.pr t=false:=by
 unfold pF at h
 split at h
 ·cases h
 ·rename_i h1; exact ⟨h1,by simpa using h⟩
def OkU (s:SS) : Upd→Prop
 | .no=>True
 | .new t _=>af s.pr t=false∧lkB s.bx t=none
 | .set t b=>af s.pr t=false∧∀ ty cs,lkB s.bx t=some (.st ty cs)→∃ cs',b = .st ty cs'∧cs'.length=cs.length
 | .grow t _=>af s.pr t=false∧∀ ty cs,lkB s.bx t≠some (.st ty cs)
 | .pin t b=>cA (lkB s.bx t) (some b)
def OkW (s:SS) (dst:Option Nat) (u:Upd) (w:Option (Nat×Box)) : Prop:=∀ t b,w=some (t,b)→((lkB s.bx t=none∧dst=some t)∨s.ro=false)∧bt.memL (vL u) t=true
theorem a8 {s:SS} {dst:Option Nat} {u:Upd} : OkW s dst u none:=fun _ _ h=>by cases h
theorem mN (t:Nat) : bt.memL [t] t=true:=by rw [ku]; simp
theorem jJ {s:SS} {dst:Option Nat} {t:Nat} {b:Box} {sb:aj} (h:lkB s.bx t=none) (hd:dst=some t) : OkW s dst (.new t sb) (some (t,b)):=fun t' b' e=>by injection e with e; injection e with e1 e2; subst e1; exact ⟨.inl ⟨h,hd⟩,mN t⟩
theorem sK {s:SS} {dst:Option Nat} {t:Nat} {b:Box} {sb:aj} (h:s.ro=false) : OkW s dst (.set t sb) (some (t,b)):=fun t' b' e=>by injection e with e; injection e with e1 e2; subst e1; exact ⟨.inr h,mN t⟩
theorem y7 {s:SS} {dst:Option Nat} {t:Nat} {b:Box} {sb:aj} (h:s.ro=false) : OkW s dst (.grow t sb) (some (t,b)):=fun t' b' e=>by injection e with e; injection e with e1 e2; subst e1; exact ⟨.inr h,mN t⟩
theorem mL {pr:List Nat} {t t':Nat} (ht:af pr t=false) (h:af pr t' = true) : ¬ t' = t:=fun e=>by rw [e,ht] at h; cases h
mutual
theorem mh {pr:List Nat} {t:Nat} (ht:af pr t=false) : ∀ v:SV,cI pr v=true→stale t v=v
 | .junk,_=>rfl
 | .d _,_=>rfl
 | .fe _,_=>rfl
 | .ptr _ _,_=>rfl
 | .row t',h=>by
  have:=mL ht (show af pr t' = true from h)
  simp only [stale,aP,this,decide_false]
 | .re _ _ _,h=>by cases h
 | .vw _ _ _,h=>by cases h
 | .ag cs,h=>by simp only [stale]; rw [dv ht cs h]
 | .tup cs,h=>by simp only [stale]; rw [dv ht cs h]
 | .fn f ps qs,h=>by
  have h:(bj pr ps&&bj pr qs)=true:=h
  rw [Bool.and_eq_true] at h
  simp only [stale]; rw [dv ht ps h.1,dv ht qs h.2]
theorem dv {pr:List Nat} {t:Nat} (ht:af pr t=false) : ∀ cs:List SV,bj pr cs=true→bS t cs=cs
 | [],_=>rfl
 | c::cs,h=>by
  simp only [bj,Bool.and_eq_true] at h
  simp only [bS]
  rw [mh ht c h.1,dv ht cs h.2]
end
mutual
theorem qp {t:Nat} : ∀ v:SV,ep v=true→stale t v=v
 | .junk,_=>rfl
 | .d _,_=>rfl
 | .fe _,_=>rfl
 | .ptr _ _,_=>rfl
 | .row _,h=>by cases h
 | .re _ _ _,h=>by cases h
 | .vw _ _ _,h=>by cases h
 | .ag cs,h=>by simp only [stale]; rw [cd cs h]
 | .tup cs,h=>by simp only [stale]; rw [cd cs h]
 | .fn f ps qs,h=>by
  have h:(match aH ps with | true=>aH qs | false=>false)=true:=h
  split at h
  ·rename_i h1; simp only [stale]; rw [cd ps h1,cd qs h]
  ·cases h
theorem cd {t:Nat} : ∀ cs:List SV,aH cs=true→bS t cs=cs
 | [],_=>rfl
 | c::cs,h=>by
  simp only [aH] at h
  split at h
  ·rename_i h1
   simp only [bS]
   rw [qp c h1,cd cs h]
  ·cases h
end
def cY (s:SS) : Prop:=∀ t,af s.pr t=true→∃ b,lkB s.bx t=some b∧jG b=true
theorem bc.prOk {W:List Nat} {s s':SS} (h:bc sc W s s') (hp:cY s) : cY s':=by
 intro t ht
 rw [h.pr] at ht
 obtain ⟨b,h1,h2⟩:=hp t ht
 have:=h.bx t ht
 rw [h1] at this
 cases b with
 | st ty cs=>exact ⟨_,this,h2⟩
 | rw e k ty xs pins =>
  obtain ⟨pins',h3⟩:=this
  exact ⟨_,h3,rfl⟩
theorem jR {W:List Nat} {dst:Option Nat} {v:SV} {u:Upd} (hu:OkU s u) (hW:∀ d,dst=some d→af W d=true) (hpr:cY s) : bc sc W s (s.upd dst v u):=by
 have sl:∀ i,af W i=false→lkV (fO s.sl dst v) i=lkV s.sl i:=fun i hi=>by
  rw [iw,if_neg (fun e=>by rw [hW i e] at hi; cases hi)]
 have one:∀ t b,af s.pr t=false→∀ t',af s.pr t' = true→cA (lkB s.bx t') (lkB ((t,some b)::s.bx) t'):=fun t b ht t' ht'=>by
  rw [ac,if_neg (fun e=>by rw [e,ht] at ht'; cases ht')]
  exact .refl _
 cases u with
 | no=>exact ⟨rfl,rfl,fun _ _=>.refl _,fun i hi _=>sl i hi,fun _ _ _ cs h=>⟨cs,h,rfl⟩⟩
 | new t b =>
  refine ⟨rfl,rfl,one t b hu.1,fun i hi _=>sl i hi,fun t' _ ty cs h=>⟨cs,?_,rfl⟩⟩
  show lkB ((t,some b)::s.bx) t' = _
  rw [ac,if_neg (fun e=>by rw [e,hu.2] at h; cases h)]
  exact h
 | set t b =>
  refine ⟨rfl,rfl,one t b hu.1,fun i hi _=>sl i hi,fun t' _ ty cs h=>?_⟩
  show ∃ cs',lkB ((t,some b)::s.bx) t' = _∧_
  rw [ac]
  by_cases e:t' = t
  ·rw [if_pos e]
   rw [e] at h
   obtain ⟨cs',h1,h2⟩:=hu.2 ty cs h
   exact ⟨cs',by rw [h1],h2⟩
  ·rw [if_neg e]; exact ⟨cs,h,rfl⟩
 | pin t b =>
  refine ⟨rfl,rfl,fun t' _=>?_,fun i hi _=>sl i hi,fun t' _ ty cs h=>?_⟩
  ·show cA _ (lkB ((t,some b)::s.bx) t')
   rw [ac]
   split
   ·rename_i e; subst e; exact hu
   ·exact .refl _
  ·show ∃ cs',lkB ((t,some b)::s.bx) t' = _∧_
   rw [ac]
   by_cases e:t' = t
   ·rw [if_pos e]
    have hu:cA (lkB s.bx t) (some b):=hu
    rw [← e,h] at hu
    exact ⟨cs,hu,rfl⟩
   ·rw [if_neg e]; exact ⟨cs,h,rfl⟩
 | grow t b =>
  refine ⟨rfl,rfl,fun t' ht'=>?_,fun i hi hsf=>?_,fun t' _ ty cs h=>?_⟩
  ·show cA _ (lkB ((t,some b)::dE t s.bx) t')
   rw [ac,if_neg (fun e=>by rw [e,hu.1] at ht'; cases ht'),cf]
   obtain ⟨b',h1,h2⟩:=hpr t' ht'
   rw [h1]
   cases b' with
   | st ty cs=>simp only [Option.map_some,qq]; rw [cd cs h2]; rfl
   | rw e k ty xs pins=>exact ⟨pins,rfl⟩
  ·show lkV (fO (mi t s.sl) dst v) i = _
   rw [iw,if_neg (fun e=>by rw [hW i e] at hi; cases hi),kw]
   exact mh hu.1 _ hsf
  ·show ∃ cs',lkB ((t,some b)::dE t s.bx) t' = _∧_
   rw [ac,if_neg (fun e=>hu.2 ty cs (by rw [← e]; exact h)),cf,h]
   exact ⟨_,rfl,cu t cs⟩
end
section
variable {B:List (Nat×Option aj)} {s:SS} {p:PS} {P:Program} {ρ : Type}
theorem o6 {v:Value} {c:SD} (h:o7 v=some c) : qi c (.v v)∧v.oneCell' = true:=by
 unfold o7 at h
 split at h
 ·injection h with h; subst h; exact ⟨rfl,rfl⟩
 ·injection h with h; subst h; exact ⟨rfl,rfl⟩
 ·injection h with h; subst h; exact ⟨rfl,rfl⟩
 ·injection h with h; subst h; exact ⟨rfl,rfl⟩
 ·cases h
theorem ju {B:List (Nat×Option aj)} : ∀ {l:List Value} {cs:List SV},nQ l=some cs→aA B cs (l.map fun x=>.d (.v x))∧∀ x∈l,x.oneCell' = true
 | [],cs,h=>by injection h with h; subst h; exact ⟨.nil,fun x hx=>by cases hx⟩
 | v::l,cs,h=>by
  simp only [nQ] at h
  split at h
  ·rename_i c cs' h1 h2
   injection h with h
   subst h
   obtain ⟨k1,k2⟩:=o6 h1
   obtain ⟨k3,k4⟩:=ju h2
   refine ⟨.cons (.d _ _ k1) k3,fun x hx=>?_⟩
   rcases List.mem_cons.1 hx with rfl | hx
   ·exact k2
   ·exact k4 x hx
  ·cases h
theorem xO {v:Value} (e:mJ v = .d (.v v)) : al B (match o7 v with | some c=>.d c | none=>.junk) (mJ v):=by
 split
 ·rename_i c h
  rw [e]
  exact .d _ _ (o6 h).1
 ·exact .junk _
theorem nK (v:Value) : al B (p7 v) (mJ v):=by
 have key:=xO (B:=B) (v:=v)
 cases v with
 | agg xs =>
  simp only [p7]
  split
  ·rename_i cs h
   obtain ⟨h1,h2⟩:=ju (B:=B) h
   have:xs.all (·.oneCell')=true:=by
    rw [← Array.all_toList,List.all_eq_true]
    exact h2
   simp only [mJ,this,if_true]
   exact .ag _ _ h1.len h1.rep
  ·exact .junk _
 | tuple xs=>exact .junk _
 | _=>exact key rfl
theorem ay (hs:Sim s p) (x:Operand) : al s.bx (evX s x) (ev p x):=by
 cases x with
 | tmp i=>exact hs.sl i
 | const v=>exact nK v
 | global g=>exact .junk _
 | func f=>exact .fn f [] [] [] [] rfl (fun j c q h=>by simp at h) rfl (fun j c q h=>by simp at h)
theorem ck {k:IntKind} {x:Int} {q:PV} (h:al B (.d (.int k x)) q) : q = .d (.v (.int k x)):=by
 cases h with
 | d c y h=>rw [wl (show nrm y = .v _ from h)]
theorem cG {x:Bool} {q:PV} (h:al B (.d (.bool x)) q) : q = .d (.v (.bool x)):=by
 cases h with
 | d c y h=>rw [wl (show nrm y = .v _ from h)]
theorem eY {x:ByteArray} {q:PV} (h:al B (.d (.str x)) q) : q = .d (.v (.string x)):=by
 cases h with
 | d c y h=>rw [wl (show nrm y = .v _ from h)]
theorem tr {q:PV} (h:al B (.d .nl) q) : q = .d (.v (.slice none 0 0)):=by
 cases h with
 | d c y h=>rw [show y = .v (.slice none 0 0) from h]
theorem tq {ty:Ty} {xs:List ty.den} {q:PV} (h:al B (.d (.sl ty xs)) q) : q = .d (.sl (xs.map (az ty)))∨(xs = []∧q = .d (.v (.slice none 0 0))):=by
 cases h with
 | d c y h =>
  rcases y9 (show nrm y = .sl _ from h) with h | ⟨h1,h2⟩
  ·rw [h]; exact .inl rfl
  ·rw [h2]; exact .inr ⟨by simpa using h1,rfl⟩
theorem l8 {cs:List SV} {q:PV} (h:al B (.ag cs) q) : ∃ qs,q = .ag qs∧aA B cs qs:=by
 cases h with
 | ag _ qs hl hr=>exact ⟨qs,rfl,hl,hr⟩
theorem vH {cs:List SV} {q:PV} (h:al B (.tup cs) q) : ∃ qs,q = .tup qs∧aA B cs qs:=by
 cases h with
 | tup _ qs hl hr=>exact ⟨qs,rfl,hl,hr⟩
theorem bz (k:IntKind) (x:Int) : al B (.d (.int k x)) (.d (.v (.int k x))):=.d _ _ rfl
theorem bp (x:Bool) : al B (.d (.bool x)) (.d (.v (.bool x))):=.d _ _ rfl
theorem iK (x:ByteArray) : al B (.d (.str x)) (.d (.v (.string x))):=.d _ _ rfl
theorem se (ty:Ty) (xs:List ty.den) : al B (.d (.sl ty xs)) (.d (.sl (xs.map (az ty)))):=.d _ _ rfl
theorem py (hs:Sim s p) {t:Nat} {q:PV} {c:SD} (hv:al s.bx (.row t) q) (h:xF s t=some c) : ∃ e k ty xs pins,lkB s.bx t=some (.rw e k ty xs pins)∧c = .sl ty xs∧q = .row t xs.length∧p.b t=some (.rw e k (xs.map (az ty))):=by
 unfold xF at h
 split at h
 ·rename_i e k ty xs pins hb
  injection h with h
  have hbx:=hs.bx t
  rw [hb] at hbx
  cases hv with
  | row _ n e2 k2 ty2 xs2 pins2 hb2 hn =>
   rw [hb] at hb2
   injection hb2 with hb2
   injection hb2 with e1 e2 e3 e4 e5
   subst e3
   have e4:=eq_of_heq e4
   subst e4
   exact ⟨e,k,ty,xs,pins,hb,h.symm,by rw [hn],hbx.1⟩
 ·cases h
theorem p5 (hs:Sim s p) {v:SV} {q:PV} {ty:Ty} {xs:List ty.den} (hv:al s.bx v q) (h:fD s v=some (.sl ty xs)) : cF p.b q=some (xs.map (az ty)):=by
 unfold fD at h
 split at h
 ·injection h with h
  subst h
  rcases tq hv with rfl | ⟨rfl,rfl⟩
  ·rfl
  ·simp [cF]
 ·obtain ⟨e,k,ty2,xs2,pins,h1,h2,rfl,h4⟩:=py hs hv h
  injection h2 with e1 e2
  subst e1
  have e2:=eq_of_heq e2
  subst e2
  simp [cF,h4]
 ·cases h
theorem yr {v:SV} {q:PV} (hv:al s.bx v q) (h:fD s v=some .nl) : q = .d (.v (.slice none 0 0)):=by
 unfold fD at h
 split at h
 ·injection h with h
  subst h
  exact tr hv
 ·unfold xF at h
  split at h
  ·injection h with h; cases h
  ·cases h
 ·cases h
theorem xc (hs:Sim s p) {v:SV} {q:PV} {c:SD} (hv:al s.bx v q) (h:fD s v=some c) : asData p.b q = .d c.toD∧(ep v=true→clean q=true∧asData bg q = .d c.toD):=by
 unfold fD at h
 split at h
 ·injection h with h
  subst h
  cases hv with
  | d c y h=>simp only [asData,h.nrm,clean,and_self,implies_true]
 ·obtain ⟨e,k,ty2,xs2,pins,h1,rfl,rfl,h4⟩:=py hs hv h
  refine ⟨by simp [asData,h4,SD.toD],fun h=>by simp [ep] at h⟩
 ·cases h
theorem ut (hs:Sim s p) : ∀ {cs:List SV} {qs:List PV} {ds:List SD},aA s.bx cs qs→pZ s cs=some ds→av p.b qs=ds.map (fun c=>.d c.toD)∧(aH cs=true→aU qs=true∧av bg qs=ds.map (fun c=>.d c.toD))
 | [],qs,ds,h,hd=>by
  rcases h.cases with ⟨_,rfl⟩ | ⟨_,_,_,_,h1,_⟩
  ·injection hd with hd; subst hd; simp [av,aU]
  ·cases h1
 | c::cs,qs,ds,h,hd=>by
  rcases h.cases with ⟨h1,_⟩ | ⟨c',q,cs',qs',h1,rfl,h2,h3⟩
  ·cases h1
  ·injection h1 with e1 e2
   subst e1 e2
   simp only [pZ] at hd
   split at hd
   ·rename_i d ds' k1 k2
    injection hd with hd
    subst hd
    obtain ⟨m1,m2⟩:=xc hs h2 k1
    obtain ⟨m3,m4⟩:=ut hs h3 k2
    refine ⟨by simp [av,m1,m3],fun hn=>?_⟩
    simp only [aH] at hn
    split at hn
    ·rename_i hn1
     obtain ⟨n1,n2⟩:=m2 hn1
     obtain ⟨n3,n4⟩:=m4 hn
     simp [av,aU,n1,n2,n3,n4]
    ·cases hn
   ·cases hd
theorem kP {v:SV} {q:PV} {cs:List SV} (hv:al B v q) (h:qa v=some cs) : ∃ qs,kQ q=some qs∧aA B cs qs:=by
 cases hv with
 | junk q=>cases h
 | tup=>cases h
 | ag cs' qs hl hr=>injection h with h; subst h; exact ⟨qs,rfl,hl,hr⟩
 | d c y hd=>injection h with h; subst h; exact ⟨_,rfl,.cons (.d c y hd) .nil⟩
 | ptr t o ty cs' hb=>injection h with h; subst h; exact ⟨_,rfl,.cons (.ptr t o ty cs' hb) .nil⟩
 | row t n e k ty xs pins hb hn=>injection h with h; subst h; exact ⟨_,rfl,.cons (.row t n e k ty xs pins hb hn) .nil⟩
 | re t p o n i e k ty xs pins pin hb hn hp hi=>injection h with h; subst h; exact ⟨_,rfl,.cons (.re t p o n i e k ty xs pins pin hb hn hp hi) .nil⟩
 | vw t lo hi n e k ty xs pins hb hn=>injection h with h; subst h; exact ⟨_,rfl,.cons (.vw t lo hi n e k ty xs pins hb hn) .nil⟩
 | fe cs' ds hd hn=>injection h with h; subst h; exact ⟨_,rfl,.cons (.fe cs' ds hd hn) .nil⟩
 | fn f ps qs ps' qs' hl hr hl2 hr2=>injection h with h; subst h; exact ⟨_,rfl,.cons (.fn f ps qs ps' qs' hl hr hl2 hr2) .nil⟩
theorem qH {cs:List SV} {qs:List PV} (h:aA B cs qs) {size:Nat} {agg:Bool} {v:SV} (hp:tF size agg cs=some v) : ∃ q,lb size agg qs=some q∧al B v q:=by
 unfold tF at hp
 unfold lb
 split at hp
 ·rename_i ha
  rw [if_pos ha]
  split at hp
  ·rename_i hl
   injection hp with hp
   subst hp
   rw [h.len] at hl
   rw [if_pos hl]
   have:=h.take size
   exact ⟨_,rfl,.ag _ _ this.len this.rep⟩
  ·cases hp
 ·rename_i ha
  rw [if_neg ha]
  rcases h.cases with ⟨rfl,rfl⟩ | ⟨c,q,cs',qs',rfl,rfl,h1,h2⟩
  ·cases hp
  ·injection hp with hp; subst hp; exact ⟨q,rfl,h1⟩
theorem mO (cs:List SD) (h:∀ c∈cs,c≠.nl) : aA B (kv cs) ((cs.map SD.toD).map .d):=by
 induction cs with
 | nil=>exact .nil
 | cons c cs ih=>exact .cons (.d _ _ (qi.of (h c List.mem_cons_self))) (ih fun c hc=>h c (List.mem_cons_of_mem _ hc))
end
section
variable {B:List (Nat×Option aj)} {s:SS} {p:PS} {P:Program} {ρ : Type}
def jy (s:SS) (k:SV→Option ρ) (res : ρ) (e:Option PV) : Prop:=∃ v q,e=some q∧k v=some res∧al s.bx v q
theorem a7 {k:SV→Option ρ} {res : ρ} {e:Option PV} {v:SV} {q:PV} (he:e=some q) (hk:k v=some res) (hv:al s.bx v q) : jy s k res e:=⟨v,q,he,hk,hv⟩
theorem wx {x:Operand} {n:Int} {kd:IntKind} {y:Int} (h:wC x=some n) (hy:evX s x = .d (.int kd y)) : y=n:=by
 unfold wC at h
 split at h
 ·injection h with h
  subst h
  simp only [evX,p7,o7] at hy
  injection hy with hy
  injection hy with _ hy
  exact hy.symm
 ·cases h
theorem vB {op:BinOp} {kd:IntKind} {lit:Option Int} {x y:Int} {k:SV→Option ρ} {res : ρ} (hl:∀ n,lit=some n→y=n) (h:te op kd lit x y k=some res) : jy s k res (j5 op kd x y):=by
 cases op <;> simp only [te] at h
 case add=>exact a7 rfl h (bz _ _)
 case sub=>exact a7 rfl h (bz _ _)
 case mul=>exact a7 rfl h (bz _ _)
 case quo =>
  split at h
  ·rename_i n
   obtain ⟨h1,h2⟩:=aa h
   have hy:=hl n rfl
   subst hy
   have : ¬ y=0:=by simpa using h1
   exact a7 (by simp [j5,this]) h2 (bz _ _)
  ·obtain ⟨q,h1,h2⟩:=aK h
   split at h1
   ·cases h1
   ·rename_i hy
    injection h1 with h1
    subst h1
    exact a7 (by simp [j5,hy]) h2 (bz _ _)
 case rem =>
  split at h
  ·rename_i n
   obtain ⟨h1,h2⟩:=aa h
   have hy:=hl n rfl
   subst hy
   have : ¬ y=0:=by simpa using h1
   exact a7 (by simp [j5,this]) h2 (bz _ _)
  ·obtain ⟨q,h1,h2⟩:=aK h
   unfold xH at h1
   split at h1
   ·cases h1
   ·rename_i hy
    injection h1 with h1
    subst h1
    exact a7 (by simp [j5,hy]) h2 (bz _ _)
 case eql=>exact a7 rfl h (bp _)
 case neq=>exact a7 rfl h (bp _)
 case lss=>exact a7 rfl h (bp _)
 case leq=>exact a7 rfl h (bp _)
 case gtr=>exact a7 rfl h (bp _)
 case geq=>exact a7 rfl h (bp _)
 case and=>exact a7 rfl h (bz _ _)
 case or=>exact a7 rfl h (bz _ _)
 case xor=>exact a7 rfl h (bz _ _)
 all_goals cases h
theorem uF {op:BinOp} {kd:IntKind} {lit:Option Int} {x y:Int} {k:SV→Option ρ} {res : ρ} (hl:∀ n,lit=some n→y=n) (h:ss op kd lit x y k=some res) : jy s k res (fR op kd x y):=by
 unfold ss at h
 split at h
 ·rename_i n
  obtain ⟨h1,h2⟩:=aa h
  have hy:=hl n rfl
  subst hy
  have : ¬ y < 0:=by have:=zd h1; omega
  split at h2
  ·exact a7 (by simp [fR,this]) h2 (bz _ _)
  ·exact a7 (by simp [fR,this]) h2 (bz _ _)
  ·cases h2
 ·obtain ⟨u,h1,h2⟩:=aK h
  split at h1
  ·cases h1
  ·rename_i hy
   split at h2
   ·exact a7 (by simp [fR,hy]) h2 (bz _ _)
   ·exact a7 (by simp [fR,hy]) h2 (bz _ _)
   ·cases h2
theorem uB {op:BinOp} {x y:ByteArray} {k:SV→Option ρ} {res : ρ} (h:sj op x y k=some res) : jy s k res (qn op x y):=by
 cases op <;> simp only [sj] at h
 case add =>
  obtain ⟨z,h1,h2⟩:=aK h
  unfold yC at h1
  split at h1
  ·rename_i hz
   injection h1 with h1
   subst h1
   exact a7 (by simp only [qn,hz,if_true]) h2 (iK _)
  ·cases h1
 case eql=>exact a7 rfl h (bp _)
 case neq=>exact a7 rfl h (bp _)
 case lss=>exact a7 rfl h (bp _)
 case leq=>exact a7 rfl h (bp _)
 case gtr=>exact a7 rfl h (bp _)
 case geq=>exact a7 rfl h (bp _)
 all_goals cases h
theorem sf {op:BinOp} {x y:Bool} {k:SV→Option ρ} {res : ρ} (h:pm op x y k=some res) : jy s k res (eZ op x y):=by
 cases op <;> simp only [pm] at h
 case eql=>exact a7 rfl h (bp _)
 case neq=>exact a7 rfl h (bp _)
 all_goals cases h
theorem oM:∀ {l m:List Nat},pO l m=true→l=m
 | [],[],_=>rfl
 | [],_ :: _,h=>by cases h
 | _ :: _,[],h=>by cases h
 | a::l,b::m,h=>by
  simp only [pO,aP] at h
  by_cases e:a=b
  ·simp only [e,decide_true] at h; rw [e,oM h]
  ·simp only [e,decide_false] at h; cases h
theorem oN {c d:SD} {q w:PV} {n:Nat} {r:Bool} (hc:al B (.d c) q) (hd:al B (.d d) w) (hn:sO (.d c)=some n) (h:gc c d=some r) : kH n q w=some r:=by
 cases c with
 | int k a =>
  cases d <;> simp only [gc] at h <;> try cases h
  rw [ck hc,ck hd]
  injection hn with hn
  subst hn
  exact h
 | bool a =>
  cases d <;> simp only [gc] at h <;> try cases h
  rw [cG hc,cG hd]
  injection hn with hn
  subst hn
  rfl
 | str a =>
  cases d <;> simp only [gc] at h <;> try cases h
  rw [eY hc,eY hd]
  injection hn with hn
  subst hn
  rfl
 | sl t xs=>cases hn
 | nl=>cases hn
theorem yd:∀ {cs ds:List SV} {qs ws:List PV} {l:List Nat} {r:Bool},aA B cs qs→aA B ds ws→lV cs=some l→lq cs ds=some r→cq l qs ws=some r:=by
 intro cs
 induction cs with
 | nil=>intro ds qs ws l r _ _ _ h; cases ds <;> simp [lq] at h
 | cons c cs ih =>
  intro ds qs ws l r hc hd hl h
  rcases hc.cases with ⟨h1,_⟩ | ⟨c',q,cs',qs',h1,rfl,hcq,hcs⟩
  ·cases h1
  injection h1 with e1 e2
  subst e1 e2
  rcases hd.cases with ⟨rfl,_⟩ | ⟨d,w,ds',ws',rfl,rfl,hdw,hds⟩
  ·cases c <;> cases cs <;> simp [lq] at h
  simp only [lV] at hl
  split at hl
  ·rename_i n l' hn hl'
   injection hl with hl
   subst hl
   cases c with
   | d c =>
    cases d with
    | d d =>
     by_cases hlast:cs = []∧ds' = []
     ·obtain ⟨rfl,rfl⟩:=hlast
      simp only [lq] at h
      have:=oN hcq hdw hn h
      rcases hcs.cases with ⟨_,rfl⟩ | ⟨_,_,_,_,h1,_⟩
      ·rcases hds.cases with ⟨_,rfl⟩ | ⟨_,_,_,_,h1,_⟩
       ·injection hl' with hl'
        subst hl'
        simp [cq,this]
       ·cases h1
      ·cases h1
     ·have h:(match gc c d,lq cs ds' with | some a,some r=>some (a&&r) | _,_=>none)=some r:=by
       cases cs with
       | nil=>cases ds' with
        | nil=>exact absurd ⟨rfl,rfl⟩ hlast
        | cons=>exact h
       | cons=>exact h
      split at h
      ·rename_i a r' k1 k2
       injection h with h
       subst h
       simp [cq,oN hcq hdw hn k1,ih hcs hds hl' k2]
      ·cases h
    | _=>cases cs <;> simp [lq] at h
   | _=>simp [sO] at hn
  ·cases hl
theorem yw {op:BinOp} {t:TypeId} {lit:Option Int} {v w:SV} {q r:PV} {k:SV→Option ρ} {res : ρ} (hv:al s.bx v q) (hw:al s.bx w r) (hl:∀ n kd y,lit=some n→w = .d (.int kd y)→y=n) (h:zC P op t lit v w k=some res) : jy s k res (gl P op t q r):=by
 unfold zC at h
 split at h
 ·rename_i kd x kd' y
  obtain rfl:=ck hv
  obtain rfl:=ck hw
  have e:gl P op t (.d (.v (.int kd x))) (.d (.v (.int kd' y)))=if pK op then fR op kd x y else if kd=kd' then j5 op kd x y else none:=rfl
  rw [e]
  split at h
  ·rename_i hs
   rw [if_pos hs]
   exact uF (fun n hn=>hl n kd' y hn rfl) h
  ·rename_i hs
   rw [if_neg (by simp [hs])]
   split at h
   ·rename_i hk
    rw [if_pos hk]
    exact vB (fun n hn=>hl n kd' y hn rfl) h
   ·cases h
 ·obtain rfl:=eY hv
  obtain rfl:=eY hw
  exact uB h
 ·obtain rfl:=cG hv
  obtain rfl:=cG hw
  split at h
  ·rename_i hu
   rename_i x y _
   have e:gl P op t (.d (.v (.bool x))) (.d (.v (.bool y)))=eZ op x y:=by simp [gl,asI,asS,asB,hu]
   rw [e]
   exact sf h
  ·cases h
 ·rename_i xs ys
  obtain ⟨qs,rfl,hq⟩:=l8 hv
  obtain ⟨ws,rfl,hws⟩:=l8 hw
  split at h
  ·rename_i l l' r h1 h2 h3
   obtain ⟨h4,h5⟩:=aa h
   obtain rfl:=oM h4
   have h6:=yd hq hws h2 h3
   have e:gl P op t (.ag qs) (.ag ws)=eZ op r true:=by simp [gl,asI,asS,asB,pT,h1,h6]
   rw [e]
   split at h5
   ·exact a7 (by simp [eZ]) h5 (bp _)
   ·exact a7 (by simp [eZ]) h5 (bp _)
   ·cases h5
  ·cases h
 ·cases h
theorem yU {op:UnOp} {v:SV} {q:PV} {k:SV→Option ρ} {res : ρ} (hv:al s.bx v q) (h:unX op v k=some res) : jy s k res (un op q):=by
 unfold unX at h
 split at h
 ·obtain rfl:=cG hv; exact a7 rfl h (bp _)
 ·obtain rfl:=ck hv; exact a7 rfl h (bz _ _)
 ·cases h
theorem lu:∀ (xs:List Int) (acc:ByteArray),iC (List.map (az (.int .u8)) xs) acc=some (xs.foldl (fun r n=>r.push (UInt8.ofNat n.toNat)) acc)
 | [],acc=>rfl
 | x::xs,acc=>lu xs (acc.push (UInt8.ofNat x.toNat))
theorem nz {b:Nat→Option Box} {src dst e:TypeId} {q:PV} {x:Int} {xs:List Int} (h1:P.underlying src=some (.slice e)) (h2:P.underlying dst=some .string) (h3:P.underlying e=some (.int .u8)) (h4:cF b q=some (List.map (az (.int .u8)) (x::xs))) :
  bN P b src dst q=(iC (List.map (az (.int .u8)) (x::xs)) ByteArray.empty).map fun s=>.d (.v (.string s)):=by
 unfold bN
 rw [h1,h2]
 simp only [h3,h4]
 rfl
theorem nx {b:Nat→Option Box} {src dst:TypeId} {q:PV} {u:TypeDesc} (h1:P.underlying src=some u) (hne:∀ e,u = .slice e→False) : bN P b src dst q=gh P src dst q:=by
 unfold bN
 split
 ·rename_i e h3 h4
  rw [h1] at h3
  injection h3 with h3
  exact absurd h3 (hne e)
 ·rfl
theorem xi (hs:Sim s p) {src dst:TypeId} {v:SV} {q:PV} {k:SV→Option ρ} {res : ρ} (hv:al s.bx v q) (h:xj P s src dst v k=some res) : jy s k res (bN P p.b src dst q):=by
 unfold xj at h
 split at h
 ·cases h
 ·rename_i e h1
  split at h
  ·rename_i h2
   split at h
   ·rename_i xs h3 h4
    obtain ⟨z,h5,h6⟩:=aK h
    have h7:=p5 hs hv h4
    unfold zJ at h5
    split at h5
    ·cases h5
    ·rename_i hne
     injection h5 with h5
     cases xs with
     | nil=>exact absurd rfl hne
     | cons x xs =>
      refine a7 ?_ h6 (iK _)
      rw [nz h1 h2 h3 h7]
      exact congrArg (Option.map _) ((lu _ _).trans (congrArg some h5))
   ·cases h
  ·cases h
 ·rename_i u hne h1
  rw [show bN P p.b src dst q=gh P src dst q from nx h1 (fun e he=>hne e he)]
  split at h
  ·rename_i h2
   obtain rfl:=ck hv
   exact a7 (by simp [gh,h1,h2,asI]) h (bz _ _)
  ·rename_i h2
   obtain rfl:=eY hv
   exact a7 (by simp [gh,h1,h2,asS]) h (iK _)
  ·cases h
theorem oa {t:TypeId} {f:Nat} {v:SV} {q:PV} {k:SV→Option ρ} {res : ρ} (hv:al s.bx v q) (h:jm P t v f k=some res) : jy s k res (bJ P t q f):=by
 unfold jm at h
 split at h
 ·rename_i off size agg hf
  obtain ⟨h1,h2⟩:=aa h
  have hsz : ¬ size=0:=by simpa using h1
  split at h2
  ·cases hv with
   | ptr _ _ ty cs hb=>exact a7 (by simp [bJ,hf,hsz]) h2 (.ptr _ _ ty cs hb)
  ·cases hv with
   | fe cs ds hd hn=>exact a7 (q:=.fe (ds.drop off)) (by simp [bJ,hf,hsz]) h2 (.fe _ _ (by rw [hd,List.map_drop]) (fun c hc=>hn c (List.mem_of_mem_drop hc)))
  ·cases hv with
   | re _ _ _ n i e k ty xs pins pin hb hn hp hi=>exact a7 (q:=.re _ n i (_ + off)) (by simp [bJ,hf,hsz]) h2 (.re _ _ _ n i e k ty xs pins pin hb hn hp hi)
  ·cases h2
 ·cases h
theorem xQ {v:SV} {q:PV} {k:SV→Option ρ} {res : ρ} (hv:al s.bx v q) (h:zc v k=some res) : jy s k res (jn q):=by
 unfold zc at h
 split at h
 ·cases hv with
  | ptr _ _ ty cs hb=>exact a7 (by simp [jn]) h (.ptr _ _ ty cs hb)
 ·cases hv with
  | re _ _ _ n i e k ty xs pins pin hb hn hp hi=>exact a7 (q:=.re _ n i _) (by simp [jn]) h (.re _ _ _ n i e k ty xs pins pin hb hn hp hi)
 ·cases hv with
  | fe cs ds hd hn=>exact a7 (q:=.fe ds) (by simp [jn]) h (.fe _ _ hd hn)
 ·cases h
theorem vf {t:TypeId} {f:Nat} {v:SV} {q:PV} {k:SV→Option ρ} {res : ρ} (hv:al s.bx v q) (h:sS P t v f k=some res) : jy s k res (gZ P t q f):=by
 unfold sS at h
 split at h
 ·rename_i off size agg cs hf
  obtain ⟨qs,rfl,hq⟩:=l8 hv
  split at h
  ·rename_i v' h1
   obtain ⟨q',h2,h3⟩:=qH (hq.drop off) h1
   exact a7 (by simp [gZ,hf,h2]) h h3
  ·cases h
 ·cases h
theorem xw (hs:Sim s p) {v:SV} {q:PV} {cs:List SV} (hv:al s.bx v q) (h:xx s v=some cs) : ∃ qs,ia p.b q=some qs∧aA s.bx cs qs:=by
 unfold xx at h
 split at h
 ·rename_i t off
  cases hv
  split at h
  ·rename_i ty cs' hb
   injection h with h
   subst h
   have:=hs.bx t
   rw [hb] at this
   obtain ⟨qs,h1,h2⟩:=this
   exact ⟨qs.drop off,by simp [ia,h1],h2.drop off⟩
  ·cases h
 ·injection h with h
  subst h
  cases hv with
  | fe _ ds hd hn=>exact ⟨_,rfl,by rw [hd]; exact mO _ hn⟩
 ·rename_i t pi off
  split at h
  ·rename_i e k ty xs pins hb
   split at h
   ·rename_i j cs' hp
    injection h with h
    subst h
    have hbx:=hs.bx t
    rw [hb] at hbx
    obtain ⟨h1,h2⟩:=hbx
    obtain ⟨h3,h4⟩:=h2 pi _ hp
    obtain ⟨x,h5,h6⟩:=h4 cs' rfl
    cases hv with
    | re _ _ _ n i e2 k2 ty2 xs2 pins2 pin2 hb2 hn2 hp2 hi2 =>
     rw [hb] at hb2
     injection hb2 with hb2
     injection hb2 with e1 e2 e3 e4 e5
     subst e3
     have e4:=eq_of_heq e4
     subst e4 e5
     rw [hp] at hp2
     injection hp2 with hp2
     subst hp2
     refine ⟨((az ty x).drop off).map .d,by simp [ia,h1,hn2,hi2,h5],?_⟩
     have:=mO (B:=s.bx) (cs'.drop off) (fun c hc=>by rw [h6] at hc; exact uh ty x c (List.mem_of_mem_drop hc))
     rw [h6] at this ⊢
     rw [List.map_drop,lY] at this
     simpa [List.map_drop] using this
   ·cases h
  ·cases h
 ·cases h
theorem qN (hs:Sim s p) {t:TypeId} {v w:SV} {q:PV} (hv:al s.bx v q) (h:tR P s t v=some w) : ∃ r,eU P p.b t q=some r∧al s.bx w r:=by
 unfold tR at h
 split at h
 ·rename_i i cl h1 h2
  obtain ⟨qs,h3,h4⟩:=xw hs hv h2
  obtain ⟨r,h5,h6⟩:=qH h4 h
  exact ⟨r,by simp [eU,h1,h3,h5],h6⟩
 ·cases h
theorem va {v:SV} {q:PV} {i:Int} (hv:al B v q) (h:ky v=some i) : ∃ k,q = .d (.v (.int k i)):=by
 unfold ky at h
 split at h
 ·injection h with h; subst h; exact ⟨_,ck hv⟩
 ·cases h
theorem cL {q:PV} {k:IntKind} {i:Int} {n:Nat} (h:q = .d (.v (.int k i))) (h0 : 0≤i) : iG (some q) n=some i.toNat:=by
 subst h
 simp [iG,asI,h0]
end
section
variable {B:List (Nat×Option aj)} {s:SS} {p:PS} {P:Program} {ρ : Type}
def r9 (s:SS) (p:PS) (dst:Option Nat) (k:SV→Upd→Option ρ) (res : ρ) (e:Option (PV×Option (Nat×Box))) : Prop :=
 ∃ v u q w,e=some (q,w)∧k v u=some res∧Sim (s.upd dst v u) (p.upd dst q w)∧OkU s u∧OkW s dst u w
theorem jy.done (hs:Sim s p) {dst:Option Nat} {k:SV→Upd→Option ρ} {res : ρ} {e:Option PV} (h:jy s (fun v=>k v .no) res e) : r9 s p dst k res (e.map fun r=>(r,none)):=by
 obtain ⟨v,q,rfl,h2,h3⟩:=h
 exact ⟨v,.no,q,none,rfl,h2,cv hs h3,trivial,a8⟩
theorem kz {α : Type} {xs:List α} {i:Int} {x : α} (h:cp xs i=some x) : 0≤i∧xs[i.toNat]? = some x∧i.toNat < xs.length:=by
 unfold cp at h
 split at h
 ·rename_i h0
  exact ⟨h0,h,(zg.1 h).1⟩
 ·cases h
theorem n9 (hs:Sim s p) {dst:Option Nat} {t:TypeId} {v w:SV} {q r:PV} {k:SV→Upd→Option ρ} {res : ρ} (hv:al s.bx v q) (hw:al s.bx w r) (h:jg P s dst t v w k=some res) :
  r9 s p dst k res ((bl P p.b t q r).map fun r=>(r,none)):=by
 unfold jg at h
 split at h
 ·rename_i e kd i d hu
  obtain rfl:=ck hw
  split at h
  ·rename_i ie hie
   split at h
   ·rename_i ty xs
    obtain ⟨h1,h2⟩:=aa h
    obtain ⟨x,h3,h4⟩:=aK h2
    obtain ⟨k0,k1,k2⟩:=kz h3
    have hl:(az ty x).length=ie.size:=by rw [ez]; simpa using h1
    rcases tq hv with rfl | ⟨rfl,_⟩
    ·refine ⟨_,.no,.fe (az ty x),none,?_,h4,cv hs (.fe _ _ (lY ty x).symm (uh ty x)),trivial,a8⟩
     simp [bl,hu,asI,hie,k0,k1,hl]
    ·simp at k2
   ·rename_i t'
    split at h
    ·rename_i e' kk ty xs pins hb
     obtain ⟨h1,h2⟩:=aa h
     obtain ⟨h2,h3⟩:=aa h2
     obtain ⟨x,h4,h5⟩:=aK h3
     obtain ⟨k0,k1,k2⟩:=kz h4
     have hbx:=hs.bx t'
     rw [hb] at hbx
     obtain ⟨hbx,hpins⟩:=hbx
     have hkk:kk=ie.size:=by simpa using h1
     have hnp:lkP pins d=none:=by simpa using h2
     cases hv with
     | row _ n e2 k2' ty2 xs2 pins2 hb2 hn2 =>
      rw [hb] at hb2
      injection hb2 with hb2
      injection hb2 with e1 e2 e3 e4 e5
      subst e3
      have e4:=eq_of_heq e4
      subst e4 e5 hn2
      refine ⟨_,_,.re t' xs.length i.toNat 0,none,?_,h5,?_,(show cA (lkB s.bx t') _ from by rw [hb]; exact ⟨_,rfl⟩),a8⟩
      ·simp [bl,hu,asI,hie,k0,hbx,hkk,k2]
      ·have hble:BLe s.bx ((t',some (.rw e' kk ty xs ((d,⟨i,some (kI ty x)⟩)::pins)))::s.bx):=tc hb rfl (fun p pin hp=>⟨pin,by
        rw [fv,if_neg (fun e=>by rw [e,hnp] at hp; cases hp)]; exact hp,rfl⟩)
       refine xE hs hble (fun _=>⟨hbx,fun p pin hp=>?_⟩) (.re t' d 0 xs.length i.toNat e' kk ty xs _ ⟨i,some (kI ty x)⟩ (by rw [ac,if_pos rfl]) rfl (by rw [fv,if_pos rfl]) rfl)
       rw [fv] at hp
       split at hp
       ·injection hp with hp
        subst hp
        exact ⟨k2,fun cs hc=>⟨x,k1,by injection hc with hc; exact hc.symm⟩⟩
       ·exact hpins p pin hp
    ·cases h
   ·cases h
  ·cases h
 ·cases h
theorem it {cs:List SV} {qs:List PV} {ds:List SD} (h:aA B cs qs) (hd:gv cs=some ds) : qs.mapM toD=some (ds.map SD.toD):=by
 induction cs generalizing qs ds with
 | nil =>
  rcases h.cases with ⟨_,rfl⟩ | ⟨_,_,_,_,h1,_⟩
  ·injection hd with hd; subst hd; rfl
  ·cases h1
 | cons c cs ih =>
  rcases h.cases with ⟨h1,_⟩ | ⟨c',q,cs',qs',h1,rfl,h2,h3⟩
  ·cases h1
  ·injection h1 with e1 e2
   subst e1 e2
   simp only [gv] at hd
   split at hd
   ·rename_i d ds' k1 k2
    injection hd with hd
    subst hd
    have:=ih h3 k2
    unfold y0 at k1
    split at k1
    ·injection k1 with k1
     subst k1
     cases h2 with
     | d _ y hy=>simp [List.mapM_cons,toD,hy.nrm,this]
    ·cases k1
   ·cases hd
theorem ki:∀ {cs:List SV} {ds:List SD},gv cs=some ds→cs.length=ds.length
 | [],ds,h=>by injection h with h; subst h; rfl
 | c::cs,ds,h=>by
  simp only [gv] at h
  split at h
  ·rename_i d ds' k1 k2
   injection h with h
   subst h
   simp [ki k2]
  ·cases h
theorem dj:∀ (l:List (Nat×Pin)) (i:Nat),lkP (iL l) i=(lkP l i).map fun pin=>⟨pin.i,none⟩
 | [],_=>rfl
 | (j,⟨n,cs⟩)::l,i=>by simp only [iL,fv,dj l i]; split <;> rfl
theorem uC (hs:Sim s p) {dst:Option Nat} (hd:dst=none) {t:TypeId} {v w:SV} {q r:PV} {k:SV→Upd→Option ρ} {res : ρ} (hv:al s.bx v q) (hw:al s.bx w r) (h:so P s t v w k=some res) :
  r9 s p dst k res ((cQ P p.b t q r).map fun u=>(.junk,some u)):=by
 unfold so at h
 split at h
 ·rename_i i ns hi hns
  obtain ⟨ws,hws,hcs⟩:=kP hw hns
  split at h
  ·rename_i x off
   cases hv
   split at h
   ·rename_i ty cs hb
    obtain ⟨h1,h2⟩:=aa h
    obtain ⟨h2,h3⟩:=aa h2
    obtain ⟨h3,h4⟩:=aa h3
    have h1:ns.length=i.size:=by simpa using h1
    have h2:=zd h2
    obtain ⟨hro,h3⟩:=jz h3
    have hbx:=hs.bx x
    rw [hb] at hbx
    obtain ⟨qs,hq1,hq2⟩:=hbx
    have l1:=hcs.len
    have l2:=hq2.len
    refine ⟨_,_,.junk,some (x,.st ty (splice qs off ws)),?_,h4,?_,⟨h3,fun ty2 cs2 h=>?_⟩,sK hro⟩
    ·simp only [cQ,hi,hws,hq1]
     rw [if_pos ⟨by omega,by omega⟩]
     rfl
    ·refine dM hs (tb hb) (fun _=>⟨_,rfl,?_⟩) (.junk _)
     rw [dc cs off ns h2]
     exact (hq2.splice hcs off).mono (tb hb)
    ·rw [hb] at h
     injection h with h
     injection h with e1 e2
     subst e1 e2
     refine ⟨_,rfl,?_⟩
     rw [dc cs off ns h2]
     unfold splice
     simp
     omega
   ·cases h
  ·rename_i x pi off
   split at h
   ·rename_i e kk ty xs pins ds hb hds
    split at h
    ·rename_i j cs0 hp
     obtain ⟨h1,h2⟩:=aa h
     obtain ⟨h2,h3⟩:=aa h2
     obtain ⟨h3,h4⟩:=aa h3
     have h1:ns.length=i.size:=by simpa using h1
     have h2:=zd h2
     obtain ⟨hro,h3⟩:=jz h3
     split at h4
     ·rename_i cs' hcs'
      split at h4
      ·rename_i y hy
       have hbx:=hs.bx x
       rw [hb] at hbx
       obtain ⟨hbx,hpins⟩:=hbx
       obtain ⟨k1,k2⟩:=hpins pi _ hp
       have hy2:=pV hy
       cases hv with
       | re _ _ _ n i2 e2 k2' ty2 xs2 pins2 pin2 hb2 hn2 hp2 hi2 =>
        rw [hb] at hb2
        injection hb2 with hb2
        injection hb2 with e1 e2 e3 e4 e5
        subst e3
        have e4:=eq_of_heq e4
        subst e4 e5 hn2
        rw [hp] at hp2
        injection hp2 with hp2
        subst hp2
        simp only at hi2 k1 k2
        subst hi2
        obtain ⟨x0,hx0⟩ : ∃ x0,xs[j.toNat]? = some x0:=⟨xs[j.toNat],by simp [k1]⟩
        have hds':ws.mapM toD=some (ds.map SD.toD):=it hcs hds
        have hlen0:(az ty x0).length=tyN ty:=ez ty x0
        have hsp:splice (az ty x0) off (ds.map SD.toD)=az ty y:=by
         split at hcs'
         ·rename_i hfull
          injection hcs' with hcs'
          subst hcs'
          have h0:off=0:=by omega
          subst h0
          rw [← hy2]
          have:(ds.map SD.toD).length=(az ty x0).length:=by simp [hfull,hlen0]
          simp [splice,this]
         ·cases cs0 with
          | none=>cases hcs'
          | some cs0 =>
           injection hcs' with hcs'
           obtain ⟨x1,h7,h8⟩:=k2 cs0 rfl
           rw [hx0] at h7
           injection h7 with h7
           subst h7
           have h9:cs0.length=tyN ty:=by
            have:=lY ty x0
            rw [← h8] at this
            have:=congrArg List.length this
            simpa [hlen0] using this
           rw [← hy2,← hcs']
           show _ = List.map SD.toD (dr cs0 off ds)
           rw [dc cs0 off ds (by omega),i3,h8,lY]
        have hble:BLe s.bx ((x,some (.rw e kk ty (xs.set j.toNat y) ((pi,⟨j,some (kI ty y)⟩)::iL pins)))::s.bx):=tc hb (by simp) (fun p2 pin2 hp2=>by
         rw [fv]
         by_cases e:p2=pi
         ·subst e
          rw [hp] at hp2
          injection hp2 with hp2
          subst hp2
          exact ⟨_,if_pos rfl,rfl⟩
         ·rw [if_neg e,dj,hp2]
          exact ⟨_,rfl,rfl⟩)
        refine ⟨_,_,.junk,some (x,.rw e kk ((xs.map (az ty)).set j.toNat (splice (az ty x0) off (ds.map SD.toD)))),?_,h4,?_,⟨h3,fun ty2 cs2 h=>by rw [hb] at h; cases h⟩,sK hro⟩
        ·have hl2:(ds.map SD.toD).length=i.size:=by rw [List.length_map,← ki hds]; exact h1
         have hl3:off + (ds.map SD.toD).length≤(az ty x0).length:=by rw [hlen0,List.length_map]; exact h2
         simp only [cQ,hi,hws,hbx,hds',List.getElem?_map,hx0,Option.map_some,List.length_map]
         rw [List.length_map] at hl2 hl3
         rw [if_pos ⟨trivial,hl2,hl3⟩]
         rfl
        ·rw [hsp,← List.map_set]
         refine dM hs hble (fun _=>⟨rfl,fun p2 pin2 hp2=>?_⟩) (.junk _)
         rw [fv] at hp2
         split at hp2
         ·injection hp2 with hp2
          subst hp2
          exact ⟨by simpa using k1,fun cs hc=>⟨y,by simp [k1],by injection hc with hc; exact hc.symm⟩⟩
         ·rw [dj,zm] at hp2
          obtain ⟨pin3,h7,rfl⟩:=hp2
          exact ⟨by simpa using (hpins p2 pin3 h7).1,fun cs hc=>by cases hc⟩
      ·cases h4
     ·cases h4
    ·cases h
   ·cases h
  ·cases h
 ·cases h
end
section
variable {B:List (Nat×Option aj)} {s:SS} {p:PS} {P:Program} {ρ : Type}
theorem nh (hs:Sim s p) (place:Nat→Option (Nat×Nat)) : ∀ {l:List (Nat×Operand)} {cs cs':List SV} {qs:List PV},aA s.bx cs qs→rh place cs (i8 s l)=some cs'→∃ qs',ni place qs (l.map fun (i,x)=>(i,ev p x))=some qs'∧aA s.bx cs' qs'
 | [],cs,cs',qs,h,hf=>by injection hf with hf; subst hf; exact ⟨qs,rfl,h⟩
 | (i,x)::l,cs,cs',qs,h,hf=>by
  simp only [i8,rh] at hf
  split at hf
  ·rename_i off size ns h1 h2
   obtain ⟨h3,h4⟩:=aa hf
   obtain ⟨h4,h5⟩:=aa h4
   obtain ⟨ws,h6,h7⟩:=kP (ay hs x) h2
   replace h3:ns.length=size:=by simpa using h3
   replace h4:=zd h4
   rw [dc cs off ns h4] at h5
   obtain ⟨qs',h8,h9⟩:=nh hs place (h.splice h7 off) h5
   refine ⟨qs',?_,h9⟩
   have l1:=h7.len
   have l2:=h.len
   simp only [List.map_cons,ni,h1,h6]
   rw [if_pos ⟨by omega,by omega⟩]
   exact h8
  ·cases hf
theorem iq {i:TI} {z:List SV} (h:l6 i=some z) : aA B z (ee i):=(ju h).1
theorem qy {cs:List SV} {qs:List PV} (h:aA B cs qs) : ∀ n,aA B (vV n cs) (List.replicate n qs).flatten
 | 0=>.nil
 | n + 1=>by rw [List.replicate_succ,List.flatten_cons]; exact h.append (qy h n)
theorem o5 (k:Nat) : ∀ (n:Nat) (l:List SD),(p8 k n l).map (List.map SD.toD)=fF k n (l.map SD.toD)
 | 0,_=>rfl
 | n + 1,l=>by simp only [p8,fF,List.map_cons,List.map_take,o5 k n,List.map_drop]
theorem oZ {t:Ty} : ∀ {l:List (List SD)} {xs:List t.den},pY t l=some xs→l.map (List.map SD.toD)=xs.map (az t)
 | [],xs,h=>by injection h with h; subst h; rfl
 | c::l,xs,h=>by
  simp only [pY] at h
  split at h
  ·rename_i x xs' h1 h2
   injection h with h
   subst h
   simp only [List.map_cons,pV h1,oZ h2]
  ·cases h
theorem nR (hs:Sim s p) {dst:Option Nat} {t:TypeId} {n:Nat} {l:List (Nat×Operand)} {k:SV→Upd→Option ρ} {res : ρ} (h:hZ P s dst t n (i8 s l) k=some res) :
  r9 s p dst k res (bQ P p.b dst t n (l.map fun (i,x)=>(i,ev p x))):=by
 unfold hZ at h
 split at h
 ·rename_i d e hu
  split at h
  ·rename_i i ty hi hb hty
   split at h
   ·rename_i z hz
    have h1:=(aa h).1
    replace h:=(aa h).2
    have h2:=(aa h).1
    replace h:=(aa h).2
    have h3:=(aa h).1
    replace h:=(aa h).2
    have h4:=(aa h).1
    replace h:=(aa h).2
    replace h1:=zd h1
    replace h2:=zd h2
    replace h3:=zd h3
    obtain ⟨hfr,h4⟩:=dh h4
    split at h
    ·rename_i cs hcs
     split at h
     ·rename_i ds hds
      split at h
      ·rename_i xs hxs
       obtain ⟨h5,h6⟩:=aa h
       obtain ⟨qs,h7,h8⟩:=nh hs _ (qy (iq (B:=s.bx) hz) n) hcs
       have h9:=it h8 hds
       have hbd:p.b d=none:=by have:=hs.bx d; rw [hb] at this; exact this hfr
       have hch:fF i.size n (ds.map SD.toD)=xs.map (az ty):=by rw [← o5,oZ hxs]
       have hlen:xs.length=n:=by
        have:=congrArg List.length hch
        rw [kO,List.length_map] at this
        exact this.symm
       refine ⟨_,_,.row d n,some (d,.rw e i.size (xs.map (az ty))),?_,h6,?_,⟨h4,hb⟩,jJ hb rfl⟩
       ·simp only [bQ,hu,hi,hbd]
        rw [if_pos ⟨h1,h2,h3⟩]
        simp only [h7,h9,hch]
       ·exact dM hs (eX hb) (fun _=>⟨rfl,fun p pin hp=>by cases hp⟩) (.row d n e i.size ty xs [] (by rw [ac,if_pos rfl]) hlen)
      ·cases h
     ·cases h
    ·cases h
   ·cases h
  ·cases h
 ·cases h
theorem pd {α : Type} {l m z:List α} (h:fI l m=some z) : l.length + m.length≤1000000∧z=l++m:=by
 unfold fI at h
 split at h
 ·rename_i hl; injection h with h; exact ⟨hl,h.symm⟩
 ·cases h
theorem o8 {t:Ty} (h:t=t) (xs:List t.den) : j2 h xs=xs:=rfl
theorem tf (hs:Sim s p) {dst:Option Nat} {t:TypeId} {v w:SV} {q r:PV} {k:SV→Upd→Option ρ} {res : ρ} (hv:al s.bx v q) (hw:al s.bx w r) (h:qg P s dst t v w k=some res) :
  r9 s p dst k res (ch P p.b dst t q r)∧True:=by
 refine ⟨?_,trivial⟩
 unfold qg at h
 split at h
 ·rename_i e ty ys hu hdw
  have hr:=p5 hs hw hdw
  split at h
  ·rename_i i hi
   have h1:=(aa h).1
   replace h:=(aa h).2
   have h2:=(aa h).1
   replace h:=(aa h).2
   have h3:=(aa h).1
   replace h:=(aa h).2
   have h4:=(aa h).1
   replace h:=(aa h).2
   replace h1:=zd h1
   replace h2:=zd h2
   replace h3:=zd h3
   replace h4:tyN ty=i.size:=by simpa using h4
   have hla:jc i.size (ys.map (az ty)):=by
    intro x hx
    obtain ⟨y,_,rfl⟩:=List.mem_map.1 hx
    rw [ez,h4]
   have sm:∀ n,n≤1000000→mj n i.bytes:=fun n hn=>by
    unfold mj
    exact Nat.le_trans (Nat.mul_le_mul hn h3) (by decide)
   split at h
   ·rename_i x
    split at h
    ·rename_i e' kk ty' xs pins hb
     split at h
     ·rename_i hty hsame
      obtain rfl:=hty
      have h5:=(aa h).1
      replace h:=(aa h).2
      have h6:=(aa h).1
      replace h:=(aa h).2
      have h7:=(aa h).1
      replace h:=(aa h).2
      replace h5:e' = e:=by simpa using h5
      replace h6:kk=i.size:=by simpa using h6
      obtain ⟨hfr,h7⟩:=jz h7
      obtain ⟨zs,h8,h9⟩:=aK h
      rw [o8] at h8
      obtain ⟨h10,rfl⟩:=pd h8
      have hbx:=hs.bx x
      rw [hb] at hbx
      obtain ⟨hbx,_⟩:=hbx
      cases hv with
      | row _ n e2 k2 ty2 xs2 pins2 hb2 hn2 =>
       rw [hb] at hb2
       injection hb2 with hb2
       injection hb2 with q1 q2 q3 q4 q5
       subst q3
       have q4:=eq_of_heq q4
       subst q4 hn2
       refine ⟨_,_,.row x (xs.length + ys.length),some (x,.rw e' kk (xs.map (az ty)++ys.map (az ty))),?_,h9,?_,⟨h7,fun ty2 cs2 h=>by rw [hb] at h; cases h⟩,y7 hfr⟩
       ·simp only [ch,hu,hr,hi,hbx]
        rw [if_pos ⟨h1,h2,hla⟩,if_pos ⟨by simp,h5,h6,by simpa using sm _ h10⟩]
        simp [h5]
       ·rw [← List.map_append]
        exact vQ hs hb (.row x _ e' kk ty (xs++ys) [] (by rw [ac,if_pos rfl]) (by simp))
     ·cases h
    ·cases h
   ·obtain rfl:=tr hv
    split at h
    ·rename_i d
     split at h
     ·rename_i hb
      have h7:=(aa h).1
      replace h:=(aa h).2
      obtain ⟨hfr,h7⟩:=dh h7
      obtain ⟨zs,h8,h9⟩:=aK h
      obtain ⟨h10,rfl⟩:=pd h8
      have hbd:p.b d=none:=by have:=hs.bx d; rw [hb] at this; exact this hfr
      refine ⟨_,_,.row d zs.length,some (d,.rw e i.size (zs.map (az ty))),?_,h9,?_,⟨h7,hb⟩,jJ hb rfl⟩
      ·simp only [ch,hu,hr,hi,hbd]
       rw [if_pos ⟨h1,h2,hla⟩,if_pos ⟨trivial,trivial⟩,if_pos (by simpa using sm _ (by simpa using h10))]
       simp
      ·exact dM hs (eX hb) (fun _=>⟨rfl,fun p pin hp=>by cases hp⟩) (.row d _ e i.size ty _ [] (by rw [ac,if_pos rfl]) (by simp))
     ·cases h
    ·cases h
   ·cases h
  ·cases h
 ·cases h
theorem uE (hs:Sim s p) {t:TypeId} {v:SV} {q:PV} {lo hi:Option Operand} {k:SV→Option ρ} {res : ρ} (hv:al s.bx v q) (h:sr P s t v (lo.map (evX s)) (hi.map (evX s)) k=some res) : jy s k res (bo P p.b t q (lo.map (ev p)) (hi.map (ev p))):=by
 have int:∀ {x:Operand} {i:Int},ky (evX s x)=some i→∃ kd,ev p x = .d (.v (.int kd i)):=fun {x i} h=>va (ay hs x) h
 unfold sr at h
 split at h
 ·rename_i e ty xs hu
  have hq:cF p.b q=some (xs.map (az ty))∧∃ y,q = .d y:=by
   rcases tq hv with rfl | ⟨rfl,rfl⟩
   ·exact ⟨rfl,_,rfl⟩
   ·exact ⟨by simp [cF],_,rfl⟩
  obtain ⟨hq,y,rfl⟩:=hq
  split at h
  ·rename_i i hi'
   have h1:=(aa h).1
   replace h:=(aa h).2
   replace h1:tyN ty=i.size:=by simpa using h1
   have hla:jc i.size (xs.map (az ty)):=by
    intro x hx
    obtain ⟨y,_,rfl⟩:=List.mem_map.1 hx
    rw [ez,h1]
   split at h
   ·rename_i hl hh
    rw [Option.map_eq_none_iff] at hl hh
    subst hl hh
    refine a7 ?_ h (se ty xs)
    simp only [bo,hu,hi',hq,Option.map_none,iG]
    rw [if_pos ⟨Nat.zero_le _,Nat.le_refl _,hla⟩]
    simp [List.take_of_length_le]
   ·rename_i l hl hh
    rw [Option.map_eq_none_iff] at hh
    rw [zm] at hl
    obtain ⟨lo,rfl,rfl⟩:=hl
    subst hh
    split at h
    ·rename_i li hli
     obtain ⟨kd,hkd⟩:=int hli
     obtain ⟨z,h2,h3⟩:=aK h
     unfold loO at h2
     split at h2
     ·rename_i hc
      injection h2 with h2
      subst h2
      refine a7 ?_ h3 (se ty _)
      simp only [bo,hu,hi',hq,Option.map_none,Option.map_some,hkd,cL rfl hc.1]
      simp only [iG,List.length_map]
      rw [if_pos ⟨hc.2,Nat.le_refl _,hla⟩]
      rw [← List.map_drop,← List.map_take,List.take_of_length_le (by simp)]
     ·cases h2
    ·cases h
   ·rename_i l hl hh
    rw [Option.map_eq_none_iff] at hl
    rw [zm] at hh
    obtain ⟨hi2,rfl,rfl⟩:=hh
    subst hl
    split at h
    ·rename_i li hli
     obtain ⟨kd,hkd⟩:=int hli
     obtain ⟨z,h2,h3⟩:=aK h
     unfold hiO at h2
     split at h2
     ·rename_i hc
      injection h2 with h2
      subst h2
      refine a7 ?_ h3 (se ty _)
      simp only [bo,hu,hi',hq,Option.map_none,Option.map_some,hkd,cL rfl hc.1]
      simp only [iG,List.length_map]
      rw [if_pos ⟨Nat.zero_le _,hc.2,hla⟩]
      simp
     ·cases h2
    ·cases h
   ·rename_i l l' hl hh
    rw [zm] at hl hh
    obtain ⟨lo,rfl,rfl⟩:=hl
    obtain ⟨hi2,rfl,rfl⟩:=hh
    split at h
    ·rename_i li hi3 hli hhi
     obtain ⟨kd,hkd⟩:=int hli
     obtain ⟨kd2,hkd2⟩:=int hhi
     obtain ⟨z,h2,h3⟩:=aK h
     unfold lhO at h2
     split at h2
     ·rename_i hc
      injection h2 with h2
      subst h2
      refine a7 ?_ h3 (se ty _)
      simp only [bo,hu,hi',hq,Option.map_some,hkd,hkd2,cL rfl hc.1,cL rfl hc.2.1,List.length_map]
      rw [if_pos ⟨hc.2.2.1,hc.2.2.2,hla⟩]
      simp
     ·cases h2
    ·cases h
  ·cases h
 ·rename_i e x hu
  split at h
  ·rename_i i e' kk ty xs pins hi' hb
   have h1:=(aa h).1
   replace h:=(aa h).2
   replace h1:kk=i.size:=by simpa using h1
   have hbx:=hs.bx x
   rw [hb] at hbx
   obtain ⟨hbx,_⟩:=hbx
   have ox:∀ {o:Option Operand} {n:Nat} {l:Int},y6 (o.map (evX s)) (n:Int)=some l→0≤l→iG (o.map (ev p)) n=some l.toNat:=by
    intro o n l ho h0
    cases o with
    | none=>injection ho with ho; subst ho; rfl
    | some y =>
     obtain ⟨kd,hkd⟩:=int (show ky (evX s y)=some l from ho)
     rw [Option.map_some,cL hkd h0]
   cases hv with
   | row _ n e2 k2 ty2 xs2 pins2 hb2 hn2 =>
    rw [hb] at hb2
    injection hb2 with hb2
    injection hb2 with q1 q2 q3 q4 q5
    subst q3
    have q4:=eq_of_heq q4
    subst q4 hn2
    split at h
    ·rename_i l h' hl hh
     obtain ⟨_,h2,h3⟩:=aK h
     unfold vwO at h2
     split at h2
     ·rename_i hc
      refine a7 (q:=.vw x xs.length l.toNat h'.toNat) ?_ h3 (.vw x _ _ _ e' kk ty xs pins hb rfl)
      have hl':=ox (n:=0) hl hc.1
      have hh':=ox (n:=xs.length) hh hc.2.1
      simp only [bo,hu,hi',hbx,hl',hh',List.length_map]
      rw [if_pos ⟨trivial,h1,hc.2.2.1,hc.2.2.2⟩]
     ·cases h2
    ·cases h
  ·cases h
 ·rename_i x hu
  obtain rfl:=eY hv
  split at h
  ·rename_i l hl hh
   rw [Option.map_eq_none_iff] at hh
   rw [zm] at hl
   obtain ⟨lo,rfl,rfl⟩:=hl
   subst hh
   split at h
   ·rename_i li hli
    obtain ⟨kd,hkd⟩:=int hli
    obtain ⟨z,h2,h3⟩:=aK h
    unfold zK at h2
    split at h2
    ·rename_i hc
     injection h2 with h2
     subst h2
     refine a7 ?_ h3 (iK _)
     simp only [bo,hu,asS,Option.map_none,Option.map_some,hkd,cL rfl hc.1]
     simp only [iG]
     rw [if_pos ⟨hc.2,Nat.le_refl _⟩]
    ·cases h2
   ·cases h
  ·rename_i l hl hh
   rw [Option.map_eq_none_iff] at hl
   rw [zm] at hh
   obtain ⟨hi2,rfl,rfl⟩:=hh
   subst hl
   split at h
   ·rename_i li hli
    obtain ⟨kd,hkd⟩:=int hli
    obtain ⟨z,h2,h3⟩:=aK h
    unfold zM at h2
    split at h2
    ·rename_i hc
     injection h2 with h2
     subst h2
     refine a7 ?_ h3 (iK _)
     simp only [bo,hu,asS,Option.map_none,Option.map_some,hkd,cL rfl hc.1]
     simp only [iG]
     rw [if_pos ⟨Nat.zero_le _,hc.2⟩]
    ·cases h2
   ·cases h
  ·rename_i l l' hl hh
   rw [zm] at hl hh
   obtain ⟨lo,rfl,rfl⟩:=hl
   obtain ⟨hi2,rfl,rfl⟩:=hh
   split at h
   ·rename_i li hi3 hli hhi
    obtain ⟨kd,hkd⟩:=int hli
    obtain ⟨kd2,hkd2⟩:=int hhi
    obtain ⟨z,h2,h3⟩:=aK h
    unfold zL at h2
    split at h2
    ·rename_i hc
     injection h2 with h2
     subst h2
     refine a7 ?_ h3 (iK _)
     simp only [bo,hu,asS,Option.map_some,hkd,hkd2,cL rfl hc.1,cL rfl hc.2.1]
     rw [if_pos ⟨hc.2.2.1,hc.2.2.2⟩]
    ·cases h2
   ·cases h
  ·cases h
 ·cases h
theorem xD (hs:Sim s p) {v:SV} {q:PV} {ty:Ty} {ys:List ty.den} (hv:al s.bx v q) (h:yY s v=some (.sl ty ys)) : cF p.b q=some (ys.map (az ty)):=by
 unfold yY at h
 split at h
 ·rename_i t lo hi
  split at h
  ·rename_i e kk ty2 xs pins hb
   injection h with h
   injection h with e1 e2
   subst e1
   have e2:=eq_of_heq e2
   subst e2
   have hbx:=hs.bx t
   rw [hb] at hbx
   obtain ⟨hbx,_⟩:=hbx
   cases hv with
   | vw _ _ _ n e2 k2 ty2 xs2 pins2 hb2 hn2 =>
    rw [hb] at hb2
    injection hb2 with hb2
    injection hb2 with q1 q2 q3 q4 q5
    subst q3
    have q4:=eq_of_heq q4
    subst q4 hn2
    simp only [cF,hbx,List.length_map,if_true]
    rw [← List.map_drop,← List.map_take]
  ·cases h
 ·exact p5 hs hv h
theorem wd (hs:Sim s p) {v:SV} {q:PV} {x lo hi:Nat} {e kk:Nat} {ty:Ty} {xs:List ty.den} {pins:List (Nat×Pin)} (hb:lkB s.bx x=some (.rw e kk ty xs pins)) (hv:al s.bx v q) (h:we s v=some (x,lo,hi)) : tE q=some (x,xs.length,lo,hi):=by
 unfold we at h
 split at h
 ·rename_i t
  split at h
  ·rename_i e2 k2 ty2 xs2 pins2 hb2
   injection h with h
   injection h with q1 q2
   injection q2 with q2 q3
   subst q1 q2 q3
   cases hv with
   | row _ n e3 k3 ty3 xs3 pins3 hb3 hn3 =>
    rw [hb] at hb2 hb3
    injection hb2 with hb2
    injection hb2 with r1 r2 r3 r4 r5
    subst r3
    have r4:=eq_of_heq r4
    subst r4
    injection hb3 with hb3
    injection hb3 with r1 r2 r3 r4 r5
    subst r3
    have r4:=eq_of_heq r4
    subst r4 hn3
    rfl
  ·cases h
 ·injection h with h
  injection h with q1 q2
  injection q2 with q2 q3
  subst q1 q2 q3
  cases hv with
  | vw _ _ _ n e3 k3 ty3 xs3 pins3 hb3 hn3 =>
   rw [hb] at hb3
   injection hb3 with hb3
   injection hb3 with r1 r2 r3 r4 r5
   subst r3
   have r4:=eq_of_heq r4
   subst r4 hn3
   rfl
 ·cases h
theorem uX {α β : Type} (f : α→β) (xs ys:List α) (lo:Nat) : (dy xs lo ys).map f=dy (xs.map f) lo (ys.map f):=by
 simp [dy,List.map_take,List.map_drop]
theorem xg (hs:Sim s p) {dst:Option Nat} {t:TypeId} {v w:SV} {q r:PV} {k:SV→Upd→Option ρ} {res : ρ} (hv:al s.bx v q) (hw:al s.bx w r) (h:xh P s t v w k=some res) :
  r9 s p dst k res ((eV P p.b t q r).map fun r=>(r.1,some r.2)):=by
 unfold xh at h
 split at h
 ·rename_i e ty ys x lo hi hu hsrc hpart
  split at h
  ·rename_i i e' kk ty' xs pins hi' hb
   split at h
   ·rename_i hty hsame
    obtain rfl:=hty
    have h1:=(aa h).1
    replace h:=(aa h).2
    have h2:=(aa h).1
    replace h:=(aa h).2
    have h3:=(aa h).1
    replace h:=(aa h).2
    replace h1:kk=i.size:=by simpa using h1
    replace h2:tyN ty=i.size:=by simpa using h2
    obtain ⟨hro,h3⟩:=jz h3
    obtain ⟨zs,h4,h5⟩:=aK h
    rw [o8] at h4
    unfold yO at h4
    split at h4
    ·rename_i hc
     injection h4 with h4
     subst h4
     have hbx:=hs.bx x
     rw [hb] at hbx
     obtain ⟨hbx,hpins⟩:=hbx
     have hr:=xD hs hw hsrc
     have hp:=wd hs hb hv hpart
     have hla:jc i.size (ys.map (az ty)):=by
      intro x hx
      obtain ⟨y,_,rfl⟩:=List.mem_map.1 hx
      rw [ez,h2]
     have hlen:(dy xs lo (ys.take (hi - lo))).length=xs.length:=ot (by rw [List.length_take]; omega)
     have hble:BLe s.bx ((x,some (.rw e' kk ty (dy xs lo (ys.take (hi - lo))) (iL pins)))::s.bx):=tc hb hlen (fun p2 pin2 hp2=>by
      rw [dj,hp2]
      exact ⟨_,rfl,rfl⟩)
     refine ⟨_,_,.d (.v (.int .i64 (min ys.length (hi - lo) : Nat))),some (x,.rw e' kk ((dy xs lo (ys.take (hi - lo))).map (az ty))),?_,h5,?_,⟨h3,fun ty2 cs2 h=>by rw [hb] at h; cases h⟩,sK hro⟩
     ·simp only [eV,hu,hr,hp,hi',hbx,List.length_map]
      rw [if_pos ⟨trivial,h1,hla,hc.1,hc.2⟩,uX,List.map_take]
      rfl
     ·refine dM hs hble (fun _=>⟨rfl,fun p2 pin2 hp2=>?_⟩) (bz _ _)
      rw [dj,zm] at hp2
      obtain ⟨pin3,h7,rfl⟩:=hp2
      exact ⟨by rw [hlen]; exact (hpins p2 pin3 h7).1,fun cs hc=>by cases hc⟩
    ·cases h4
   ·cases h
  ·cases h
 ·cases h
theorem l7:∀ (l:List Value),(l.map fun z=>PV.d (.v z)).mapM toD=some (l.map fun z=>nrm (.v z))
 | []=>rfl
 | z::l=>by simp only [List.map_cons,List.mapM_cons,l7 l,toD]; rfl
theorem wu (hs:Sim s p) {dst:Option Nat} {t:TypeId} {x y:Operand} {k:SV→Upd→Option ρ} {res : ρ} (h:wv P s dst t (su x y) (evX s x) k=some res) :
  r9 s p dst k res (iA P p.b dst t (ev p x) (ev p y)):=by
 unfold wv at h
 split at h
 ·rename_i d e kd n hu hx hsame
  have hpx:=ay hs x
  rw [hx] at hpx
  have hpx:=ck hpx
  have hpy:∃ kd',ev p y = .d (.v (.int kd' n)):=by
   unfold su at hsame
   split at hsame
   ·rename_i i j hq
    have:i=j:=by simpa using hsame
    subst this
    exact ⟨kd,hpx⟩
   ·rename_i k1 n1 k2 m1 hq
    have:n1=m1:=by simpa using hsame
    subst this
    have:ev p (.const (.int k1 n1)) = .d (.v (.int k1 n1)):=rfl
    rw [this] at hpx
    injection hpx with hpx
    injection hpx with hpx
    injection hpx with q1 q2
    subst q2
    exact ⟨k2,rfl⟩
   ·cases hsame
  obtain ⟨kd',hpy⟩:=hpy
  split at h
  ·rename_i i ty hi hb hty
   split at h
   ·rename_i z hz
    split at h
    ·rename_i ds hds
     split at h
     ·rename_i z0 hz0
      have h1:=(aa h).1
      replace h:=(aa h).2
      have h2:=(aa h).1
      replace h:=(aa h).2
      have h3:=(aa h).1
      replace h:=(aa h).2
      have h4:=(aa h).1
      replace h:=(aa h).2
      replace h1:=zd h1
      replace h2:=zd h2
      obtain ⟨hfr,h4⟩:=dh h4
      obtain ⟨xs,h5,h6⟩:=aK h
      unfold mkO at h5
      split at h5
      ·rename_i hc
       injection h5 with h5
       subst h5
       have hbd:p.b d=none:=by have:=hs.bx d; rw [hb] at this; exact this hfr
       have e1:(i.zero.map fun z=>nrm (.v z))=az ty z0:=by
        have h7:=it (iq (B:=s.bx) hz) hds
        rw [show ee i=i.zero.map (fun z=>PV.d (.v z)) from rfl,l7] at h7
        injection h7 with h7
        rw [h7]; exact pV hz0
       refine ⟨_,_,.row d n.toNat,some (d,.rw e i.size ((List.replicate n.toNat z0).map (az ty))),?_,h6,?_,⟨h4,hb⟩,jJ hb rfl⟩
       ·simp only [iA,hu,hpx,hpy,asI,hi,hbd]
        rw [if_pos ⟨trivial,hc.1,hc.2,h1,h2⟩,List.map_replicate,e1]
       ·exact dM hs (eX hb) (fun _=>⟨rfl,fun p pin hp=>by cases hp⟩) (.row d _ e i.size ty _ [] (by rw [ac,if_pos rfl]) (by simp))
      ·cases h5
     ·cases h
    ·cases h
   ·cases h
  ·cases h
 ·cases h
theorem kt (mx:Bool) : ∀ (l:List SV) (v w:SV) (q:PV) (qs:List PV),al B v q→aA B l qs→jN mx v l=some w→∃ r,(match mx with | true=>gf q qs | false=>gd q qs)=some r∧al B w r
 | [],v,w,q,qs,hv,hl,h=>by
  rcases hl.cases with ⟨_,rfl⟩ | ⟨_,_,_,_,h1,_⟩
  ·have:v=w:=by cases v <;> (injection h)
   subst this
   exact ⟨q,by cases mx <;> rfl,hv⟩
  ·cases h1
 | u::l,v,w,q,qs,hv,hl,h=>by
  rcases hl.cases with ⟨h1,_⟩ | ⟨u',r,l',qs',h1,rfl,h2,h3⟩
  ·cases h1
  ·injection h1 with e1 e2
   subst e1 e2
   unfold jN at h
   split at h
   ·rename_i heq; cases heq
   ·rename_i k x k' y l2 heq
    injection heq with e1 e2
    subst e1 e2
    obtain rfl:=ck hv
    obtain rfl:=ck h2
    obtain ⟨r',h4,h5⟩:=kt mx l _ w _ qs' (bz _ _) h3 h
    refine ⟨r',?_,h5⟩
    cases mx
    ·simp only [gd,nr,asI]; exact h4
    ·simp only [gf,nu,asI]; exact h4
   ·cases h
theorem xW (hs:Sim s p) {t:TypeId} {v:SV} {q:PV} {k:SV→Option ρ} {res : ρ} (hv:al s.bx v q) (h:zi P s t v k=some res) : jy s k res (gY P t q):=by
 unfold zi at h
 split at h
 ·rename_i e hu
  split at h
  ·rename_i ty xs hd
   refine a7 ?_ h (bz _ _)
   have:sN q=some xs.length:=by
    unfold fD at hd
    split at hd
    ·injection hd with hd
     subst hd
     rcases tq hv with rfl | ⟨rfl,rfl⟩
     ·simp [sN]
     ·rfl
    ·obtain ⟨e,k,ty2,xs2,pins,h1,h2,rfl,h4⟩:=py hs hv hd
     injection h2 with e1 e2
     subst e1
     have e2:=eq_of_heq e2
     subst e2
     rfl
    ·cases hd
   simp [gY,hu,this]
  ·rename_i hd
   obtain rfl:=yr hv hd
   exact a7 (by simp [gY,hu,sN]) h (bz _ _)
  ·split at h
   ·cases hv
    exact a7 (by simp [gY,hu,sN]) h (bz _ _)
   ·cases h
 ·rename_i hu
  split at h
  ·obtain rfl:=eY hv
   exact a7 (by simp [gY,hu,asS]) h (bz _ _)
  ·cases h
 ·cases h
end
section
mutual
def jL:PV→PV
 | .d x=>.d (nrm x)
 | .ag cs=>.ag (bH cs)
 | .tup cs=>.tup (bH cs)
 | .fn f ps qs=>.fn f (bH ps) (bH qs)
 | p=>p
def bH:List PV→List PV
 | []=>[]
 | c::cs=>jL c::bH cs
end
def lD:Box→Box
 | .st ty cs=>.st ty (bH cs)
 | b=>b
theorem d9:∀ cs:List PV,(bH cs).length=cs.length
 | []=>rfl
 | c::cs=>by simp [bH,d9 cs]
theorem fu:∀ (cs:List PV) (j:Nat) (c:PV),(bH cs)[j]? = some c→∃ d,cs[j]? = some d∧c=jL d
 | [],j,c,h=>by simp [bH] at h
 | d::cs,0,c,h=>by simp [bH] at h; exact ⟨d,rfl,h.symm⟩
 | d::cs,j + 1,c,h=>by simp [bH] at h; simpa using fu cs j c h
section
variable {P:Program} {ρ ρ' ρ2:Nat→Value} {b b' b2:Nat→Option Box} {w w':World} {w0:WM} {F F' F0:Nat→Prop} {n:Nat} {σ τ : Nat→Nat}
theorem ai.nrmd {x:Value} {p:PV} (h:ai ρ b w F x p) : ai ρ b w F x (jL p):=by
 induction h with
 | junk x=>exact .junk x
 | d x d h=>exact .d x _ h.nrm
 | ag xs cs hl h1 hr ih=>exact .ag xs _ (by rw [d9]; exact hl) h1 (fun j x c h2 h3=>by obtain ⟨d,h4,rfl⟩:=fu cs j c h3; exact ih j x d h2 h4)
 | tup xs cs hl hr ih=>exact .tup xs _ (by rw [d9]; exact hl) (fun j x c h2 h3=>by obtain ⟨d,h4,rfl⟩:=fu cs j c h3; exact ih j x d h2 h4)
 | ptr t off g ty cs hb hρ=>exact .ptr t off g ty cs hb hρ
 | row t n A c e k es hb hn hc hA hρ=>exact .row t n A c e k es hb hn hc hA hρ
 | re t n i off a e k es hb hn hi hρ=>exact .re t n i off a e k es hb hn hi hρ
 | vw t n lo hi A m c e k es hb hn hl hh hm hρ=>exact .vw t n lo hi A m c e k es hb hn hl hh hm hρ
 | fe a cs us hF hcell hrep=>exact .fe a cs us hF hcell hrep
 | fn f xs ys ps qs hl hr hl2 hr2 ih ih2 =>
  exact .fn f xs ys _ _ (by rw [d9]; exact hl) (fun j x c h2 h3=>by obtain ⟨d,h4,rfl⟩:=fu ps j c h3; exact ih j x d h2 h4)
   (by rw [d9]; exact hl2) (fun j x c h2 h3=>by obtain ⟨d,h4,rfl⟩:=fu qs j c h3; exact ih2 j x d h2 h4)
end
def xa:BU→List Nat
 | []=>[]
 | (t,_)::l=>t::xa l
section
variable {P:Program} {ρ ρ' ρ2:Nat→Value} {b b' b2:Nat→Option Box} {w w':World} {w0:WM} {F F' F0:Nat→Prop} {n:Nat} {σ τ : Nat→Nat}
end
end
section
section
variable {P:Program} {ρ ρ' ρ2:Nat→Value} {b b' b2:Nat→Option Box} {w w':World} {w0:WM} {F F' F0:Nat→Prop} {n:Nat}
end
end
section
variable {B:List (Nat×Option aj)} {s:SS} {p:PS} {P:Program} {ρ : Type}
theorem dD (hs:Sim s p) : ∀ l:List Operand,aA s.bx (iH s l) (l.map (ev p))
 | []=>.nil
 | x::l=>.cons (ay hs x) (dD hs l)
theorem wa {c:Bool} {v w z:SV} {q r:PV} (hv:al B v q) (hw:al B w r) (h:wb c v w=some z) : al B z (if c then q else r):=by
 unfold wb at h
 split at h
 ·split at h
  ·rename_i hk
   subst hk
   injection h with h
   subst h
   obtain rfl:=ck hv
   obtain rfl:=ck hw
   cases c
   ·exact bz _ _
   ·exact bz _ _
  ·cases h
 ·injection h with h
  subst h
  obtain rfl:=cG hv
  obtain rfl:=cG hw
  cases c
  ·exact bp _
  ·exact bp _
 ·injection h with h
  subst h
  obtain rfl:=eY hv
  obtain rfl:=eY hw
  cases c
  ·exact iK _
  ·exact iK _
 ·cases c
  ·injection h with h; subst h; exact hw
  ·injection h with h; subst h; exact hv
theorem uG {x:ByteArray} {i z:Int} (h:vS x i=some z) : 0≤i∧∃ c:UInt8,x.data.toList[i.toNat]? = some c∧z=(c.toNat:Int):=by
 unfold vS at h
 split at h
 ·rename_i h0
  rw [zm] at h
  obtain ⟨c,h1,h2⟩:=h
  exact ⟨h0,c,h1,h2.symm⟩
 ·cases h
theorem oC {B:List (Nat×Option aj)} {kd:IntKind} : ∀ (cs:List SV) (xs:List Int),tT kd cs=some xs→∀ (j:Nat) (z:Int),xs[j]? = some z→∀ qs,aA B cs qs→∃ q,qs[j]? = some q∧q = .d (.v (.int kd z))
 | [],xs,h,j,z,hj,qs,hq=>by
  injection h with h
  subst h
  cases hj
 | c::cs,xs,h,j,z,hj,qs,hq=>by
  unfold tT at h
  split at h
  ·rename_i hc0
   cases hc0
  ·rename_i kd' x l hcl
   injection hcl with e1 e2
   subst e1 e2
   split at h
   ·rename_i hk
    subst hk
    split at h
    ·rename_i r hr
     injection h with h
     subst h
     have hlen : 0 < qs.length:=by rw [← hq.len]; exact Nat.succ_pos _
     match qs,hlen with
     | q::qs,_ =>
     cases j with
     | zero =>
      injection hj with hj
      subst hj
      exact ⟨q,rfl,ck (hq.rep 0 _ _ rfl rfl)⟩
     | succ j =>
      exact oC _ r hr j z hj qs ⟨by simpa using hq.len,fun i a b ha hb=>hq.rep (i + 1) a b ha hb⟩
    ·cases h
   ·cases h
  ·cases h
theorem yh {o:Oper} (hs:Sim s p) {k:SV→Upd→Option ρ} {res : ρ} (hst:∀ t x y,o.op = .store t x y→o.dst=none) (h:yi P o s k=some res) : r9 s p o.dst k res (eff P o p):=by
 unfold yi at h
 unfold eff
 split at h
 all_goals
  rename_i ho
  simp only [ho]
 ·exact ⟨_,.no,_,none,rfl,h,cv hs (ay hs _),trivial,a8⟩
 ·exact ⟨_,.no,_,none,rfl,h,cv hs (ay hs _),trivial,a8⟩
 ·rename_i c x y
  split at h
  ·rename_i t hc
   split at h
   ·rename_i v hv
    have hq:=ay hs c
    rw [hc] at hq
    have hb:asB (ev p c)=some t:=by rw [cG hq]; rfl
    simp only [hb]
    exact ⟨_,.no,_,none,rfl,h,cv hs (wa (ay hs x) (ay hs y) hv),trivial,a8⟩
   ·cases h
  ·cases h
 ·rename_i e
  split at h
  ·rename_i t i hd hi
   split at h
   ·rename_i z hb hz
    obtain ⟨h1,h2⟩:=aa h
    obtain ⟨hfr,h1⟩:=dh h1
    have hbd:p.b t=none:=by have:=hs.bx t; rw [hb] at this; exact this hfr
    refine ⟨_,_,.ptr t 0,some (t,.st e (ee i)),?_,h2,?_,⟨h1,hb⟩,jJ hb hd⟩
    ·simp [g0,hd,hi,hbd]
    ·exact dM hs (eX hb) (fun _=>⟨_,rfl,iq hz⟩) (.ptr t 0 _ _ (by rw [ac,if_pos rfl]))
   ·cases h
  ·cases h
 ·rename_i e x
  split at h
  ·rename_i t cs hd hc
   split at h
   ·rename_i hb
    obtain ⟨h1,h2⟩:=aa h
    obtain ⟨hfr,h1⟩:=dh h1
    have hbd:p.b t=none:=by have:=hs.bx t; rw [hb] at this; exact this hfr
    obtain ⟨qs,h3,h4⟩:=kP (ay hs x) hc
    refine ⟨_,_,.ptr t 0,some (t,.st e qs),?_,h2,?_,⟨h1,hb⟩,jJ hb hd⟩
    ·simp [nA,hd,h3,hbd]
    ·exact dM hs (eX hb) (fun _=>⟨_,rfl,h4.mono (eX hb)⟩) (.ptr t 0 _ _ (by rw [ac,if_pos rfl]))
   ·cases h
  ·cases h
 ·rename_i t ps
  split at h
  ·rename_i i pl hi hf
   split at h
   ·rename_i z hz
    split at h
    ·rename_i cs hcs
     obtain ⟨qs,h1,h2⟩:=nh hs _ (iq hz) hcs
     refine ⟨_,.no,.ag qs,none,?_,h,cv hs (.ag _ _ h2.len h2.rep),trivial,a8⟩
     simp only [j1,hi,hf,h1]
     rfl
    ·cases h
   ·cases h
  ·cases h
 ·exact nR hs h
 ·rename_i t x
  split at h
  ·rename_i v hv
   obtain ⟨r,h1,h2⟩:=qN hs (ay hs x) hv
   exact ⟨_,.no,r,none,by simp [h1],h,cv hs h2,trivial,a8⟩
  ·cases h
 ·rename_i t x y
  exact uC hs (hst _ _ _ ho) (ay hs x) (ay hs y) h
 ·rename_i op t x y yt
  exact (yw (ay hs x) (ay hs y) (fun n kd z hn hz=>wx hn hz) h).done hs
 ·rename_i op t x
  exact (yU (ay hs x) h).done hs
 ·rename_i src dst x
  exact (xi hs (ay hs x) h).done hs
 ·rename_i t x lo hi
  exact (uE hs (ay hs x) h).done hs
 ·rename_i t x f
  exact (oa (ay hs x) h).done hs
 ·rename_i t x f
  exact (vf (ay hs x) h).done hs
 ·rename_i t x i
  exact n9 hs (ay hs x) (ay hs i) h
 ·rename_i x i
  split at h
  ·rename_i vs hv
   split at h
   ·rename_i v hvi
    have hq:=ay hs x
    rw [hv] at hq
    obtain ⟨qs,h1,h2⟩:=vH hq
    have hlt:i < qs.length:=by rw [← h2.len]; exact (zg.1 hvi).1
    have hqi:qs[i]? = some qs[i]:=by simp [hlt]
    refine ⟨_,.no,qs[i],none,?_,h,cv hs (h2.rep i _ _ hvi hqi),trivial,a8⟩
    simp [gg,h1,hqi]
   ·cases h
  ·cases h
 ·rename_i t x i
  split at h
  ·rename_i sx kd ix hu hx hi
   obtain ⟨z,h1,h2⟩:=aK h
   obtain ⟨h3,c,h4,rfl⟩:=uG h1
   have hq:=ay hs x
   rw [hx] at hq
   have hr:=ay hs i
   rw [hi] at hr
   refine ⟨_,.no,_,none,?_,h2,cv hs (bz .u8 _),trivial,a8⟩
   simp [nw,l0,hu,eY hq,ck hr,asS,asI,h3,h4]
  ·rename_i n e cs kd0 ix hu hx hi
   split at h
   ·rename_i ie kd hie hue
    split at h
    ·rename_i xs hxs
     obtain ⟨hsz,h⟩:=aa h
     obtain ⟨hln,h⟩:=aa h
     obtain ⟨z,h1,h2⟩:=aK h
     obtain ⟨h3,h4,h5⟩:=kz h1
     have hq:=ay hs x
     rw [hx] at hq
     have hr:=ay hs i
     rw [hi] at hr
     obtain ⟨qs,hq1,hq2⟩:=l8 hq
     have hsz:=Nat.eq_of_beq_eq_true hsz
     have hln:=Nat.eq_of_beq_eq_true hln
     obtain ⟨q,hq3,rfl⟩:=oC cs xs hxs ix.toNat z h4 qs hq2
     refine ⟨_,.no,.d (.v (.int kd z)),none,?_,h2,cv hs (bz kd _),trivial,a8⟩
     have hagg:ie.agg=false:=by
      obtain ⟨_,_,_,_,_,_,_,_,_,ha,_⟩:=aY hie
      rw [ha]; unfold bV; rw [hue]
     have hd:(qs.drop ix.toNat).head? = some (.d (.v (.int kd z))):=by
      rw [List.head?_drop]; exact hq3
     simp [nw,hu,hq1,ck hr,asI,hie,hsz,hagg,lb,hd,h3,show ix < (n:Int) by omega]
    ·cases h
   ·cases h
  ·cases h
 ·rename_i c
  split at h
  ·rename_i f hf
   simp only [hf]
   unfold rR at h
   unfold gj
   have hargs:=dD hs c.args.toList
   split at h
   ·split at h
    ·rename_i x t hx ht
     rw [hx] at hargs
     rcases hargs.cases with ⟨h1,_⟩ | ⟨v,q,vs,qs,h1,h2,h3,h4⟩
     ·cases h1
     ·injection h1 with e1 e2
      subst e1 e2
      rcases h4.cases with ⟨_,rfl⟩ | ⟨_,_,_,_,h5,_⟩
      ·simp only [h2,ht]
       exact (xW hs h3 h).done hs
      ·cases h5
    ·cases h
   ·split at h
    ·rename_i x y t t' hx ht
     rw [hx] at hargs
     rcases hargs.cases with ⟨h1,_⟩ | ⟨v,q,vs,qs,h1,h2,h3,h4⟩
     ·cases h1
     ·injection h1 with e1 e2
      subst e1 e2
      rcases h4.cases with ⟨h5,_⟩ | ⟨v2,q2,vs2,qs2,h5,h6,h7,h8⟩
      ·cases h5
      ·injection h5 with e1 e2
       subst e1 e2
       rcases h8.cases with ⟨_,rfl⟩ | ⟨_,_,_,_,h9,_⟩
       ·subst h6
        simp only [h2,ht]
        split at h
        ·rename_i htt
         have htt:t' = t:=by simpa using htt
         rw [if_pos htt]
         exact (tf hs h3 h7 h).1
        ·cases h
       ·cases h9
    ·cases h
   ·split at h
    ·rename_i x xs hx
     rw [hx] at hargs
     rcases hargs.cases with ⟨h1,_⟩ | ⟨v,q,vs,qs,h1,h2,h3,h4⟩
     ·cases h1
     ·injection h1 with e1 e2
      subst e1 e2
      split at h
      ·rename_i w hw
       obtain ⟨r,h5,h6⟩:=kt false xs x w q qs h3 h4 hw
       simp only [h2]
       exact ⟨_,.no,r,none,by simp [show gd q qs=some r from h5],h,cv hs h6,trivial,a8⟩
      ·cases h
    ·cases h
   ·split at h
    ·rename_i x xs hx
     rw [hx] at hargs
     rcases hargs.cases with ⟨h1,_⟩ | ⟨v,q,vs,qs,h1,h2,h3,h4⟩
     ·cases h1
     ·injection h1 with e1 e2
      subst e1 e2
      split at h
      ·rename_i w hw
       obtain ⟨r,h5,h6⟩:=kt true xs x w q qs h3 h4 hw
       simp only [h2]
       exact ⟨_,.no,r,none,by simp [show gf q qs=some r from h5],h,cv hs h6,trivial,a8⟩
      ·cases h
    ·cases h
   ·split at h
    ·rename_i x y t t' hx ht
     rw [hx] at hargs
     rcases hargs.cases with ⟨h1,_⟩ | ⟨v,q,vs,qs,h1,h2,h3,h4⟩
     ·cases h1
     ·injection h1 with e1 e2
      subst e1 e2
      rcases h4.cases with ⟨h5,_⟩ | ⟨v2,q2,vs2,qs2,h5,h6,h7,h8⟩
      ·cases h5
      ·injection h5 with e1 e2
       subst e1 e2
       rcases h8.cases with ⟨_,rfl⟩ | ⟨_,_,_,_,h9,_⟩
       ·subst h6
        simp only [h2,ht]
        exact xg hs h3 h7 h
       ·cases h9
    ·cases h
   ·cases h
  ·cases h
 ·rename_i f ps qs
  have h1:=dD hs ps.toList
  have h2:=dD hs qs.toList
  exact ⟨_,.no,_,none,rfl,h,cv hs (.fn f _ _ _ _ h1.len h1.rep h2.len h2.rep),trivial,a8⟩
 ·rename_i t x y
  exact wu hs h
 ·rename_i x
  exact (xQ (ay hs x) h).done hs
 ·cases h
def toC:(c:CT)→c.den→PV
 | .v t,x=>.d (eK t x).toD
 | .a i,x=>.ag ((stD i x).map .d)
 | .pl t,x=>.fe [(eK t x).toD]
 | .ps i,x=>.fe (stD i x)
def me:(cs:List CT)→hL cs→List PV
 | [],_=>[]
 | c::cs,x=>toC c x.1::me cs x.2
def eh:(p:PT)→p.den→PV
 | .lf t,x=>.d (eK t x).toD
 | .ag i,x=>.ag ((stD i x).map .d)
 | .pl t,x=>.fe [(eK t x).toD]
 | .ps i,x=>.fe (stD i x)
 | .fn f a b,x=>.fn f (me a x.1) (me b x.2)
 | .own ..,_=>.junk
 | .mv ..,_=>.junk
 | .bx ..,_=>.junk
 | .agr ..,_=>.junk
 | .io _,_=>.junk
def fg:(ps:List PT)→bT ps→List PV
 | [],_=>[]
 | p::ps,x=>eh p x.1::fg ps x.2
def jC:(rs:List PT)→au rs→List PV
 | [],_=>[]
 | [p],x=>[eh p x]
 | p::q::l,x=>eh p x.1::jC (q::l) x.2
def toR (rs:List PT) (x:au rs) : PV:=match rs,x with
 | [p],x=>eh p x
 | rs,x=>.tup (jC rs x)
def ce (rows:List (Nat×Nat×Nat×Nat×Ty)) : Nat→List D→List PV
 | _,[]=>[]
 | j,d::ds=>(match jV rows j with
  | some (R,_,_,_)=>(match d with | .sl es=>.row R es.length | .v _=>.junk)
  | none=>.d d)::ce rows (j + 1) ds
def aR (rows:List (Nat×Nat×Nat×Nat×Ty)) : Nat→List D→BU
 | _,[]=>[]
 | j,d::ds=>match jV rows j with
  | some (R,e,k,_)=>(match d with | .sl es=>(R,.rw e k es)::aR rows (j + 1) ds | .v _=>aR rows (j + 1) ds)
  | none=>aR rows (j + 1) ds
def rwU (e k:Nat) (t:Ty) (xs:List t.den) : Box:=.rw e k (xs.map (az t))
def toI:(p:PT)→List Nat→p.den→PV×BU
 | .own e k t,is,xs=>(match is with | [i]=>(.row i (show List t.den from xs).length,[(i,rwU e k t xs)]) | _=>(.junk,[]))
 | .mv e k t,is,xs=>(match is with | [i]=>(.row i (show List t.den from xs).length,[(i,rwU e k t xs)]) | _=>(.junk,[]))
 | .bx ty n rows,is,x=>(match is with | i::is=>(.ptr i 0,(i,.st ty (ce (fL rows is) 0 (stD n x)))::aR (fL rows is) 0 (stD n x)) | _=>(.junk,[]))
 | .agr n rows,is,x=>(.ag (ce (fL rows is) 0 (stD n x)),aR (fL rows is) 0 (stD n x))
 | .io _,_,_=>(.junk,[])
 | .lf t,_,x=>(eh (.lf t) x,[])
 | .ag i,_,x=>(eh (.ag i) x,[])
 | .pl t,_,x=>(eh (.pl t) x,[])
 | .ps i,_,x=>(eh (.ps i) x,[])
 | .fn f a b,_,x=>(eh (.fn f a b) x,[])
def fQ:(ps:List PT)→List (List Nat)→bT ps→List PV×BU
 | [],_,_=>([],[])
 | p::ps,is::iss,x=>((toI p is x.1).1::(fQ ps iss x.2).1,(toI p is x.1).2++(fQ ps iss x.2).2)
 | _ :: _,[],_=>([],[])
def zU:Box→Box
 | .rw e k es=>.rw e k (es ++ [[]])
 | B=>B
def qW (l:BU) : List Nat→BU
 | []=>[]
 | t::ts=>(t,match lkU l t with | some B=>zU B | none=>.st 0 [])::qW l ts
def toO:(p:PT)→(b:IB)→List Nat→List Nat→p.den→b.den→BU
 | .own ..,.own e k t,is,_,_,xs=>(match is with | [i]=>[(i,rwU e k t xs)] | _=>[])
 | .bx ..,.bx ty n rows,is,js,_,x=>(match is with | i :: _=>(i,.st ty (ce (fL rows js) 0 (stD n x)))::aR (fL rows js) 0 (stD n x) | _=>[])
 | _,_,_,_,_,_=>[]
def qX:PT→List Nat→List Nat
 | .mv ..,is=>is
 | .bx ..,_ :: is=>is
 | _,_=>[]
def tV:List PT→List (List Nat)→List Nat
 | p::ps,is::iss=>qX p is++tV ps iss
 | _,_=>[]
def vM:(ps:List PT)→(ls:List IB)→List (List Nat)→List (List Nat)→bT ps→lC ls→BU
 | p::ps,b::ls,is::iss,js::kss,x,o=>toO p b is js x.1 o.1++vM ps ls iss kss x.2 o.2
 | _,_,_,_,_,_=>[]
def eg:(rs:List PT)→List (List Nat)→au rs→List PV×BU
 | [p],is :: _,x=>([(toI p is x).1],(toI p is x).2)
 | p::q::l,is::iss,x=>((toI p is x.1).1::(eg (q::l) iss x.2).1,(toI p is x.1).2++(eg (q::l) iss x.2).2)
 | _,_,_=>([],[])
def sJ:List PV→PV
 | [v]=>v
 | vs=>.tup vs
def zP:(p:PT)→(b:IB)→p.den→b.den→Prop
 | .own _ _ t,.own _ _ t',x,o=>(show List t'.den from o).length=(show List t.den from x).length
 | _,_,_,_=>True
def wz:(ps:List PT)→(ls:List IB)→bT ps→lC ls→Prop
 | p::ps,b::ls,x,o=>zP p b x.1 o.1∧wz ps ls x.2 o.2
 | _,_,_,_=>True
def fT:List PT→List (List Nat)→Prop
 | [],[]=>True
 | p::ps,is::iss=>is.length=p.nI∧fT ps iss
 | _,_=>False
def jD:List IB→List (List Nat)→Prop
 | [],[]=>True
 | b::ls,js::kss=>js.length=b.nJ∧jD ls kss
 | _,_=>False
def gQ (ps rs:List PT) (iss kss jss:List (List Nat)) (x:bT ps) (r:au rs) : BU:=vM ps (cg rs) iss kss x (mD rs r)++((eg (dx rs) jss (la rs r)).2++qW (fQ ps iss x).2 (tV ps iss))
def Au (P:Program) (f:FuncId) (ps rs:List PT) (x:bT ps) (r:au rs) : Prop :=
 wz ps (cg rs) x (mD rs r)∧∀ iss kss jss,fT ps iss→jD (cg rs) kss→fT (dx rs) jss→(bf iss++(bf kss++bf jss)).Nodup→(∀ j∈bf kss++bf jss,j < 1000000)→(∀ i∈bf iss,i∈xa (fQ ps iss x).2)→cr P f=true ∧
  ∀ (w0:WM) (F0:Nat→Prop) (ρ : Nat→Value) (b:Nat→Option Box) (w:World) (F:Nat→Prop) (vs:Array Value) (args:List PV),bH args=(fQ ps iss x).1→(∀ t B,lkU (fQ ps iss x).2 t=some B→∃ B',b t=some B'∧lD B' = B)→(∀ t∈bf kss++bf jss,b t=none) →
   Inv w0 F0 ρ b w F→aM ρ b w F vs.toList args→Calls P f vs w fun e w'=>∃ v ρ' F',e = .returned v∧Inv w0 F0 ρ' (ca b (gQ ps rs iss kss jss x r)) w' F'∧Stp ρ b w F ρ' (ca b (gQ ps rs iss kss jss x r)) w' F'∧ai ρ' (ca b (gQ ps rs iss kss jss x r)) w' F' v (sJ (eg (dx rs) jss (la rs r)).1)
def cC (P:Program) (f:FuncId) (ps rs:List PT) (F:bT ps→Option (au rs)) : Prop:=∀ x r,F x=some r→((eC ps||eC rs)=false→PC P f (fg ps x) (toR rs r))∧((eC ps||eC rs)=true→Au P f ps rs x r)
def fK (P:Program) (T:List (Nat×Ent)) : Prop:=∀ f vs en,lkE T f vs=some en→cC P f en.ps en.rs en.f
theorem fK.nil:fK P []:=fun f vs en h=>by cases h
theorem fK.cons {T:List (Nat×Ent)} {f:FuncId} {ps rs:List PT} {F:bT ps→Option (au rs)} (h:cC P f ps rs F) (hT:fK P T) : fK P ((f,⟨ps,rs,F⟩)::T):=by
 intro g vs en hg
 simp only [lkE,aP] at hg
 by_cases e:g=f
 ·subst e
  simp only [decide_true] at hg
  split at hg
  ·injection hg with hg
   subst hg
   exact h
  ·exact hT g vs en hg
 ·simp only [e,decide_false] at hg
  exact hT g vs en hg
theorem lZ {t:Ty} {c:SD} {x:t.den} (h:c.as t=some x) : (eK t x).toD=c.toD:=by
 have h1:=SD.as_ok h
 cases t with
 | st i=>simp [SD.as] at h
 | _=>simp only [az,List.cons.injEq,and_true] at h1; exact h1
theorem xd (hs:Sim s p) {t:Ty} {v:SV} {q:PV} {x:t.den} (hv:al s.bx v q) (h:yk s t v=some x) : asData p.b q = .d (eK t x).toD∧(ep v=true→clean q=true∧asData bg q = .d (eK t x).toD):=by
 unfold yk at h
 split at h
 ·rename_i c hc
  have:=xc hs hv hc
  simp only [lZ h]
  exact this
 ·cases h
theorem Ai (hs:Sim s p) {i:Nat} {v:SV} {q:PV} {x:ST i} (hv:al s.bx v q) (h:yn s i v=some x) : asData p.b q = .ag ((stD i x).map .d)∧(ep v=true→clean q=true∧asData bg q = .ag ((stD i x).map .d)):=by
 unfold yn at h
 split at h
 ·rename_i cs
  split at h
  ·rename_i ds hds
   obtain ⟨qs,rfl,hq⟩:=l8 hv
   obtain ⟨h1,h2⟩:=ut hs hq hds
   have h3:=kc h
   have e:ds.map (fun c=>PV.d c.toD)=(stD i x).map .d:=by rw [← h3,List.map_map]; rfl
   refine ⟨by simp only [asData,h1,e],fun hn=>?_⟩
   obtain ⟨h4,h5⟩:=h2 hn
   exact ⟨by simpa [clean] using h4,by simp only [asData,h5,e]⟩
  ·cases h
 ·cases h
theorem zX {cs:List SD} {q:PV} (b:Nat→Option Box) (hv:al B (.fe cs) q) : asData b q = .fe (cs.map SD.toD)∧clean q=true:=by
 cases hv with
 | fe _ ds h hn=>subst h; exact ⟨rfl,rfl⟩
theorem vg {t:Ty} {v:SV} {q:PV} {x:t.den} (b:Nat→Option Box) (hv:al B v q) (h:uq t v=some x) : asData b q = .fe [(eK t x).toD]∧clean q=true:=by
 unfold uq at h
 split at h
 ·rename_i c
  have e:(eK t x).toD=c.toD:=lZ h
  rw [e]
  exact zX b hv
 ·cases h
theorem vb {i:Nat} {v:SV} {q:PV} {x:ST i} (b:Nat→Option Box) (hv:al B v q) (h:up i v=some x) : asData b q = .fe (stD i x)∧clean q=true:=by
 unfold up at h
 split at h
 ·rename_i cs
  rw [← kc h]
  exact zX b hv
 ·cases h
theorem yo (hs:Sim s p) {t:CT} {v:SV} {q:PV} {x:t.den} (hv:al s.bx v q) (h:Ab s t v=some x) : asData p.b q=toC t x∧(ep v=true→clean q=true∧asData bg q=toC t x):=by
 cases t with
 | v t=>exact xd hs hv h
 | a i=>exact Ai hs hv h
 | pl t=>exact ⟨(vg p.b hv h).1,fun _=>⟨(vg p.b hv h).2,(vg bg hv h).1⟩⟩
 | ps i=>exact ⟨(vb p.b hv h).1,fun _=>⟨(vb p.b hv h).2,(vb bg hv h).1⟩⟩
theorem nF (hs:Sim s p) : ∀ {ps:List CT} {vs:List SV} {qs:List PV} {x:hL ps},aA s.bx vs qs→rK s ps vs=some x→av p.b qs=me ps x∧(aH vs=true→aU qs=true∧av bg qs=me ps x)
 | [],[],qs,x,hv,h=>by
  rcases hv.cases with ⟨_,rfl⟩ | ⟨_,_,_,_,h1,_⟩
  ·simp [av,me,aU]
  ·cases h1
 | [],_ :: _,_,_,_,h=>by cases h
 | _ :: _,[],_,_,_,h=>by cases h
 | t::ps,v::vs,qs,x,hv,h=>by
  rcases hv.cases with ⟨h1,_⟩ | ⟨v',q,vs',qs',h1,rfl,h2,h3⟩
  ·cases h1
  ·injection h1 with e1 e2
   subst e1 e2
   simp only [rK] at h
   obtain ⟨y,h4,h5⟩:=aK h
   obtain ⟨ys,h6,h7⟩:=aK h5
   injection h7 with h7
   subst h7
   obtain ⟨m1,m2⟩:=yo hs h2 h4
   obtain ⟨m3,m4⟩:=nF hs h3 h6
   refine ⟨by simp [av,me,m1,m3],fun hn=>?_⟩
   simp only [aH] at hn
   split at hn
   ·rename_i hn1
    obtain ⟨n1,n2⟩:=m2 hn1
    obtain ⟨n3,n4⟩:=m4 hn
    simp [av,aU,me,n1,n2,n3,n4]
   ·cases hn
theorem yy {f:FuncId} {ps qs:List SV} {q:PV} (h:al B (.fn f ps qs) q) : ∃ ps' qs',q = .fn f ps' qs'∧aA B ps ps'∧aA B qs qs':=by
 cases h with
 | fn _ _ _ ps' qs' hl hr hl2 hr2=>exact ⟨ps',qs',rfl,⟨hl,hr⟩,hl2,hr2⟩
theorem l3 (hs:Sim s p) {t:PT} {v:SV} {q:PV} {x:t.den} (hv:al s.bx v q) (h:rN s t v=some x) : asData p.b q=eh t x∧(ep v=true→clean q=true∧asData bg q=eh t x):=by
 cases t with
 | lf t=>exact xd hs hv h
 | ag i=>exact Ai hs hv h
 | pl t=>exact ⟨(vg p.b hv h).1,fun _=>⟨(vg p.b hv h).2,(vg bg hv h).1⟩⟩
 | ps i=>exact ⟨(vb p.b hv h).1,fun _=>⟨(vb p.b hv h).2,(vb bg hv h).1⟩⟩
 | fn f a b =>
  have h:zy s f a b v=some x:=h
  unfold zy at h
  split at h
  ·rename_i f' ps qs
   split at h
   ·rename_i hf
    rw [aP] at hf
    have hf:=zd hf
    subst hf
    obtain ⟨y,h4,h5⟩:=aK h
    obtain ⟨ys,h6,h7⟩:=aK h5
    injection h7 with h7
    subst h7
    obtain ⟨ps',qs',rfl,k1,k2⟩:=yy hv
    obtain ⟨m1,m2⟩:=nF hs k1 h4
    obtain ⟨m3,m4⟩:=nF hs k2 h6
    refine ⟨by simp only [asData,eh,m1,m3],fun hn=>?_⟩
    simp only [ep] at hn
    split at hn
    ·rename_i hn1
     obtain ⟨n1,n2⟩:=m2 hn1
     obtain ⟨n3,n4⟩:=m4 hn
     exact ⟨by simp only [clean,n1,n3,Bool.and_self],by simp only [asData,eh,n2,n4]⟩
    ·cases hn
   ·cases h
  ·cases h
 | own=>exact be (x:=x) h
 | mv=>exact be (x:=x) h
 | bx=>exact be (x:=x) h
 | agr=>exact be (x:=x) h
 | io=>exact be (x:=x) h
theorem rM (hs:Sim s p) : ∀ {ps:List PT} {vs:List SV} {qs:List PV} {x:bT ps},aA s.bx vs qs→ur s ps vs=some x→av p.b qs=fg ps x∧(aH vs=true→aU qs=true∧av bg qs=fg ps x)
 | [],[],qs,x,hv,h=>by
  rcases hv.cases with ⟨_,rfl⟩ | ⟨_,_,_,_,h1,_⟩
  ·simp [av,fg,aU]
  ·cases h1
 | [],_ :: _,_,_,_,h=>by cases h
 | _ :: _,[],_,_,_,h=>by cases h
 | t::ps,v::vs,qs,x,hv,h=>by
  rcases hv.cases with ⟨h1,_⟩ | ⟨v',q,vs',qs',h1,rfl,h2,h3⟩
  ·cases h1
  ·injection h1 with e1 e2
   subst e1 e2
   simp only [ur] at h
   obtain ⟨y,h4,h5⟩:=aK h
   obtain ⟨ys,h6,h7⟩:=aK h5
   injection h7 with h7
   subst h7
   obtain ⟨m1,m2⟩:=l3 hs h2 h4
   obtain ⟨m3,m4⟩:=rM hs h3 h6
   refine ⟨by simp [av,fg,m1,m3],fun hn=>?_⟩
   simp only [aH] at hn
   split at hn
   ·rename_i hn1
    obtain ⟨n1,n2⟩:=m2 hn1
    obtain ⟨n3,n4⟩:=m4 hn
    simp [av,aU,fg,n1,n2,n3,n4]
   ·cases hn
theorem po (i:Nat) (x:ST i) : aA B (kv (stC i x)) ((stD i x).map .d):=by
 rw [← gC i x]
 exact mO _ (i0 i x)
theorem t8 {t:Ty} (x:t.den) (h:∀ i,t≠.st i) : al B (.fe [eK t x]) (.fe [(eK t x).toD]):=by
 refine .fe _ _ rfl fun c hc=>?_
 simp only [List.mem_cons,List.not_mem_nil,or_false] at hc
 subst hc
 cases t with
 | st i=>exact absurd rfl (h i)
 | _=>exact fun e=>by cases e
theorem w8:∀ (t:CT) (x:t.den),Ac t=true→al B (z8 t x) (toC t x)
 | .v (.int _),x,_=>bz _ _
 | .v .bool,x,_=>bp _
 | .v .str,x,_=>iK _
 | .v (.sl t),x,_=>se t x
 | .v (.st i),x,h=>by cases h
 | .a i,x,_=>.ag _ _ (po (B:=B) i x).len (po i x).rep
 | .pl t,x,h=>t8 x fun i e=>by subst e; cases h
 | .ps i,x,_=>.fe _ _ (gC i x).symm (i0 i x)
theorem kK:∀ (ps:List CT) (x:hL ps),nH ps=true→aA B (oQ ps x) (me ps x)
 | [],_,_=>.nil
 | p::ps,x,h=>by
  simp only [nH] at h
  split at h
  ·rename_i hp; exact .cons (w8 p x.1 hp) (kK ps x.2 h)
  ·cases h
theorem jY:∀ (t:PT) (x:t.den),uS t=true→al B (vi t x) (eh t x)
 | .lf (.int _),x,_=>bz _ _
 | .lf .bool,x,_=>bp _
 | .lf .str,x,_=>iK _
 | .lf (.sl t),x,_=>se t x
 | .lf (.st i),x,h=>by cases h
 | .ag i,x,_=>.ag _ _ (po (B:=B) i x).len (po i x).rep
 | .pl t,x,h=>t8 x fun i e=>by subst e; cases h
 | .ps i,x,_=>.fe _ _ (gC i x).symm (i0 i x)
 | .fn f a b,x,h=>by
  have h:(match nH a with | true=>nH b | false=>false)=true:=h
  split at h
  ·rename_i h1
   have k1:=kK (B:=B) a x.1 h1
   have k2:=kK (B:=B) b x.2 h
   exact .fn f _ _ _ _ k1.len k1.rep k2.len k2.rep
  ·cases h
 | .own ..,x,h=>by cases h
 | .mv ..,x,h=>by cases h
 | .bx ..,x,h=>by cases h
 | .agr ..,x,h=>by cases h
 | .io _,x,h=>by cases h
theorem oS:∀ (ps:List PT) (x:bT ps),gL ps=true→aA B (lr ps x) (fg ps x)
 | [],_,_=>.nil
 | p::ps,x,h=>by
  simp only [gL] at h
  split at h
  ·rename_i hp; exact .cons (jY p x.1 hp) (oS ps x.2 h)
  ·cases h
theorem kJ:∀ (rs:List PT) (x:au rs),gL rs=true→aA B (uj rs x) (jC rs x)
 | [],_,_=>.nil
 | [p],x,h=>by
  simp only [gL] at h
  split at h
  ·rename_i hp; exact .cons (jY p x hp) .nil
  ·cases h
 | p::q::l,x,h=>by
  have h':uS p=true∧gL (q::l)=true:=by
   rw [gL] at h
   split at h
   ·rename_i hp; exact ⟨hp,h⟩
   ·cases h
  exact .cons (jY p x.1 h'.1) (kJ (q::l) x.2 h'.2)
theorem w7 (rs:List PT) (x:au rs) (h:gL rs=true) : al B (z7 rs x) (toR rs x):=by
 match rs,x,h with
 | [],x,h=>exact .tup _ _ rfl (fun j c q h1=>by simp [uj] at h1)
 | [p],x,h =>
  have:=kJ (B:=B) [p] x h
  exact this.head
 | p::q::l,x,h =>
  have:=kJ (B:=B) (p::q::l) x h
  exact .tup _ _ this.len this.rep
theorem ng:∀ {ds:List D},(∀ d∈ds,∃ x,d = .v x)→gW (ds.map .d)=true
 | [],_=>rfl
 | d::ds,h=>by
  obtain ⟨x,rfl⟩:=h d List.mem_cons_self
  simp [gW,flat,ng (fun d hd=>h d (List.mem_cons_of_mem _ hd))]
theorem oI:∀ (t:PT) (x:t.den),t.flat=true→flat (eh t x)=true
 | .lf (.int _),_,_=>rfl
 | .lf .bool,_,_=>rfl
 | .lf .str,_,_=>rfl
 | .lf (.sl _),_,h=>by cases h
 | .lf (.st _),_,h=>by cases h
 | .ag i,x,h=>by
  simp only [eh,flat]
  exact ng (yX i x h)
 | .pl _,_,h=>by cases h
 | .ps _,_,h=>by cases h
 | .fn _ _ _,_,h=>by cases h
 | .own ..,_,h=>by cases h
 | .mv ..,_,h=>by cases h
 | .bx ..,_,h=>by cases h
 | .agr ..,_,h=>by cases h
 | .io _,_,h=>by cases h
theorem oH:∀ (rs:List PT) (x:au rs),eS rs=true→gW (jC rs x)=true
 | [],_,_=>rfl
 | [p],x,h=>by
  simp only [eS] at h
  split at h
  ·rename_i hp; simp [jC,gW,oI p x hp]
  ·cases h
 | p::q::l,x,h=>by
  have h':p.flat=true∧eS (q::l)=true:=by
   rw [eS] at h
   split at h
   ·rename_i hp; exact ⟨hp,h⟩
   ·cases h
  simp [jC,gW,oI p x.1 h'.1,oH (q::l) x.2 h'.2]
theorem hJ:∀ (ds:List D),aU (ds.map .d)=true
 | []=>rfl
 | d::ds=>by simp [aU,clean,hJ ds]
theorem vx:∀ (t:CT) (x:t.den),clean (toC t x)=true
 | .v _,_=>rfl
 | .a i,x=>by simp [toC,clean,hJ]
 | .pl _,_=>rfl
 | .ps _,_=>rfl
theorem nN:∀ (cs:List CT) (x:hL cs),aU (me cs x)=true
 | [],_=>rfl
 | c::cs,x=>by simp only [me,aU,vx c x.1,nN cs x.2,Bool.and_self]
theorem nM:∀ (t:PT) (x:t.den),clean (eh t x)=true
 | .lf _,_=>rfl
 | .ag i,x=>by simp [eh,clean,hJ]
 | .pl _,_=>rfl
 | .ps _,_=>rfl
 | .fn _ a b,x=>by simp only [eh,clean,nN,Bool.and_self]
 | .own ..,_=>rfl
 | .mv ..,_=>rfl
 | .bx ..,_=>rfl
 | .agr ..,_=>rfl
 | .io _,_=>rfl
theorem nL:∀ (rs:List PT) (x:au rs),aU (jC rs x)=true
 | [],_=>rfl
 | [p],x=>by simp only [jC,aU,Bool.and_true]; exact nM p x
 | p::q::l,x=>by simp only [jC,aU,Bool.and_eq_true]; exact ⟨nM p x.1,nL (q::l) x.2⟩
theorem ff (rs:List PT) (x:au rs) : (∃ p,jC rs x = [p]∧toR rs x=p)∨toR rs x = .tup (jC rs x):=by
 match rs,x with
 | [],x=>exact .inr rfl
 | [p],x=>exact .inl ⟨_,rfl,rfl⟩
 | p::q::l,x=>exact .inr rfl
theorem wL (rs:List PT) (x:au rs) (h:eS rs=true) : flat (toR rs x)=true:=by
 have:=oH rs x h
 rcases ff rs x with ⟨p,h1,h2⟩ | h1
 ·rw [h1] at this
  rw [h2]
  simpa [gW] using this
 ·rw [h1]
  simpa [flat] using this
theorem vu (rs:List PT) (x:au rs) : clean (toR rs x)=true:=by
 have:=nL rs x
 rcases ff rs x with ⟨p,h1,h2⟩ | h1
 ·rw [h1] at this
  rw [h2]
  simpa [aU] using this
 ·rw [h1]
  simpa [clean] using this
theorem xl {T:List (Nat×Ent)} (hT:fK P T) (hs:Sim s p) {f:Nat} {vs:List SV} {qs:List PV} (hM:u9 T f vs=false) (hv:aA s.bx vs qs) {k:SV→Option ρ} {res : ρ} (h:uv T f s vs k=some res) : ∃ v r,qj P f p.b qs r∧k v=some res∧al s.bx v r:=by
 unfold uv at h
 split at h
 ·cases h
 ·rename_i en hen
  have h0:=(aa h).1
  replace h:=(aa h).2
  have h1:=(aa h).1
  replace h:=(aa h).2
  obtain ⟨x,h2,h⟩:=aK h
  obtain ⟨r,h3,h4⟩:=aK h
  obtain ⟨m1,m2⟩:=rM hs hv h2
  have hc:=(hT f _ en hen x r h3).1 (by unfold u9 at hM; rw [hen] at hM; exact hM)
  refine ⟨_,toR en.rs r,?_,h4,w7 en.rs r h0⟩
  simp only [Bool.or_eq_true] at h1
  rcases h1 with h1 | h1
  ·obtain ⟨n1,n2⟩:=m2 h1
   exact .inl ⟨n1,vu _ _,by rw [n2]; exact hc⟩
  ·exact .inr ⟨wL _ _ h1,by rw [m1]; exact hc⟩
end
section
section
variable {P:Program} {n:Nat} {Qs:Exit→PS→Prop} {c:Code}
end
end
section
def Le (p p':PS) : Prop:=∀ (n:Nat) (w0:WM) (F0:Nat→Prop) (a:Act) (w:World),dI n w0 F0 p a w→dI n w0 F0 p' a w
theorem Le.refl (p:PS) : Le p p:=fun _ _ _ _ _ h=>h
theorem Le.trans {p p' p'':PS} (h:Le p p') (h':Le p' p'') : Le p p'':=fun n w0 F0 a w hc=>h' n w0 F0 a w (h n w0 F0 a w hc)
theorem gI {P:Program} {n:Nat} {c:Code} {Q:Exit→PS→Prop} {p p':PS} (hl:Le p p') (h:PWP P n c Q p') : PWP P n c Q p:=fun w0 F0 a w hc=>h w0 F0 a w (hl n w0 F0 a w hc)
theorem bI {P:Program} {n:Nat} {c:Code} {Q Q':Exit→PS→Prop} {p:PS} (h:PWP P n c Q p) (hq:∀ e p',Q e p'→∃ p'',Le p' p''∧Q' e p'') : PWP P n c Q' p :=
 fun w0 F0 a w hc=>wp_mono (h w0 F0 a w hc) fun e a' w' ⟨s',h1,h2⟩=>by
  obtain ⟨p'',h3,h4⟩:=hq e s' h1
  exact ⟨p'',h4,h3 n w0 F0 a' w' h2⟩
structure bO (s:SS) (p:PS) : Prop where
 sl:∀ i,al s.bx (lkV s.sl i) (p.t i)
 bx:∀ t b,lkB s.bx t=some b→cZ s.bx true (some b) (p.b t)
theorem cZ.some {B:List (Nat×Option aj)} {o o':Bool} {b:aj} {q:Option Box} (h:cZ B o (some b) q) : cZ B o' (some b) q:=by cases b <;> exact h
theorem Sim.w {s:SS} {p:PS} (h:Sim s p) : bO s p:=⟨h.sl,fun t b hb=>by have:=h.bx t; rw [hb] at this; exact this.some⟩
mutual
def xe:SV→PV→PV
 | .junk,_=>.junk
 | .ag cs,.ag qs=>.ag (dJ cs qs)
 | .tup cs,.tup qs=>.tup (dJ cs qs)
 | .fn _ ps qs,.fn f ps' qs'=>.fn f (dJ ps ps') (dJ qs qs')
 | _,q=>q
def dJ:List SV→List PV→List PV
 | [],_=>[]
 | _,[]=>[]
 | c::cs,q::qs=>xe c q::dJ cs qs
end
def p6:aj→Box→Box
 | .st _ cs,.st ty qs=>.st ty (dJ cs qs)
 | _,b=>b
def jr (s:SS) (p:PS) : PS:=⟨fun i=>xe (lkV s.sl i) (p.t i),fun t=>match lkB s.bx t with | none=>none | some b=>(p.b t).map (p6 b)⟩
theorem bD:∀ (cs:List SV) (qs:List PV),cs.length=qs.length→(dJ cs qs).length=qs.length
 | [],[],_=>rfl
 | [],_ :: _,h=>by simp at h
 | _ :: _,[],h=>by simp at h
 | c::cs,q::qs,h=>by simp only [dJ,List.length_cons,bD cs qs (by simpa using h)]
theorem bE:∀ (cs:List SV) (qs:List PV) (j:Nat) (r:PV),(dJ cs qs)[j]? = some r→∃ c q,cs[j]? = some c∧qs[j]? = some q∧r=xe c q
 | [],qs,j,r,h=>by simp [dJ] at h
 | _ :: _,[],j,r,h=>by simp [dJ] at h
 | c::cs,q::qs,0,r,h=>by simp [dJ] at h; exact ⟨c,q,rfl,rfl,h.symm⟩
 | c::cs,q::qs,j + 1,r,h=>by
  simp [dJ] at h
  simpa using bE cs qs j r h
theorem ql {B:List (Nat×Option aj)} {v:SV} {q:PV} (h:al B v q) : al B v (xe v q):=by
 induction h with
 | junk q=>exact .junk _
 | d c y h=>exact .d c y h
 | ag cs qs hl hr ih =>
  refine .ag cs _ (by rw [bD cs qs hl]; exact hl) (fun j c r h1 h2=>?_)
  obtain ⟨c',q',h3,h4,rfl⟩:=bE cs qs j r h2
  rw [h1] at h3
  injection h3 with h3
  subst h3
  exact ih j c q' h1 h4
 | tup cs qs hl hr ih =>
  refine .tup cs _ (by rw [bD cs qs hl]; exact hl) (fun j c r h1 h2=>?_)
  obtain ⟨c',q',h3,h4,rfl⟩:=bE cs qs j r h2
  rw [h1] at h3
  injection h3 with h3
  subst h3
  exact ih j c q' h1 h4
 | ptr t o ty cs hb=>exact .ptr t o ty cs hb
 | row t n e k ty xs pins hb hn=>exact .row t n e k ty xs pins hb hn
 | re t p o n i e k ty xs pins pin hb hn hp hi=>exact .re t p o n i e k ty xs pins pin hb hn hp hi
 | vw t lo hi n e k ty xs pins hb hn=>exact .vw t lo hi n e k ty xs pins hb hn
 | fe cs ds h hn=>exact .fe cs ds h hn
 | fn f ps qs ps' qs' hl hr hl2 hr2 ih ih2 =>
  refine .fn f ps qs _ _ (by rw [bD ps ps' hl]; exact hl) (fun j c r h1 h2=>?_) (by rw [bD qs qs' hl2]; exact hl2) (fun j c r h1 h2=>?_)
  ·obtain ⟨c',q',h3,h4,rfl⟩:=bE ps ps' j r h2
   rw [h1] at h3
   injection h3 with h3
   subst h3
   exact ih j c q' h1 h4
  ·obtain ⟨c',q',h3,h4,rfl⟩:=bE qs qs' j r h2
   rw [h1] at h3
   injection h3 with h3
   subst h3
   exact ih2 j c q' h1 h4
theorem xf {B:List (Nat×Option aj)} {cs:List SV} {qs:List PV} (h:aA B cs qs) : aA B cs (dJ cs qs) :=
 ⟨by rw [bD cs qs h.len]; exact h.len,fun j c r h1 h2=>by
  obtain ⟨c',q',h3,h4,rfl⟩:=bE cs qs j r h2
  rw [h1] at h3
  injection h3 with h3
  subst h3
  exact ql (h.rep j c q' h1 h4)⟩
section
variable {ρ : Nat→Value} {b b':Nat→Option Box} {w:World} {F:Nat→Prop} {B:List (Nat×Option aj)}
theorem qC (hst:∀ t ty cs ty' qs,lkB B t=some (.st ty cs)→b t=some (.st ty' qs)→∃ ty2 qs2,b' t=some (.st ty2 qs2)) (hrw:∀ t e k ty xs pins,lkB B t=some (.rw e k ty xs pins)→b' t=b t) {v:SV} {q:PV} (hv:al B v q) :
  ∀ {x:Value},ai ρ b w F x q→ai ρ b' w F x (xe v q):=by
 induction hv with
 | junk q=>exact fun _=>.junk _
 | d c y h =>
  intro x hp
  cases hp with
  | d _ _ h=>exact .d _ _ h
 | ag cs qs hl hr ih =>
  intro x hp
  cases hp with
  | ag xs _ hl2 h1 hr2 =>
   refine .ag xs _ (by rw [bD cs qs hl]; exact hl2) h1 (fun j x r h2 h3=>?_)
   obtain ⟨c,q,h4,h5,rfl⟩:=bE cs qs j r h3
   exact ih j c q h4 h5 (hr2 j x q h2 h5)
 | tup cs qs hl hr ih =>
  intro x hp
  cases hp with
  | tup xs _ hl2 hr2 =>
   refine .tup xs _ (by rw [bD cs qs hl]; exact hl2) (fun j x r h2 h3=>?_)
   obtain ⟨c,q,h4,h5,rfl⟩:=bE cs qs j r h3
   exact ih j c q h4 h5 (hr2 j x q h2 h5)
 | ptr t o ty cs hb =>
  intro x hp
  cases hp with
  | ptr _ _ g ty' qs h1 h2 =>
   obtain ⟨ty2,qs2,h3⟩:=hst t ty cs ty' qs hb h1
   exact .ptr t o g ty2 qs2 h3 h2
 | row t n e k ty xs pins hb hn =>
  intro x hp
  cases hp with
  | row _ _ A c e2 k2 es h1 h2 h3 h4 h5=>exact .row t n A c e2 k2 es (by rw [hrw t e k ty xs pins hb]; exact h1) h2 h3 h4 h5
 | re t p o n i e k ty xs pins pin hb hn hp hi =>
  intro x hx
  cases hx with
  | re _ _ _ _ a e2 k2 es h1 h2 h3 h4=>exact .re t n i o a e2 k2 es (by rw [hrw t e k ty xs pins hb]; exact h1) h2 h3 h4
 | vw t lo hi n e k ty xs pins hb hn=>
  intro x hp
  cases hp with
  | vw _ _ _ _ A m c e2 k2 es h1 h2 h3 h4 h5 h6=>exact .vw t n lo hi A m c e2 k2 es (by rw [hrw t e k ty xs pins hb]; exact h1) h2 h3 h4 h5 h6
 | fe cs ds h hn =>
  intro x hx
  cases hx with
  | fe a _ us h1 h2 h3=>exact .fe a ds us h1 h2 h3
 | fn f ps qs ps' qs' hl hr hl2 hr2 ih ih2 =>
  intro x hx
  cases hx with
  | fn _ xs ys _ _ m1 m2 m3 m4 =>
   refine .fn f xs ys _ _ (by rw [bD ps ps' hl]; exact m1) (fun j x r h2 h3=>?_) (by rw [bD qs qs' hl2]; exact m3) (fun j x r h2 h3=>?_)
   ·obtain ⟨c,q,h4,h5,rfl⟩:=bE ps ps' j r h3
    exact ih j c q h4 h5 (m2 j x q h2 h5)
   ·obtain ⟨c,q,h4,h5,rfl⟩:=bE qs qs' j r h3
    exact ih2 j c q h4 h5 (m4 j x q h2 h5)
end
theorem gD {s:SS} {p:PS} (h:bO s p) : Sim ⟨s.sl,s.bx,s.pr,s.ro,[]⟩ (jr s p):=by
 refine ⟨fun i=>ql (h.sl i),fun t=>?_⟩
 show cZ s.bx (af [] t) (lkB s.bx t) (match lkB s.bx t with | none=>none | some b=>(p.b t).map (p6 b))
 cases hb:lkB s.bx t with
 | none=>exact fun _=>rfl
 | some bx =>
  have h1:=h.bx t bx hb
  cases bx with
  | st ty cs =>
   obtain ⟨qs,h2,h3⟩:=h1
   rw [h2]
   exact ⟨dJ cs qs,rfl,xf h3⟩
  | rw e k ty xs pins =>
   obtain ⟨h2,h3⟩:=h1
   rw [h2]
   exact ⟨rfl,h3⟩
theorem mW {s:SS} {p:PS} (h:bO s p) : Le p (jr s p):=by
 intro n w0 F0 a w ⟨h1,h2,ρ,F,hi,hev⟩
 have hst:∀ t ty cs ty' qs,lkB s.bx t=some (.st ty cs)→p.b t=some (.st ty' qs)→∃ ty2 qs2,(jr s p).b t=some (.st ty2 qs2):=fun t ty cs ty' qs k1 k2=>by
  refine ⟨ty',dJ cs qs,?_⟩
  show (match lkB s.bx t with | none=>none | some b=>(p.b t).map (p6 b)) = _
  rw [k1,k2]; rfl
 have hrw:∀ t e k ty xs pins,lkB s.bx t=some (.rw e k ty xs pins)→(jr s p).b t=p.b t:=fun t e k ty xs pins k1=>by
  show (match lkB s.bx t with | none=>none | some b=>(p.b t).map (p6 b)) = _
  rw [k1,(h.bx t _ k1).1]; rfl
 have hreg:∀ t q,eD ρ p.b t q→eD ρ (jr s p).b t q:=fun t q k=>by
  cases hl:lkB s.bx t with
  | none=>exact k.less (.inl (by show (match lkB s.bx t with | none=>none | some b=>(p.b t).map (p6 b)) = _; rw [hl]))
  | some b =>
   have hc:(jr s p).b t=(p.b t).map (p6 b):=by show (match lkB s.bx t with | none=>none | some b=>(p.b t).map (p6 b)) = _; rw [hl]
   cases b with
   | st ty cs =>
    refine k.mono (fun e=>by rw [hc,e]; rfl) (fun ty' qs e=>⟨⟨ty',_,by rw [hc,e]; rfl⟩,rfl⟩) (fun e k' es he=>⟨e,es,by rw [hc,he]; rfl,Nat.le_refl _,fun _=>rfl⟩)
   | rw e k' ty xs pins=>exact k.same (hrw t e k' ty xs pins hl) rfl
 have hb:∀ t Bx,(jr s p).b t=some Bx→∃ b B0,lkB s.bx t=some b∧p.b t=some B0∧Bx=p6 b B0:=fun t Bx k=>by
  have k:(match lkB s.bx t with | none=>none | some b=>(p.b t).map (p6 b))=some Bx:=k
  cases hl:lkB s.bx t with
  | none=>rw [hl] at k; cases k
  | some b =>
   rw [hl] at k
   rw [zm] at k
   obtain ⟨B0,k1,k2⟩:=k
   exact ⟨b,B0,rfl,k1,k2.symm⟩
 refine ⟨h1,h2,ρ,F,⟨hi.ext,hi.f0,hi.flt,hi.fnew,fun t Bx k=>?_,fun t t' Bx Bx' g k1 k2=>?_,fun t q hq=>⟨(hi.reg t q hq).1,hreg t q (hi.reg t q hq).2⟩⟩,fun i=>qC hst hrw (h.sl i) (hev i)⟩
 ·obtain ⟨b,B0,k1,k2,rfl⟩:=hb t Bx k
  have hbx:=hi.box t B0 k2
  have hs:=h.bx t b k1
  cases b with
  | st ty cs =>
   obtain ⟨qs,k3,k4⟩:=hs
   rw [k2] at k3
   injection k3 with k3
   subst k3
   cases hbx with
   | st _ _ g xs hρ hg hF hh hl h1x hr =>
    refine .st ty _ g xs hρ hg hF hh (by rw [bD cs qs k4.len]; exact hl) h1x (fun j x r m1 m2=>?_)
    obtain ⟨c,q,m3,m4,rfl⟩:=bE cs qs j r m2
    exact qC hst hrw (k4.rep j c q m3 m4) (hr j x q m1 m4)
  | rw e k ty xs pins =>
   obtain ⟨k3,_⟩:=hs
   rw [k2] at k3
   injection k3 with k3
   subst k3
   cases hbx with
   | rw _ _ _ xs' hk0 ho hF hk hl hr hown=>exact .rw _ _ _ xs' hk0 ho hF hk hl hr hown
   | gn _ _ _ hρ=>exact .gn _ _ _ hρ
 ·obtain ⟨_,B1,_,m1,_⟩:=hb t Bx k1
  obtain ⟨_,B2,_,m2,_⟩:=hb t' Bx' k2
  exact hi.dist t t' B1 B2 g m1 m2
def zW (t:Nat) (es:List (List D)) (p:PS) : PS:=⟨fun i=>frz t es (p.t i),fun i=>if i=t then none else (p.b i).map (kE t es)⟩
theorem wA {p:PS} (t:Nat) {e k:Nat} {es:List (List D)} (hb0:p.b t=some (.rw e k es)) : Le p (zW t es p):=by
 intro n w0 F0 a w ⟨h1,h2,ρ,F,hi,hev⟩
 have hb':∀ i,(zW t es p).b i=if i=t then none else (p.b i).map (kE t es):=fun i=>rfl
 have hbt:=(hi.box t _ hb0)
 refine ⟨h1,h2,ρ,fun g=>F g∨blk (ρ t)=some g,⟨hi.ext,fun g hg=>.inl (hi.f0 g hg),?_,?_,fun t' B h=>?_,fun t1 t2 B1 B2 g k1 k2 hne=>?_,hi.reg_frz hb'⟩,fun i=>(hev i).frz hi hb0 hb'⟩
 ·rintro g (hg | hg)
  ·exact hi.flt g hg
  ·exact (hbt.lt hg).1
 ·rintro g (hg | hg)
  ·exact hi.fnew g hg
  ·exact .inr (hbt.lt hg).2.1
 ·rw [hb'] at h
  split at h
  ·cases h
  ·rename_i ht
   rw [zm] at h
   obtain ⟨B0,hB0,rfl⟩:=h
   have hnF:∀ g,blk (ρ t')=some g→¬ (F g∨blk (ρ t)=some g):=by
    rintro g hg (h | h)
    ·exact ((hi.box t' B0 hB0).lt hg).2.2 h
    ·exact hi.dist t' t B0 _ g hB0 hb0 ht hg h
   cases hi.box t' B0 hB0 with
   | st ty cs g xs hρ hg hF hh hl h1 hr =>
    refine .st ty _ g xs hρ hg (hnF g (by rw [hρ]; rfl)) hh (by rw [bL]; exact hl) h1 (fun j x c k1 k2=>?_)
    obtain ⟨d,h4,rfl⟩:=bM t es cs j c k2
    exact (hr j x d k1 h4).frz hi hb0 hb'
   | rw e' k' es' xs hk0 ho hF hk hl hr hown=>exact .rw e' k' es' xs hk0 ho hnF hk hl (fun j x d k1 k2=>(hr j x d k1 k2).mono (fun g h=>.inl h) (fun _ _=>rfl)) hown
   | gn e' k' es' hρ=>exact .gn e' k' es' hρ
 ·rw [hb'] at k1 k2
  split at k1
  ·cases k1
  ·split at k2
   ·cases k2
   ·rw [zm] at k1 k2
    obtain ⟨B1',k1,_⟩:=k1
    obtain ⟨B2',k2,_⟩:=k2
    exact hi.dist t1 t2 B1' B2' g k1 k2 hne
def wI (t:Nat) (c:SD) : aj→aj
 | .st ty cs=>.st ty (dC t c cs)
 | b=>b
theorem cM (t:Nat) (c:SD) : ∀ (l:List (Nat×Option aj)) (i:Nat),lkB (fy t c l) i=(lkB l i).map (wI t c)
 | [],_=>rfl
 | (j,none)::l,i=>by simp only [fy,ac,cM t c l i]; split <;> rfl
 | (j,some (.st ty cs))::l,i=>by simp only [fy,ac,cM t c l i]; split <;> rfl
 | (j,some (.rw e k ty xs pins))::l,i=>by simp only [fy,ac,cM t c l i]; split <;> rfl
theorem lU (t:Nat) (c:SD) : ∀ (l:List (Nat×SV)) (i:Nat),lkV (nc t c l) i=gU t c (lkV l i)
 | [],_=>rfl
 | (j,v)::l,i=>by simp only [nc,aO,lU t c l i]; split <;> rfl
theorem dl (t:Nat) (c:SD) : ∀ (cs:List SV) (j:Nat),(dC t c cs)[j]? = (cs[j]?).map (gU t c)
 | [],j=>by simp [dC]
 | v::cs,0=>by simp [dC]
 | v::cs,j + 1=>by simpa [dC] using dl t c cs j
theorem cz (t:Nat) (c:SD) : ∀ cs:List SV,(dC t c cs).length=cs.length
 | []=>rfl
 | v::cs=>by simp [dC,cz t c cs]
theorem al.frz {B B':List (Nat×Option aj)} {t e k:Nat} {ty:Ty} {xs:List ty.den} {pins:List (Nat×Pin)} (ht:lkB B t=some (.rw e k ty xs pins)) (hB:vG t B B') {v:SV} {q:PV} (h:al B v q) : al B' (gU t (.sl ty xs) v) (Go.Proofs.Ytkmpjphbkhpgbaa.frz t (xs.map (az ty)) q):=by
 induction h with
 | junk q=>exact .junk _
 | d c y h=>exact .d c y h
 | ag cs qs hl hr ih =>
  refine .ag _ _ (by rw [cz,bL]; exact hl) (fun j c r h1 h2=>?_)
  rw [dl,zm] at h1
  obtain ⟨c',h3,rfl⟩:=h1
  obtain ⟨q',h4,rfl⟩:=bM _ _ qs j r h2
  exact ih j c' q' h3 h4
 | tup cs qs hl hr ih =>
  refine .tup _ _ (by rw [cz,bL]; exact hl) (fun j c r h1 h2=>?_)
  rw [dl,zm] at h1
  obtain ⟨c',h3,rfl⟩:=h1
  obtain ⟨q',h4,rfl⟩:=bM _ _ qs j r h2
  exact ih j c' q' h3 h4
 | ptr t' o ty2 cs hb=>obtain ⟨ty',cs',h1⟩:=hB.st t' ty2 cs hb; exact .ptr t' o ty' cs' h1
 | row t' n e2 k2 ty2 xs2 pins2 hb hn =>
  simp only [gU,Go.Proofs.Ytkmpjphbkhpgbaa.frz,aP]
  by_cases h:t' = t
  ·subst h
   rw [ht] at hb
   injection hb with hb
   injection hb with e1 e2 e3 e4 e5
   subst e3
   have e4:=eq_of_heq e4
   subst e4
   simp only [decide_true,if_true,List.length_map,hn]
   exact se ty xs
  ·simp only [h,decide_false,if_false]
   exact .row t' n e2 k2 ty2 xs2 pins2 (hB.rw t' h _ _ _ _ _ hb) hn
 | re t' p o n i e2 k2 ty2 xs2 pins2 pin hb hn hp hi =>
  simp only [gU,Go.Proofs.Ytkmpjphbkhpgbaa.frz,aP]
  by_cases h:t' = t
  ·simp only [h,decide_true]; exact .junk _
  ·simp only [h,decide_false,if_false]
   exact .re t' p o n i e2 k2 ty2 xs2 pins2 pin (hB.rw t' h _ _ _ _ _ hb) hn hp hi
 | vw t' lo hi n e2 k2 ty2 xs2 pins2 hb hn=>
  simp only [gU,Go.Proofs.Ytkmpjphbkhpgbaa.frz,aP]
  by_cases h:t' = t
  ·simp only [h,decide_true]; exact .junk _
  ·simp only [h,decide_false,if_false]
   exact .vw t' lo hi n e2 k2 ty2 xs2 pins2 (hB.rw t' h _ _ _ _ _ hb) hn
 | fe cs ds h hn=>exact .fe cs ds h hn
 | fn f ps qs ps' qs' hl hr hl2 hr2 ih ih2 =>
  refine .fn f _ _ _ _ (by rw [cz,bL]; exact hl) (fun j c r h1 h2=>?_) (by rw [cz,bL]; exact hl2) (fun j c r h1 h2=>?_)
  ·rw [dl,zm] at h1
   obtain ⟨c',h3,rfl⟩:=h1
   obtain ⟨q',h4,rfl⟩:=bM _ _ ps' j r h2
   exact ih j c' q' h3 h4
  ·rw [dl,zm] at h1
   obtain ⟨c',h3,rfl⟩:=h1
   obtain ⟨q',h4,rfl⟩:=bM _ _ qs' j r h2
   exact ih2 j c' q' h3 h4
mutual
theorem qY {pr:List Nat} {t:Nat} {c:SD} (ht:af pr t=false) : ∀ v:SV,cI pr v=true→gU t c v=v
 | .junk,_=>rfl
 | .d _,_=>rfl
 | .fe _,_=>rfl
 | .ptr _ _,_=>rfl
 | .row t',h=>by
  have:=mL ht (show af pr t' = true from h)
  simp only [gU,aP,this,decide_false]
 | .re _ _ _,h=>by cases h
 | .vw _ _ _,h=>by cases h
 | .ag cs,h=>by simp only [gU]; rw [fx ht cs h]
 | .tup cs,h=>by simp only [gU]; rw [fx ht cs h]
 | .fn f ps qs,h=>by
  have h:(bj pr ps&&bj pr qs)=true:=h
  rw [Bool.and_eq_true] at h
  simp only [gU]; rw [fx ht ps h.1,fx ht qs h.2]
theorem fx {pr:List Nat} {t:Nat} {c:SD} (ht:af pr t=false) : ∀ cs:List SV,bj pr cs=true→dC t c cs=cs
 | [],_=>rfl
 | v::cs,h=>by
  simp only [bj,Bool.and_eq_true] at h
  simp only [dC]
  rw [qY ht v h.1,fx ht cs h.2]
end
mutual
theorem vc {t:Nat} {c:SD} : ∀ v:SV,ep v=true→gU t c v=v
 | .junk,_=>rfl
 | .d _,_=>rfl
 | .fe _,_=>rfl
 | .ptr _ _,_=>rfl
 | .row _,h=>by cases h
 | .re _ _ _,h=>by cases h
 | .vw _ _ _,h=>by cases h
 | .ag cs,h=>by simp only [gU]; rw [dk cs h]
 | .tup cs,h=>by simp only [gU]; rw [dk cs h]
 | .fn f ps qs,h=>by
  have h:(match aH ps with | true=>aH qs | false=>false)=true:=h
  split at h
  ·rename_i h1; simp only [gU]; rw [dk ps h1,dk qs h]
  ·cases h
theorem dk {t:Nat} {c:SD} : ∀ cs:List SV,aH cs=true→dC t c cs=cs
 | [],_=>rfl
 | v::cs,h=>by
  simp only [aH] at h
  split at h
  ·rename_i h1
   simp only [dC]
   rw [vc v h1,dk cs h]
  ·cases h
end
theorem tX {sc:List Nat} {s s':SS} {p:PS} {t:Nat} (hpr:cY s) (hs:bO s p) (h:sR t s=some s') : ∃ p',Le p p'∧bO s' p'∧∀ W,bc sc W s s':=by
 unfold sR at h
 split at h
 ·rename_i e k ty xs pins hb
  split at h
  ·rename_i ht
   injection h with h
   subst h
   have hpb:p.b t=some (.rw e k (xs.map (az ty))):=(hs.bx t _ hb).1
   have hX:vG t s.bx ((t,none)::fy t (.sl ty xs) s.bx):=by
    refine ⟨fun t' ht' e2 k2 ty2 xs2 pins2 h=>?_,fun t' ty2 cs2 h=>?_⟩
    ·rw [ac,if_neg ht',cM,h]; rfl
    ·have : ¬ t' = t:=fun e=>by rw [e,hb] at h; cases h
     rw [ac,if_neg this,cM,h]
     exact ⟨_,_,rfl⟩
   refine ⟨_,wA t hpb,⟨fun i=>?_,fun t' b h=>?_⟩,fun W=>⟨rfl,rfl,fun t' ht'=>?_,fun i _ hsf=>?_,fun t' _ ty2 cs2 h=>?_⟩⟩
   ·show al _ (lkV (nc t (.sl ty xs) s.sl) i) (frz t (xs.map (az ty)) (p.t i))
    rw [lU]
    exact (hs.sl i).frz hb hX
   ·have h:lkB ((t,none)::fy t (.sl ty xs) s.bx) t' = some b:=h
    rw [ac] at h
    split at h
    ·cases h
    ·rename_i hne
     rw [cM,zm] at h
     obtain ⟨b0,h1,rfl⟩:=h
     have h2:=hs.bx t' b0 h1
     show cZ _ true (some (wI t (.sl ty xs) b0)) (if t' = t then none else (p.b t').map (kE t (xs.map (az ty))))
     rw [if_neg hne]
     cases b0 with
     | st ty2 cs =>
      obtain ⟨qs,h3,h4⟩:=h2
      rw [h3]
      refine ⟨_,rfl,by rw [cz,bL]; exact h4.len,fun j c r k1 k2=>?_⟩
      rw [dl,zm] at k1
      obtain ⟨c',k3,rfl⟩:=k1
      obtain ⟨q',k4,rfl⟩:=bM _ _ qs j r k2
      exact (h4.rep j c' q' k3 k4).frz hb hX
     | rw e2 k2 ty2 xs2 pins2 =>
      obtain ⟨h3,h4⟩:=h2
      rw [h3]
      exact ⟨rfl,h4⟩
   ·show cA _ (lkB ((t,none)::fy t (.sl ty xs) s.bx) t')
    rw [ac,if_neg (fun e=>by rw [e,ht] at ht'; cases ht'),cM]
    obtain ⟨b',h1,h2⟩:=hpr t' ht'
    rw [h1]
    cases b' with
    | st ty2 cs=>simp only [Option.map_some,wI]; rw [dk cs h2]; rfl
    | rw e2 k2 ty2 xs2 pins2=>exact ⟨pins2,rfl⟩
   ·show lkV (nc t (.sl ty xs) s.sl) i = _
    rw [lU]
    exact qY ht _ hsf
   ·show ∃ cs',lkB ((t,none)::fy t (.sl ty xs) s.bx) t' = _∧_
    rw [ac,if_neg (fun e=>by rw [e,hb] at h; cases h),cM,h]
    exact ⟨_,rfl,cz _ _ cs2⟩
  ·injection h with h
   subst h
   exact ⟨p,.refl p,hs,fun W=>.refl W s⟩
 ·injection h with h
  subst h
  exact ⟨p,.refl p,hs,fun W=>.refl W s⟩
theorem wH {sc:List Nat} {s s':SS} {p:PS} {t:Nat} (hpr:cY s) (hs:Sim s p) (h:sR t s=some s') : ∃ p',Le p p'∧Sim s' p'∧(∀ W,bc sc W s s')∧s'.oc=s.oc:=by
 unfold sR at h
 split at h
 ·rename_i e k ty xs pins hb
  split at h
  ·rename_i ht
   have h0:sR t s=some s':=by unfold sR; rw [hb]; simp only; rw [ht]; exact h
   injection h with h
   have hpb:p.b t=some (.rw e k (xs.map (az ty))):=by have:=hs.bx t; rw [hb] at this; exact this.1
   obtain ⟨p2,k1,k2,k3⟩:=tX (sc:=sc) hpr hs.w h0
   have hX:vG t s.bx ((t,none)::fy t (.sl ty xs) s.bx):=by
    refine ⟨fun t' ht' e2 k2 ty2 xs2 pins2 h=>?_,fun t' ty2 cs2 h=>?_⟩
    ·rw [ac,if_neg ht',cM,h]; rfl
    ·have : ¬ t' = t:=fun e=>by rw [e,hb] at h; cases h
     rw [ac,if_neg this,cM,h]
     exact ⟨_,_,rfl⟩
   subst h
   refine ⟨_,wA t hpb,⟨fun i=>?_,fun t'=>?_⟩,k3,rfl⟩
   ·show al _ (lkV (nc t (.sl ty xs) s.sl) i) (frz t (xs.map (az ty)) (p.t i))
    rw [lU]
    exact (hs.sl i).frz hb hX
   ·show cZ _ (af s.oc t') (lkB ((t,none)::fy t (.sl ty xs) s.bx) t') (if t' = t then none else (p.b t').map (kE t (xs.map (az ty))))
    rw [ac]
    by_cases hne:t' = t
    ·rw [if_pos hne,if_pos hne]; exact fun _=>rfl
    ·rw [if_neg hne,if_neg hne,cM]
     have h2:=hs.bx t'
     cases hl:lkB s.bx t' with
     | none=>rw [hl] at h2; exact fun ho=>by rw [h2 ho]; rfl
     | some b0 =>
      rw [hl] at h2
      cases b0 with
      | st ty2 cs =>
       obtain ⟨qs,h3,h4⟩:=h2
       rw [h3]
       refine ⟨_,rfl,by rw [cz,bL]; exact h4.len,fun j c r k1 k2=>?_⟩
       rw [dl,zm] at k1
       obtain ⟨c',k3,rfl⟩:=k1
       obtain ⟨q',k4,rfl⟩:=bM _ _ qs j r k2
       exact (h4.rep j c' q' k3 k4).frz hb hX
      | rw e2 k2 ty2 xs2 pins2 =>
       obtain ⟨h3,h4⟩:=h2
       rw [h3]
       exact ⟨rfl,h4⟩
  ·injection h with h
   subst h
   exact ⟨p,.refl p,hs,fun W=>.refl W s,rfl⟩
 ·injection h with h
  subst h
  exact ⟨p,.refl p,hs,fun W=>.refl W s,rfl⟩
theorem jk {sc:List Nat} : ∀ {l:List Nat} {s s':SS} {p:PS},cY s→Sim s p→cP l s=some s'→∃ p',Le p p'∧Sim s' p'∧(∀ W,bc sc W s s')∧s'.oc=s.oc
 | [],s,s',p,_,hs,h=>by injection h with h; subst h; exact ⟨p,.refl p,hs,fun W=>.refl W s,rfl⟩
 | t::l,s,s',p,hpr,hs,h=>by
  simp only [cP] at h
  split at h
  ·rename_i s1 h1
   obtain ⟨p1,k1,k2,k3,k4⟩:=wH (sc:=sc) hpr hs h1
   obtain ⟨p2,m1,m2,m3,m4⟩:=jk (sc:=sc) ((k3 []).prOk hpr) k2 h
   exact ⟨p2,k1.trans m1,m2,fun W=>(k3 W).trans (m3 W),m4.trans k4⟩
  ·cases h
theorem fB {sc:List Nat} : ∀ {l:List Nat} {s s':SS} {p:PS},cY s→bO s p→cP l s=some s'→∃ p',Le p p'∧bO s' p'∧∀ W,bc sc W s s'
 | [],s,s',p,_,hs,h=>by injection h with h; subst h; exact ⟨p,.refl p,hs,fun W=>.refl W s⟩
 | t::l,s,s',p,hpr,hs,h=>by
  simp only [cP] at h
  split at h
  ·rename_i s1 h1
   obtain ⟨p1,k1,k2,k3⟩:=tX hpr hs h1
   obtain ⟨p2,k4,k5,k6⟩:=fB ((k3 []).prOk hpr) k2 h
   exact ⟨p2,k1.trans k4,k5,fun W=>(k3 W).trans (k6 W)⟩
  ·cases h
mutual
def fzp (t:Nat) (ds:List D) : PV→PV
 | .ptr t' o=>if t' = t then .fe (ds.drop o) else .ptr t' o
 | .ag cs=>.ag (m9 t ds cs)
 | .tup cs=>.tup (m9 t ds cs)
 | .fn f ps qs=>.fn f (m9 t ds ps) (m9 t ds qs)
 | p=>p
def m9 (t:Nat) (ds:List D) : List PV→List PV
 | []=>[]
 | c::cs=>fzp t ds c::m9 t ds cs
end
def na (t:Nat) (ds:List D) : Box→Box
 | .st ty cs=>.st ty (m9 t ds cs)
 | B=>B
def zV (t:Nat) (ds:List D) (p:PS) : PS:=⟨fun i=>fzp t ds (p.t i),fun i=>if i=t then none else (p.b i).map (na t ds)⟩
theorem b8 (t:Nat) (ds:List D) : ∀ cs:List PV,(m9 t ds cs).length=cs.length
 | []=>rfl
 | c::cs=>by simp [m9,b8 t ds cs]
theorem b9 (t:Nat) (ds:List D) : ∀ (cs:List PV) (j:Nat) (c:PV),(m9 t ds cs)[j]? = some c→∃ d,cs[j]? = some d∧c=fzp t ds d
 | [],j,c,h=>by simp [m9] at h
 | d::cs,j,c,h=>by
  simp only [m9] at h
  cases j with
  | zero=>simp at h; exact ⟨d,rfl,h.symm⟩
  | succ j=>simp at h; simpa using b9 t ds cs j c h
section
variable {ρ : Nat→Value} {b b':Nat→Option Box} {w:World} {F F0:Nat→Prop} {w0:WM}
theorem ai.fzp {x:Value} {p:PV} {t:Nat} {ty:TypeId} {cs:List PV} {ds:List D} (hi:Inv w0 F0 ρ b w F) (hb:b t=some (.st ty cs)) (hl:ds.length=cs.length) (hc:∀ (j:Nat) d,ds[j]? = some d→∃ y,cs[j]? = some (.d y)∧nrm y=d) (hb':∀ i,b' i=if i=t then none else (b i).map (na t ds)) (h:ai ρ b w F x p) :
  ai ρ b' w (fun g=>F g∨blk (ρ t)=some g) x (Go.Proofs.Ytkmpjphbkhpgbaa.fzp t ds p):=by
 have hF:∀ g,F g→(F g∨blk (ρ t)=some g):=fun g h=>.inl h
 induction h with
 | junk x=>exact .junk x
 | d x d h=>exact .d x d (h.mono hF (fun _ _=>rfl))
 | ag xs cs hl h1 hr ih =>
  refine .ag xs _ (by rw [b8]; exact hl) h1 (fun j x c h2 h3=>?_)
  obtain ⟨d,h4,rfl⟩:=b9 t ds cs j c h3
  exact ih j x d h2 h4
 | tup xs cs hl hr ih =>
  refine .tup xs _ (by rw [b8]; exact hl) (fun j x c h2 h3=>?_)
  obtain ⟨d,h4,rfl⟩:=b9 t ds cs j c h3
  exact ih j x d h2 h4
 | fn f xs ys ps qs hl hr hl2 hr2 ih ih2 =>
  refine .fn f xs ys _ _ (by rw [b8]; exact hl) (fun j x c h2 h3=>?_) (by rw [b8]; exact hl2) (fun j x c h2 h3=>?_)
  ·obtain ⟨d,h4,rfl⟩:=b9 t ds ps j c h3
   exact ih j x d h2 h4
  ·obtain ⟨d,h4,rfl⟩:=b9 t ds qs j c h3
   exact ih2 j x d h2 h4
 | row t' m A cc e' k' es' hb2 hn hcc hA hρ =>
  have:t'≠t:=fun e=>by rw [e,hb] at hb2; cases hb2
  exact .row t' m A cc e' k' es' (by rw [hb',if_neg this,hb2]; rfl) hn hcc hA hρ
 | re t' m i o a e' k' es' hb2 hn hi' hρ =>
  have:t'≠t:=fun e=>by rw [e,hb] at hb2; cases hb2
  exact .re t' m i o a e' k' es' (by rw [hb',if_neg this,hb2]; rfl) hn hi' hρ
 | vw t' m lo hi' A mm cc e' k' es' hb2 hn hl hh hm hρ=>
  have:t'≠t:=fun e=>by rw [e,hb] at hb2; cases hb2
  exact .vw t' m lo hi' A mm cc e' k' es' (by rw [hb',if_neg this,hb2]; rfl) hn hl hh hm hρ
 | fe a cs us hF' hcell hrep=>exact .fe a cs us (.inl hF') hcell (fun j d h=>(hrep j d h).mono hF (fun _ _=>rfl))
 | ptr t' off g ty' cs' hb2 hρ =>
  simp only [Go.Proofs.Ytkmpjphbkhpgbaa.fzp]
  by_cases ht:t' = t
  ·subst ht
   rw [if_pos rfl]
   cases hi.box t' _ hb with
   | st _ _ g' xs hρ' hg hFg hh hlx h1 hr =>
    rw [hρ] at hρ'
    injection hρ' with e
    injection e with e
    injection e with e
    subst e
    have key:∀ (j:Nat) d,(ds.drop off)[j]? = some d→∃ u,w.cell? ⟨g,off + j,none⟩=some u∧bK w F u d:=fun j d hj=>by
     rw [List.getElem?_drop] at hj
     obtain ⟨y,k1,k2⟩:=hc _ d hj
     have hlt:off + j < xs.size:=by rw [hlx,← hl]; exact (zg.1 hj).1
     have k3:=hr (off + j) xs[off + j] _ (by simp [hlt]) k1
     refine ⟨xs[off + j],by rw [cell_of_row w g (off + j) xs ty (0,0) hh]; simp [hlt],?_⟩
     rw [← k2]
     exact k3.dd.nrm
    refine .fe _ _ (fun j=>(w.cell? ⟨g,off + j,none⟩).getD undef) (.inr (by rw [hρ]; rfl)) (fun j d hj=>?_) (fun j d hj=>?_)
    ·obtain ⟨u,k1,_⟩:=key j d hj
     rw [e9,k1]; rfl
    ·obtain ⟨u,k1,k2⟩:=key j d hj
     rw [k1]
     exact k2.mono hF (fun _ _=>rfl)
  ·rw [if_neg ht]
   exact .ptr t' off g ty' _ (by rw [hb',if_neg ht,hb2]; rfl) hρ
end
theorem Inv.reg_fzp {ρ : Nat→Value} {b b':Nat→Option Box} {w:World} {w0:WM} {F F0:Nat→Prop} {t:Nat} {ds:List D} (hi:Inv w0 F0 ρ b w F) (hb':∀ i,b' i=if i=t then none else (b i).map (na t ds)) : ∀ i q,w0.R i=some q→1000000≤i∧eD ρ b' i q:=by
 intro i q h
 obtain ⟨h1,h2⟩:=hi.reg i q h
 refine ⟨h1,?_⟩
 by_cases hit:i=t
 ·exact h2.less (.inl (by rw [hb',if_pos hit]))
 ·refine h2.mono (fun e=>by rw [hb',if_neg hit,e]; rfl) (fun ty cs e=>⟨⟨ty,_,by rw [hb',if_neg hit,e]; rfl⟩,rfl⟩) (fun e k es' he=>⟨e,es',by rw [hb',if_neg hit,he]; rfl,Nat.le_refl _,fun _=>rfl⟩)
theorem zj {p:PS} (t:Nat) {ty:TypeId} {cs:List PV} {ds:List D} (hb0:p.b t=some (.st ty cs)) (hl:ds.length=cs.length) (hc:∀ (j:Nat) d,ds[j]? = some d→∃ y,cs[j]? = some (.d y)∧nrm y=d) : Le p (zV t ds p):=by
 intro n w0 F0 a w ⟨h1,h2,ρ,F,hi,hev⟩
 have hb':∀ i,(zV t ds p).b i=if i=t then none else (p.b i).map (na t ds):=fun i=>rfl
 have hbt:=(hi.box t _ hb0)
 refine ⟨h1,h2,ρ,fun g=>F g∨blk (ρ t)=some g,⟨hi.ext,fun g hg=>.inl (hi.f0 g hg),?_,?_,fun t' B h=>?_,fun t1 t2 B1 B2 g k1 k2 hne=>?_,hi.reg_fzp hb'⟩,fun i=>(hev i).fzp hi hb0 hl hc hb'⟩
 ·rintro g (hg | hg)
  ·exact hi.flt g hg
  ·exact (hbt.lt hg).1
 ·rintro g (hg | hg)
  ·exact hi.fnew g hg
  ·exact .inr (hbt.lt hg).2.1
 ·rw [hb'] at h
  split at h
  ·cases h
  ·rename_i ht
   rw [zm] at h
   obtain ⟨B0,hB0,rfl⟩:=h
   have hnF:∀ g,blk (ρ t')=some g→¬ (F g∨blk (ρ t)=some g):=by
    rintro g hg (h | h)
    ·exact ((hi.box t' B0 hB0).lt hg).2.2 h
    ·exact hi.dist t' t B0 _ g hB0 hb0 ht hg h
   cases hi.box t' B0 hB0 with
   | st ty cs g xs hρ hg hF hh hl2 h1 hr =>
    refine .st ty _ g xs hρ hg (hnF g (by rw [hρ]; rfl)) hh (by rw [b8]; exact hl2) h1 (fun j x c k1 k2=>?_)
    obtain ⟨d,h4,rfl⟩:=b9 t ds cs j c k2
    exact (hr j x d k1 h4).fzp hi hb0 hl hc hb'
   | rw e' k' es' xs hk0 ho hF hk hl hr hown=>exact .rw e' k' es' xs hk0 ho hnF hk hl (fun j x d k1 k2=>(hr j x d k1 k2).mono (fun g h=>.inl h) (fun _ _=>rfl)) hown
   | gn e' k' es' hρ=>exact .gn e' k' es' hρ
 ·rw [hb'] at k1 k2
  split at k1
  ·cases k1
  ·split at k2
   ·cases k2
   ·rw [zm] at k1 k2
    obtain ⟨B1',k1,_⟩:=k1
    obtain ⟨B2',k2,_⟩:=k2
    exact hi.dist t1 t2 B1' B2' g k1 k2 hne
def tY (t:Nat) (c:List SD) : aj→aj
 | .st ty cs=>.st ty (ex t c cs)
 | b=>b
theorem dQ (t:Nat) (c:List SD) : ∀ (l:List (Nat×Option aj)) (i:Nat),lkB (fC t c l) i=(lkB l i).map (tY t c)
 | [],_=>rfl
 | (j,none)::l,i=>by simp only [fC,ac,dQ t c l i]; split <;> rfl
 | (j,some (.st ty cs))::l,i=>by simp only [fC,ac,dQ t c l i]; split <;> rfl
 | (j,some (.rw e k ty xs pins))::l,i=>by simp only [fC,ac,dQ t c l i]; split <;> rfl
theorem pI (t:Nat) (c:List SD) : ∀ (l:List (Nat×SV)) (i:Nat),lkV (nd t c l) i=jl t c (lkV l i)
 | [],_=>rfl
 | (j,v)::l,i=>by simp only [nd,aO,pI t c l i]; split <;> rfl
theorem bP (t:Nat) (c:List SD) : ∀ (cs:List SV) (j:Nat),(ex t c cs)[j]? = (cs[j]?).map (jl t c)
 | [],j=>by simp [ex]
 | v::cs,0=>by simp [ex]
 | v::cs,j + 1=>by simpa [ex] using bP t c cs j
theorem bC (t:Nat) (c:List SD) : ∀ cs:List SV,(ex t c cs).length=cs.length
 | []=>rfl
 | v::cs=>by simp [ex,bC t c cs]
structure Am (t:Nat) (B B':List (Nat×Option aj)) : Prop where
 rw:∀ t' e k ty xs pins,lkB B t' = some (.rw e k ty xs pins)→lkB B' t' = some (.rw e k ty xs pins)
 st:∀ t',t'≠t→∀ ty cs,lkB B t' = some (.st ty cs)→∃ ty' cs',lkB B' t' = some (.st ty' cs')
theorem al.frp {B B':List (Nat×Option aj)} {t:Nat} {ds:List SD} (hn:∀ c∈ds,c≠.nl) (hB:Am t B B') {v:SV} {q:PV} (h:al B v q) : al B' (jl t ds v) (fzp t (ds.map SD.toD) q):=by
 induction h with
 | junk q=>exact .junk _
 | d c y h=>exact .d c y h
 | ag cs qs hl hr ih =>
  refine .ag _ _ (by rw [bC,b8]; exact hl) (fun j c r h1 h2=>?_)
  rw [bP,zm] at h1
  obtain ⟨c',h3,rfl⟩:=h1
  obtain ⟨q',h4,rfl⟩:=b9 _ _ qs j r h2
  exact ih j c' q' h3 h4
 | tup cs qs hl hr ih =>
  refine .tup _ _ (by rw [bC,b8]; exact hl) (fun j c r h1 h2=>?_)
  rw [bP,zm] at h1
  obtain ⟨c',h3,rfl⟩:=h1
  obtain ⟨q',h4,rfl⟩:=b9 _ _ qs j r h2
  exact ih j c' q' h3 h4
 | fn f ps qs ps' qs' hl hr hl2 hr2 ih ih2 =>
  refine .fn f _ _ _ _ (by rw [bC,b8]; exact hl) (fun j c r h1 h2=>?_) (by rw [bC,b8]; exact hl2) (fun j c r h1 h2=>?_)
  ·rw [bP,zm] at h1
   obtain ⟨c',h3,rfl⟩:=h1
   obtain ⟨q',h4,rfl⟩:=b9 _ _ ps' j r h2
   exact ih j c' q' h3 h4
  ·rw [bP,zm] at h1
   obtain ⟨c',h3,rfl⟩:=h1
   obtain ⟨q',h4,rfl⟩:=b9 _ _ qs' j r h2
   exact ih2 j c' q' h3 h4
 | ptr t' o ty2 cs hb =>
  simp only [jl,fzp,aP]
  by_cases h:t' = t
  ·simp only [h,decide_true,if_true]
   exact .fe _ _ (by rw [List.map_drop]) (fun c hc=>hn c (List.mem_of_mem_drop hc))
  ·simp only [h,decide_false,if_false]
   obtain ⟨ty',cs',h1⟩:=hB.st t' h ty2 cs hb
   exact .ptr t' o ty' cs' h1
 | row t' n e2 k2 ty2 xs2 pins2 hb hn=>exact .row t' n e2 k2 ty2 xs2 pins2 (hB.rw t' _ _ _ _ _ hb) hn
 | re t' p o n i e2 k2 ty2 xs2 pins2 pin hb hn hp hi=>exact .re t' p o n i e2 k2 ty2 xs2 pins2 pin (hB.rw t' _ _ _ _ _ hb) hn hp hi
 | vw t' lo hi n e2 k2 ty2 xs2 pins2 hb hn=>exact .vw t' lo hi n e2 k2 ty2 xs2 pins2 (hB.rw t' _ _ _ _ _ hb) hn
 | fe cs ds h hn=>exact .fe cs ds h hn
theorem iy {cs cs':List SV} (hl:cs'.length=cs.length) (h:∀ (j:Nat) c,cs[j]? = some c→cs'[j]? = some c) : cs' = cs:=by
 apply List.ext_getElem?
 intro j
 cases hj:cs[j]? with
 | none=>rw [List.getElem?_eq_none_iff] at hj ⊢; omega
 | some c=>exact h j c hj
theorem xY {B:List (Nat×Option aj)} {t:Nat} {ds:List SD} (ht:lkB B t=none) {v:SV} {q:PV} (h:al B v q) : jl t ds v=v:=by
 induction h with
 | ag cs qs hl hr ih =>
  simp only [jl]
  rw [iy (bC _ _ _) fun j c hj=>?_]
  rw [bP,hj,Option.map_some,ih j c (qs[j]'(by rw [← hl]; exact (zg.1 hj).1)) hj (by simp)]
 | tup cs qs hl hr ih =>
  simp only [jl]
  rw [iy (bC _ _ _) fun j c hj=>?_]
  rw [bP,hj,Option.map_some,ih j c (qs[j]'(by rw [← hl]; exact (zg.1 hj).1)) hj (by simp)]
 | fn f ps qs ps' qs' hl hr hl2 hr2 ih ih2 =>
  simp only [jl]
  rw [iy (cs:=ps) (bC _ _ _) fun j c hj=>?_,iy (cs:=qs) (bC _ _ _) fun j c hj=>?_]
  ·rw [bP,hj,Option.map_some,ih2 j c (qs'[j]'(by rw [← hl2]; exact (zg.1 hj).1)) hj (by simp)]
  ·rw [bP,hj,Option.map_some,ih j c (ps'[j]'(by rw [← hl]; exact (zg.1 hj).1)) hj (by simp)]
 | ptr t' o ty cs hb =>
  have : ¬ t' = t:=fun e=>by rw [e,ht] at hb; cases hb
  simp only [jl,aP,this,decide_false]
 | _=>rfl
mutual
theorem vd {t:Nat} {c:List SD} : ∀ v:SV,ep v=true→jl t c v=v
 | .junk,_=>rfl
 | .d _,_=>rfl
 | .fe _,_=>rfl
 | .ptr _ _,h=>by cases h
 | .row _,h=>by cases h
 | .re _ _ _,h=>by cases h
 | .vw _ _ _,h=>by cases h
 | .ag cs,h=>by simp only [jl]; rw [cx cs h]
 | .tup cs,h=>by simp only [jl]; rw [cx cs h]
 | .fn f ps qs,h=>by
  have h:(match aH ps with | true=>aH qs | false=>false)=true:=h
  split at h
  ·rename_i h1; simp only [jl]; rw [cx ps h1,cx qs h]
  ·cases h
theorem cx {t:Nat} {c:List SD} : ∀ cs:List SV,aH cs=true→ex t c cs=cs
 | [],_=>rfl
 | v::cs,h=>by
  simp only [aH] at h
  split at h
  ·rename_i h1
   simp only [ex]
   rw [vd v h1,cx cs h]
  ·cases h
end
theorem ow:∀ {ds:List SD},za ds=true→∀ c∈ds,c≠.nl
 | [],_,c,h=>by cases h
 | d::ds,h,c,hc=>by
  rcases List.mem_cons.1 hc with rfl | hc'
  ·intro e; subst e; cases h
  ·cases d with
   | nl=>cases h
   | _=>exact ow (ds:=ds) h c hc'
theorem mt:∀ {cs:List SV} {ds:List SD},gv cs=some ds→cs.length=ds.length∧∀ (j:Nat) d,ds[j]? = some d→cs[j]? = some (.d d)
 | [],ds,h=>by injection h with h; subst h; exact ⟨rfl,fun j d hj=>by simp at hj⟩
 | v::cs,ds,h=>by
  simp only [gv] at h
  split at h
  ·rename_i c l hc hl
   injection h with h
   subst h
   obtain ⟨h1,h2⟩:=mt hl
   refine ⟨by simp [h1],fun j d hj=>?_⟩
   cases j with
   | zero =>
    simp at hj
    subst hj
    cases v <;> simp [y0] at hc
    subst hc
    rfl
   | succ j=>simp at hj; simpa using h2 j d hj
  ·cases h
theorem zu {sc W:List Nat} {s0 s s':SS} {p0 p:PS} {t:Nat} (hpr:cY s) (h0:bO s0 p0) (hnew:lkB s0.bx t=none) (hk:bc sc W s0 s) (hs:bO s p) (h:fbX sc t s=some s') : ∃ p',Le p p'∧bO s' p'∧bc sc W s0 s'∧cY s':=by
 unfold fbX at h
 split at h
 ·rename_i ty cs hb
  split at h
  ·rename_i ds hds
   obtain ⟨h1,h2⟩:=aa h
   injection h2 with h2
   subst h2
   rw [Bool.and_eq_true,Bool.and_eq_true] at h1
   obtain ⟨h1,h3,h4⟩:=h1
   have h3:af s.pr t=false:=by simpa using h3
   have h4:af sc t=false:=by simpa using h4
   have hnl:=ow h1
   obtain ⟨hlen,hget⟩:=mt hds
   obtain ⟨qs,hq,hqs⟩:=hs.bx t _ hb
   have hc:∀ (j:Nat) d,(ds.map SD.toD)[j]? = some d→∃ y,qs[j]? = some (.d y)∧nrm y=d:=fun j d hj=>by
    rw [List.getElem?_map,zm] at hj
    obtain ⟨c,hc,rfl⟩:=hj
    have hc2:=hget j c hc
    have hlt:j < qs.length:=by rw [← hqs.len]; exact (zg.1 hc2).1
    have:=hqs.rep j _ qs[j] hc2 (by simp)
    rw [zq hlt]
    revert this
    generalize qs[j] = q
    intro this
    cases this with
    | d _ y hd=>exact ⟨y,rfl,hd.nrm⟩
   have hl:(ds.map SD.toD).length=qs.length:=by rw [List.length_map,← hlen,hqs.len]
   have hX:Am t s.bx ((t,none)::fC t ds s.bx):=by
    refine ⟨fun t' e k ty2 xs pins h=>?_,fun t' ht' ty2 cs2 h=>?_⟩
    ·have : ¬ t' = t:=fun e=>by rw [e,hb] at h; cases h
     rw [ac,if_neg this,dQ,h]; rfl
    ·rw [ac,if_neg ht',dQ,h]; exact ⟨_,_,rfl⟩
   have hkp:bc sc W s0 ⟨nd t ds s.sl,(t,none)::fC t ds s.bx,s.pr,s.ro,s.oc⟩:=by
    refine ⟨hk.pr,hk.ro,fun t' ht'=>?_,fun i hi hsf=>?_,fun t' ht' ty2 cs2 h=>?_⟩
    ·have hpt:af s.pr t' = true:=by rw [hk.pr]; exact ht'
     refine (hk.bx t' ht').trans ?_
     show cA _ (lkB ((t,none)::fC t ds s.bx) t')
     rw [ac,if_neg (fun e=>by rw [e,h3] at hpt; cases hpt),dQ]
     obtain ⟨b',k1,k2⟩:=hpr t' hpt
     rw [k1]
     cases b' with
     | st ty2 cs=>simp only [Option.map_some,tY]; rw [cx cs k2]; rfl
     | rw e2 k2 ty2 xs2 pins2=>exact ⟨pins2,rfl⟩
    ·show lkV (nd t ds s.sl) i = _
     rw [pI,hk.sl i hi hsf]
     exact xY hnew (h0.sl i)
    ·obtain ⟨cs',k1,k2⟩:=hk.st t' ht' ty2 cs2 h
     show ∃ cs',lkB ((t,none)::fC t ds s.bx) t' = _∧_
     rw [ac,if_neg (fun e=>by rw [e,h4] at ht'; cases ht'),dQ,k1]
     exact ⟨_,rfl,by rw [bC]; exact k2⟩
   refine ⟨_,zj t hq hl hc,⟨fun i=>?_,fun t' b h=>?_⟩,hkp,fun t' ht'=>?_⟩
   ·show al _ (lkV (nd t ds s.sl) i) (fzp t (ds.map SD.toD) (p.t i))
    rw [pI]
    exact (hs.sl i).frp hnl hX
   ·have h:lkB ((t,none)::fC t ds s.bx) t' = some b:=h
    rw [ac] at h
    split at h
    ·cases h
    ·rename_i hne
     rw [dQ,zm] at h
     obtain ⟨b0,h1,rfl⟩:=h
     have h2:=hs.bx t' b0 h1
     show cZ _ true (some (tY t ds b0)) (if t' = t then none else (p.b t').map (na t (ds.map SD.toD)))
     rw [if_neg hne]
     cases b0 with
     | st ty2 cs =>
      obtain ⟨qs,h3,h4⟩:=h2
      rw [h3]
      refine ⟨_,rfl,by rw [bC,b8]; exact h4.len,fun j c r k1 k2=>?_⟩
      rw [bP,zm] at k1
      obtain ⟨c',k3,rfl⟩:=k1
      obtain ⟨q',k4,rfl⟩:=b9 _ _ qs j r k2
      exact (h4.rep j c' q' k3 k4).frp hnl hX
     | rw e2 k2 ty2 xs2 pins2 =>
      obtain ⟨h3,h4⟩:=h2
      rw [h3]
      exact ⟨rfl,h4⟩
   ·obtain ⟨b',k1,k2⟩:=hpr t' ht'
    show ∃ b,lkB ((t,none)::fC t ds s.bx) t' = some b∧_
    rw [ac,if_neg (fun e=>by rw [e,h3] at ht'; cases ht'),dQ,k1]
    refine ⟨_,rfl,?_⟩
    cases b' with
    | st ty2 cs=>simp only [tY]; rw [cx cs k2]; exact k2
    | rw e2 k2 ty2 xs2 pins2=>rfl
  ·cases h
 ·cases h
theorem rj {sc W:List Nat} {s0:SS} {p0:PS} (h0:bO s0 p0) : ∀ {l:List Nat} {s s':SS} {p:PS},cY s→ua s0 l=true→bc sc W s0 s→bO s p→oJ sc l s=some s'→∃ p',Le p p'∧bO s' p'∧bc sc W s0 s'
 | [],s,s',p,_,_,hk,hs,h=>by injection h with h; subst h; exact ⟨p,.refl p,hs,hk⟩
 | t::l,s,s',p,hpr,hn,hk,hs,h=>by
  simp only [oJ] at h
  simp only [ua] at hn
  split at hn
  ·rename_i hnew
   split at h
   ·rename_i s1 h1
    obtain ⟨p1,k1,k2,k3,k4⟩:=zu hpr h0 hnew hk hs h1
    obtain ⟨p2,m1,m2,m3⟩:=rj h0 k4 hn k3 k2 h
    exact ⟨p2,k1.trans m1,m2,m3⟩
   ·cases h
  ·cases hn
end
section
theorem mf {m:Nat} {ops:Array Oper} (h:qo m ops=true) {i k:Nat} (hi:i < ops.size) (hm : ¬ i < m) (hk:k < i) : jS ops 4 i k=true:=by
 unfold qo at h
 rw [List.all_eq_true] at h
 have h:=h i (List.mem_range.2 hi)
 simp only [Bool.or_eq_true,decide_eq_true_eq,List.all_eq_true] at h
 exact (h.resolve_left hm) k (List.mem_range.2 hk)
section
variable {P:Program} {w0:WM} {F0:Nat→Prop} {n:Nat} {ops:Array Oper} {Q:Exit→Act→World→Prop}
def vE (P:Program) (ops:Array Oper) : List Nat→PS→(PS→Prop)→Prop
 | [],s,K=>K s
 | i::l,s,K=>∃ s1,Le s s1∧∃ o r u,ops[i]? = some o∧Eff P ops o s1 r u∧vE P ops l (s1.updL o.dst r u) K
theorem uy {bd:Nat→Bd} {mT:Nat} {Qs:Exit→PS→Prop} (hQ:∀ e s a w,Qs e s→dI n w0 F0 s a w→Q e a w) (hB:nC bd n ops=true) (hT:qo mT ops=true) : ∀ (m:Nat) (l lt:List Nat) (listed:Array Bool) (s:PS) (a:Act) (w:World),(l++lt).length=m→(l++lt).Pairwise (· < ·)→(∀ j∈l,j < mT)→(∀ j∈lt,¬ j < mT)→(∀ j,j∈l++lt↔(j < ops.size∧listed.getD j true=false))→listed.size=ops.size→tn ops listed →
  nV P ops bd l s (fun s'=>vE P ops lt s' (Qs .normal))→dI n w0 F0 s a w→wpAny P .any ops Q m listed a w
 | 0,l,lt,listed,s,a,w,hl,_,_,_,hm,hls,_,h,hc=>by
  have h0:l++lt = []:=List.eq_nil_of_length_eq_zero hl
  obtain ⟨rfl,rfl⟩:=List.append_eq_nil_iff.1 h0
  refine ⟨?_,hQ _ s a w h hc⟩
  rw [List.eq_nil_iff_forall_not_mem]
  intro j hj
  obtain ⟨h1,o,h2,_⟩:=mem_ready.1 hj
  have:=(hm j).2 ⟨(Array.getElem?_eq_some_iff.1 h2).1,h1⟩
  simp at this
 | m + 1,l,lt,listed,s,a,w,hl,hs,hlm,hltm,hm,hls,hcl,h,hc=>by
  have notdone:∀ {k:Nat},k∈l++lt→listed.getD k false=false:=fun {k} hk=>by
   have h1:=(hm k).1 hk
   have hsz:k < listed.size:=by rw [hls]; exact h1.1
   have h2:=h1.2
   simp [hsz] at h2 ⊢
   exact h2
  refine ⟨fun h0=>?_,fun i hi=>?_⟩
  ·exfalso
   cases hll:l++lt with
   | nil=>rw [hll] at hl; simp at hl
   | cons k ls =>
    have hk:=(hm k).1 (by rw [hll]; simp)
    have hok:ops[k]? = some ops[k]:=Array.getElem?_eq_getElem hk.1
    have:k∈Region.ready .any ops listed:=by
     refine mem_ready.2 ⟨hk.2,_,hok,fun e he hb=>?_⟩
     have hlt:=(dm hB hok).2.1 e he hb
     cases hx:listed.getD e.on false with
     | true=>rfl
     | false =>
      exfalso
      have hsz:e.on < listed.size:=by rw [hls]; omega
      have h2:listed.getD e.on true=false:=by
       simp [hsz] at hx ⊢; exact hx
      have h3:=(hm e.on).2 ⟨by omega,h2⟩
      rw [hll] at h3 hs
      rcases List.mem_cons.1 h3 with h | h
      ·omega
      ·have:=(List.pairwise_cons.1 hs).1 _ h
       omega
    rw [h0] at this
    cases this
  ·obtain ⟨hun,oi,hoi,hall⟩:=mem_ready.1 hi
   have hisz:=(Array.getElem?_eq_some_iff.1 hoi).1
   have hin:i∈l++lt:=(hm i).2 ⟨hisz,hun⟩
   have hready:∀ k,k∈l++lt→jS ops 4 i k=true→False:=fun k hk hh=>by
    have h1:=jh hcl 4 i k hh (fun o' ho' e he hb=>by rw [hoi] at ho'; cases ho'; exact hall e he hb)
    rw [notdone hk] at h1
    cases h1
   have key:∃ l' lt' s1 r u,Le s s1∧Eff P ops oi s1 r u∧nV P ops bd l' (s1.updL oi.dst r u) (fun s'=>vE P ops lt' s' (Qs .normal))∧(l' ++ lt').length=m∧(l' ++ lt').Pairwise (· < ·)∧(∀ j∈l',j < mT)∧(∀ j∈lt',¬ j < mT)∧(∀ j,j∈l' ++ lt'↔(j∈l++lt∧j≠i)):=by
    by_cases him:i < mT
    ·have hil:i∈l:=by
      rcases List.mem_append.1 hin with h | h
      ·exact h
      ·exact absurd him (hltm i h)
     obtain ⟨l1,l2,rfl⟩:=List.append_of_mem hil
     have hpw0:=List.pairwise_append.1 hs
     have hpw:=List.pairwise_append.1 hpw0.1
     have hfront:=ja (P:=P) (bd:=bd) (K:=fun s'=>vE P ops lt s' (Qs .normal)) hoi l1 l2 s (fun k hk ok hok=>by
      have hlt:k < i:=hpw.2.2 k hk i (by simp)
      rcases (dm hB hoi).2.2 k ok hlt hok with hh | h
      ·exact (hready k (by simp [hk]) hh).elim
      ·exact h) h
     obtain ⟨o',r,u,ho',h1,_,h2⟩:=hfront
     rw [hoi] at ho'
     injection ho' with ho'
     subst ho'
     have hc3:=List.pairwise_cons.1 hpw.2.1
     have hne:∀ x,x∈l1++l2→x≠i:=fun x hx e=>by
      subst e
      rcases List.mem_append.1 hx with h | h
      ·have:=hpw.2.2 x h x (by simp); omega
      ·have:=hc3.1 x h; omega
     refine ⟨l1++l2,lt,s,r,u,.refl s,h1,h2,by simp at hl ⊢; omega,?_,fun j hj=>hlm j (by rcases List.mem_append.1 hj with h | h <;> simp [h]),hltm,fun j=>?_⟩
     ·refine List.pairwise_append.2 ⟨List.pairwise_append.2 ⟨hpw.1,hc3.2,fun x hx y hy=>hpw.2.2 x hx y (by simp [hy])⟩,hpw0.2.1,fun x hx y hy=>hpw0.2.2 x (by rcases List.mem_append.1 hx with h | h <;> simp [h]) y hy⟩
     ·refine ⟨fun hj=>?_,fun ⟨hj,hji⟩=>?_⟩
      ·rcases List.mem_append.1 hj with hj2 | hj2
       ·exact ⟨by rcases List.mem_append.1 hj2 with h | h <;> simp [h],hne j hj2⟩
       ·exact ⟨by simp [hj2],fun e=>by subst e; exact hltm j hj2 him⟩
      ·rcases List.mem_append.1 hj with h | h
       ·rcases List.mem_append.1 h with h | h
        ·simp [h]
        ·rcases List.mem_cons.1 h with h | h
         ·exact absurd h hji
         ·simp [h]
       ·simp [h]
    ·have hnil:l = []:=by
      cases l with
      | nil=>rfl
      | cons k l =>
       exfalso
       have hk:=hlm k (by simp)
       exact hready k (by simp) (mf hT hisz him (by omega))
     subst hnil
     cases lt with
     | nil=>simp at hin
     | cons k lt =>
      have hki:k=i:=by
       rcases List.mem_cons.1 hin with h | h
       ·exact h.symm
       ·exfalso
        have hlt:=(List.pairwise_cons.1 hs).1 i h
        exact hready k (by simp) (mf hT hisz him hlt)
      subst hki
      obtain ⟨s1,hle,o',r,u,ho',h1,h2⟩:=h
      rw [hoi] at ho'
      injection ho' with ho'
      subst ho'
      have hc3:=List.pairwise_cons.1 hs
      refine ⟨[],lt,s1,r,u,hle,h1,h2,by simp at hl ⊢; omega,hc3.2,fun j hj=>(by cases hj),fun j hj=>hltm j (by simp [hj]),fun j=>?_⟩
      refine ⟨fun hj=>⟨by simp at hj; simp [hj],fun e=>by
       subst e
       have:=hc3.1 j (by simpa using hj)
       omega⟩,fun ⟨hj,hji⟩=>?_⟩
      rcases List.mem_cons.1 hj with h | h
      ·exact absurd h hji
      ·simpa using h
   obtain ⟨l',lt',s1,r,u,hle,h1,h2,k1,k2,k3,k4,k5⟩:=key
   have hc1:=hle n w0 F0 a w hc
   have hstep:=wi (f:=0) (Q:=Q) (K:=wpAny P .any ops Q m (listed.setIfInBounds i true)) hc1 h1 (dm hB hoi).1 (fun a' w' hc'=>by
    have hmono:∀ j,listed.getD j false=true→(listed.setIfInBounds i true).getD j false=true:=fun j hj=>by
     by_cases hji:j=i
     ·subst hji
      have hsz:j < listed.size:=by rw [hls]; exact hisz
      simp [hsz]
     ·rw [getD_set_ne false (Ne.symm hji)]; exact hj
    refine uy hQ hB hT m l' lt' _ _ a' w' k1 k2 k3 k4 (fun j=>?_) (by simpa using hls) (fun j hj o ho e he hb=>?_) h2 hc'
    ·by_cases hji:j=i
     ·subst hji
      have hsz:j < listed.size:=by rw [hls]; exact hisz
      refine ⟨fun hmem=>absurd rfl ((k5 j).1 hmem).2,fun ⟨_,hx⟩=>?_⟩
      simp [hsz] at hx
     ·rw [getD_set_ne true (Ne.symm hji),k5 j,hm j]
      simp [hji]
    ·by_cases hji:j=i
     ·subst hji
      rw [hoi] at ho
      cases ho
      exact hmono _ (hall e he hb)
     ·rw [getD_set_ne false (Ne.symm hji)] at hj
      exact hmono _ (hcl j hj o ho e he hb))
   unfold wpOp
   rw [hoi]
   simp only
   split
   ·rename_i hw
    rw [if_pos hw] at hstep
    exact .inl hstep
   ·rename_i hw
    rw [if_neg hw] at hstep
    exact hstep
theorem uP (bd:Nat→Bd) {Qs:Exit→PS→Prop} {s:PS} {id:Nat} {l:List Oper} (mT:Nat) (hmT:mT≤l.length) (hm:P.follows .mixedOrders=true) (hB:nC bd n l.toArray=true) (hT:qo mT l.toArray=true) (h:nV P l.toArray bd (List.range' 0 mT) s (fun s'=>vE P l.toArray (List.range' mT (l.length - mT)) s' (Qs .normal))) : PWP P n (.region id l.toArray true) Qs s:=by
 intro w0 F0 a w hc
 refine wp_region_any hm ?_
 have hr:List.range' 0 mT++List.range' mT (l.length - mT)=List.range' 0 l.length:=by
  have:=List.range'_append (s:=0) (m:=mT) (n:=l.length - mT) (step:=1)
  simp only [Nat.one_mul,Nat.zero_add] at this
  rw [this]
  congr 1
  omega
 refine uy (Qs:=Qs) (mT:=mT) (fun _ s' _ _ h1 h2=>⟨s',h1,h2⟩) hB hT l.toArray.size (List.range' 0 mT) (List.range' mT (l.length - mT)) _ s a _ (by rw [hr]; simp) (by rw [hr]; exact List.pairwise_lt_range') (fun j hj=>by simp [List.mem_range'_1] at hj; exact hj) (fun j hj=>by simp [List.mem_range'_1] at hj; omega) (fun j=>?_) (by simp) (fun j hj=>by exfalso; simp only [Array.getD_eq_getD_getElem?,Array.getElem?_replicate] at hj; split at hj <;> cases hj) h (hc.drew _)
 rw [hr]
 simp only [List.mem_range'_1,Nat.zero_le,true_and,Nat.zero_add,List.size_toArray]
 refine ⟨fun h=>⟨h,by simp [h]⟩,fun h=>h.1⟩
end
end
end Go.Proofs.Ytkmpjphbkhpgbaa
