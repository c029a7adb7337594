/- My texts, in one. -/
import Derived.Test.YtchddofjajgopaaGreatZA
set_option linter.all false
set_option maxRecDepth 100000
set_option maxHeartbeats 4000000
namespace Go.Proofs.YtchddofjajgopaaGreat
open Go.RowKit
open IntKind (i64)
open Go.Proofs.Tryz (prog)
section
mutual
def Xn (b : Nat → Option Box) : PV → Bool
 | .ptr t _ => (b t).isSome
 | .row t _ => (b t).isSome
 | .re t _ _ _ => (b t).isSome
 | .vw t _ _ _ => (b t).isSome
 | .ag cs => xy b cs
 | .tup cs => xy b cs
 | .fn _ ps qs => xy b ps && xy b qs
 | _ => true
def xy (b : Nat → Option Box) : List PV → Bool
 | [] => true
 | c :: cs => Xn b c && xy b cs
end
section
variable {P : Program} {ρ ρ' : Nat → Value} {b b' : Nat → Option Box} {w w' : World} {w0 : WM} {F F' F0 : Nat → Prop} {n : Nat} {Qs : Exit → PS → Prop} {c : Code}
variable {s : PS}
theorem Ra {ks bs : List Nat} {x : Code} (I : PS → Nat → Prop) (m0 : Nat) (h0 : I s m0) (round : ∀ s m, I s m → PWP P n x (WO (fun s' => ∃ s'', (∀ n w0 F0 a w, nD n w0 F0 s' a w → nD n w0 F0 s'' a w) ∧ ∃ m', I s'' m' ∧ m' < m) Qs) s) : PWP P n (.loop x) Qs s := by
 intro w0 F0 a w hc
 refine wp_loop_ghost (fun m a' w' => ∃ s', I s' m ∧ nD n w0 F0 s' a' w') m0 ⟨s, h0, hc⟩ (fun m a' w' ⟨s', h1, h2⟩ => ?_)
 refine wp_mono (round s' m h1 w0 F0 a' w' h2) fun e a2 w2 ⟨s2, h3, h4⟩ => ?_
 cases e with
 | normal =>
  obtain ⟨s3, h5, m', h6, h7⟩ := h3
  exact ⟨m', h7, s3, h6, h5 _ _ _ _ _ h4⟩
 | _ => exact ⟨s2, h3, h4⟩
end
mutual
def frz (t : Nat) (es : List (List D)) : PV → PV
 | .row t' m => if t' = t then (if m = es.length then .d (.sl es) else .junk) else .row t' m
 | .re t' m i o => if t' = t then .junk else .re t' m i o
 | .vw t' m i o => if t' = t then .junk else .vw t' m i o
 | .ag cs => .ag (DX t es cs)
 | .tup cs => .tup (DX t es cs)
 | .fn f ps qs => .fn f (DX t es ps) (DX t es qs)
 | p => p
def DX (t : Nat) (es : List (List D)) : List PV → List PV
 | [] => []
 | c :: cs => frz t es c :: DX t es cs
end
def z8 (t : Nat) (es : List (List D)) : Box → Box
 | .st ty cs => .st ty (DX t es cs)
 | B => B
section
variable {P : Program} {ρ ρ' : Nat → Value} {b b' : Nat → Option Box} {w w' : World} {w0 : WM} {F F' F0 : Nat → Prop} {n : Nat} {Qs : Exit → PS → Prop} {c : Code}
theorem gN (t : Nat) (es : List (List D)) : ∀ cs : List PV, (DX t es cs).length = cs.length
 | [] => rfl
 | c :: cs => by simp [DX, gN t es cs]
theorem gO (t : Nat) (es : List (List D)) : ∀ (cs : List PV) (j : Nat) (c : PV), (DX t es cs)[j]? = some c → ∃ d, cs[j]? = some d ∧ c = frz t es d
 | [], j, c, h => by simp [DX] at h
 | d :: cs, j, c, h => by
  simp only [DX] at h
  cases j with
  | zero => simp at h; exact ⟨d, rfl, h.symm⟩
  | succ j => simp at h; simpa using gO t es cs j c h
theorem aL.frz {x : Value} {p : PV} {t e k : Nat} {es : List (List D)} (hi : Inv w0 F0 ρ b w F) (hb : b t = some (.rw e k es)) (hb' : ∀ i, b' i = if i = t then none else (b i).map (z8 t es)) (h : aL ρ b w F x p) :
  aL ρ b' w (fun g => F g ∨ blk (ρ t) = some g) x (Go.Proofs.YtchddofjajgopaaGreat.frz t es p) := by
 have hF : ∀ g, F g → (F g ∨ blk (ρ t) = some g) := fun g h => .inl h
 induction h with
 | junk x => exact .junk x
 | d x d h => exact .d x d (h.mono hF (fun _ _ => rfl))
 | ag xs cs hl h1 hr ih =>
  refine .ag xs _ (by rw [gN]; exact hl) h1 (fun j x c h2 h3 => ?_)
  obtain ⟨d, h4, rfl⟩ := gO t es cs j c h3
  exact ih j x d h2 h4
 | tup xs cs hl hr ih =>
  refine .tup xs _ (by rw [gN]; exact hl) (fun j x c h2 h3 => ?_)
  obtain ⟨d, h4, rfl⟩ := gO t es cs j c h3
  exact ih j x d h2 h4
 | ptr t' off g ty cs hb2 hρ =>
  have : t' ≠ t := fun e => by rw [e, hb] at hb2; cases hb2
  exact .ptr t' off g ty _ (by rw [hb', if_neg this, hb2]; rfl) hρ
 | row t' m A cc e' k' es' hb2 hn hc hA hρ =>
  simp only [Go.Proofs.YtchddofjajgopaaGreat.frz]
  by_cases ht : t' = t
  ·subst ht
   rw [if_pos rfl]
   rw [hb] at hb2
   injection hb2 with hb2
   injection hb2 with e1 e2 e3
   subst e1 e2 e3
   split
   ·rename_i hm
    have := Ko hi hb (.row t' m A cc e k es hb hn hc hA hρ) hm.symm
    refine .d _ _ ?_
    have hr := j7 hi (.row t' m A cc e k es hb hn hc hA hρ) (show kz b (.row t' m) = some es by simp [kz, hb, hm])
    obtain ⟨A2, c2, k2, e4, hc2, hm2, hk2, hA2, hcell2⟩ := hr
    injection e4 with e5 e6 e7
    subst e5 e7
    cases A with
    | none =>
     obtain ⟨rfl, rfl⟩ := hA2 rfl
     simp at hm
     subst hm
     exact .sl none 0 0 0 [] (fun _ => undef) rfl (Nat.le_refl _) (by simp [maxLen]) (by simp) (by omega) (fun _ => rfl) (by simp) (by simp)
    | some a =>
     have hcell2 := hcell2 a rfl
     refine .sl (some a) m cc k2 es (fun j => (w.cell? (a.add j)).getD undef) hm hc hm2 hk2 (fun _ => ⟨a, rfl, .inr (by rw [hρ hm.symm]; rfl)⟩) (fun h => by cases h) (fun a' j d ha' hj => ?_) (fun j d hj => ?_)
     ·injection ha' with ha'
      subst ha'
      obtain ⟨u, h1, _⟩ := hcell2 j d hj
      rw [h1]; rfl
     ·obtain ⟨u, h1, h2⟩ := hcell2 j d hj
      rw [h1]
      exact h2.mono hF (fun _ _ => rfl)
   ·exact .junk _
  ·rw [if_neg ht]
   exact .row t' m A cc e' k' es' (by rw [hb', if_neg ht, hb2]; rfl) hn hc hA hρ
 | re t' m i o a e' k' es' hb2 hn hi' hρ =>
  simp only [Go.Proofs.YtchddofjajgopaaGreat.frz]
  by_cases ht : t' = t
  ·rw [if_pos ht]; exact .junk _
  ·rw [if_neg ht]
   exact .re t' m i o a e' k' es' (by rw [hb', if_neg ht, hb2]; rfl) hn hi' hρ
 | vw t' m lo hi' A mm cc e' k' es' hb2 hn hl hh hm hρ =>
  simp only [Go.Proofs.YtchddofjajgopaaGreat.frz]
  by_cases ht : t' = t
  ·rw [if_pos ht]; exact .junk _
  ·rw [if_neg ht]
   exact .vw t' m lo hi' A mm cc e' k' es' (by rw [hb', if_neg ht, hb2]; rfl) hn hl hh hm hρ
 | fe a cs us hF' hcell hrep => exact .fe a cs us (.inl hF') hcell (fun j d h => (hrep j d h).mono hF (fun _ _ => rfl))
 | fn f xs ys ps qs hl hr hl2 hr2 ih ih2 =>
  refine .fn f xs ys _ _ (by rw [gN]; exact hl) (fun j x c h2 h3 => ?_) (by rw [gN]; exact hl2) (fun j x c h2 h3 => ?_)
  ·obtain ⟨d, h4, rfl⟩ := gO t es ps j c h3
   exact ih j x d h2 h4
  ·obtain ⟨d, h4, rfl⟩ := gO t es qs j c h3
   exact ih2 j x d h2 h4
theorem Inv.reg_frz {t : Nat} {es : List (List D)} (hi : Inv w0 F0 ρ b w F) (hb' : ∀ i, b' i = if i = t then none else (b i).map (z8 t es)) : ∀ i q, w0.R i = some q → 1000000 ≤ i ∧ pa ρ b' i q := by
 intro i q h
 obtain ⟨h1, h2⟩ := hi.reg i q h
 refine ⟨h1, ?_⟩
 by_cases hit : i = t
 ·exact h2.less (.inl (by rw [hb', if_pos hit]))
 ·refine h2.mono (fun e => by rw [hb', if_neg hit, e]; rfl) (fun ty cs e => ⟨⟨ty, _, by rw [hb', if_neg hit, e]; rfl⟩, rfl⟩) (fun e k es' he => ⟨e, es', by rw [hb', if_neg hit, he]; rfl, Nat.le_refl _, fun _ => rfl⟩)
theorem aL.dd {x : Value} {d : D} (h : aL ρ b w F x (.d d)) : ec w F x d := by
 cases h with
 | d _ _ h => exact h
end
end
theorem Tryz.mixed : prog.follows .mixedOrders = true := by kernel_rfl
theorem Gg {x : Int} (h1 : -9223372036854775808 ≤ x) (h2 : x ≤ 9223372036854775807) : i64.wrap x = x := by
 exact IntWalk.i64_in x ⟨h1, h2⟩
theorem XZ (k : Nat) (h : k + 1 ≤ 9223372036854775807) : i64.wrap ((k : Int) + 1) = ((k + 1 : Nat) : Int) := Gg (by omega) (by omega)
section
section
variable {α β σ τ : Type}
def ax (l : List α) (i : Int) : Option α := if 0 ≤ i then l[i.toNat]? else none
def aU (l m : List α) : Option (List α) := if l.length + m.length ≤ 1000000 then some (l ++ m) else none
def hiO (l : List α) (k : Int) : Option (List α) := if 0 ≤ k ∧ k.toNat ≤ l.length then some (l.take k.toNat) else none
def loO (l : List α) (k : Int) : Option (List α) := if 0 ≤ k ∧ k.toNat ≤ l.length then some (l.drop k.toNat) else none
def kM (s : ByteArray) (i : Int) : Option Int := if 0 ≤ i then (s.data.toList[i.toNat]?).map (fun c => (c.toNat : Int)) else none
def M5 (s : ByteArray) (k : Int) : Option ByteArray := if 0 ≤ k ∧ k.toNat ≤ s.size then some (s.extract 0 k.toNat) else none
def Q1 (s : ByteArray) (k : Int) : Option ByteArray := if 0 ≤ k ∧ k.toNat ≤ s.size then some (s.extract k.toNat s.size) else none
def Il (s : ByteArray) (a b : Int) : Option ByteArray := if 0 ≤ a ∧ 0 ≤ b ∧ a.toNat ≤ b.toNat ∧ b.toNat ≤ s.size then some (s.extract a.toNat b.toNat) else none
def lY (s t : ByteArray) : Option ByteArray := if s.size + t.size ≤ 9223372036854775807 then some (s ++ t) else none
def VD (l : List Int) : Option ByteArray := if l = [] then none else some (l.foldl (fun r n => r.push (UInt8.ofNat n.toNat)) ByteArray.empty)
def BR (x y : Int) : Option Int := if y = 0 then none else some (x.tmod y)
def ah (f : σ → Option (σ ⊕ τ)) : Nat → σ → Option τ
 | 0, _ => none
 | n + 1, s => match f s with
  | none => none
  | some (.inl s') => ah f n s'
  | some (.inr r) => some r
def ab : Nat := 1000000000
theorem bm {o : Option α} {k : α → Option β} {r : β} (h : o.bind k = some r) : ∃ x, o = some x ∧ k x = some r := by
 cases o with
 | none => cases h
 | some x => exact ⟨x, rfl, h⟩
end
end
def iD (n : Int) : List D := [.v (.int .i64 n)]
def sD (s : ByteArray) : List D := [.v (.string s)]
structure aw where
 bA : Int
 aZ : Int
def aw.zero : aw := ⟨0, 0⟩
def aw.d (x : aw) : List D := [.v (.int .i64 x.bA), .v (.int .i64 x.aZ)]
structure aO where
 bI : Int
 bc : Int
 cT : aw
 iL : Int
 bK : Int
 fM : Int
 jJ : Int
def aO.zero : aO := ⟨0, 0, aw.zero, 0, 0, 0, 0⟩
def aO.d (x : aO) : List D := [.v (.int .i64 x.bI), .v (.int .i64 x.bc), .v (.int .i64 x.cT.bA), .v (.int .i64 x.cT.aZ), .v (.int .i64 x.iL), .v (.int .i64 x.bK), .v (.int .i64 x.fM), .v (.int .i64 x.jJ)]
structure aB where
 fId : Int
 ed : Int
 bW : ByteArray
 dw : Int
 bI : Int
 bU : aw
 cf : (List aO)
 bO : Int
 cJ : Int
 cA : (List Int)
 iK : (List Int)
 sI : (List Int)
 tG : (List Int)
def aB.zero : aB := ⟨0, 0, ⟨#[]⟩, 0, 0, aw.zero, [], 0, 0, [], [], [], []⟩
def aB.d (x : aB) : List D := [.v (.int .i64 x.fId), .v (.int .i64 x.ed), .v (.string x.bW), .v (.int .i64 x.dw), .v (.int .i64 x.bI), .v (.int .i64 x.bU.bA), .v (.int .i64 x.bU.aZ), .sl (x.cf.map aO.d), .v (.int .i64 x.bO), .v (.int .i64 x.cJ), .sl (x.cA.map iD), .sl (x.iK.map iD), .sl (x.sI.map iD), .sl (x.tG.map iD)]
structure dV where
 jz : Int
 pY : Int
def dV.d (x : dV) : List D := [.v (.int .i64 x.jz), .v (.int .i64 x.pY)]
structure aC where
 aI : ByteArray
 bz : (List dV)
 dw : Int
def aC.zero : aC := ⟨⟨#[]⟩, [], 0⟩
def aC.d (x : aC) : List D := [.v (.string x.aI), .sl (x.bz.map dV.d), .v (.int .i64 x.dw)]
structure az where
 ak : (List ByteArray)
 ae : (List aC)
def az.d (x : az) : List D := [.sl (x.ak.map sD), .sl (x.ae.map aC.d)]
structure al where
 fId : Int
 bE : Int
 bK : Int
 cT : aw
 bI : Int
 bc : Int
 bU : Bool
 kW : Int
def al.zero : al := ⟨0, 0, 0, aw.zero, 0, 0, false, 0⟩
def al.d (x : al) : List D := [.v (.int .i64 x.fId), .v (.int .i64 x.bE), .v (.int .i64 x.bK), .v (.int .i64 x.cT.bA), .v (.int .i64 x.cT.aZ), .v (.int .i64 x.bI), .v (.int .i64 x.bc), .v (.bool x.bU), .v (.int .i64 x.kW)]
structure aM where
 fId : Int
 bc : Int
 fM : Int
 jc : aw
 bO : Int
 cJ : Int
 fUp : Bool
def aM.zero : aM := ⟨0, 0, 0, aw.zero, 0, 0, false⟩
def aM.d (x : aM) : List D := [.v (.int .i64 x.fId), .v (.int .i64 x.bc), .v (.int .i64 x.fM), .v (.int .i64 x.jc.bA), .v (.int .i64 x.jc.aZ), .v (.int .i64 x.bO), .v (.int .i64 x.cJ), .v (.bool x.fUp)]
structure a6 where
 fId : Int
 bc : Int
 o6 : Int
 kV : Int
 kt : aw
def a6.zero : a6 := ⟨0, 0, 0, 0, aw.zero⟩
def a6.d (x : a6) : List D := [.v (.int .i64 x.fId), .v (.int .i64 x.bc), .v (.int .i64 x.o6), .v (.int .i64 x.kV), .v (.int .i64 x.kt.bA), .v (.int .i64 x.kt.aZ)]
structure aJ where
 gR : Int
 fId : Int
 cJ : Int
 fN : Int
 K6 : ByteArray
 bK : aM
 bE : aB
 cf : (List aO)
 fO : (List Int)
 o5 : a6
def aJ.d (x : aJ) : List D := [.v (.int .i64 x.gR), .v (.int .i64 x.fId), .v (.int .i64 x.cJ), .v (.int .i64 x.fN), .v (.string x.K6), .v (.int .i64 x.bK.fId), .v (.int .i64 x.bK.bc), .v (.int .i64 x.bK.fM), .v (.int .i64 x.bK.jc.bA), .v (.int .i64 x.bK.jc.aZ), .v (.int .i64 x.bK.bO), .v (.int .i64 x.bK.cJ), .v (.bool x.bK.fUp), .v (.int .i64 x.bE.fId), .v (.int .i64 x.bE.ed), .v (.string x.bE.bW), .v (.int .i64 x.bE.dw), .v (.int .i64 x.bE.bI), .v (.int .i64 x.bE.bU.bA), .v (.int .i64 x.bE.bU.aZ), .sl (x.bE.cf.map aO.d), .v (.int .i64 x.bE.bO), .v (.int .i64 x.bE.cJ), .sl (x.bE.cA.map iD), .sl (x.bE.iK.map iD), .sl (x.bE.sI.map iD), .sl (x.bE.tG.map iD), .sl (x.cf.map aO.d), .sl (x.fO.map iD), .v (.int .i64 x.o5.fId), .v (.int .i64 x.o5.bc), .v (.int .i64 x.o5.o6), .v (.int .i64 x.o5.kV), .v (.int .i64 x.o5.kt.bA), .v (.int .i64 x.o5.kt.aZ)]
structure bt where
 XF : Int
 ac : (List al)
 fO : (List Int)
 WX : (List Int)
 fN : Int
def bt.d (x : bt) : List D := [.v (.int .i64 x.XF), .sl (x.ac.map al.d), .sl (x.fO.map iD), .sl (x.WX.map iD), .v (.int .i64 x.fN)]
structure bu where
 bK : Int
 bE : Int
 bI : Int
def bu.d (x : bu) : List D := [.v (.int .i64 x.bK), .v (.int .i64 x.bE), .v (.int .i64 x.bI)]
structure aa where
 bN : az
 aq : (List aM)
 ao : (List aB)
 ac : (List al)
 aY : (List bu)
 bw : (List a6)
 bR : Int
 ql : Int
 rQ : Int
def aa.d (x : aa) : List D := [.sl (x.bN.ak.map sD), .sl (x.bN.ae.map aC.d), .sl (x.aq.map aM.d), .sl (x.ao.map aB.d), .sl (x.ac.map al.d), .sl (x.aY.map bu.d), .sl (x.bw.map a6.d), .v (.int .i64 x.bR), .v (.int .i64 x.ql), .v (.int .i64 x.rQ)]
structure be where
 Un : (List Int)
 bz : (List dV)
 dw : Int
def be.d (x : be) : List D := [.sl (x.Un.map iD), .sl (x.bz.map dV.d), .v (.int .i64 x.dw)]
structure cu where
 ak : Int
 ae : (List be)
def cu.d (x : cu) : List D := [.v (.int .i64 x.ak), .sl (x.ae.map be.d)]
structure aP where
 gR : Int
 fA : Int
 fB : Int
 fC : Int
 fD : Int
def aP.d (x : aP) : List D := [.v (.int .i64 x.gR), .v (.int .i64 x.fA), .v (.int .i64 x.fB), .v (.int .i64 x.fC), .v (.int .i64 x.fD)]
structure aE where
 IQ : Int
 fNs : (List Int)
 l5 : (List aP)
def aE.d (x : aE) : List D := [.v (.int .i64 x.IQ), .sl (x.fNs.map iD), .sl (x.l5.map aP.d)]
structure a7 where
 fA : Int
 fP : Int
def a7.d (x : a7) : List D := [.v (.int .i64 x.fA), .v (.int .i64 x.fP)]
structure ai where
 aI : ByteArray
 bA : Int
def ai.d (x : ai) : List D := [.v (.string x.aI), .v (.int .i64 x.bA)]
structure bF where
 fpath : ByteArray
 fused : aw
 fleast : aw
def bF.d (x : bF) : List D := [.v (.string x.fpath), .v (.int .i64 x.fused.bA), .v (.int .i64 x.fused.aZ), .v (.int .i64 x.fleast.bA), .v (.int .i64 x.fleast.aZ)]
structure bq where
 fpath : ByteArray
 fis : Bool
def bq.d (x : bq) : List D := [.v (.string x.fpath), .v (.bool x.fis)]
structure bv where
 fstate : aa
 flabel : Int
 fsize : aw
def bv.d (x : bv) : List D := [.sl (x.fstate.bN.ak.map sD), .sl (x.fstate.bN.ae.map aC.d), .sl (x.fstate.aq.map aM.d), .sl (x.fstate.ao.map aB.d), .sl (x.fstate.ac.map al.d), .sl (x.fstate.aY.map bu.d), .sl (x.fstate.bw.map a6.d), .v (.int .i64 x.fstate.bR), .v (.int .i64 x.fstate.ql), .v (.int .i64 x.fstate.rQ), .v (.int .i64 x.flabel), .v (.int .i64 x.fsize.bA), .v (.int .i64 x.fsize.aZ)]
structure bP where
 flabel : Int
 fuser : Int
def bP.d (x : bP) : List D := [.v (.int .i64 x.flabel), .v (.int .i64 x.fuser)]
structure ci where
 bA : Int
 aZ : Int
def ci.d (x : ci) : List D := [.v (.int .i64 x.bA), .v (.int .i64 x.aZ)]
structure br where
 jz : Int
 pY : Int
def br.d (x : br) : List D := [.v (.int .i64 x.jz), .v (.int .i64 x.pY)]
section
section
variable {α σ τ S : Type}
theorem aH {f : σ → Option (σ ⊕ τ)} (I : σ → Prop) (μ : σ → Nat) (Q : τ → Prop) (h : ∀ s, I s → (∃ s', f s = some (.inl s') ∧ I s' ∧ μ s' < μ s) ∨ (∃ r, f s = some (.inr r) ∧ Q r)) : ∀ (N : Nat) (s : σ), I s → μ s < N → ∃ r, ah f N s = some r ∧ Q r
 | 0, s, _, hm => absurd hm (Nat.not_lt_zero _)
 | N + 1, s, hI, hm => by
  rcases h s hI with ⟨s', h1, h2, h3⟩ | ⟨r, h1, h2⟩
  ·obtain ⟨r, h4, h5⟩ := aH I μ Q h N s' h2 (by omega)
   exact ⟨r, by simp only [ah, h1]; exact h4, h5⟩
  ·exact ⟨r, by simp only [ah, h1], h2⟩
def bk (g : σ → α → Option (σ ⊕ τ)) (fin : σ → τ) : σ → List α → Option τ
 | a, [] => some (fin a)
 | a, x :: l => match g a x with
  | none => none
  | some (.inl a') => bk g fin a' l
  | some (.inr r) => some r
def nh (g : σ → Int → α → Option (σ ⊕ τ)) (fin : σ → τ) : σ → Nat → List α → Option τ
 | a, _, [] => some (fin a)
 | a, k, x :: l => match g a (k : Int) x with
  | none => none
  | some (.inl a') => nh g fin a' (k + 1) l
  | some (.inr r) => some r
theorem tu (l : List α) (mk : σ → Int → S) (f : S → Option (S ⊕ τ)) (g : σ → Int → α → Option (σ ⊕ τ)) (fin : σ → τ)
  (hstep : ∀ (k : Nat) (a : σ) (x : α), l[k]? = some x → f (mk a (k : Int)) = (g a (k : Int) x).map (fun o => match o with | .inl a' => .inl (mk a' ((k + 1 : Nat) : Int)) | .inr r => .inr r))
  (hend : ∀ a, f (mk a (l.length : Int)) = some (.inr (fin a))) : ∀ (N k : Nat) (a : σ), k ≤ l.length → l.length - k < N → ah f N (mk a (k : Int)) = nh g fin a k (l.drop k)
 | 0, k, a, _, hN => absurd hN (Nat.not_lt_zero _)
 | N + 1, k, a, hk, hN => by
  by_cases hlt : k < l.length
  ·have hx : l[k]? = some l[k] := zq hlt
   have hd : l.drop k = l[k] :: l.drop (k + 1) := (List.getElem_cons_drop hlt).symm
   rw [hd]
   simp only [ah, hstep k a _ hx, nh]
   cases hg : g a (k : Int) l[k] with
   | none => rfl
   | some o =>
    cases o with
    | inl a' => exact tu l mk f g fin hstep hend N (k + 1) a' hlt (by omega)
    | inr r => rfl
  ·have : k = l.length := by omega
   subst this
   simp only [ah, hend a, List.drop_length, nh]
theorem eU (l : List α) (mk : σ → Int → S) {f : S → Option (S ⊕ τ)} (g : σ → Int → α → Option (σ ⊕ τ)) (fin : σ → τ) {N : Nat} (hN : l.length < N)
  (hstep : ∀ (k : Nat) (a : σ) (x : α), l[k]? = some x → f (mk a (k : Int)) = (g a (k : Int) x).map (fun o => match o with | .inl a' => .inl (mk a' ((k + 1 : Nat) : Int)) | .inr r => .inr r))
  (hend : ∀ a, f (mk a (l.length : Int)) = some (.inr (fin a))) (a : σ) : ah f N (mk a 0) = nh g fin a 0 l := by
 have := tu l mk f g fin hstep hend N 0 a (Nat.zero_le _) (by omega)
 rwa [List.drop_zero] at this
theorem GD {β γ δ : Type} (o : Option β) (k : β → Option γ) (f : γ → δ) : (o.bind k).map f = o.bind fun x => (k x).map f := by cases o <;> rfl
theorem TT {γ δ : Type} {c : Bool} (a b : Option γ) (f : γ → δ) : (if c = true then a else b).map f = if c = true then a.map f else b.map f := by cases c <;> rfl
theorem VZ {β γ δ ε : Type} (o : β ⊕ γ) (a : β → Option δ) (b : γ → Option δ) (f : δ → ε) : (match o with | .inr y => b y | .inl x => a x).map f = match o with | .inr y => (b y).map f | .inl x => (a x).map f := by cases o <;> rfl
theorem vH (l : List α) (mk : σ → Int → S) (f : S → Option (S ⊕ τ)) (g : σ → α → Option (σ ⊕ τ)) (fin : σ → τ)
  (hstep : ∀ (k : Nat) (a : σ) (x : α), l[k]? = some x → f (mk a (k : Int)) = (g a x).map (fun o => match o with | .inl a' => .inl (mk a' ((k + 1 : Nat) : Int)) | .inr r => .inr r))
  (hend : ∀ a, f (mk a (l.length : Int)) = some (.inr (fin a))) : ∀ (N k : Nat) (a : σ), k ≤ l.length → l.length - k < N → ah f N (mk a (k : Int)) = bk g fin a (l.drop k)
 | 0, k, a, _, hN => absurd hN (Nat.not_lt_zero _)
 | N + 1, k, a, hk, hN => by
  by_cases hlt : k < l.length
  ·have hx : l[k]? = some l[k] := zq hlt
   have hd : l.drop k = l[k] :: l.drop (k + 1) := (List.getElem_cons_drop hlt).symm
   rw [hd]
   simp only [ah, hstep k a _ hx, bk]
   cases hg : g a l[k] with
   | none => rfl
   | some o =>
    cases o with
    | inl a' => exact vH l mk f g fin hstep hend N (k + 1) a' hlt (by omega)
    | inr r => rfl
  ·have : k = l.length := by omega
   subst this
   simp only [ah, hend a, List.drop_length, bk]
theorem ay (l : List α) (mk : σ → Int → S) {f : S → Option (S ⊕ τ)} (g : σ → α → Option (σ ⊕ τ)) (fin : σ → τ) {N : Nat} (hN : l.length < N)
  (hstep : ∀ (k : Nat) (a : σ) (x : α), l[k]? = some x → f (mk a (k : Int)) = (g a x).map (fun o => match o with | .inl a' => .inl (mk a' ((k + 1 : Nat) : Int)) | .inr r => .inr r))
  (hend : ∀ a, f (mk a (l.length : Int)) = some (.inr (fin a))) (a : σ) : ah f N (mk a 0) = bk g fin a l := by
 have := vH l mk f g fin hstep hend N 0 a (Nat.zero_le _) (by omega)
 rwa [List.drop_zero] at this
theorem vG (l : List α) (p : α → Bool) {f : Int → Option (Int ⊕ Int)} (hstep : ∀ (k : Nat) (x : α), l[k]? = some x → f (k : Int) = if p x = true then some (.inl ((k + 1 : Nat) : Int)) else some (.inr (k : Int))) (hend : f (l.length : Int) = some (.inr (l.length : Int))) :
  ∀ (N k : Nat), k ≤ l.length → l.length - k < N → ah f N (k : Int) = some ((k + ((l.drop k).takeWhile p).length : Nat) : Int)
 | 0, k, _, hN => absurd hN (Nat.not_lt_zero _)
 | N + 1, k, hk, hN => by
  by_cases hlt : k < l.length
  ·have hx : l[k]? = some l[k] := zq hlt
   have hd : l.drop k = l[k] :: l.drop (k + 1) := (List.getElem_cons_drop hlt).symm
   simp only [ah, hstep k _ hx]
   rw [hd, List.takeWhile_cons]
   cases hp : p l[k] with
   | true =>
    simp only [if_true]
    rw [vG l p hstep hend N (k + 1) hlt (by omega)]
    simp only [List.length_cons]
    congr 2
    omega
   | false => simp
  ·have : k = l.length := by omega
   subst this
   simp only [ah, hend, List.drop_length, List.takeWhile_nil, List.length_nil, Nat.add_zero]
theorem DC (l : List α) (p : α → Bool) {f : Int → Option (Int ⊕ Int)} {N : Nat} (hN : l.length < N) (hstep : ∀ (k : Nat) (x : α), l[k]? = some x → f (k : Int) = if p x = true then some (.inl ((k + 1 : Nat) : Int)) else some (.inr (k : Int))) (hend : f (l.length : Int) = some (.inr (l.length : Int))) :
  ah f N 0 = some ((l.takeWhile p).length : Int) := by
 have := vG l p hstep hend N 0 (Nat.zero_le _) (by omega)
 simpa using this
theorem rD (p : α → Bool) (l : List α) : (l.takeWhile p).length ≤ l.length := (List.takeWhile_sublist p).length_le
theorem oX {l : List α} {k : Nat} (h : k ≤ l.length) : hiO l (k : Int) = some (l.take k) := by
 unfold hiO
 rw [if_pos ⟨Int.natCast_nonneg k, by rw [zt]; exact h⟩, zt]
theorem kQ {l : List α} {k : Nat} (h : k ≤ l.length) : loO l (k : Int) = some (l.drop k) := by
 unfold loO
 rw [if_pos ⟨Int.natCast_nonneg k, by rw [zt]; exact h⟩, zt]
theorem aD {l m : List α} (h : l.length + m.length ≤ 1000000) : aU l m = some (l ++ m) := by unfold aU; rw [if_pos h]
theorem aR {g : σ → α → Option (σ ⊕ τ)} {fin : σ → τ} (I : Nat → σ → Prop) (Q : τ → Prop) : ∀ (l : List α) (k : Nat) (a : σ), (∀ (j : Nat) (a : σ) (x : α), l[j]? = some x → I (k + j) a → ∃ o, g a x = some o ∧ (∀ a', o = .inl a' → I (k + j + 1) a') ∧ ∀ r, o = .inr r → Q r) → (∀ a, I (k + l.length) a → Q (fin a)) → I k a → ∃ r, bk g fin a l = some r ∧ Q r
 | [], k, a, _, hf, hI => ⟨fin a, rfl, hf a hI⟩
 | x :: l, k, a, h, hf, hI => by
  obtain ⟨o, h1, h2, h3⟩ := h 0 a x rfl hI
  cases o with
  | inl a' =>
   obtain ⟨r, h4, h5⟩ := aR I Q l (k + 1) a' (fun j a x hj hI => by
    have := h (j + 1) a x hj (by rw [show k + (j + 1) = k + 1 + j by omega]; exact hI)
    rw [show k + (j + 1) + 1 = k + 1 + j + 1 by omega] at this
    exact this) (fun a hI => hf a (by rw [List.length_cons, show k + (l.length + 1) = k + 1 + l.length by omega]; exact hI)) (h2 a' rfl)
   exact ⟨r, by simp only [bk, h1]; exact h4, h5⟩
  | inr r => exact ⟨r, by simp only [bk, h1], h3 r rfl⟩
theorem KV {l : List α} {i : Int} (h0 : 0 ≤ i) (h1 : i < (l.length : Int)) : ∃ x, ax l i = some x ∧ x ∈ l := by
 unfold ax
 rw [if_pos h0]
 have : i.toNat < l.length := by omega
 exact ⟨l[i.toNat], zq this, List.getElem_mem this⟩
theorem orB (a b : Bool) : (if a = true then some true else some b) = some (a || b) := by cases a <;> rfl
theorem d6 (a b : Bool) : (if a = true then some b else some false) = some (a && b) := by cases a <;> rfl
theorem cw (p : α → Bool) (q : α → σ) {ρ : Type} (fin : List σ → ρ) : ∀ (l : List α) (acc : List σ), acc.length + l.length ≤ 1000000 → bk (fun acc x => if p x = true then (aU acc [q x]).map (fun a => (.inl a : List σ ⊕ ρ)) else some (.inl acc)) fin acc l = some (fin (acc ++ (l.filter p).map q))
 | [], acc, _ => by simp [bk]
 | x :: l, acc, h => by
  simp only [List.length_cons] at h
  simp only [bk, List.filter_cons]
  cases hp : p x with
  | true =>
   simp only [if_true, aD (show acc.length + [q x].length ≤ 1000000 by simp; omega), Option.map_some]
   rw [cw p q fin l _ (by simp; omega)]
   simp
  | false => simpa using cw p q fin l acc (by omega)
def dZ (key : α → Int) (l : List α) (a : α) : List α :=
 l.take (l.takeWhile fun x => decide (key x < key a)).length ++ a :: l.drop (match l[(l.takeWhile fun x => decide (key x < key a)).length]? with | some x => if (key x == key a) = true then (l.takeWhile fun x => decide (key x < key a)).length + 1 else (l.takeWhile fun x => decide (key x < key a)).length | none => (l.takeWhile fun x => decide (key x < key a)).length)
theorem aK {l : List α} {k : Nat} {x : α} (h : l[k]? = some x) : ax l (k : Int) = some x := by
 unfold ax
 rw [if_pos (Int.natCast_nonneg k), zt, h]
theorem ct {l : List α} {k : Nat} {x : α} (h : l[k]? = some x) : decide ((k : Int) < (l.length : Int)) = true := by
 have := (zg.1 h).1
 simpa using this
theorem ce (l : List α) : decide ((l.length : Int) < (l.length : Int)) = false := by simp
theorem bj {k n : Nat} (h : k < n) (hn : n ≤ 1000000) : i64.wrap ((k : Int) + 1) = ((k + 1 : Nat) : Int) := XZ k (by omega)
theorem am {n : Nat} (h : n ≤ 1000000) : n < ab := by unfold ab; omega
theorem wl (h : σ → α → σ) (fin : σ → τ) : ∀ (l : List α) (a : σ), bk (fun a x => some (.inl (h a x))) fin a l = some (fin (l.foldl h a))
 | [], _ => rfl
 | x :: l, a => wl h fin l (h a x)
theorem rI (p : α → Bool) (q : α → τ) (d : τ) : ∀ l : List α, bk (fun (_ : Unit) x => if p x = true then some (.inr (q x)) else some (.inl ())) (fun _ => d) () l = some (((l.find? p).map q).getD d)
 | [] => rfl
 | x :: l => by
  simp only [bk, List.find?_cons]
  cases hp : p x with
  | true => rfl
  | false => simpa using rI p q d l
end
theorem bG {α : Type} {a b : Option α} (h : a = b := by (have hk := (zg.1 hx).1; simp only [ct hx, if_true, aK hx, zb, bj hk hl, GD, TT, VZ, Option.map_some]; all_goals (repeat (first | rfl | (refine congrArg (Option.bind _) (funext fun r_ => ?_)) | (refine iteB ?_ ?_) | (cases r_ <;> rfl))))) : a = b := h
theorem cK {α : Type} {a b : Option α} (h : a = b := by simp only [ce, zf, if_false]) : a = b := h
end
inductive Ty where
 | int (k : IntKind)
 | bool
 | str
 | sl (t : Ty)
 | st (i : Nat)
def Ty.same : (a b : Ty) → Option (PLift (a = b))
 | .int j, .int k => if h : j = k then some ⟨by rw [h]⟩ else none
 | .bool, .bool => some ⟨rfl⟩
 | .str, .str => some ⟨rfl⟩
 | .sl a, .sl b => match Ty.same a b with | some ⟨h⟩ => some ⟨by rw [h]⟩ | none => none
 | .st i, .st j => if h : i = j then some ⟨by rw [h]⟩ else none
 | _, _ => none
def lhO {α : Type} (l : List α) (a b : Int) : Option (List α) := if 0 ≤ a ∧ 0 ≤ b ∧ a.toNat ≤ b.toNat ∧ b.toNat ≤ l.length then some ((l.drop a.toNat).take (b.toNat - a.toNat)) else none
def ST : Nat → Type
 | 0 => aw
 | 1 => aO
 | 2 => aB
 | 3 => dV
 | 4 => aC
 | 5 => az
 | 6 => al
 | 7 => aM
 | 8 => a6
 | 9 => aJ
 | 10 => bt
 | 11 => bu
 | 12 => aa
 | 13 => be
 | 14 => cu
 | 15 => aP
 | 16 => aE
 | 17 => a7
 | 18 => ai
 | 19 => bF
 | 20 => bq
 | 21 => bv
 | 22 => bP
 | 23 => ci
 | 24 => br
 | _ => Unit
def Ty.den : Ty → Type
 | .int _ => Int
 | .bool => Bool
 | .str => ByteArray
 | .sl t => List (Ty.den t)
 | .st i => ST i
inductive SD where
 | int (k : IntKind) (x : Int)
 | bool (b : Bool)
 | str (s : ByteArray)
 | sl (t : Ty) (xs : List t.den)
 | nl
def stD : (i : Nat) → ST i → List D
 | 0, x => aw.d x
 | 1, x => aO.d x
 | 2, x => aB.d x
 | 3, x => dV.d x
 | 4, x => aC.d x
 | 5, x => az.d x
 | 6, x => al.d x
 | 7, x => aM.d x
 | 8, x => a6.d x
 | 9, x => aJ.d x
 | 10, x => bt.d x
 | 11, x => bu.d x
 | 12, x => aa.d x
 | 13, x => be.d x
 | 14, x => cu.d x
 | 15, x => aP.d x
 | 16, x => aE.d x
 | 17, x => a7.d x
 | 18, x => ai.d x
 | 19, x => bF.d x
 | 20, x => bq.d x
 | 21, x => bv.d x
 | 22, x => bP.d x
 | 23, x => ci.d x
 | 24, x => br.d x
 | _ + 25, _ => []
def bJ : (t : Ty) → t.den → List D
 | .int k, x => [.v (.int k x)]
 | .bool, x => [.v (.bool x)]
 | .str, x => [.v (.string x)]
 | .sl t, xs => [.sl (List.map (bJ t) xs)]
 | .st i, x => stD i x
def xY {t u : Ty} (h : t = u) (xs : List t.den) : List u.den := h ▸ xs
def SD.toD : SD → D
 | .int k x => .v (.int k x)
 | .bool x => .v (.bool x)
 | .str x => .v (.string x)
 | .sl t xs => .sl (List.map (bJ t) xs)
 | .nl => .sl []
def SD.as : (t : Ty) → SD → Option t.den
 | .int k, .int k' x => if k' = k then some x else none
 | .bool, .bool x => some x
 | .str, .str x => some x
 | .sl t, .sl t' xs => match Ty.same t' t with | some ⟨h⟩ => some (xY h xs) | none => none
 | .sl t, .nl => some ([] : List t.den)
 | _, _ => none
def pO : (t : Ty) → t.den → SD
 | .int k, x => .int k x
 | .bool, x => .bool x
 | .str, x => .str x
 | .sl t, xs => .sl t xs
 | .st _, _ => .nl
def stN : Nat → Nat
 | 0 => 2
 | 1 => 8
 | 2 => 14
 | 3 => 2
 | 4 => 3
 | 5 => 2
 | 6 => 9
 | 7 => 8
 | 8 => 6
 | 9 => 35
 | 10 => 5
 | 11 => 3
 | 12 => 10
 | 13 => 3
 | 14 => 2
 | 15 => 5
 | 16 => 3
 | 17 => 2
 | 18 => 2
 | 19 => 5
 | 20 => 2
 | 21 => 13
 | 22 => 2
 | 23 => 2
 | 24 => 2
 | _ => 0
def YI : TypeId → Option Nat
 | 27 => some 0
 | 122 => some 1
 | 70 => some 2
 | 96 => some 3
 | 99 => some 4
 | 34 => some 5
 | 86 => some 6
 | 29 => some 7
 | 72 => some 8
 | 74 => some 9
 | 63 => some 10
 | 88 => some 11
 | 41 => some 12
 | 76 => some 15
 | 25 => some 16
 | 238 => some 17
 | 198 => some 18
 | _ => none
def stF : Nat → Bool
 | 0 => true
 | 1 => true
 | 2 => false
 | 3 => true
 | 4 => false
 | 5 => false
 | 6 => true
 | 7 => true
 | 8 => true
 | 9 => false
 | 10 => false
 | 11 => true
 | 12 => false
 | 13 => false
 | 14 => false
 | 15 => true
 | 16 => false
 | 17 => true
 | 18 => true
 | 19 => true
 | 20 => true
 | 21 => false
 | 22 => true
 | 23 => true
 | 24 => true
 | _ => true
def stC : (i : Nat) → ST i → List SD
 | 0, (x : aw) => [.int .i64 x.bA, .int .i64 x.aZ]
 | 1, (x : aO) => [.int .i64 x.bI, .int .i64 x.bc, .int .i64 x.cT.bA, .int .i64 x.cT.aZ, .int .i64 x.iL, .int .i64 x.bK, .int .i64 x.fM, .int .i64 x.jJ]
 | 2, (x : aB) => [.int .i64 x.fId, .int .i64 x.ed, .str x.bW, .int .i64 x.dw, .int .i64 x.bI, .int .i64 x.bU.bA, .int .i64 x.bU.aZ, .sl (.st 1) x.cf, .int .i64 x.bO, .int .i64 x.cJ, .sl (.int .i64) x.cA, .sl (.int .i64) x.iK, .sl (.int .i64) x.sI, .sl (.int .i64) x.tG]
 | 3, (x : dV) => [.int .i64 x.jz, .int .i64 x.pY]
 | 4, (x : aC) => [.str x.aI, .sl (.st 3) x.bz, .int .i64 x.dw]
 | 5, (x : az) => [.sl (.str) x.ak, .sl (.st 4) x.ae]
 | 6, (x : al) => [.int .i64 x.fId, .int .i64 x.bE, .int .i64 x.bK, .int .i64 x.cT.bA, .int .i64 x.cT.aZ, .int .i64 x.bI, .int .i64 x.bc, .bool x.bU, .int .i64 x.kW]
 | 7, (x : aM) => [.int .i64 x.fId, .int .i64 x.bc, .int .i64 x.fM, .int .i64 x.jc.bA, .int .i64 x.jc.aZ, .int .i64 x.bO, .int .i64 x.cJ, .bool x.fUp]
 | 8, (x : a6) => [.int .i64 x.fId, .int .i64 x.bc, .int .i64 x.o6, .int .i64 x.kV, .int .i64 x.kt.bA, .int .i64 x.kt.aZ]
 | 9, (x : aJ) => [.int .i64 x.gR, .int .i64 x.fId, .int .i64 x.cJ, .int .i64 x.fN, .str x.K6, .int .i64 x.bK.fId, .int .i64 x.bK.bc, .int .i64 x.bK.fM, .int .i64 x.bK.jc.bA, .int .i64 x.bK.jc.aZ, .int .i64 x.bK.bO, .int .i64 x.bK.cJ, .bool x.bK.fUp, .int .i64 x.bE.fId, .int .i64 x.bE.ed, .str x.bE.bW, .int .i64 x.bE.dw, .int .i64 x.bE.bI, .int .i64 x.bE.bU.bA, .int .i64 x.bE.bU.aZ, .sl (.st 1) x.bE.cf, .int .i64 x.bE.bO, .int .i64 x.bE.cJ, .sl (.int .i64) x.bE.cA, .sl (.int .i64) x.bE.iK, .sl (.int .i64) x.bE.sI, .sl (.int .i64) x.bE.tG, .sl (.st 1) x.cf, .sl (.int .i64) x.fO, .int .i64 x.o5.fId, .int .i64 x.o5.bc, .int .i64 x.o5.o6, .int .i64 x.o5.kV, .int .i64 x.o5.kt.bA, .int .i64 x.o5.kt.aZ]
 | 10, (x : bt) => [.int .i64 x.XF, .sl (.st 6) x.ac, .sl (.int .i64) x.fO, .sl (.int .i64) x.WX, .int .i64 x.fN]
 | 11, (x : bu) => [.int .i64 x.bK, .int .i64 x.bE, .int .i64 x.bI]
 | 12, (x : aa) => [.sl (.str) x.bN.ak, .sl (.st 4) x.bN.ae, .sl (.st 7) x.aq, .sl (.st 2) x.ao, .sl (.st 6) x.ac, .sl (.st 11) x.aY, .sl (.st 8) x.bw, .int .i64 x.bR, .int .i64 x.ql, .int .i64 x.rQ]
 | 13, (x : be) => [.sl (.int .i64) x.Un, .sl (.st 3) x.bz, .int .i64 x.dw]
 | 14, (x : cu) => [.int .i64 x.ak, .sl (.st 13) x.ae]
 | 15, (x : aP) => [.int .i64 x.gR, .int .i64 x.fA, .int .i64 x.fB, .int .i64 x.fC, .int .i64 x.fD]
 | 16, (x : aE) => [.int .i64 x.IQ, .sl (.int .i64) x.fNs, .sl (.st 15) x.l5]
 | 17, (x : a7) => [.int .i64 x.fA, .int .i64 x.fP]
 | 18, (x : ai) => [.str x.aI, .int .i64 x.bA]
 | 19, (x : bF) => [.str x.fpath, .int .i64 x.fused.bA, .int .i64 x.fused.aZ, .int .i64 x.fleast.bA, .int .i64 x.fleast.aZ]
 | 20, (x : bq) => [.str x.fpath, .bool x.fis]
 | 21, (x : bv) => [.sl (.str) x.fstate.bN.ak, .sl (.st 4) x.fstate.bN.ae, .sl (.st 7) x.fstate.aq, .sl (.st 2) x.fstate.ao, .sl (.st 6) x.fstate.ac, .sl (.st 11) x.fstate.aY, .sl (.st 8) x.fstate.bw, .int .i64 x.fstate.bR, .int .i64 x.fstate.ql, .int .i64 x.fstate.rQ, .int .i64 x.flabel, .int .i64 x.fsize.bA, .int .i64 x.fsize.aZ]
 | 22, (x : bP) => [.int .i64 x.flabel, .int .i64 x.fuser]
 | 23, (x : ci) => [.int .i64 x.bA, .int .i64 x.aZ]
 | 24, (x : br) => [.int .i64 x.jz, .int .i64 x.pY]
 | _ + 25, _ => []
def aw.k : List SD → Option aw
 | c0 :: c1 :: [] => Option.bind (c0.as (.int .i64)) fun x0 => Option.bind (c1.as (.int .i64)) fun x1 => some (⟨x0, x1⟩ : aw)
 | _ => none
def aO.k : List SD → Option aO
 | c0 :: c1 :: c2 :: c3 :: c4 :: c5 :: c6 :: c7 :: [] => Option.bind (c0.as (.int .i64)) fun x0 => Option.bind (c1.as (.int .i64)) fun x1 => Option.bind (c2.as (.int .i64)) fun x2 => Option.bind (c3.as (.int .i64)) fun x3 => Option.bind (c4.as (.int .i64)) fun x4 => Option.bind (c5.as (.int .i64)) fun x5 => Option.bind (c6.as (.int .i64)) fun x6 => Option.bind (c7.as (.int .i64)) fun x7 => some (⟨x0, x1, ⟨x2, x3⟩, x4, x5, x6, x7⟩ : aO)
 | _ => none
def aB.k : List SD → Option aB
 | c0 :: c1 :: c2 :: c3 :: c4 :: c5 :: c6 :: c7 :: c8 :: c9 :: c10 :: c11 :: c12 :: c13 :: [] => Option.bind (c0.as (.int .i64)) fun x0 => Option.bind (c1.as (.int .i64)) fun x1 => Option.bind (c2.as (.str)) fun x2 => Option.bind (c3.as (.int .i64)) fun x3 => Option.bind (c4.as (.int .i64)) fun x4 => Option.bind (c5.as (.int .i64)) fun x5 => Option.bind (c6.as (.int .i64)) fun x6 => Option.bind (c7.as (.sl (.st 1))) fun x7 => Option.bind (c8.as (.int .i64)) fun x8 => Option.bind (c9.as (.int .i64)) fun x9 => Option.bind (c10.as (.sl (.int .i64))) fun x10 => Option.bind (c11.as (.sl (.int .i64))) fun x11 => Option.bind (c12.as (.sl (.int .i64))) fun x12 => Option.bind (c13.as (.sl (.int .i64))) fun x13 => some (⟨x0, x1, x2, x3, x4, ⟨x5, x6⟩, x7, x8, x9, x10, x11, x12, x13⟩ : aB)
 | _ => none
def dV.k : List SD → Option dV
 | c0 :: c1 :: [] => Option.bind (c0.as (.int .i64)) fun x0 => Option.bind (c1.as (.int .i64)) fun x1 => some (⟨x0, x1⟩ : dV)
 | _ => none
def aC.k : List SD → Option aC
 | c0 :: c1 :: c2 :: [] => Option.bind (c0.as (.str)) fun x0 => Option.bind (c1.as (.sl (.st 3))) fun x1 => Option.bind (c2.as (.int .i64)) fun x2 => some (⟨x0, x1, x2⟩ : aC)
 | _ => none
def az.k : List SD → Option az
 | c0 :: c1 :: [] => Option.bind (c0.as (.sl (.str))) fun x0 => Option.bind (c1.as (.sl (.st 4))) fun x1 => some (⟨x0, x1⟩ : az)
 | _ => none
def al.k : List SD → Option al
 | c0 :: c1 :: c2 :: c3 :: c4 :: c5 :: c6 :: c7 :: c8 :: [] => Option.bind (c0.as (.int .i64)) fun x0 => Option.bind (c1.as (.int .i64)) fun x1 => Option.bind (c2.as (.int .i64)) fun x2 => Option.bind (c3.as (.int .i64)) fun x3 => Option.bind (c4.as (.int .i64)) fun x4 => Option.bind (c5.as (.int .i64)) fun x5 => Option.bind (c6.as (.int .i64)) fun x6 => Option.bind (c7.as (.bool)) fun x7 => Option.bind (c8.as (.int .i64)) fun x8 => some (⟨x0, x1, x2, ⟨x3, x4⟩, x5, x6, x7, x8⟩ : al)
 | _ => none
def aM.k : List SD → Option aM
 | c0 :: c1 :: c2 :: c3 :: c4 :: c5 :: c6 :: c7 :: [] => Option.bind (c0.as (.int .i64)) fun x0 => Option.bind (c1.as (.int .i64)) fun x1 => Option.bind (c2.as (.int .i64)) fun x2 => Option.bind (c3.as (.int .i64)) fun x3 => Option.bind (c4.as (.int .i64)) fun x4 => Option.bind (c5.as (.int .i64)) fun x5 => Option.bind (c6.as (.int .i64)) fun x6 => Option.bind (c7.as (.bool)) fun x7 => some (⟨x0, x1, x2, ⟨x3, x4⟩, x5, x6, x7⟩ : aM)
 | _ => none
def a6.k : List SD → Option a6
 | c0 :: c1 :: c2 :: c3 :: c4 :: c5 :: [] => Option.bind (c0.as (.int .i64)) fun x0 => Option.bind (c1.as (.int .i64)) fun x1 => Option.bind (c2.as (.int .i64)) fun x2 => Option.bind (c3.as (.int .i64)) fun x3 => Option.bind (c4.as (.int .i64)) fun x4 => Option.bind (c5.as (.int .i64)) fun x5 => some (⟨x0, x1, x2, x3, ⟨x4, x5⟩⟩ : a6)
 | _ => none
def aJ.k : List SD → Option aJ
 | c0 :: c1 :: c2 :: c3 :: c4 :: c5 :: c6 :: c7 :: c8 :: c9 :: c10 :: c11 :: c12 :: c13 :: c14 :: c15 :: c16 :: c17 :: c18 :: c19 :: c20 :: c21 :: c22 :: c23 :: c24 :: c25 :: c26 :: c27 :: c28 :: c29 :: c30 :: c31 :: c32 :: c33 :: c34 :: [] => Option.bind (c0.as (.int .i64)) fun x0 => Option.bind (c1.as (.int .i64)) fun x1 => Option.bind (c2.as (.int .i64)) fun x2 => Option.bind (c3.as (.int .i64)) fun x3 => Option.bind (c4.as (.str)) fun x4 => Option.bind (c5.as (.int .i64)) fun x5 => Option.bind (c6.as (.int .i64)) fun x6 => Option.bind (c7.as (.int .i64)) fun x7 => Option.bind (c8.as (.int .i64)) fun x8 => Option.bind (c9.as (.int .i64)) fun x9 => Option.bind (c10.as (.int .i64)) fun x10 => Option.bind (c11.as (.int .i64)) fun x11 => Option.bind (c12.as (.bool)) fun x12 => Option.bind (c13.as (.int .i64)) fun x13 => Option.bind (c14.as (.int .i64)) fun x14 => Option.bind (c15.as (.str)) fun x15 => Option.bind (c16.as (.int .i64)) fun x16 => Option.bind (c17.as (.int .i64)) fun x17 => Option.bind (c18.as (.int .i64)) fun x18 => Option.bind (c19.as (.int .i64)) fun x19 => Option.bind (c20.as (.sl (.st 1))) fun x20 => Option.bind (c21.as (.int .i64)) fun x21 => Option.bind (c22.as (.int .i64)) fun x22 => Option.bind (c23.as (.sl (.int .i64))) fun x23 => Option.bind (c24.as (.sl (.int .i64))) fun x24 => Option.bind (c25.as (.sl (.int .i64))) fun x25 => Option.bind (c26.as (.sl (.int .i64))) fun x26 => Option.bind (c27.as (.sl (.st 1))) fun x27 => Option.bind (c28.as (.sl (.int .i64))) fun x28 => Option.bind (c29.as (.int .i64)) fun x29 => Option.bind (c30.as (.int .i64)) fun x30 => Option.bind (c31.as (.int .i64)) fun x31 => Option.bind (c32.as (.int .i64)) fun x32 => Option.bind (c33.as (.int .i64)) fun x33 => Option.bind (c34.as (.int .i64)) fun x34 => some (⟨x0, x1, x2, x3, x4, ⟨x5, x6, x7, ⟨x8, x9⟩, x10, x11, x12⟩, ⟨x13, x14, x15, x16, x17, ⟨x18, x19⟩, x20, x21, x22, x23, x24, x25, x26⟩, x27, x28, ⟨x29, x30, x31, x32, ⟨x33, x34⟩⟩⟩ : aJ)
 | _ => none
def bt.k : List SD → Option bt
 | c0 :: c1 :: c2 :: c3 :: c4 :: [] => Option.bind (c0.as (.int .i64)) fun x0 => Option.bind (c1.as (.sl (.st 6))) fun x1 => Option.bind (c2.as (.sl (.int .i64))) fun x2 => Option.bind (c3.as (.sl (.int .i64))) fun x3 => Option.bind (c4.as (.int .i64)) fun x4 => some (⟨x0, x1, x2, x3, x4⟩ : bt)
 | _ => none
def bu.k : List SD → Option bu
 | c0 :: c1 :: c2 :: [] => Option.bind (c0.as (.int .i64)) fun x0 => Option.bind (c1.as (.int .i64)) fun x1 => Option.bind (c2.as (.int .i64)) fun x2 => some (⟨x0, x1, x2⟩ : bu)
 | _ => none
def aa.k : List SD → Option aa
 | c0 :: c1 :: c2 :: c3 :: c4 :: c5 :: c6 :: c7 :: c8 :: c9 :: [] => Option.bind (c0.as (.sl (.str))) fun x0 => Option.bind (c1.as (.sl (.st 4))) fun x1 => Option.bind (c2.as (.sl (.st 7))) fun x2 => Option.bind (c3.as (.sl (.st 2))) fun x3 => Option.bind (c4.as (.sl (.st 6))) fun x4 => Option.bind (c5.as (.sl (.st 11))) fun x5 => Option.bind (c6.as (.sl (.st 8))) fun x6 => Option.bind (c7.as (.int .i64)) fun x7 => Option.bind (c8.as (.int .i64)) fun x8 => Option.bind (c9.as (.int .i64)) fun x9 => some (⟨⟨x0, x1⟩, x2, x3, x4, x5, x6, x7, x8, x9⟩ : aa)
 | _ => none
def be.k : List SD → Option be
 | c0 :: c1 :: c2 :: [] => Option.bind (c0.as (.sl (.int .i64))) fun x0 => Option.bind (c1.as (.sl (.st 3))) fun x1 => Option.bind (c2.as (.int .i64)) fun x2 => some (⟨x0, x1, x2⟩ : be)
 | _ => none
def cu.k : List SD → Option cu
 | c0 :: c1 :: [] => Option.bind (c0.as (.int .i64)) fun x0 => Option.bind (c1.as (.sl (.st 13))) fun x1 => some (⟨x0, x1⟩ : cu)
 | _ => none
def aP.k : List SD → Option aP
 | c0 :: c1 :: c2 :: c3 :: c4 :: [] => Option.bind (c0.as (.int .i64)) fun x0 => Option.bind (c1.as (.int .i64)) fun x1 => Option.bind (c2.as (.int .i64)) fun x2 => Option.bind (c3.as (.int .i64)) fun x3 => Option.bind (c4.as (.int .i64)) fun x4 => some (⟨x0, x1, x2, x3, x4⟩ : aP)
 | _ => none
def aE.k : List SD → Option aE
 | c0 :: c1 :: c2 :: [] => Option.bind (c0.as (.int .i64)) fun x0 => Option.bind (c1.as (.sl (.int .i64))) fun x1 => Option.bind (c2.as (.sl (.st 15))) fun x2 => some (⟨x0, x1, x2⟩ : aE)
 | _ => none
def a7.k : List SD → Option a7
 | c0 :: c1 :: [] => Option.bind (c0.as (.int .i64)) fun x0 => Option.bind (c1.as (.int .i64)) fun x1 => some (⟨x0, x1⟩ : a7)
 | _ => none
def ai.k : List SD → Option ai
 | c0 :: c1 :: [] => Option.bind (c0.as (.str)) fun x0 => Option.bind (c1.as (.int .i64)) fun x1 => some (⟨x0, x1⟩ : ai)
 | _ => none
def bF.k : List SD → Option bF
 | c0 :: c1 :: c2 :: c3 :: c4 :: [] => Option.bind (c0.as (.str)) fun x0 => Option.bind (c1.as (.int .i64)) fun x1 => Option.bind (c2.as (.int .i64)) fun x2 => Option.bind (c3.as (.int .i64)) fun x3 => Option.bind (c4.as (.int .i64)) fun x4 => some (⟨x0, ⟨x1, x2⟩, ⟨x3, x4⟩⟩ : bF)
 | _ => none
def bq.k : List SD → Option bq
 | c0 :: c1 :: [] => Option.bind (c0.as (.str)) fun x0 => Option.bind (c1.as (.bool)) fun x1 => some (⟨x0, x1⟩ : bq)
 | _ => none
def bv.k : List SD → Option bv
 | c0 :: c1 :: c2 :: c3 :: c4 :: c5 :: c6 :: c7 :: c8 :: c9 :: c10 :: c11 :: c12 :: [] => Option.bind (c0.as (.sl (.str))) fun x0 => Option.bind (c1.as (.sl (.st 4))) fun x1 => Option.bind (c2.as (.sl (.st 7))) fun x2 => Option.bind (c3.as (.sl (.st 2))) fun x3 => Option.bind (c4.as (.sl (.st 6))) fun x4 => Option.bind (c5.as (.sl (.st 11))) fun x5 => Option.bind (c6.as (.sl (.st 8))) fun x6 => Option.bind (c7.as (.int .i64)) fun x7 => Option.bind (c8.as (.int .i64)) fun x8 => Option.bind (c9.as (.int .i64)) fun x9 => Option.bind (c10.as (.int .i64)) fun x10 => Option.bind (c11.as (.int .i64)) fun x11 => Option.bind (c12.as (.int .i64)) fun x12 => some (⟨⟨⟨x0, x1⟩, x2, x3, x4, x5, x6, x7, x8, x9⟩, x10, ⟨x11, x12⟩⟩ : bv)
 | _ => none
def bP.k : List SD → Option bP
 | c0 :: c1 :: [] => Option.bind (c0.as (.int .i64)) fun x0 => Option.bind (c1.as (.int .i64)) fun x1 => some (⟨x0, x1⟩ : bP)
 | _ => none
def ci.k : List SD → Option ci
 | c0 :: c1 :: [] => Option.bind (c0.as (.int .i64)) fun x0 => Option.bind (c1.as (.int .i64)) fun x1 => some (⟨x0, x1⟩ : ci)
 | _ => none
def br.k : List SD → Option br
 | c0 :: c1 :: [] => Option.bind (c0.as (.int .i64)) fun x0 => Option.bind (c1.as (.int .i64)) fun x1 => some (⟨x0, x1⟩ : br)
 | _ => none
def stK : (i : Nat) → List SD → Option (ST i)
 | 0, cs => aw.k cs
 | 1, cs => aO.k cs
 | 2, cs => aB.k cs
 | 3, cs => dV.k cs
 | 4, cs => aC.k cs
 | 5, cs => az.k cs
 | 6, cs => al.k cs
 | 7, cs => aM.k cs
 | 8, cs => a6.k cs
 | 9, cs => aJ.k cs
 | 10, cs => bt.k cs
 | 11, cs => bu.k cs
 | 12, cs => aa.k cs
 | 13, cs => be.k cs
 | 14, cs => cu.k cs
 | 15, cs => aP.k cs
 | 16, cs => aE.k cs
 | 17, cs => a7.k cs
 | 18, cs => ai.k cs
 | 19, cs => bF.k cs
 | 20, cs => bq.k cs
 | 21, cs => bv.k cs
 | 22, cs => bP.k cs
 | 23, cs => ci.k cs
 | 24, cs => br.k cs
 | _ + 25, _ => none
theorem SD.as_ok {t : Ty} {c : SD} {x : t.den} (h : c.as t = some x) : bJ t x = [c.toD] := by
 unfold SD.as at h
 split at h
 ·split at h
  ·rename_i hk
   subst hk
   injection h with h
   subst h
   rfl
  ·cases h
 ·injection h with h
  subst h
  rfl
 ·injection h with h
  subst h
  rfl
 ·split at h
  ·rename_i hk _
   subst hk
   injection h with h
   subst h
   rfl
  ·cases h
 ·injection h with h
  subst h
  rfl
 ·cases h
theorem tb : ∀ (i : Nat) (x : ST i), (stC i x).map SD.toD = stD i x
 | 0, (x : aw) => rfl
 | 1, (x : aO) => rfl
 | 2, (x : aB) => rfl
 | 3, (x : dV) => rfl
 | 4, (x : aC) => rfl
 | 5, (x : az) => rfl
 | 6, (x : al) => rfl
 | 7, (x : aM) => rfl
 | 8, (x : a6) => rfl
 | 9, (x : aJ) => rfl
 | 10, (x : bt) => rfl
 | 11, (x : bu) => rfl
 | 12, (x : aa) => rfl
 | 13, (x : be) => rfl
 | 14, (x : cu) => rfl
 | 15, (x : aP) => rfl
 | 16, (x : aE) => rfl
 | 17, (x : a7) => rfl
 | 18, (x : ai) => rfl
 | 19, (x : bF) => rfl
 | 20, (x : bq) => rfl
 | 21, (x : bv) => rfl
 | 22, (x : bP) => rfl
 | 23, (x : ci) => rfl
 | 24, (x : br) => rfl
 | _ + 25, _ => rfl
theorem wd : ∀ (i : Nat) (x : ST i) (c : SD), c ∈ stC i x → c ≠ .nl
 | 0, (x : aw), c, h => by
  simp only [stC, List.mem_cons, List.not_mem_nil, or_false] at h
  rcases h with rfl | rfl <;> (intro e; cases e)
 | 1, (x : aO), c, h => by
  simp only [stC, List.mem_cons, List.not_mem_nil, or_false] at h
  rcases h with rfl | rfl | rfl | rfl | rfl | rfl | rfl | rfl <;> (intro e; cases e)
 | 2, (x : aB), c, h => by
  simp only [stC, List.mem_cons, List.not_mem_nil, or_false] at h
  rcases h with rfl | rfl | rfl | rfl | rfl | rfl | rfl | rfl | rfl | rfl | rfl | rfl | rfl | rfl <;> (intro e; cases e)
 | 3, (x : dV), c, h => by
  simp only [stC, List.mem_cons, List.not_mem_nil, or_false] at h
  rcases h with rfl | rfl <;> (intro e; cases e)
 | 4, (x : aC), c, h => by
  simp only [stC, List.mem_cons, List.not_mem_nil, or_false] at h
  rcases h with rfl | rfl | rfl <;> (intro e; cases e)
 | 5, (x : az), c, h => by
  simp only [stC, List.mem_cons, List.not_mem_nil, or_false] at h
  rcases h with rfl | rfl <;> (intro e; cases e)
 | 6, (x : al), c, h => by
  simp only [stC, List.mem_cons, List.not_mem_nil, or_false] at h
  rcases h with rfl | rfl | rfl | rfl | rfl | rfl | rfl | rfl | rfl <;> (intro e; cases e)
 | 7, (x : aM), c, h => by
  simp only [stC, List.mem_cons, List.not_mem_nil, or_false] at h
  rcases h with rfl | rfl | rfl | rfl | rfl | rfl | rfl | rfl <;> (intro e; cases e)
 | 8, (x : a6), c, h => by
  simp only [stC, List.mem_cons, List.not_mem_nil, or_false] at h
  rcases h with rfl | rfl | rfl | rfl | rfl | rfl <;> (intro e; cases e)
 | 9, (x : aJ), c, h => by
  simp only [stC, List.mem_cons, List.not_mem_nil, or_false] at h
  rcases h with rfl | rfl | rfl | rfl | rfl | rfl | rfl | rfl | rfl | rfl | rfl | rfl | rfl | rfl | rfl | rfl | rfl | rfl | rfl | rfl | rfl | rfl | rfl | rfl | rfl | rfl | rfl | rfl | rfl | rfl | rfl | rfl | rfl | rfl | rfl <;> (intro e; cases e)
 | 10, (x : bt), c, h => by
  simp only [stC, List.mem_cons, List.not_mem_nil, or_false] at h
  rcases h with rfl | rfl | rfl | rfl | rfl <;> (intro e; cases e)
 | 11, (x : bu), c, h => by
  simp only [stC, List.mem_cons, List.not_mem_nil, or_false] at h
  rcases h with rfl | rfl | rfl <;> (intro e; cases e)
 | 12, (x : aa), c, h => by
  simp only [stC, List.mem_cons, List.not_mem_nil, or_false] at h
  rcases h with rfl | rfl | rfl | rfl | rfl | rfl | rfl | rfl | rfl | rfl <;> (intro e; cases e)
 | 13, (x : be), c, h => by
  simp only [stC, List.mem_cons, List.not_mem_nil, or_false] at h
  rcases h with rfl | rfl | rfl <;> (intro e; cases e)
 | 14, (x : cu), c, h => by
  simp only [stC, List.mem_cons, List.not_mem_nil, or_false] at h
  rcases h with rfl | rfl <;> (intro e; cases e)
 | 15, (x : aP), c, h => by
  simp only [stC, List.mem_cons, List.not_mem_nil, or_false] at h
  rcases h with rfl | rfl | rfl | rfl | rfl <;> (intro e; cases e)
 | 16, (x : aE), c, h => by
  simp only [stC, List.mem_cons, List.not_mem_nil, or_false] at h
  rcases h with rfl | rfl | rfl <;> (intro e; cases e)
 | 17, (x : a7), c, h => by
  simp only [stC, List.mem_cons, List.not_mem_nil, or_false] at h
  rcases h with rfl | rfl <;> (intro e; cases e)
 | 18, (x : ai), c, h => by
  simp only [stC, List.mem_cons, List.not_mem_nil, or_false] at h
  rcases h with rfl | rfl <;> (intro e; cases e)
 | 19, (x : bF), c, h => by
  simp only [stC, List.mem_cons, List.not_mem_nil, or_false] at h
  rcases h with rfl | rfl | rfl | rfl | rfl <;> (intro e; cases e)
 | 20, (x : bq), c, h => by
  simp only [stC, List.mem_cons, List.not_mem_nil, or_false] at h
  rcases h with rfl | rfl <;> (intro e; cases e)
 | 21, (x : bv), c, h => by
  simp only [stC, List.mem_cons, List.not_mem_nil, or_false] at h
  rcases h with rfl | rfl | rfl | rfl | rfl | rfl | rfl | rfl | rfl | rfl | rfl | rfl | rfl <;> (intro e; cases e)
 | 22, (x : bP), c, h => by
  simp only [stC, List.mem_cons, List.not_mem_nil, or_false] at h
  rcases h with rfl | rfl <;> (intro e; cases e)
 | 23, (x : ci), c, h => by
  simp only [stC, List.mem_cons, List.not_mem_nil, or_false] at h
  rcases h with rfl | rfl <;> (intro e; cases e)
 | 24, (x : br), c, h => by
  simp only [stC, List.mem_cons, List.not_mem_nil, or_false] at h
  rcases h with rfl | rfl <;> (intro e; cases e)
 | _ + 25, _, c, h => by cases h
theorem VA : ∀ (i : Nat) (x : ST i), (stD i x).length = stN i
 | 0, (x : aw) => rfl
 | 1, (x : aO) => rfl
 | 2, (x : aB) => rfl
 | 3, (x : dV) => rfl
 | 4, (x : aC) => rfl
 | 5, (x : az) => rfl
 | 6, (x : al) => rfl
 | 7, (x : aM) => rfl
 | 8, (x : a6) => rfl
 | 9, (x : aJ) => rfl
 | 10, (x : bt) => rfl
 | 11, (x : bu) => rfl
 | 12, (x : aa) => rfl
 | 13, (x : be) => rfl
 | 14, (x : cu) => rfl
 | 15, (x : aP) => rfl
 | 16, (x : aE) => rfl
 | 17, (x : a7) => rfl
 | 18, (x : ai) => rfl
 | 19, (x : bF) => rfl
 | 20, (x : bq) => rfl
 | 21, (x : bv) => rfl
 | 22, (x : bP) => rfl
 | 23, (x : ci) => rfl
 | 24, (x : br) => rfl
 | _ + 25, _ => rfl
theorem Xh : ∀ (i : Nat) (x : ST i), stF i = true → ∀ d ∈ stD i x, ∃ y, d = .v y
 | 0, (x : aw), _, d, h => by
  simp only [stD, aw.d, List.mem_cons, List.not_mem_nil, or_false] at h
  rcases h with rfl | rfl <;> exact ⟨_, rfl⟩
 | 1, (x : aO), _, d, h => by
  simp only [stD, aO.d, List.mem_cons, List.not_mem_nil, or_false] at h
  rcases h with rfl | rfl | rfl | rfl | rfl | rfl | rfl | rfl <;> exact ⟨_, rfl⟩
 | 2, (x : aB), h, _, _ => by cases h
 | 3, (x : dV), _, d, h => by
  simp only [stD, dV.d, List.mem_cons, List.not_mem_nil, or_false] at h
  rcases h with rfl | rfl <;> exact ⟨_, rfl⟩
 | 4, (x : aC), h, _, _ => by cases h
 | 5, (x : az), h, _, _ => by cases h
 | 6, (x : al), _, d, h => by
  simp only [stD, al.d, List.mem_cons, List.not_mem_nil, or_false] at h
  rcases h with rfl | rfl | rfl | rfl | rfl | rfl | rfl | rfl | rfl <;> exact ⟨_, rfl⟩
 | 7, (x : aM), _, d, h => by
  simp only [stD, aM.d, List.mem_cons, List.not_mem_nil, or_false] at h
  rcases h with rfl | rfl | rfl | rfl | rfl | rfl | rfl | rfl <;> exact ⟨_, rfl⟩
 | 8, (x : a6), _, d, h => by
  simp only [stD, a6.d, List.mem_cons, List.not_mem_nil, or_false] at h
  rcases h with rfl | rfl | rfl | rfl | rfl | rfl <;> exact ⟨_, rfl⟩
 | 9, (x : aJ), h, _, _ => by cases h
 | 10, (x : bt), h, _, _ => by cases h
 | 11, (x : bu), _, d, h => by
  simp only [stD, bu.d, List.mem_cons, List.not_mem_nil, or_false] at h
  rcases h with rfl | rfl | rfl <;> exact ⟨_, rfl⟩
 | 12, (x : aa), h, _, _ => by cases h
 | 13, (x : be), h, _, _ => by cases h
 | 14, (x : cu), h, _, _ => by cases h
 | 15, (x : aP), _, d, h => by
  simp only [stD, aP.d, List.mem_cons, List.not_mem_nil, or_false] at h
  rcases h with rfl | rfl | rfl | rfl | rfl <;> exact ⟨_, rfl⟩
 | 16, (x : aE), h, _, _ => by cases h
 | 17, (x : a7), _, d, h => by
  simp only [stD, a7.d, List.mem_cons, List.not_mem_nil, or_false] at h
  rcases h with rfl | rfl <;> exact ⟨_, rfl⟩
 | 18, (x : ai), _, d, h => by
  simp only [stD, ai.d, List.mem_cons, List.not_mem_nil, or_false] at h
  rcases h with rfl | rfl <;> exact ⟨_, rfl⟩
 | 19, (x : bF), _, d, h => by
  simp only [stD, bF.d, List.mem_cons, List.not_mem_nil, or_false] at h
  rcases h with rfl | rfl | rfl | rfl | rfl <;> exact ⟨_, rfl⟩
 | 20, (x : bq), _, d, h => by
  simp only [stD, bq.d, List.mem_cons, List.not_mem_nil, or_false] at h
  rcases h with rfl | rfl <;> exact ⟨_, rfl⟩
 | 21, (x : bv), h, _, _ => by cases h
 | 22, (x : bP), _, d, h => by
  simp only [stD, bP.d, List.mem_cons, List.not_mem_nil, or_false] at h
  rcases h with rfl | rfl <;> exact ⟨_, rfl⟩
 | 23, (x : ci), _, d, h => by
  simp only [stD, ci.d, List.mem_cons, List.not_mem_nil, or_false] at h
  rcases h with rfl | rfl <;> exact ⟨_, rfl⟩
 | 24, (x : br), _, d, h => by
  simp only [stD, br.d, List.mem_cons, List.not_mem_nil, or_false] at h
  rcases h with rfl | rfl <;> exact ⟨_, rfl⟩
 | _ + 25, _, _, _, h => by cases h
theorem ar {α β : Type} {o : Option α} {k : α → Option β} {r : β} (h : o.bind k = some r) : ∃ x, o = some x ∧ k x = some r := by
 cases o with
 | none => cases h
 | some x => exact ⟨x, rfl, h⟩
theorem aw.k_ok {cs : List SD} {x : aw} (h : aw.k cs = some x) : cs.map SD.toD = aw.d x := by
 unfold aw.k at h
 split at h
 ·rename_i c0 c1
  obtain ⟨x0, e0, h⟩ := ar h
  obtain ⟨x1, e1, h⟩ := ar h
  injection h with h
  subst h
  have q0 := SD.as_ok e0
  clear e0
  have q1 := SD.as_ok e1
  clear e1
  simp only [bJ, List.cons.injEq, and_true] at q0 q1
  simp only [List.map_cons, List.map_nil, aw.d, ← q0, ← q1]
  try rfl
 ·cases h
theorem aO.k_ok {cs : List SD} {x : aO} (h : aO.k cs = some x) : cs.map SD.toD = aO.d x := by
 unfold aO.k at h
 split at h
 ·rename_i c0 c1 c2 c3 c4 c5 c6 c7
  obtain ⟨x0, e0, h⟩ := ar h
  obtain ⟨x1, e1, h⟩ := ar h
  obtain ⟨x2, e2, h⟩ := ar h
  obtain ⟨x3, e3, h⟩ := ar h
  obtain ⟨x4, e4, h⟩ := ar h
  obtain ⟨x5, e5, h⟩ := ar h
  obtain ⟨x6, e6, h⟩ := ar h
  obtain ⟨x7, e7, h⟩ := ar h
  injection h with h
  subst h
  have q0 := SD.as_ok e0
  clear e0
  have q1 := SD.as_ok e1
  clear e1
  have q2 := SD.as_ok e2
  clear e2
  have q3 := SD.as_ok e3
  clear e3
  have q4 := SD.as_ok e4
  clear e4
  have q5 := SD.as_ok e5
  clear e5
  have q6 := SD.as_ok e6
  clear e6
  have q7 := SD.as_ok e7
  clear e7
  simp only [bJ, List.cons.injEq, and_true] at q0 q1 q2 q3 q4 q5 q6 q7
  simp only [List.map_cons, List.map_nil, aO.d, ← q0, ← q1, ← q2, ← q3, ← q4, ← q5, ← q6, ← q7]
  try rfl
 ·cases h
theorem aB.k_ok {cs : List SD} {x : aB} (h : aB.k cs = some x) : cs.map SD.toD = aB.d x := by
 unfold aB.k at h
 split at h
 ·rename_i c0 c1 c2 c3 c4 c5 c6 c7 c8 c9 c10 c11 c12 c13
  obtain ⟨x0, e0, h⟩ := ar h
  obtain ⟨x1, e1, h⟩ := ar h
  obtain ⟨x2, e2, h⟩ := ar h
  obtain ⟨x3, e3, h⟩ := ar h
  obtain ⟨x4, e4, h⟩ := ar h
  obtain ⟨x5, e5, h⟩ := ar h
  obtain ⟨x6, e6, h⟩ := ar h
  obtain ⟨x7, e7, h⟩ := ar h
  obtain ⟨x8, e8, h⟩ := ar h
  obtain ⟨x9, e9, h⟩ := ar h
  obtain ⟨x10, e10, h⟩ := ar h
  obtain ⟨x11, e11, h⟩ := ar h
  obtain ⟨x12, e12, h⟩ := ar h
  obtain ⟨x13, e13, h⟩ := ar h
  injection h with h
  subst h
  have q0 := SD.as_ok e0
  clear e0
  have q1 := SD.as_ok e1
  clear e1
  have q2 := SD.as_ok e2
  clear e2
  have q3 := SD.as_ok e3
  clear e3
  have q4 := SD.as_ok e4
  clear e4
  have q5 := SD.as_ok e5
  clear e5
  have q6 := SD.as_ok e6
  clear e6
  have q7 := SD.as_ok e7
  clear e7
  have q8 := SD.as_ok e8
  clear e8
  have q9 := SD.as_ok e9
  clear e9
  have q10 := SD.as_ok e10
  clear e10
  have q11 := SD.as_ok e11
  clear e11
  have q12 := SD.as_ok e12
  clear e12
  have q13 := SD.as_ok e13
  clear e13
  simp only [bJ, List.cons.injEq, and_true] at q0 q1 q2 q3 q4 q5 q6 q7 q8 q9 q10 q11 q12 q13
  simp only [List.map_cons, List.map_nil, aB.d, ← q0, ← q1, ← q2, ← q3, ← q4, ← q5, ← q6, ← q7, ← q8, ← q9, ← q10, ← q11, ← q12, ← q13]
  try rfl
 ·cases h
theorem dV.k_ok {cs : List SD} {x : dV} (h : dV.k cs = some x) : cs.map SD.toD = dV.d x := by
 unfold dV.k at h
 split at h
 ·rename_i c0 c1
  obtain ⟨x0, e0, h⟩ := ar h
  obtain ⟨x1, e1, h⟩ := ar h
  injection h with h
  subst h
  have q0 := SD.as_ok e0
  clear e0
  have q1 := SD.as_ok e1
  clear e1
  simp only [bJ, List.cons.injEq, and_true] at q0 q1
  simp only [List.map_cons, List.map_nil, dV.d, ← q0, ← q1]
  try rfl
 ·cases h
theorem aC.k_ok {cs : List SD} {x : aC} (h : aC.k cs = some x) : cs.map SD.toD = aC.d x := by
 unfold aC.k at h
 split at h
 ·rename_i c0 c1 c2
  obtain ⟨x0, e0, h⟩ := ar h
  obtain ⟨x1, e1, h⟩ := ar h
  obtain ⟨x2, e2, h⟩ := ar h
  injection h with h
  subst h
  have q0 := SD.as_ok e0
  clear e0
  have q1 := SD.as_ok e1
  clear e1
  have q2 := SD.as_ok e2
  clear e2
  simp only [bJ, List.cons.injEq, and_true] at q0 q1 q2
  simp only [List.map_cons, List.map_nil, aC.d, ← q0, ← q1, ← q2]
  try rfl
 ·cases h
theorem az.k_ok {cs : List SD} {x : az} (h : az.k cs = some x) : cs.map SD.toD = az.d x := by
 unfold az.k at h
 split at h
 ·rename_i c0 c1
  obtain ⟨x0, e0, h⟩ := ar h
  obtain ⟨x1, e1, h⟩ := ar h
  injection h with h
  subst h
  have q0 := SD.as_ok e0
  clear e0
  have q1 := SD.as_ok e1
  clear e1
  simp only [bJ, List.cons.injEq, and_true] at q0 q1
  simp only [List.map_cons, List.map_nil, az.d, ← q0, ← q1]
  try rfl
 ·cases h
theorem al.k_ok {cs : List SD} {x : al} (h : al.k cs = some x) : cs.map SD.toD = al.d x := by
 unfold al.k at h
 split at h
 ·rename_i c0 c1 c2 c3 c4 c5 c6 c7 c8
  obtain ⟨x0, e0, h⟩ := ar h
  obtain ⟨x1, e1, h⟩ := ar h
  obtain ⟨x2, e2, h⟩ := ar h
  obtain ⟨x3, e3, h⟩ := ar h
  obtain ⟨x4, e4, h⟩ := ar h
  obtain ⟨x5, e5, h⟩ := ar h
  obtain ⟨x6, e6, h⟩ := ar h
  obtain ⟨x7, e7, h⟩ := ar h
  obtain ⟨x8, e8, h⟩ := ar h
  injection h with h
  subst h
  have q0 := SD.as_ok e0
  clear e0
  have q1 := SD.as_ok e1
  clear e1
  have q2 := SD.as_ok e2
  clear e2
  have q3 := SD.as_ok e3
  clear e3
  have q4 := SD.as_ok e4
  clear e4
  have q5 := SD.as_ok e5
  clear e5
  have q6 := SD.as_ok e6
  clear e6
  have q7 := SD.as_ok e7
  clear e7
  have q8 := SD.as_ok e8
  clear e8
  simp only [bJ, List.cons.injEq, and_true] at q0 q1 q2 q3 q4 q5 q6 q7 q8
  simp only [List.map_cons, List.map_nil, al.d, ← q0, ← q1, ← q2, ← q3, ← q4, ← q5, ← q6, ← q7, ← q8]
  try rfl
 ·cases h
theorem aM.k_ok {cs : List SD} {x : aM} (h : aM.k cs = some x) : cs.map SD.toD = aM.d x := by
 unfold aM.k at h
 split at h
 ·rename_i c0 c1 c2 c3 c4 c5 c6 c7
  obtain ⟨x0, e0, h⟩ := ar h
  obtain ⟨x1, e1, h⟩ := ar h
  obtain ⟨x2, e2, h⟩ := ar h
  obtain ⟨x3, e3, h⟩ := ar h
  obtain ⟨x4, e4, h⟩ := ar h
  obtain ⟨x5, e5, h⟩ := ar h
  obtain ⟨x6, e6, h⟩ := ar h
  obtain ⟨x7, e7, h⟩ := ar h
  injection h with h
  subst h
  have q0 := SD.as_ok e0
  clear e0
  have q1 := SD.as_ok e1
  clear e1
  have q2 := SD.as_ok e2
  clear e2
  have q3 := SD.as_ok e3
  clear e3
  have q4 := SD.as_ok e4
  clear e4
  have q5 := SD.as_ok e5
  clear e5
  have q6 := SD.as_ok e6
  clear e6
  have q7 := SD.as_ok e7
  clear e7
  simp only [bJ, List.cons.injEq, and_true] at q0 q1 q2 q3 q4 q5 q6 q7
  simp only [List.map_cons, List.map_nil, aM.d, ← q0, ← q1, ← q2, ← q3, ← q4, ← q5, ← q6, ← q7]
  try rfl
 ·cases h
theorem a6.k_ok {cs : List SD} {x : a6} (h : a6.k cs = some x) : cs.map SD.toD = a6.d x := by
 unfold a6.k at h
 split at h
 ·rename_i c0 c1 c2 c3 c4 c5
  obtain ⟨x0, e0, h⟩ := ar h
  obtain ⟨x1, e1, h⟩ := ar h
  obtain ⟨x2, e2, h⟩ := ar h
  obtain ⟨x3, e3, h⟩ := ar h
  obtain ⟨x4, e4, h⟩ := ar h
  obtain ⟨x5, e5, h⟩ := ar h
  injection h with h
  subst h
  have q0 := SD.as_ok e0
  clear e0
  have q1 := SD.as_ok e1
  clear e1
  have q2 := SD.as_ok e2
  clear e2
  have q3 := SD.as_ok e3
  clear e3
  have q4 := SD.as_ok e4
  clear e4
  have q5 := SD.as_ok e5
  clear e5
  simp only [bJ, List.cons.injEq, and_true] at q0 q1 q2 q3 q4 q5
  simp only [List.map_cons, List.map_nil, a6.d, ← q0, ← q1, ← q2, ← q3, ← q4, ← q5]
  try rfl
 ·cases h
theorem aJ.k_ok {cs : List SD} {x : aJ} (h : aJ.k cs = some x) : cs.map SD.toD = aJ.d x := by
 unfold aJ.k at h
 split at h
 ·rename_i c0 c1 c2 c3 c4 c5 c6 c7 c8 c9 c10 c11 c12 c13 c14 c15 c16 c17 c18 c19 c20 c21 c22 c23 c24 c25 c26 c27 c28 c29 c30 c31 c32 c33 c34
  obtain ⟨x0, e0, h⟩ := ar h
  obtain ⟨x1, e1, h⟩ := ar h
  obtain ⟨x2, e2, h⟩ := ar h
  obtain ⟨x3, e3, h⟩ := ar h
  obtain ⟨x4, e4, h⟩ := ar h
  obtain ⟨x5, e5, h⟩ := ar h
  obtain ⟨x6, e6, h⟩ := ar h
  obtain ⟨x7, e7, h⟩ := ar h
  obtain ⟨x8, e8, h⟩ := ar h
  obtain ⟨x9, e9, h⟩ := ar h
  obtain ⟨x10, e10, h⟩ := ar h
  obtain ⟨x11, e11, h⟩ := ar h
  obtain ⟨x12, e12, h⟩ := ar h
  obtain ⟨x13, e13, h⟩ := ar h
  obtain ⟨x14, e14, h⟩ := ar h
  obtain ⟨x15, e15, h⟩ := ar h
  obtain ⟨x16, e16, h⟩ := ar h
  obtain ⟨x17, e17, h⟩ := ar h
  obtain ⟨x18, e18, h⟩ := ar h
  obtain ⟨x19, e19, h⟩ := ar h
  obtain ⟨x20, e20, h⟩ := ar h
  obtain ⟨x21, e21, h⟩ := ar h
  obtain ⟨x22, e22, h⟩ := ar h
  obtain ⟨x23, e23, h⟩ := ar h
  obtain ⟨x24, e24, h⟩ := ar h
  obtain ⟨x25, e25, h⟩ := ar h
  obtain ⟨x26, e26, h⟩ := ar h
  obtain ⟨x27, e27, h⟩ := ar h
  obtain ⟨x28, e28, h⟩ := ar h
  obtain ⟨x29, e29, h⟩ := ar h
  obtain ⟨x30, e30, h⟩ := ar h
  obtain ⟨x31, e31, h⟩ := ar h
  obtain ⟨x32, e32, h⟩ := ar h
  obtain ⟨x33, e33, h⟩ := ar h
  obtain ⟨x34, e34, h⟩ := ar h
  injection h with h
  subst h
  have q0 := SD.as_ok e0
  clear e0
  have q1 := SD.as_ok e1
  clear e1
  have q2 := SD.as_ok e2
  clear e2
  have q3 := SD.as_ok e3
  clear e3
  have q4 := SD.as_ok e4
  clear e4
  have q5 := SD.as_ok e5
  clear e5
  have q6 := SD.as_ok e6
  clear e6
  have q7 := SD.as_ok e7
  clear e7
  have q8 := SD.as_ok e8
  clear e8
  have q9 := SD.as_ok e9
  clear e9
  have q10 := SD.as_ok e10
  clear e10
  have q11 := SD.as_ok e11
  clear e11
  have q12 := SD.as_ok e12
  clear e12
  have q13 := SD.as_ok e13
  clear e13
  have q14 := SD.as_ok e14
  clear e14
  have q15 := SD.as_ok e15
  clear e15
  have q16 := SD.as_ok e16
  clear e16
  have q17 := SD.as_ok e17
  clear e17
  have q18 := SD.as_ok e18
  clear e18
  have q19 := SD.as_ok e19
  clear e19
  have q20 := SD.as_ok e20
  clear e20
  have q21 := SD.as_ok e21
  clear e21
  have q22 := SD.as_ok e22
  clear e22
  have q23 := SD.as_ok e23
  clear e23
  have q24 := SD.as_ok e24
  clear e24
  have q25 := SD.as_ok e25
  clear e25
  have q26 := SD.as_ok e26
  clear e26
  have q27 := SD.as_ok e27
  clear e27
  have q28 := SD.as_ok e28
  clear e28
  have q29 := SD.as_ok e29
  clear e29
  have q30 := SD.as_ok e30
  clear e30
  have q31 := SD.as_ok e31
  clear e31
  have q32 := SD.as_ok e32
  clear e32
  have q33 := SD.as_ok e33
  clear e33
  have q34 := SD.as_ok e34
  clear e34
  simp only [bJ, List.cons.injEq, and_true] at q0 q1 q2 q3 q4 q5 q6 q7 q8 q9 q10 q11 q12 q13 q14 q15 q16 q17 q18 q19 q20 q21 q22 q23 q24 q25 q26 q27 q28 q29 q30 q31 q32 q33 q34
  simp only [List.map_cons, List.map_nil, aJ.d, ← q0, ← q1, ← q2, ← q3, ← q4, ← q5, ← q6, ← q7, ← q8, ← q9, ← q10, ← q11, ← q12, ← q13, ← q14, ← q15, ← q16, ← q17, ← q18, ← q19, ← q20, ← q21, ← q22, ← q23, ← q24, ← q25, ← q26, ← q27, ← q28, ← q29, ← q30, ← q31, ← q32, ← q33, ← q34]
  try rfl
 ·cases h
theorem bt.k_ok {cs : List SD} {x : bt} (h : bt.k cs = some x) : cs.map SD.toD = bt.d x := by
 unfold bt.k at h
 split at h
 ·rename_i c0 c1 c2 c3 c4
  obtain ⟨x0, e0, h⟩ := ar h
  obtain ⟨x1, e1, h⟩ := ar h
  obtain ⟨x2, e2, h⟩ := ar h
  obtain ⟨x3, e3, h⟩ := ar h
  obtain ⟨x4, e4, h⟩ := ar h
  injection h with h
  subst h
  have q0 := SD.as_ok e0
  clear e0
  have q1 := SD.as_ok e1
  clear e1
  have q2 := SD.as_ok e2
  clear e2
  have q3 := SD.as_ok e3
  clear e3
  have q4 := SD.as_ok e4
  clear e4
  simp only [bJ, List.cons.injEq, and_true] at q0 q1 q2 q3 q4
  simp only [List.map_cons, List.map_nil, bt.d, ← q0, ← q1, ← q2, ← q3, ← q4]
  try rfl
 ·cases h
theorem bu.k_ok {cs : List SD} {x : bu} (h : bu.k cs = some x) : cs.map SD.toD = bu.d x := by
 unfold bu.k at h
 split at h
 ·rename_i c0 c1 c2
  obtain ⟨x0, e0, h⟩ := ar h
  obtain ⟨x1, e1, h⟩ := ar h
  obtain ⟨x2, e2, h⟩ := ar h
  injection h with h
  subst h
  have q0 := SD.as_ok e0
  clear e0
  have q1 := SD.as_ok e1
  clear e1
  have q2 := SD.as_ok e2
  clear e2
  simp only [bJ, List.cons.injEq, and_true] at q0 q1 q2
  simp only [List.map_cons, List.map_nil, bu.d, ← q0, ← q1, ← q2]
  try rfl
 ·cases h
theorem aa.k_ok {cs : List SD} {x : aa} (h : aa.k cs = some x) : cs.map SD.toD = aa.d x := by
 unfold aa.k at h
 split at h
 ·rename_i c0 c1 c2 c3 c4 c5 c6 c7 c8 c9
  obtain ⟨x0, e0, h⟩ := ar h
  obtain ⟨x1, e1, h⟩ := ar h
  obtain ⟨x2, e2, h⟩ := ar h
  obtain ⟨x3, e3, h⟩ := ar h
  obtain ⟨x4, e4, h⟩ := ar h
  obtain ⟨x5, e5, h⟩ := ar h
  obtain ⟨x6, e6, h⟩ := ar h
  obtain ⟨x7, e7, h⟩ := ar h
  obtain ⟨x8, e8, h⟩ := ar h
  obtain ⟨x9, e9, h⟩ := ar h
  injection h with h
  subst h
  have q0 := SD.as_ok e0
  clear e0
  have q1 := SD.as_ok e1
  clear e1
  have q2 := SD.as_ok e2
  clear e2
  have q3 := SD.as_ok e3
  clear e3
  have q4 := SD.as_ok e4
  clear e4
  have q5 := SD.as_ok e5
  clear e5
  have q6 := SD.as_ok e6
  clear e6
  have q7 := SD.as_ok e7
  clear e7
  have q8 := SD.as_ok e8
  clear e8
  have q9 := SD.as_ok e9
  clear e9
  simp only [bJ, List.cons.injEq, and_true] at q0 q1 q2 q3 q4 q5 q6 q7 q8 q9
  simp only [List.map_cons, List.map_nil, aa.d, ← q0, ← q1, ← q2, ← q3, ← q4, ← q5, ← q6, ← q7, ← q8, ← q9]
  try rfl
 ·cases h
theorem be.k_ok {cs : List SD} {x : be} (h : be.k cs = some x) : cs.map SD.toD = be.d x := by
 unfold be.k at h
 split at h
 ·rename_i c0 c1 c2
  obtain ⟨x0, e0, h⟩ := ar h
  obtain ⟨x1, e1, h⟩ := ar h
  obtain ⟨x2, e2, h⟩ := ar h
  injection h with h
  subst h
  have q0 := SD.as_ok e0
  clear e0
  have q1 := SD.as_ok e1
  clear e1
  have q2 := SD.as_ok e2
  clear e2
  simp only [bJ, List.cons.injEq, and_true] at q0 q1 q2
  simp only [List.map_cons, List.map_nil, be.d, ← q0, ← q1, ← q2]
  try rfl
 ·cases h
theorem cu.k_ok {cs : List SD} {x : cu} (h : cu.k cs = some x) : cs.map SD.toD = cu.d x := by
 unfold cu.k at h
 split at h
 ·rename_i c0 c1
  obtain ⟨x0, e0, h⟩ := ar h
  obtain ⟨x1, e1, h⟩ := ar h
  injection h with h
  subst h
  have q0 := SD.as_ok e0
  clear e0
  have q1 := SD.as_ok e1
  clear e1
  simp only [bJ, List.cons.injEq, and_true] at q0 q1
  simp only [List.map_cons, List.map_nil, cu.d, ← q0, ← q1]
  try rfl
 ·cases h
theorem aP.k_ok {cs : List SD} {x : aP} (h : aP.k cs = some x) : cs.map SD.toD = aP.d x := by
 unfold aP.k at h
 split at h
 ·rename_i c0 c1 c2 c3 c4
  obtain ⟨x0, e0, h⟩ := ar h
  obtain ⟨x1, e1, h⟩ := ar h
  obtain ⟨x2, e2, h⟩ := ar h
  obtain ⟨x3, e3, h⟩ := ar h
  obtain ⟨x4, e4, h⟩ := ar h
  injection h with h
  subst h
  have q0 := SD.as_ok e0
  clear e0
  have q1 := SD.as_ok e1
  clear e1
  have q2 := SD.as_ok e2
  clear e2
  have q3 := SD.as_ok e3
  clear e3
  have q4 := SD.as_ok e4
  clear e4
  simp only [bJ, List.cons.injEq, and_true] at q0 q1 q2 q3 q4
  simp only [List.map_cons, List.map_nil, aP.d, ← q0, ← q1, ← q2, ← q3, ← q4]
  try rfl
 ·cases h
theorem aE.k_ok {cs : List SD} {x : aE} (h : aE.k cs = some x) : cs.map SD.toD = aE.d x := by
 unfold aE.k at h
 split at h
 ·rename_i c0 c1 c2
  obtain ⟨x0, e0, h⟩ := ar h
  obtain ⟨x1, e1, h⟩ := ar h
  obtain ⟨x2, e2, h⟩ := ar h
  injection h with h
  subst h
  have q0 := SD.as_ok e0
  clear e0
  have q1 := SD.as_ok e1
  clear e1
  have q2 := SD.as_ok e2
  clear e2
  simp only [bJ, List.cons.injEq, and_true] at q0 q1 q2
  simp only [List.map_cons, List.map_nil, aE.d, ← q0, ← q1, ← q2]
  try rfl
 ·cases h
theorem a7.k_ok {cs : List SD} {x : a7} (h : a7.k cs = some x) : cs.map SD.toD = a7.d x := by
 unfold a7.k at h
 split at h
 ·rename_i c0 c1
  obtain ⟨x0, e0, h⟩ := ar h
  obtain ⟨x1, e1, h⟩ := ar h
  injection h with h
  subst h
  have q0 := SD.as_ok e0
  clear e0
  have q1 := SD.as_ok e1
  clear e1
  simp only [bJ, List.cons.injEq, and_true] at q0 q1
  simp only [List.map_cons, List.map_nil, a7.d, ← q0, ← q1]
  try rfl
 ·cases h
theorem ai.k_ok {cs : List SD} {x : ai} (h : ai.k cs = some x) : cs.map SD.toD = ai.d x := by
 unfold ai.k at h
 split at h
 ·rename_i c0 c1
  obtain ⟨x0, e0, h⟩ := ar h
  obtain ⟨x1, e1, h⟩ := ar h
  injection h with h
  subst h
  have q0 := SD.as_ok e0
  clear e0
  have q1 := SD.as_ok e1
  clear e1
  simp only [bJ, List.cons.injEq, and_true] at q0 q1
  simp only [List.map_cons, List.map_nil, ai.d, ← q0, ← q1]
  try rfl
 ·cases h
theorem bF.k_ok {cs : List SD} {x : bF} (h : bF.k cs = some x) : cs.map SD.toD = bF.d x := by
 unfold bF.k at h
 split at h
 ·rename_i c0 c1 c2 c3 c4
  obtain ⟨x0, e0, h⟩ := ar h
  obtain ⟨x1, e1, h⟩ := ar h
  obtain ⟨x2, e2, h⟩ := ar h
  obtain ⟨x3, e3, h⟩ := ar h
  obtain ⟨x4, e4, h⟩ := ar h
  injection h with h
  subst h
  have q0 := SD.as_ok e0
  clear e0
  have q1 := SD.as_ok e1
  clear e1
  have q2 := SD.as_ok e2
  clear e2
  have q3 := SD.as_ok e3
  clear e3
  have q4 := SD.as_ok e4
  clear e4
  simp only [bJ, List.cons.injEq, and_true] at q0 q1 q2 q3 q4
  simp only [List.map_cons, List.map_nil, bF.d, ← q0, ← q1, ← q2, ← q3, ← q4]
  try rfl
 ·cases h
theorem bq.k_ok {cs : List SD} {x : bq} (h : bq.k cs = some x) : cs.map SD.toD = bq.d x := by
 unfold bq.k at h
 split at h
 ·rename_i c0 c1
  obtain ⟨x0, e0, h⟩ := ar h
  obtain ⟨x1, e1, h⟩ := ar h
  injection h with h
  subst h
  have q0 := SD.as_ok e0
  clear e0
  have q1 := SD.as_ok e1
  clear e1
  simp only [bJ, List.cons.injEq, and_true] at q0 q1
  simp only [List.map_cons, List.map_nil, bq.d, ← q0, ← q1]
  try rfl
 ·cases h
theorem bv.k_ok {cs : List SD} {x : bv} (h : bv.k cs = some x) : cs.map SD.toD = bv.d x := by
 unfold bv.k at h
 split at h
 ·rename_i c0 c1 c2 c3 c4 c5 c6 c7 c8 c9 c10 c11 c12
  obtain ⟨x0, e0, h⟩ := ar h
  obtain ⟨x1, e1, h⟩ := ar h
  obtain ⟨x2, e2, h⟩ := ar h
  obtain ⟨x3, e3, h⟩ := ar h
  obtain ⟨x4, e4, h⟩ := ar h
  obtain ⟨x5, e5, h⟩ := ar h
  obtain ⟨x6, e6, h⟩ := ar h
  obtain ⟨x7, e7, h⟩ := ar h
  obtain ⟨x8, e8, h⟩ := ar h
  obtain ⟨x9, e9, h⟩ := ar h
  obtain ⟨x10, e10, h⟩ := ar h
  obtain ⟨x11, e11, h⟩ := ar h
  obtain ⟨x12, e12, h⟩ := ar h
  injection h with h
  subst h
  have q0 := SD.as_ok e0
  clear e0
  have q1 := SD.as_ok e1
  clear e1
  have q2 := SD.as_ok e2
  clear e2
  have q3 := SD.as_ok e3
  clear e3
  have q4 := SD.as_ok e4
  clear e4
  have q5 := SD.as_ok e5
  clear e5
  have q6 := SD.as_ok e6
  clear e6
  have q7 := SD.as_ok e7
  clear e7
  have q8 := SD.as_ok e8
  clear e8
  have q9 := SD.as_ok e9
  clear e9
  have q10 := SD.as_ok e10
  clear e10
  have q11 := SD.as_ok e11
  clear e11
  have q12 := SD.as_ok e12
  clear e12
  simp only [bJ, List.cons.injEq, and_true] at q0 q1 q2 q3 q4 q5 q6 q7 q8 q9 q10 q11 q12
  simp only [List.map_cons, List.map_nil, bv.d, ← q0, ← q1, ← q2, ← q3, ← q4, ← q5, ← q6, ← q7, ← q8, ← q9, ← q10, ← q11, ← q12]
  try rfl
 ·cases h
theorem bP.k_ok {cs : List SD} {x : bP} (h : bP.k cs = some x) : cs.map SD.toD = bP.d x := by
 unfold bP.k at h
 split at h
 ·rename_i c0 c1
  obtain ⟨x0, e0, h⟩ := ar h
  obtain ⟨x1, e1, h⟩ := ar h
  injection h with h
  subst h
  have q0 := SD.as_ok e0
  clear e0
  have q1 := SD.as_ok e1
  clear e1
  simp only [bJ, List.cons.injEq, and_true] at q0 q1
  simp only [List.map_cons, List.map_nil, bP.d, ← q0, ← q1]
  try rfl
 ·cases h
theorem ci.k_ok {cs : List SD} {x : ci} (h : ci.k cs = some x) : cs.map SD.toD = ci.d x := by
 unfold ci.k at h
 split at h
 ·rename_i c0 c1
  obtain ⟨x0, e0, h⟩ := ar h
  obtain ⟨x1, e1, h⟩ := ar h
  injection h with h
  subst h
  have q0 := SD.as_ok e0
  clear e0
  have q1 := SD.as_ok e1
  clear e1
  simp only [bJ, List.cons.injEq, and_true] at q0 q1
  simp only [List.map_cons, List.map_nil, ci.d, ← q0, ← q1]
  try rfl
 ·cases h
theorem br.k_ok {cs : List SD} {x : br} (h : br.k cs = some x) : cs.map SD.toD = br.d x := by
 unfold br.k at h
 split at h
 ·rename_i c0 c1
  obtain ⟨x0, e0, h⟩ := ar h
  obtain ⟨x1, e1, h⟩ := ar h
  injection h with h
  subst h
  have q0 := SD.as_ok e0
  clear e0
  have q1 := SD.as_ok e1
  clear e1
  simp only [bJ, List.cons.injEq, and_true] at q0 q1
  simp only [List.map_cons, List.map_nil, br.d, ← q0, ← q1]
  try rfl
 ·cases h
theorem zG : ∀ {i : Nat} {cs : List SD} {x : ST i}, stK i cs = some x → cs.map SD.toD = stD i x
 | 0, _, (_ : aw), h => aw.k_ok h
 | 1, _, (_ : aO), h => aO.k_ok h
 | 2, _, (_ : aB), h => aB.k_ok h
 | 3, _, (_ : dV), h => dV.k_ok h
 | 4, _, (_ : aC), h => aC.k_ok h
 | 5, _, (_ : az), h => az.k_ok h
 | 6, _, (_ : al), h => al.k_ok h
 | 7, _, (_ : aM), h => aM.k_ok h
 | 8, _, (_ : a6), h => a6.k_ok h
 | 9, _, (_ : aJ), h => aJ.k_ok h
 | 10, _, (_ : bt), h => bt.k_ok h
 | 11, _, (_ : bu), h => bu.k_ok h
 | 12, _, (_ : aa), h => aa.k_ok h
 | 13, _, (_ : be), h => be.k_ok h
 | 14, _, (_ : cu), h => cu.k_ok h
 | 15, _, (_ : aP), h => aP.k_ok h
 | 16, _, (_ : aE), h => aE.k_ok h
 | 17, _, (_ : a7), h => a7.k_ok h
 | 18, _, (_ : ai), h => ai.k_ok h
 | 19, _, (_ : bF), h => bF.k_ok h
 | 20, _, (_ : bq), h => bq.k_ok h
 | 21, _, (_ : bv), h => bv.k_ok h
 | 22, _, (_ : bP), h => bP.k_ok h
 | 23, _, (_ : ci), h => ci.k_ok h
 | 24, _, (_ : br), h => br.k_ok h
 | _ + 25, _, x, h => by
  have h2 : none = some x := h
  cases h2
section
inductive SV where
 | junk
 | d (x : SD)
 | ag (cs : List SV)
 | tup (cs : List SV)
 | ptr (t off : Nat)
 | row (t : Nat)
 | re (t p off : Nat)
 | vw (t lo hi : Nat)
 | fe (cs : List SD)
 | fn (f : FuncId) (ps qs : List SV)
structure Pin where
 i : Int
 cs : Option (List SD)
inductive aW where
 | st (ty : TypeId) (cs : List SV)
 | rw (e k : Nat) (t : Ty) (xs : List t.den) (pins : List (Nat × Pin))
def lkV : List (Nat × SV) → Nat → SV
 | [], _ => .junk
 | (j, v) :: l, i => match Nat.beq i j with | true => v | false => lkV l i
def lkB : List (Nat × Option aW) → Nat → Option aW
 | [], _ => none
 | (j, v) :: l, i => match Nat.beq i j with | true => v | false => lkB l i
def lkP : List (Nat × Pin) → Nat → Option Pin
 | [], _ => none
 | (j, v) :: l, i => match Nat.beq i j with | true => some v | false => lkP l i
def aA : List Nat → Nat → Bool
 | [], _ => false
 | j :: l, i => match Nat.beq i j with | true => true | false => aA l i
structure SS where
 sl : List (Nat × SV)
 bx : List (Nat × Option aW)
 pr : List Nat
 ro : Bool
 oc : List Nat
def wrB (s : SS) (t : Nat) : Bool := match s.ro with | true => false | false => !(aA s.pr t)
def IE (s : SS) (t : Nat) : Bool := match aA s.oc t with | true => false | false => !(aA s.pr t)
def Ae : (t : Ty) → t.den → List SD
 | .int k, x => [.int k x]
 | .bool, x => [.bool x]
 | .str, x => [.str x]
 | .sl t, xs => [.sl t xs]
 | .st i, x => stC i x
def Wo : (t : Ty) → List SD → Option t.den
 | .st i, cs => stK i cs
 | .int k, [c] => c.as (.int k)
 | .bool, [c] => c.as .bool
 | .str, [c] => c.as .str
 | .sl t, [c] => c.as (.sl t)
 | _, _ => none
def tyN : Ty → Nat
 | .st i => stN i
 | _ => 1
def Hn : Value → Option SD
 | .int k n => some (.int k n)
 | .bool t => some (.bool t)
 | .string s => some (.str s)
 | .slice none 0 0 => some .nl
 | _ => none
def Ez : List Value → Option (List SV)
 | [] => some []
 | v :: l => match Hn v, Ez l with | some c, some cs => some (.d c :: cs) | _, _ => none
def I7 : Value → SV
 | .agg xs => match Ez xs.toList with | some cs => .ag cs | none => .junk
 | v => match Hn v with | some c => .d c | none => .junk
def evX (s : SS) : Operand → SV
 | .tmp i => lkV s.sl i
 | .const v => I7 v
 | .func f => .fn f [] []
 | _ => .junk
def VE (s : SS) (t : Nat) : Option SD := match lkB s.bx t with
 | some (.rw _ _ ty xs _) => some (.sl ty xs)
 | _ => none
def qU (s : SS) : SV → Option SD
 | .d x => some x
 | .row t => VE s t
 | _ => none
def I4 (s : SS) : List SV → Option (List SD)
 | [] => some []
 | v :: l => match qU s v, I4 s l with | some c, some cs => some (c :: cs) | _, _ => none
def Jf : SV → Option (List SV)
 | .ag cs => some cs
 | .junk => none
 | .tup _ => none
 | v => some [v]
mutual
def stale (t : Nat) : SV → SV
 | .row t' => match Nat.beq t' t with | true => .junk | false => .row t'
 | .re t' p o => match Nat.beq t' t with | true => .junk | false => .re t' p o
 | .vw t' p o => match Nat.beq t' t with | true => .junk | false => .vw t' p o
 | .ag cs => .ag (im t cs)
 | .tup cs => .tup (im t cs)
 | .fn f ps qs => .fn f (im t ps) (im t qs)
 | v => v
def im (t : Nat) : List SV → List SV
 | [] => []
 | c :: cs => stale t c :: im t cs
end
def C2 (t : Nat) : List (Nat × SV) → List (Nat × SV)
 | [] => []
 | (i, v) :: l => (i, stale t v) :: C2 t l
def nH (t : Nat) : List (Nat × Option aW) → List (Nat × Option aW)
 | [] => []
 | (i, some (.st ty cs)) :: l => (i, some (.st ty (im t cs))) :: nH t l
 | (i, b) :: l => (i, b) :: nH t l
inductive Upd where
 | no
 | new (t : Nat) (b : aW)
 | set (t : Nat) (b : aW)
 | pin (t : Nat) (b : aW)
 | grow (t : Nat) (b : aW)
def Ti : Upd → List Nat
 | .no => []
 | .new t _ => [t]
 | .set t _ => [t]
 | .pin _ _ => []
 | .grow t _ => [t]
def rC (sl : List (Nat × SV)) (dst : Option Nat) (v : SV) : List (Nat × SV) := match dst with | some d => (d, v) :: sl | none => sl
def SS.upd (s : SS) (dst : Option Nat) (v : SV) : Upd → SS
 | .no => ⟨rC s.sl dst v, s.bx, s.pr, s.ro, s.oc⟩
 | .new t b => ⟨rC s.sl dst v, (t, some b) :: s.bx, s.pr, s.ro, s.oc⟩
 | .set t b => ⟨rC s.sl dst v, (t, some b) :: s.bx, s.pr, s.ro, s.oc⟩
 | .pin t b => ⟨rC s.sl dst v, (t, some b) :: s.bx, s.pr, s.ro, s.oc⟩
 | .grow t b => ⟨rC (C2 t s.sl) dst v, (t, some b) :: nH t s.bx, s.pr, s.ro, s.oc⟩
def mN {α : Type} : List α → Nat → List α → List α
 | cs, 0, [] => cs
 | _ :: cs, 0, n :: ns => n :: mN cs 0 ns
 | [], _, _ => []
 | c :: cs, o + 1, ns => c :: mN cs o ns
def PX (size : Nat) (agg : Bool) (cl : List SV) : Option SV :=
 if agg then (if size ≤ cl.length then some (.ag (cl.take size)) else none) else cl.head?
def zV : List SD → List SV
 | [] => []
 | c :: cs => .d c :: zV cs
variable {ρ : Type}
def chk (b : Bool) (k : Option ρ) : Option ρ := match b with | true => k | false => none
def T6 : Operand → Option Int
 | .const (.int _ n) => some n
 | _ => none
def NN (op : BinOp) (kd : IntKind) (lit : Option Int) (x y : Int) (k : SV → Option ρ) : Option ρ :=
 match op with
 | .add => k (.d (.int kd (kd.wrap (x + y))))
 | .sub => k (.d (.int kd (kd.wrap (x - y))))
 | .mul => k (.d (.int kd (kd.wrap (x * y))))
 | .quo => match lit with
  | some n => chk (!(n == 0)) (k (.d (.int kd (kd.wrap (x.tdiv y)))))
  | none => Option.bind (if y = 0 then none else some (kd.wrap (x.tdiv y))) fun q => k (.d (.int kd q))
 | .rem => match lit with
  | some n => chk (!(n == 0)) (k (.d (.int kd (x.tmod y))))
  | none => Option.bind (BR x y) fun q => k (.d (.int kd q))
 | .eql => k (.d (.bool (x == y)))
 | .neq => k (.d (.bool (x != y)))
 | .lss => k (.d (.bool (decide (x < y))))
 | .leq => k (.d (.bool (decide (x ≤ y))))
 | .gtr => k (.d (.bool (decide (x > y))))
 | .geq => k (.d (.bool (decide (x ≥ y))))
 | .and => k (.d (.int kd (bits .and kd x y)))
 | .or => k (.d (.int kd (bits .or kd x y)))
 | .xor => k (.d (.int kd (bits .xor kd x y)))
 | _ => none
def M1 (op : BinOp) (kd : IntKind) (lit : Option Int) (x y : Int) (k : SV → Option ρ) : Option ρ :=
 match lit with
 | some n => chk (decide (0 ≤ n)) (match op with
  | .shl => k (.d (.int kd (kd.wrap (x * 2 ^ (min y.toNat kd.bits)))))
  | .shr => k (.d (.int kd (x.fdiv (2 ^ (min y.toNat kd.bits)))))
  | _ => none)
 | none => Option.bind (if y < 0 then none else some ()) fun _ => (match op with
  | .shl => k (.d (.int kd (kd.wrap (x * 2 ^ (min y.toNat kd.bits)))))
  | .shr => k (.d (.int kd (x.fdiv (2 ^ (min y.toNat kd.bits)))))
  | _ => none)
def MS (op : BinOp) (x y : ByteArray) (k : SV → Option ρ) : Option ρ :=
 match op with
 | .add => Option.bind (lY x y) fun z => k (.d (.str z))
 | .eql => k (.d (.bool (x.toList == y.toList)))
 | .neq => k (.d (.bool (!(x.toList == y.toList))))
 | .lss => k (.d (.bool (Op.bytesLess x.toList y.toList)))
 | .leq => k (.d (.bool (Op.bytesLess x.toList y.toList || (x.toList == y.toList))))
 | .gtr => k (.d (.bool (!(Op.bytesLess x.toList y.toList || (x.toList == y.toList)))))
 | .geq => k (.d (.bool (!(Op.bytesLess x.toList y.toList))))
 | _ => none
def Ia (op : BinOp) (x y : Bool) (k : SV → Option ρ) : Option ρ :=
 match op with
 | .eql => k (.d (.bool (x == y)))
 | .neq => k (.d (.bool (!(x == y))))
 | _ => none
def rR : SD → SD → Option Bool
 | .int k a, .int k' b => if k = k' then some (a == b) else none
 | .bool a, .bool b => some (a == b)
 | .str a, .str b => some (a.toList == b.toList)
 | _, _ => none
def Bn : List SV → List SV → Option Bool
 | [.d x], [.d y] => rR x y
 | .d x :: xs, .d y :: ys => match rR x y, Bn xs ys with
  | some a, some r => some (a && r)
  | _, _ => none
 | _, _ => none
def Np : SV → Option Nat
 | .d (.int _ _) => some 0
 | .d (.bool _) => some 1
 | .d (.str _) => some 2
 | _ => none
def CB : List SV → Option (List Nat)
 | [] => some []
 | v :: l => match Np v, CB l with | some a, some r => some (a :: r) | _, _ => none
def IT : List Nat → List Nat → Bool
 | [], [] => true
 | a :: l, b :: m => match Nat.beq a b with | true => IT l m | false => false
 | _, _ => false
def XO (P : Program) (op : BinOp) (t : TypeId) (lit : Option Int) (p q : SV) (k : SV → Option ρ) : Option ρ :=
 match p, q with
 | .d (.int kd x), .d (.int kd' y) => match IL op with
  | true => M1 op kd lit x y k
  | false => if kd = kd' then NN op kd lit x y k else none
 | .d (.str x), .d (.str y) => MS op x y k
 | .d (.bool x), .d (.bool y) => match P.underlying t with
  | some .bool => Ia op x y k
  | _ => none
 | .ag xs, .ag ys => match XG P t, CB xs, Bn xs ys with
  | some l, some l', some r => chk (IT l l') (match op with
   | .eql => k (.d (.bool r))
   | .neq => k (.d (.bool (!r)))
   | _ => none)
  | _, _, _ => none
 | _, _ => none
def unX (op : UnOp) (p : SV) (k : SV → Option ρ) : Option ρ :=
 match op, p with
 | .not, .d (.bool x) => k (.d (.bool (!x)))
 | .neg, .d (.int kd x) => k (.d (.int kd (kd.wrap (0 - x))))
 | _, _ => none
def UE (P : Program) (s : SS) (src dst : TypeId) (p : SV) (k : SV → Option ρ) : Option ρ :=
 match P.underlying src with
 | none => none
 | some (.slice e) => (match P.underlying dst with
  | some .string => (match P.underlying e, qU s p with
   | some (.int .u8), some (.sl (.int .u8) xs) => Option.bind (VD (xs : List Int)) fun z => k (.d (.str z))
   | _, _ => none)
  | _ => none)
 | some _ => match P.underlying dst, p with
  | some (.int kd), .d (.int _ x) => k (.d (.int kd (kd.wrap x)))
  | some .string, .d (.str x) => k (.d (.str x))
  | _, _ => none
def wH (P : Program) (t : TypeId) (p : SV) (f : Nat) (k : SV → Option ρ) : Option ρ :=
 match (Aa P t)[f]? with
 | some (off, size, _) => chk (!(size == 0)) (match p with
  | .ptr t o => k (.ptr t (o + off))
  | .fe cs => k (.fe (cs.drop off))
  | .re t p o => k (.re t p (o + off))
  | _ => none)
 | none => none
def Nz (P : Program) (t : TypeId) (p : SV) (f : Nat) (k : SV → Option ρ) : Option ρ :=
 match (Aa P t)[f]?, p with
 | some (off, size, agg), .ag cs => match PX size agg (cs.drop off) with | some v => k v | none => none
 | _, _ => none
def US (s : SS) : SV → Option (List SV)
 | .ptr t off => match lkB s.bx t with | some (.st _ cs) => some (cs.drop off) | _ => none
 | .fe cs => some (zV cs)
 | .re t p off => match lkB s.bx t with
  | some (.rw _ _ _ _ pins) => match lkP pins p with
   | some ⟨_, some cs⟩ => some (zV (cs.drop off))
   | _ => none
  | _ => none
 | _ => none
def P7 (P : Program) (s : SS) (t : TypeId) (p : SV) : Option SV :=
 match nG P t, US s p with
 | some i, some cl => PX i.size i.agg cl
 | _, _ => none
def wD (P : Program) (s : SS) (dst : Option Nat) (t : TypeId) (p q : SV) (k : SV → Upd → Option ρ) : Option ρ :=
 match P.underlying t, q, dst with
 | some (.slice e), .d (.int _ i), some d => match nG P e with
  | some ie => match p with
   | .d (.sl ty xs) => chk (tyN ty == ie.size) (Option.bind (ax xs i) fun x => k (.fe (Ae ty x)) .no)
   | .row t' => match lkB s.bx t' with
    | some (.rw e' kk ty xs pins) => chk (kk == ie.size) (chk (lkP pins d).isNone (Option.bind (ax xs i) fun x => k (.re t' d 0) (.pin t' (.rw e' kk ty xs ((d, ⟨i, some (Ae ty x)⟩) :: pins)))))
    | _ => none
   | _ => none
  | none => none
 | _, _, _ => none
def Xk : SV → Option SD
 | .d x => some x
 | _ => none
def sE : List SV → Option (List SD)
 | [] => some []
 | v :: l => match Xk v, sE l with | some c, some cs => some (c :: cs) | _, _ => none
def vE : List (Nat × Pin) → List (Nat × Pin)
 | [] => []
 | (i, ⟨j, _⟩) :: l => (i, ⟨j, none⟩) :: vE l
def MX (P : Program) (s : SS) (t : TypeId) (p q : SV) (k : SV → Upd → Option ρ) : Option ρ :=
 match nG P t, Jf q with
 | some i, some ns => match p with
  | .ptr x off => match lkB s.bx x with
   | some (.st ty cs) => chk (ns.length == i.size) (chk (decide (off + ns.length ≤ cs.length)) (chk (wrB s x) (k .junk (.set x (.st ty (mN cs off ns))))))
   | _ => none
  | .re x pi off => match lkB s.bx x, sE ns with
   | some (.rw e kk ty xs pins), some ds => match lkP pins pi with
    | some ⟨j, cs⟩ => chk (ns.length == i.size) (chk (decide (off + ds.length ≤ tyN ty)) (chk (wrB s x) (match (if ds.length = tyN ty then some ds else cs.map fun cs => mN cs off ds) with
     | some cs' => match Wo ty cs' with
      | some y => k .junk (.set x (.rw e kk ty (xs.set j.toNat y) ((pi, ⟨j, some (Ae ty y)⟩) :: vE pins)))
      | none => none
     | none => none)))
    | none => none
   | _, _ => none
  | _ => none
 | _, _ => none
def K4 (place : Nat → Option (Nat × Nat)) : List SV → List (Nat × SV) → Option (List SV)
 | cs, [] => some cs
 | cs, (i, p) :: rest => match place i, Jf p with
  | some (off, size), some ns => chk (ns.length == size) (chk (decide (off + ns.length ≤ cs.length)) (K4 place (mN cs off ns) rest))
  | _, _ => none
def CO (i : TI) : Option (List SV) := Ez i.zero
def Je : Nat → Nat → List SD → List (List SD)
 | _, 0, _ => []
 | k, n + 1, l => l.take k :: Je k n (l.drop k)
def I3 (t : Ty) : List (List SD) → Option (List t.den)
 | [] => some []
 | c :: l => match Wo t c, I3 t l with | some x, some xs => some (x :: xs) | _, _ => none
def Xg (P : Program) : Nat → TypeId → Option Ty
 | 0, _ => none
 | d + 1, t => match YI t with
  | some i => some (.st i)
  | none => match P.underlying t with
   | some (.int k) => some (.int k)
   | some .bool => some .bool
   | some .string => some .str
   | some (.slice e) => (Xg P d e).map .sl
   | _ => none
def Tv {α : Type} : Nat → List α → List α
 | 0, _ => []
 | n + 1, l => l ++ Tv n l
def tO (P : Program) (s : SS) (dst : Option Nat) (t : TypeId) (len : Nat) (parts : List (Nat × SV)) (k : SV → Upd → Option ρ) : Option ρ :=
 match dst, P.underlying t with
 | some d, some (.slice e) => match nG P e, lkB s.bx d, Xg P 4 e with
  | some i, none, some ty => match CO i with
   | some z => chk (decide (0 < i.size)) (chk (decide (len ≤ 1000)) (chk (decide (len * i.size ≤ 16777216)) (chk (IE s d) (match K4 (fun j => some (j * i.size, i.size)) (Tv len z) parts with
    | some cs => match sE cs with
     | some ds => match I3 ty (Je i.size len ds) with
      | some xs => chk (tyN ty == i.size) (k (.row d) (.new d (.rw e i.size ty xs [])))
      | none => none
     | none => none
    | none => none))))
   | none => none
  | _, _, _ => none
 | _, _ => none
def Jm (P : Program) (s : SS) (dst : Option Nat) (t : TypeId) (p q : SV) (k : SV → Upd → Option ρ) : Option ρ :=
 match P.underlying t, qU s q with
 | some (.slice e), some (.sl ty ys) => match nG P e with
  | some i => chk (decide (0 < i.size)) (chk (decide (0 < i.bytes)) (chk (decide (i.bytes ≤ 1000000)) (chk (tyN ty == i.size) (match p with
   | .row x => match lkB s.bx x with
    | some (.rw e' kk ty' xs _) => match Ty.same ty ty' with
     | some ⟨h⟩ => chk (e' == e) (chk (kk == i.size) (chk (wrB s x) (Option.bind (aU xs (xY h ys)) fun zs => k (.row x) (.grow x (.rw e' kk ty' zs [])))))
     | none => none
    | _ => none
   | .d .nl => match dst with
    | some d => match lkB s.bx d with
     | none => chk (IE s d) (Option.bind (aU ([] : List ty.den) ys) fun zs => k (.row d) (.new d (.rw e i.size ty zs [])))
     | some _ => none
    | none => none
   | _ => none))))
  | none => none
 | _, _ => none
def zZ : SV → Option Int
 | .d (.int _ i) => some i
 | _ => none
def vwO (n : Nat) (l h : Int) : Option Unit := if 0 ≤ l ∧ 0 ≤ h ∧ l.toNat ≤ h.toNat ∧ h.toNat ≤ n then some () else none
def Xp (lo : Option SV) (n : Int) : Option Int := match lo with
 | none => some n
 | some v => zZ v
def WY {α : Type} (xs : List α) (lo hi : Nat) (ys : List α) : Option (List α) := if lo ≤ hi ∧ hi ≤ xs.length then some (nn xs lo (ys.take (hi - lo))) else none
def mkO {α : Type} (z : α) (n : Int) : Option (List α) := if 0 ≤ n ∧ n ≤ 1000000 then some (List.replicate n.toNat z) else none
def Xi (s : SS) : SV → Option SD
 | .vw t lo hi => match lkB s.bx t with
  | some (.rw _ _ ty xs _) => some (.sl ty ((xs.drop lo).take (hi - lo)))
  | _ => none
 | v => qU s v
def TH (s : SS) : SV → Option (Nat × Nat × Nat)
 | .row t => match lkB s.bx t with
  | some (.rw _ _ _ xs _) => some (t, 0, xs.length)
  | _ => none
 | .vw t lo hi => some (t, lo, hi)
 | _ => none
def UC (P : Program) (s : SS) (t : TypeId) (p q : SV) (k : SV → Upd → Option ρ) : Option ρ :=
 match P.underlying t, Xi s q, TH s p with
 | some (.slice e), some (.sl ty ys), some (x, lo, hi) => match nG P e, lkB s.bx x with
  | some i, some (.rw e' kk ty' xs pins) => match Ty.same ty ty' with
   | some ⟨h⟩ => chk (kk == i.size) (chk (tyN ty == i.size) (chk (wrB s x) (Option.bind (WY xs lo hi (xY h ys)) fun zs => k (.d (.int .i64 (min ys.length (hi - lo) : Nat))) (.set x (.rw e' kk ty' zs (vE pins))))))
   | none => none
  | _, _ => none
 | _, _, _ => none
def M3 : Operand → Operand → Bool
 | .tmp i, .tmp j => Nat.beq i j
 | .const (.int _ n), .const (.int _ m) => n == m
 | _, _ => false
def TX (P : Program) (s : SS) (dst : Option Nat) (t : TypeId) (same : Bool) (p : SV) (k : SV → Upd → Option ρ) : Option ρ :=
 match dst, P.underlying t, p, same with
 | some d, some (.slice e), .d (.int _ n), true => match nG P e, lkB s.bx d, Xg P 4 e with
  | some i, none, some ty => match CO i with
   | some z => (match sE z with
    | some ds => (match Wo ty ds with
     | some z0 => chk (decide (0 < i.size)) (chk (decide (i.bytes ≤ 1000000)) (chk (tyN ty == i.size) (chk (IE s d) (Option.bind (mkO z0 n) fun xs => k (.row d) (.new d (.rw e i.size ty xs []))))))
     | none => none)
    | none => none)
   | none => none
  | _, _, _ => none
 | _, _, _, _ => none
def MZ (P : Program) (s : SS) (t : TypeId) (p : SV) (lo hi : Option SV) (k : SV → Option ρ) : Option ρ :=
 match P.underlying t, p with
 | some (.slice e), .d (.sl ty xs) => match nG P e with
  | some i => chk (tyN ty == i.size) (match lo, hi with
   | none, none => k (.d (.sl ty xs))
   | some l, none => match zZ l with | some l => Option.bind (loO xs l) fun z => k (.d (.sl ty z)) | none => none
   | none, some h => match zZ h with | some h => Option.bind (hiO xs h) fun z => k (.d (.sl ty z)) | none => none
   | some l, some h => match zZ l, zZ h with | some l, some h => Option.bind (lhO xs l h) fun z => k (.d (.sl ty z)) | _, _ => none)
  | none => none
 | some (.slice e), .row x => match nG P e, lkB s.bx x with
  | some i, some (.rw _ kk ty xs _) => chk (kk == i.size) (match Xp lo 0, Xp hi xs.length with
   | some l, some h => Option.bind (vwO xs.length l h) fun _ => k (.vw x l.toNat h.toNat)
   | _, _ => none)
  | _, _ => none
 | some .string, .d (.str x) => match lo, hi with
   | some l, none => match zZ l with | some l => Option.bind (Q1 x l) fun z => k (.d (.str z)) | none => none
   | none, some h => match zZ h with | some h => Option.bind (M5 x h) fun z => k (.d (.str z)) | none => none
   | some l, some h => match zZ l, zZ h with | some l, some h => Option.bind (Il x l h) fun z => k (.d (.str z)) | _, _ => none
   | none, none => none
 | _, _ => none
def xI (mx : Bool) : SV → List SV → Option SV
 | p, [] => some p
 | .d (.int k x), .d (.int _ y) :: l => xI mx (.d (.int k (match mx with | true => if y > x then y else x | false => if y < x then y else x))) l
 | _, _ => none
def Xw (P : Program) (s : SS) (t : TypeId) (v : SV) (k : SV → Option ρ) : Option ρ :=
 match P.underlying t with
 | some (.slice _) => match qU s v with
  | some (.sl _ xs) => k (.d (.int .i64 (xs.length : Int)))
  | some .nl => k (.d (.int .i64 0))
  | _ => match v with
   | .vw _ lo hi => k (.d (.int .i64 ((hi - lo : Nat) : Int)))
   | _ => none
 | some .string => match v with
  | .d (.str x) => k (.d (.int .i64 (x.size : Int)))
  | _ => none
 | _ => none
def LC (P : Program) (s : SS) (dst : Option Nat) (f : Builtin) (args : List SV) (ts : List TypeId) (k : SV → Upd → Option ρ) : Option ρ :=
 match f with
 | .len => (match args, ts with | [x], [t] => Xw P s t x fun v => k v .no | _, _ => none)
 | .append => (match args, ts with | [x, y], [t, t'] => (match Nat.beq t' t with | true => Jm P s dst t x y k | false => none) | _, _ => none)
 | .min => (match args with | x :: xs => (match xI false x xs with | some v => k v .no | none => none) | _ => none)
 | .max => (match args with | x :: xs => (match xI true x xs with | some v => k v .no | none => none) | _ => none)
 | .copy => (match args, ts with | [x, y], [t, _] => UC P s t x y k | _, _ => none)
 | _ => none
def wt (s : SS) : List (Nat × Operand) → List (Nat × SV)
 | [] => []
 | (i, x) :: l => (i, evX s x) :: wt s l
def vj (s : SS) : List Operand → List SV
 | [] => []
 | x :: l => evX s x :: vj s l
def TE (c : Bool) (v w : SV) : Option SV :=
 match v, w with
 | .d (.int k x), .d (.int k' y) => if k = k' then some (.d (.int k (if c = true then x else y))) else none
 | .d (.bool x), .d (.bool y) => some (.d (.bool (if c = true then x else y)))
 | .d (.str x), .d (.str y) => some (.d (.str (if c = true then x else y)))
 | v, w => match c with | true => some v | false => some w
def Xu (p : SV) (k : SV → Option ρ) : Option ρ := match p with
 | .ptr t o => k (.ptr t o)
 | .re t q o => k (.re t q o)
 | .fe cs => k (.fe cs)
 | _ => none
def Wj (P : Program) (o : Oper) (s : SS) (k : SV → Upd → Option ρ) : Option ρ :=
 match o.op with
 | .move x => k (evX s x) .no
 | .assign x => k (evX s x) .no
 | .pick c x y => match evX s c with
  | .d (.bool t) => match TE t (evX s x) (evX s y) with | some v => k v .no | none => none
  | _ => none
 | .alloc e => match o.dst, nG P e with
  | some t, some i => match lkB s.bx t, CO i with
   | none, some z => chk (IE s t) (k (.ptr t 0) (.new t (.st e z)))
   | _, _ => none
  | _, _ => none
 | .box e x => match o.dst, Jf (evX s x) with
  | some t, some cs => match lkB s.bx t with
   | none => chk (IE s t) (k (.ptr t 0) (.new t (.st e cs)))
   | some _ => none
  | _, _ => none
 | .build t ps => match nG P t, GW P t with
  | some i, some fl => match CO i with
   | some z => (match K4 (fun j => (fl[j]?).map fun x => (x.1, x.2.1)) z (wt s ps.toList) with | some cs => k (.ag cs) .no | none => none)
   | none => none
  | _, _ => none
 | .buildSlice t n ps => tO P s o.dst t n (wt s ps.toList) k
 | .load t x => match P7 P s t (evX s x) with | some v => k v .no | none => none
 | .store t x y => MX P s t (evX s x) (evX s y) k
 | .binOp op t x y _ => XO P op t (T6 y) (evX s x) (evX s y) fun v => k v .no
 | .unOp op _ x => unX op (evX s x) fun v => k v .no
 | .convert src dst x => UE P s src dst (evX s x) fun v => k v .no
 | .slice t x lo hi none => MZ P s t (evX s x) (lo.map (evX s)) (hi.map (evX s)) fun v => k v .no
 | .fieldAddr t x f => wH P t (evX s x) f fun v => k v .no
 | .field t x f => Nz P t (evX s x) f fun v => k v .no
 | .indexAddr t x i => wD P s o.dst t (evX s x) (evX s i) k
 | .extract x i => match evX s x with
  | .tup vs => match vs[i]? with | some v => k v .no | none => none
  | _ => none
 | .index t x i => match P.underlying t, evX s x, evX s i with
  | some .string, .d (.str x), .d (.int _ i) => Option.bind (kM x i) fun z => k (.d (.int .u8 z)) .no
  | _, _, _ => none
 | .call c => match c.callee with
  | .builtin f => LC P s o.dst f (vj s c.args.toList) c.argTypes.toList k
  | _ => none
 | .makeFunc (.func f) ps qs => k (.fn f (vj s ps.toList) (vj s qs.toList)) .no
 | .makeSlice t x y => TX P s o.dst t (M3 x y) (evX s x) k
 | .nilCheck x => Xu (evX s x) fun v => k v .no
 | _ => none
end
section
inductive CT where
 | v (t : Ty)
 | a (i : Nat)
 | pl (t : Ty)
 | ps (i : Nat)
def CT.den : CT → Type
 | .v t => t.den
 | .a i => ST i
 | .pl t => t.den
 | .ps i => ST i
def tM : List CT → Type
 | [] => Unit
 | c :: cs => c.den × tM cs
inductive IB where
 | no
 | own (e k : Nat) (t : Ty)
 | bx (ty n : Nat) (rows : List (Nat × Nat × Nat × Ty))
def IB.den : IB → Type
 | .no => Unit
 | .own _ _ t => List t.den
 | .bx _ n _ => ST n
def IB.nJ : IB → Nat
 | .bx _ _ rows => rows.length
 | _ => 0
def tr : Nat → List IB → List (List Nat)
 | _, [] => []
 | base, b :: l => List.range' base b.nJ :: tr (base + b.nJ) l
def C0 : List IB → Nat
 | [] => 0
 | b :: l => b.nJ + C0 l
def xC : List IB → Type
 | [] => Unit
 | b :: l => b.den × xC l
inductive PT where
 | lf (t : Ty)
 | ag (i : Nat)
 | pl (t : Ty)
 | ps (i : Nat)
 | fn (f : FuncId) (a b : List CT)
 | own (e k : Nat) (t : Ty)
 | mv (e k : Nat) (t : Ty)
 | bx (ty n : Nat) (rows : List (Nat × Nat × Nat × Ty))
 | agr (n : Nat) (rows : List (Nat × Nat × Nat × Ty))
 | io (l : List IB)
def PT.den : PT → Type
 | .lf t => t.den
 | .ag i => ST i
 | .pl t => t.den
 | .ps i => ST i
 | .fn _ a b => tM a × tM b
 | .own _ _ t => List t.den
 | .mv _ _ t => List t.den
 | .bx _ n _ => ST n
 | .agr n _ => ST n
 | .io l => xC l
def PT.isM : PT → Bool
 | .own .. => true
 | .mv .. => true
 | .bx .. => true
 | .agr .. => true
 | .io _ => true
 | _ => false
def ol : List PT → Bool
 | [] => false
 | p :: l => match p.isM with | true => true | false => ol l
def PT.flat : PT → Bool
 | .lf (.int _) => true
 | .lf .bool => true
 | .lf .str => true
 | .lf _ => false
 | .ag i => stF i
 | _ => false
def Yl : (c : CT) → c.den → SV
 | .v t, x => .d (pO t x)
 | .a i, x => .ag (zV (stC i x))
 | .pl t, x => .fe [pO t x]
 | .ps i, x => .fe (stC i x)
def G8 : (cs : List CT) → tM cs → List SV
 | [], _ => []
 | c :: cs, x => Yl c x.1 :: G8 cs x.2
def RH : (p : PT) → p.den → SV
 | .lf t, x => .d (pO t x)
 | .ag i, x => .ag (zV (stC i x))
 | .pl t, x => .fe [pO t x]
 | .ps i, x => .fe (stC i x)
 | .fn f a b, x => .fn f (G8 a x.1) (G8 b x.2)
 | .own .., _ => .junk
 | .mv .., _ => .junk
 | .bx .., _ => .junk
 | .agr .., _ => .junk
 | .io _, _ => .junk
def Wn (s : SS) (t : Ty) (v : SV) : Option t.den := match qU s v with | some c => c.as t | none => none
def Wq (s : SS) (i : Nat) : SV → Option (ST i)
 | .ag cs => match I4 s cs with | some cs => stK i cs | none => none
 | _ => none
def Qy (t : Ty) : SV → Option t.den
 | .fe [c] => c.as t
 | _ => none
def Qx (i : Nat) : SV → Option (ST i)
 | .fe cs => stK i cs
 | _ => none
def Yn (s : SS) : (c : CT) → SV → Option c.den
 | .v t, v => Wn s t v
 | .a i, v => Wq s i v
 | .pl t, v => Qy t v
 | .ps i, v => Qx i v
def Lu (s : SS) : (cs : List CT) → List SV → Option (tM cs)
 | [], [] => some ()
 | c :: cs, v :: vs => Option.bind (Yn s c v) fun x => Option.bind (Lu s cs vs) fun xs => some (x, xs)
 | _, _ => none
def XK (s : SS) (f : FuncId) (a b : List CT) : SV → Option (tM a × tM b)
 | .fn f' ps qs => match Nat.beq f' f with
  | true => Option.bind (Lu s a ps) fun x => Option.bind (Lu s b qs) fun y => some (x, y)
  | false => none
 | _ => none
def Lx (s : SS) : (p : PT) → SV → Option p.den
 | .lf t, v => Wn s t v
 | .ag i, v => Wq s i v
 | .pl t, v => Qy t v
 | .ps i, v => Qx i v
 | .fn f a b, v => XK s f a b v
 | .own .., _ => none
 | .mv .., _ => none
 | .bx .., _ => none
 | .agr .., _ => none
 | .io _, _ => none
def cG : List PT → Type
 | [] => Unit
 | p :: ps => p.den × cG ps
def bf : List PT → Type
 | [] => Unit
 | [p] => p.den
 | p :: q :: l => p.den × bf (q :: l)
def Bo : (ps : List PT) → cG ps → List SV
 | [], _ => []
 | p :: ps, x => RH p x.1 :: Bo ps x.2
def Qz (s : SS) : (ps : List PT) → List SV → Option (cG ps)
 | [], [] => some ()
 | p :: ps, v :: vs => Option.bind (Lx s p v) fun x => Option.bind (Qz s ps vs) fun xs => some (x, xs)
 | _, _ => none
def Qq : (rs : List PT) → bf rs → List SV
 | [], _ => []
 | [p], x => [RH p x]
 | p :: q :: l, x => RH p x.1 :: Qq (q :: l) x.2
def Yk (rs : List PT) (x : bf rs) : SV := match rs, x with
 | [p], x => RH p x
 | rs, x => .tup (Qq rs x)
def Hg (s : SS) : (rs : List PT) → List SV → Option (bf rs)
 | [], [] => some ()
 | [p], [v] => Lx s p v
 | p :: q :: l, v :: vs => Option.bind (Lx s p v) fun x => Option.bind (Hg s (q :: l) vs) fun xs => some (x, xs)
 | _, _ => none
def pX : List PT → Bool
 | [] => true
 | p :: l => match p.flat with | true => pX l | false => false
def Yo : CT → Bool
 | .v (.st _) => false
 | .pl (.st _) => false
 | _ => true
def Es : List CT → Bool
 | [] => true
 | c :: l => match Yo c with | true => Es l | false => false
def Ri : PT → Bool
 | .lf (.st _) => false
 | .pl (.st _) => false
 | .fn _ a b => match Es a with | true => Es b | false => false
 | .lf _ => true
 | .pl _ => true
 | .ag _ => true
 | .ps _ => true
 | _ => false
def tn : List PT → Bool
 | [] => true
 | p :: l => match Ri p with | true => tn l | false => false
def rL : List PT → Bool
 | [] => true
 | p :: l => match p.isM || Ri p with | true => rL l | false => false
structure Ent where
 ps : List PT
 rs : List PT
 f : cG ps → Option (bf rs)
def YO : PT → SV → Bool
 | .fn f _ _, .fn g _ _ => Nat.beq g f
 | .fn _ _ _, _ => false
 | _, _ => true
def WW : List PT → List SV → Bool
 | [], _ => true
 | _ :: _, [] => true
 | p :: ps, v :: vs => match YO p v with | true => WW ps vs | false => false
def lkE : List (Nat × Ent) → Nat → List SV → Option Ent
 | [], _, _ => none
 | (j, v) :: l, i, vs => match Nat.beq i j with
  | true => (match WW v.ps vs with | true => some v | false => lkE l i vs)
  | false => lkE l i vs
mutual
def oU : SV → Bool
 | .row _ => false
 | .ptr _ _ => false
 | .re _ _ _ => false
 | .vw _ _ _ => false
 | .ag cs => cC cs
 | .tup cs => cC cs
 | .fn _ ps qs => match cC ps with | true => cC qs | false => false
 | _ => true
def cC : List SV → Bool
 | [] => true
 | c :: cs => match oU c with | true => cC cs | false => false
end
def o4 : List (Nat × Nat × Nat × Nat × Ty) → Nat → Option (Nat × Nat × Nat × Ty)
 | [], _ => none
 | (j, R, e, k, t) :: l, i => match Nat.beq j i with | true => some (R, e, k, t) | false => o4 l i
def cellsOf (s : SS) (rows : List (Nat × Nat × Nat × Nat × Ty)) : Nat → List SV → Option (List SD)
 | _, [] => some []
 | j, c :: cs => match o4 rows j with
  | some (R, e, k, t) => (match c, lkB s.bx R with
   | .row R', some (.rw e' k' t' xs _) => (match Ty.same t' t with
    | some ⟨h⟩ => chk (Nat.beq R' R) (chk (e' == e) (chk (k' == k) (match cellsOf s rows (j + 1) cs with | some r => some (.sl t (xY h xs) :: r) | none => none)))
    | none => none)
   | _, _ => none)
  | none => (match c, cellsOf s rows (j + 1) cs with
   | .d x, some r => some (x :: r)
   | _, _ => none)
def fK (rows : List (Nat × Nat × Nat × Nat × Ty)) : Nat → List SD → List (Nat × Option aW) → Option (List SV × List (Nat × Option aW))
 | _, [], bx => some ([], bx)
 | j, c :: cs, bx => match o4 rows j with
  | some (R, e, k, t) => (match c.as (.sl t), fK rows (j + 1) cs bx with
   | some xs, some (vs, bx) => some (.row R :: vs, (R, some (.rw e k t xs [])) :: bx)
   | _, _ => none)
  | none => (match fK rows (j + 1) cs bx with
   | some (vs, bx) => some (.d c :: vs, bx)
   | none => none)
def lV : List (Nat × Nat × Nat × Ty) → List Nat → List (Nat × Nat × Nat × Nat × Ty)
 | (j, e, k, t) :: l, R :: is => (j, R, e, k, t) :: lV l is
 | _, _ => []
def PT.nI : PT → Nat
 | .own .. => 1
 | .mv .. => 1
 | .bx _ _ rows => rows.length + 1
 | .agr _ rows => rows.length
 | _ => 0
def K8 (rows : List (Nat × Nat × Nat × Ty)) (is : List Nat) (n : Nat) (x : ST n) : Option (List SV × List (Nat × Option aW)) := fK (lV rows is) 0 (stC n x) []
def Lb : (p : PT) → List Nat → p.den → Option (SV × List (Nat × Option aW))
 | .own e k t, is, xs => (match is with | [i] => some (.row i, [(i, some (.rw e k t xs []))]) | _ => none)
 | .mv e k t, is, xs => (match is with | [i] => some (.row i, [(i, some (.rw e k t xs []))]) | _ => none)
 | .bx ty n rows, is, x => (match is with | i :: is => (match K8 rows is n x with | some (vs, bx) => some (.ptr i 0, (i, some (.st ty vs)) :: bx) | none => none) | _ => none)
 | .agr n rows, is, x => (match K8 rows is n x with | some (vs, bx) => some (.ag vs, bx) | none => none)
 | .io _, _, _ => none
 | .lf t, _, x => some (.d (pO t x), [])
 | .ag i, _, x => some (.ag (zV (stC i x)), [])
 | .pl t, _, x => some (.fe [pO t x], [])
 | .ps i, _, x => some (.fe (stC i x), [])
 | .fn f a b, _, x => some (.fn f (G8 a x.1) (G8 b x.2), [])
def La : (ps : List PT) → List (List Nat) → cG ps → Option (List SV × List (Nat × Option aW))
 | [], [], _ => some ([], [])
 | p :: ps, is :: iss, x => (match Lb p is x.1, La ps iss x.2 with | some (v, b), some (vs, bs) => some (v :: vs, b ++ bs) | _, _ => none)
 | _, _, _ => none
def Cw : List (Nat × Nat × Nat × Ty) → List SV → Option (List Nat)
 | [], _ => some []
 | (j, _) :: l, cs => (match cs[j]?, Cw l cs with | some (.row R), some is => some (R :: is) | _, _ => none)
def Ln (s : SS) (rows : List (Nat × Nat × Nat × Ty)) (n : Nat) (cs : List SV) : Option (ST n × List Nat) := match Cw rows cs with
 | some is => (match cellsOf s (lV rows is) 0 cs with
  | some ds => (match stK n ds with | some x => some (x, is) | none => none)
  | none => none)
 | none => none
def sd (s : SS) (e k : Nat) (t : Ty) : SV → Option (List t.den × List Nat)
 | .row i => (match lkB s.bx i with
  | some (.rw e' k' t' xs _) => (match Ty.same t' t with
   | some ⟨h⟩ => chk (e' == e) (chk (k' == k) (some (xY h xs, [i])))
   | none => none)
  | _ => none)
 | _ => none
def Lv (s : SS) (ty n : Nat) (rows : List (Nat × Nat × Nat × Ty)) : SV → Option (ST n × List Nat)
 | .ptr i 0 => (match lkB s.bx i with
  | some (.st ty' cs) => chk (ty' == ty) (match Ln s rows n cs with | some (x, is) => some (x, i :: is) | none => none)
  | _ => none)
 | _ => none
def NI (s : SS) (n : Nat) (rows : List (Nat × Nat × Nat × Ty)) : SV → Option (ST n × List Nat)
 | .ag cs => Ln s rows n cs
 | _ => none
def Lq (s : SS) (p : PT) (v : SV) : Option (p.den × List Nat) := chk (oU v) (match Lx s p v with | some x => some (x, []) | none => none)
def NH (s : SS) : (p : PT) → SV → Option (p.den × List Nat)
 | .own e k t, v => sd s e k t v
 | .mv e k t, v => sd s e k t v
 | .bx ty n rows, v => Lv s ty n rows v
 | .agr n rows, v => NI s n rows v
 | .io _, _ => none
 | .lf t, v => Lq s (.lf t) v
 | .ag i, v => Lq s (.ag i) v
 | .pl t, v => Lq s (.pl t) v
 | .ps i, v => Lq s (.ps i) v
 | .fn f a b, v => Lq s (.fn f a b) v
def Hi (s : SS) : (ps : List PT) → List SV → Option (cG ps × List (List Nat))
 | [], [] => some ((), [])
 | p :: ps, v :: vs => (match NH s p v, Hi s ps vs with | some (x, is), some (xs, iss) => some ((x, xs), is :: iss) | _, _ => none)
 | _, _ => none
structure MU where
 ks : List Nat
 us : List (Nat × Option aW)
 gs : List Nat
mutual
def stV (ks : List Nat) : SV → SV
 | .row t => match aA ks t with | true => .junk | false => .row t
 | .re t p o => match aA ks t with | true => .junk | false => .re t p o
 | .vw t p o => match aA ks t with | true => .junk | false => .vw t p o
 | .ag cs => .ag (sW ks cs)
 | .tup cs => .tup (sW ks cs)
 | .fn f ps qs => .fn f (sW ks ps) (sW ks qs)
 | v => v
def sW (ks : List Nat) : List SV → List SV
 | [] => []
 | c :: cs => stV ks c :: sW ks cs
end
def QX (ks : List Nat) : List (Nat × SV) → List (Nat × SV)
 | [] => []
 | (i, v) :: l => (i, stV ks v) :: QX ks l
def we (ks : List Nat) : List (Nat × Option aW) → List (Nat × Option aW)
 | [] => []
 | (i, some (.st ty cs)) :: l => (i, some (.st ty (sW ks cs))) :: we ks l
 | (i, b) :: l => (i, b) :: we ks l
def SS.updM (s : SS) (dst : Option Nat) (v : SV) (m : MU) : SS := ⟨rC (QX m.ks s.sl) dst v, m.us ++ we m.ks s.bx, s.pr, s.ro, m.gs ++ s.oc⟩
def cz : List PT → List IB
 | .io l :: _ => l
 | _ => []
def eS : List PT → List PT
 | .io _ :: l => l
 | l => l
def jB : (rs : List PT) → bf rs → xC (cz rs)
 | [], _ => ()
 | [.io _], r => r
 | .io _ :: _ :: _, r => r.1
 | .own .. :: _, _ => ()
 | .mv .. :: _, _ => ()
 | .bx .. :: _, _ => ()
 | .agr .. :: _, _ => ()
 | .lf _ :: _, _ => ()
 | .ag _ :: _, _ => ()
 | .pl _ :: _, _ => ()
 | .ps _ :: _, _ => ()
 | .fn .. :: _, _ => ()
def it : (rs : List PT) → bf rs → bf (eS rs)
 | [], _ => ()
 | [.io _], _ => ()
 | .io _ :: _ :: _, r => r.2
 | .own .. :: _, r => r
 | .mv .. :: _, r => r
 | .bx .. :: _, r => r
 | .agr .. :: _, r => r
 | .lf _ :: _, r => r
 | .ag _ :: _, r => r
 | .pl _ :: _, r => r
 | .ps _ :: _, r => r
 | .fn .. :: _, r => r
def Iz (s : SS) (i : Nat) : List (Nat × Pin) := match lkB s.bx i with | some (.rw _ _ _ _ pins) => vE pins | _ => []
def kT : List Nat → List (Nat × Option aW)
 | [] => []
 | t :: l => (t, none) :: kT l
def XI (s : SS) : (p : PT) → (b : IB) → List Nat → List Nat → b.den → Option MU
 | .own .., .own e k t, is, _, xs => (match is with | [i] => some ⟨[], [(i, some (.rw e k t xs (Iz s i)))], []⟩ | _ => none)
 | .mv .., .no, is, _, _ => (match is with | [i] => some ⟨[i], [], [i]⟩ | _ => none)
 | .bx .., .bx ty n rows, is, js, x => (match is with | i :: is => (match K8 rows js n x with | some (vs, bx) => some ⟨is, (i, some (.st ty vs)) :: bx, is⟩ | none => none) | _ => none)
 | .lf _, .no, _, _, _ => some ⟨[], [], []⟩
 | .ag _, .no, _, _, _ => some ⟨[], [], []⟩
 | .pl _, .no, _, _, _ => some ⟨[], [], []⟩
 | .ps _, .no, _, _, _ => some ⟨[], [], []⟩
 | .fn .., .no, _, _, _ => some ⟨[], [], []⟩
 | _, _, _, _, _ => none
def MU.app (a b : MU) : MU := ⟨a.ks ++ b.ks, a.us ++ b.us, a.gs ++ b.gs⟩
def Qr (s : SS) : (ps : List PT) → (ls : List IB) → List (List Nat) → List (List Nat) → xC ls → Option MU
 | [], [], [], [], _ => some ⟨[], [], []⟩
 | p :: ps, b :: ls, is :: iss, js :: kss, o => (match XI s p b is js o.1, Qr s ps ls iss kss o.2 with | some m, some m' => some (m.app m') | _, _ => none)
 | _, _, _, _, _ => none
def IV : (rs : List PT) → List (List Nat) → bf rs → Option (List SV × List (Nat × Option aW))
 | [], [], _ => some ([], [])
 | [p], [is], x => (match Lb p is x with | some (v, b) => some ([v], b) | none => none)
 | p :: q :: l, is :: iss, x => (match Lb p is x.1, IV (q :: l) iss x.2 with | some (v, b), some (vs, bs) => some (v :: vs, b ++ bs) | _, _ => none)
 | _, _, _ => none
def TO : List SV → SV
 | [v] => v
 | vs => .tup vs
def nK : Nat → List PT → List (List Nat)
 | _, [] => []
 | base, p :: l => List.range' base p.nI :: nK (base + p.nI) l
def bl : List (List Nat) → List Nat
 | [] => []
 | l :: ls => l ++ bl ls
def rM : List Nat → Bool
 | [] => true
 | a :: l => match aA l a with | true => false | false => rM l
def P0 (s : SS) : List Nat → Bool
 | [] => true
 | j :: l => match IE s j, lkB s.bx j, Nat.blt j 1000000 with | true, none, true => P0 s l | _, _, _ => false
def PZ (s : SS) : List Nat → Bool
 | [] => true
 | i :: l => match aA s.pr i with | true => false | false => PZ s l
def idU : List (Nat × Option aW) → List Nat
 | [] => []
 | (i, _) :: l => i :: idU l
def MT : List Nat → List Nat → Bool
 | [], _ => true
 | a :: l, m => match aA m a with | true => MT l m | false => false
def W4 (ps : List PT) (iss : List (List Nat)) (x : cG ps) : Bool := match La ps iss x with | some (_, bi) => rM (idU bi) && MT (bl iss) (idU bi) | none => false
def P1 (s : SS) : List (Nat × Option aW) → Bool
 | [] => true
 | (i, b) :: l => (match lkB s.bx i with
  | some (.st ty cs) => (match b with | some (.st ty' cs') => ty == ty' && Nat.beq cs.length cs'.length | _ => false)
  | _ => true) && P1 s l
section
variable {ρ : Type}
def Rv (T : List (Nat × Ent)) (f : Nat) (args : List SV) : Bool := match lkE T f args with | some en => ol en.ps || ol en.rs | none => false
def QE (T : List (Nat × Ent)) (f : Nat) (s : SS) (args : List SV) (k : SV → Option ρ) : Option ρ :=
 match lkE T f args with
 | none => none
 | some en => chk (tn en.rs) (chk (cC args || pX en.rs) (Option.bind (Qz s en.ps args) fun x => Option.bind (en.f x) fun r => k (Yk en.rs r)))
def QF (T : List (Nat × Ent)) (f : Nat) (s : SS) (dst : Option Nat) (args : List SV) (k : SV → MU → Option ρ) : Option ρ :=
 match s.ro with
 | true => none
 | false => match lkE T f args, dst with
  | some en, some d => (match Hi s en.ps args with
   | some (x, iss) => Option.bind (en.f x) fun r =>
    let kss := tr (500000 + 64 * d) (cz en.rs)
    let jss := nK (500000 + 64 * d + C0 (cz en.rs)) (eS en.rs)
    match Qr s en.ps (cz en.rs) iss kss (jB en.rs r), IV (eS en.rs) jss (it en.rs r) with
    | some m, some (vs, bs) => chk (PZ s (idU m.us ++ (m.ks ++ m.gs)) && (P0 s (idU bs ++ (bl kss ++ bl jss)) && (rM (bl iss ++ (bl kss ++ bl jss)) && (rM (idU (m.us ++ (bs ++ kT m.gs))) && (P1 s (m.us ++ kT m.gs) && (MT (bl iss) (idU m.us ++ m.gs) && (MT (idU m.us ++ m.gs) (bl iss ++ bl kss) && (W4 en.ps iss x && (MT (bl kss ++ bl jss) (idU m.us ++ idU bs) && (rL (eS en.rs) && rL en.ps)))))))))) (k (TO vs) ⟨m.ks, m.us ++ (bs ++ kT m.gs), m.gs⟩)
    | _, _ => none
   | none => none)
  | _, _ => none
def vI (s : SS) (x : Operand) (b : Bool) : SS := match x with
 | .tmp i => ⟨(i, .d (.bool b)) :: s.sl, s.bx, s.pr, s.ro, s.oc⟩
 | _ => s
def PD (g : Nat) : List Oper → Option (List Oper × Nat × List Oper)
 | [] => none
 | o :: l => match (match o.op, o.dst with | .pick (.tmp g') _ _, some d => (match Nat.beq g' g with | true => some d | false => none) | _, _ => none) with
  | some d => some ([o], d, l)
  | none => match PD g l with
   | some (a, d, b) => some (o :: a, d, b)
   | none => none
def cn : List Oper → List Nat
 | [] => []
 | o :: l => match o.dst with | some d => d :: cn l | none => cn l
def oe : List Nat → List (Nat × SV) → List (Nat × SV)
 | [], l => l
 | d :: ds, l => (d, .junk) :: oe ds l
def Cr (d : Nat) (s : SS) : Option Bool := match lkV s.sl d with | .d (.bool b) => some b | _ => none
mutual
def tD (t : Nat) (c : SD) : SV → SV
 | .row t' => match Nat.beq t' t with | true => .d c | false => .row t'
 | .re t' p o => match Nat.beq t' t with | true => .junk | false => .re t' p o
 | .vw t' p o => match Nat.beq t' t with | true => .junk | false => .vw t' p o
 | .ag cs => .ag (nu t c cs)
 | .tup cs => .tup (nu t c cs)
 | .fn f ps qs => .fn f (nu t c ps) (nu t c qs)
 | v => v
def nu (t : Nat) (c : SD) : List SV → List SV
 | [] => []
 | v :: vs => tD t c v :: nu t c vs
end
def DY (t : Nat) (c : SD) : List (Nat × SV) → List (Nat × SV)
 | [] => []
 | (i, v) :: l => (i, tD t c v) :: DY t c l
def qQ (t : Nat) (c : SD) : List (Nat × Option aW) → List (Nat × Option aW)
 | [] => []
 | (i, some (.st ty cs)) :: l => (i, some (.st ty (nu t c cs))) :: qQ t c l
 | (i, b) :: l => (i, b) :: qQ t c l
def Nx (t : Nat) (s : SS) : Option SS := match lkB s.bx t with
 | some (.rw _ _ ty xs _) => match aA s.pr t with
  | false => some ⟨DY t (.sl ty xs) s.sl, (t, none) :: qQ t (.sl ty xs) s.bx, s.pr, s.ro, s.oc⟩
  | true => some s
 | _ => some s
def kU : List Nat → SS → Option SS
 | [], s => some s
 | t :: l, s => match Nx t s with | some s => kU l s | none => none
mutual
def wG (t : Nat) (ds : List SD) : SV → SV
 | .ptr t' o => match Nat.beq t' t with | true => .fe (ds.drop o) | false => .ptr t' o
 | .ag cs => .ag (oZ t ds cs)
 | .tup cs => .tup (oZ t ds cs)
 | .fn f ps qs => .fn f (oZ t ds ps) (oZ t ds qs)
 | v => v
def oZ (t : Nat) (ds : List SD) : List SV → List SV
 | [] => []
 | v :: vs => wG t ds v :: oZ t ds vs
end
def DZ (t : Nat) (ds : List SD) : List (Nat × SV) → List (Nat × SV)
 | [] => []
 | (i, v) :: l => (i, wG t ds v) :: DZ t ds l
def qS (t : Nat) (ds : List SD) : List (Nat × Option aW) → List (Nat × Option aW)
 | [] => []
 | (i, some (.st ty cs)) :: l => (i, some (.st ty (oZ t ds cs))) :: qS t ds l
 | (i, b) :: l => (i, b) :: qS t ds l
def Xt : List SD → Bool
 | [] => true
 | .nl :: _ => false
 | _ :: l => Xt l
def fbX (sc : List Nat) (t : Nat) (s : SS) : Option SS := match lkB s.bx t with
 | some (.st _ cs) => (match sE cs with
  | some ds => chk (Xt ds && (!(aA s.pr t) && !(aA sc t))) (some ⟨DZ t ds s.sl, (t, none) :: qS t ds s.bx, s.pr, s.ro, s.oc⟩)
  | none => none)
 | _ => none
def G2 (sc : List Nat) : List Nat → SS → Option SS
 | [], s => some s
 | t :: l, s => match fbX sc t s with | some s => G2 sc l s | none => none
def Qn (s : SS) : List Nat → Bool
 | [] => true
 | t :: l => match lkB s.bx t with | none => Qn s l | some _ => false
mutual
def M7 : SV → List Nat
 | .row t => [t]
 | .fn _ ps qs => rK ps ++ rK qs
 | .ag cs => rK cs
 | _ => []
def rK : List SV → List Nat
 | [] => []
 | c :: cs => M7 c ++ rK cs
end
def TJ : List (Nat × SV) → List SV
 | [] => []
 | (_, v) :: l => v :: TJ l
def zP : List PT → List SV → List SV
 | p :: ps, v :: vs => (match p.isM with | true => zP ps vs | false => v :: zP ps vs)
 | _, _ => []
def VO (q : Bool) (T : List (Nat × Ent)) (o : Oper) (s : SS) : Option SS := match q, s.ro, o.guard with
 | true, false, none => (match o.op, tN o with
  | .buildSlice _ _ ps, _ => kU (rK (TJ (wt s ps.toList))) s
  | _, some (x, xs) => (match evX s x with
   | .fn f ps qs => (match lkE T f (ps ++ vj s xs ++ qs) with
    | some en => (match ol en.ps || ol en.rs with
     | true => kU (rK (zP en.ps (ps ++ vj s xs ++ qs))) s
     | false => (match pX en.rs with | true => some s | false => kU (rK (ps ++ vj s xs ++ qs)) s))
    | none => some s)
   | _ => some s)
  | _, _ => some s)
 | _, _, _ => some s
mutual
def vF : SV → Option (List Nat)
 | .junk => none
 | .ptr t _ => some [t]
 | .row t => some [t]
 | .re t _ _ => some [t]
 | .vw t _ _ => some [t]
 | .ag cs => qg cs
 | .tup cs => qg cs
 | .fn _ ps qs => match qg ps, qg qs with | some a, some b => some (a ++ b) | _, _ => none
 | .d _ => some []
 | .fe _ => some []
def qg : List SV → Option (List Nat)
 | [] => some []
 | c :: cs => match vF c, qg cs with | some a, some b => some (a ++ b) | _, _ => none
end
def Qi (o : Oper) (s : SS) : Option (List Nat) := match o.op with
 | .load _ x => vF (evX s x)
 | .store _ x _ => vF (evX s x)
 | .indexAddr _ x _ => vF (evX s x)
 | .slice _ x _ _ _ => vF (evX s x)
 | .convert _ _ x => vF (evX s x)
 | .call c => (match c.callee with
  | .value f => (match vF (evX s f), qg (vj s c.args.toList) with | some a, some b => some (a ++ b) | _, _ => none)
  | _ => qg (vj s c.args.toList))
 | _ => some []
def MW : List Nat → List Nat → Bool
 | [], _ => true
 | a :: l, m => match fj.memL m a with | true => MW l m | false => false
def xG : List Bd → Nat → Bd
 | [], _ => ([], [])
 | x :: _, 0 => x
 | _ :: l, i + 1 => xG l i
def GV (q : Bool) (B : List Bd) (i : Nat) (o : Oper) (s : SS) (u : Upd) : Bool := match q with
 | true => true
 | false => match Qi o s with
  | some fs => MW fs (xG B i).1 && MW (Ti u) (xG B i).2
  | none => false
def Qj (q : Bool) (B : List Bd) (i : Nat) (o : Oper) (s : SS) (m : MU) : Bool := match q with
 | true => true
 | false => match Qi o s with
  | some fs => MW fs (xG B i).1 && MW (idU m.us) (xG B i).2
  | none => false
def te (q : Bool) (P : Program) (T : List (Nat × Ent)) (ops : Array Oper) (B : List Bd) : Nat → Nat → List Nat → List Oper → {ρ : Type} → SS → (SS → Option ρ) → Option ρ
 | _, _, _, [], _, s, k => k s
 | 0, _, _, _ :: _, _, _, _ => none
 | n + 1, i, kn, o :: l, _, s, k =>
  let go := fun (_ : Unit) => match VO q T o s with
   | none => none
   | some s => (match tN o with
    | some (x, xs) => (match evX s x with
     | .fn f ps qs => (match Rv T f (ps ++ vj s xs ++ qs) with
      | false => chk (GV q B i o s .no) (QE T f s (ps ++ vj s xs ++ qs) fun r => te q P T ops B n (i + 1) kn l (s.upd o.dst r .no) k)
      | true => QF T f s o.dst (ps ++ vj s xs ++ qs) fun v m => chk (Qj q B i o s m) (te q P T ops B n (i + 1) kn l (s.updM o.dst v m) k))
     | _ => none)
    | none => Wj P o s fun v u => chk (GV q B i o s u) (te q P T ops B n (i + 1) kn l (s.upd o.dst v u) k))
  let skip := fun (_ : Unit) => te q P T ops B n (i + 1) kn l (s.upd o.dst (.tup []) .no) k
  match o.guard with
  | none => go ()
  | some (j, want) => match (ops[j]?).bind (·.dst) with
   | none => none
   | some g => match lkV s.sl g with
    | .tup [] => skip ()
    | .d (.bool b) => (match aA kn g with
     | true => (match b with
      | true => (match want with | true => go () | false => skip ())
      | false => (match want with | true => skip () | false => go ()))
     | false => (match PD g (o :: l) with
      | none => none
      | some (l1, d, l2) => Option.bind (if b = true then te q P T ops B n i (g :: kn) l1 ⟨(g, .d (.bool true)) :: s.sl, s.bx, s.pr, true, s.oc⟩ (Cr d) else te q P T ops B n i (g :: kn) l1 ⟨(g, .d (.bool false)) :: s.sl, s.bx, s.pr, true, s.oc⟩ (Cr d)) fun qb =>
       te q P T ops B n (i + l1.length) kn l2 ⟨(d, .d (.bool qb)) :: oe (cn l1) s.sl, s.bx, s.pr, s.ro, cn l1 ++ s.oc⟩ k))
    | _ => none
end
def lkN : List (Nat × List Nat) → Nat → Option (List Nat)
 | [], _ => none
 | (j, v) :: l, i => match Nat.beq i j with | true => some v | false => lkN l i
def kx (m : List (Nat × List Nat)) (s : SS) : Operand → List Nat
 | .tmp i => (match lkN m i with | some l => l | none => (match vF (lkV s.sl i) with | some l => l | none => []))
 | _ => []
def A9 (m : List (Nat × List Nat)) (s : SS) : List Operand → List Nat
 | [] => []
 | x :: l => kx m s x ++ A9 m s l
def X1 (m : List (Nat × List Nat)) (s : SS) : List (Nat × Operand) → List Nat
 | [] => []
 | (_, x) :: l => kx m s x ++ X1 m s l
def Yq (mb : List (Nat × List Nat)) (s : SS) (t : Nat) : List Nat := match lkN mb t with
 | some l => l
 | none => (match lkB s.bx t with | some (.st _ cs) => (match qg cs with | some l => l | none => []) | _ => [])
def UK (mb : List (Nat × List Nat)) (s : SS) : List Nat → List Nat
 | [] => []
 | t :: l => Yq mb s t ++ UK mb s l
def XR (mb : List (Nat × List Nat)) (s : SS) (x : List Nat) : List Nat → List (Nat × List Nat)
 | [] => mb
 | t :: l => (t, x ++ Yq mb s t) :: XR mb s x l
def El : Option Nat → List Nat
 | some d => [d]
 | none => []
def pK (m : List (Nat × List Nat)) (dst : Option Nat) (l : List Nat) : List (Nat × List Nat) := match dst with | some d => (d, l) :: m | none => m
def Ya : List (Nat × Ent) → Nat → Option Ent
 | [], _ => none
 | (j, v) :: l, i => match Nat.beq i j with | true => some v | false => Ya l i
def YN (T : List (Nat × Ent)) (o : Oper) (f : Operand) : Option (List Nat) := match f, o.dst with
 | .func g, some d => (match Ya T g with
  | some en => (match ol en.ps || ol en.rs with | true => some (bl (tr (500000 + 64 * d) (cz en.rs)) ++ bl (nK (500000 + 64 * d + C0 (cz en.rs)) (eS en.rs))) | false => none)
  | none => none)
 | _, _ => none
def ky (T : List (Nat × Ent)) (s : SS) : List Oper → List (Nat × List Nat) → List (Nat × List Nat) → List Bd
 | [], _, _ => []
 | o :: l, m, mb => match o.op with
  | .move x => ([], []) :: ky T s l (pK m o.dst (kx m s x)) mb
  | .assign x => ([], []) :: ky T s l (pK m o.dst (kx m s x)) mb
  | .pick _ x y => ([], []) :: ky T s l (pK m o.dst (kx m s x ++ kx m s y)) mb
  | .build _ ps => ([], []) :: ky T s l (pK m o.dst (X1 m s ps.toList)) mb
  | .extract x _ => ([], []) :: ky T s l (pK m o.dst (kx m s x)) mb
  | .field _ x _ => ([], []) :: ky T s l (pK m o.dst (kx m s x)) mb
  | .fieldAddr _ x _ => ([], []) :: ky T s l (pK m o.dst (kx m s x)) mb
  | .nilCheck x => ([], []) :: ky T s l (pK m o.dst (kx m s x)) mb
  | .indexAddr _ x _ => (kx m s x, []) :: ky T s l (pK m o.dst (kx m s x)) mb
  | .load _ x => (kx m s x, []) :: ky T s l (pK m o.dst (UK mb s (kx m s x))) mb
  | .store _ x y => (kx m s x, kx m s x) :: ky T s l m (XR mb s (kx m s y) (kx m s x))
  | .alloc _ => ([], El o.dst) :: ky T s l (pK m o.dst (El o.dst)) mb
  | .box _ x => ([], El o.dst) :: ky T s l (pK m o.dst (El o.dst)) (XR mb s (kx m s x) (El o.dst))
  | .buildSlice _ _ _ => ([], El o.dst) :: ky T s l (pK m o.dst (El o.dst)) mb
  | .slice _ x _ _ _ => (kx m s x, []) :: ky T s l (pK m o.dst (kx m s x)) mb
  | .makeSlice _ _ _ => ([], El o.dst) :: ky T s l (pK m o.dst (El o.dst)) mb
  | .convert _ _ x => (kx m s x, []) :: ky T s l (pK m o.dst []) mb
  | .makeFunc _ a b => ([], []) :: ky T s l (pK m o.dst (A9 m s a.toList ++ A9 m s b.toList)) mb
  | .call c => (match c.callee with
   | .builtin .append => (match c.args.toList with
    | x :: y :: _ => (kx m s x ++ kx m s y, kx m s x ++ El o.dst) :: ky T s l (pK m o.dst (kx m s x ++ El o.dst)) mb
    | _ => ([], []) :: ky T s l m mb)
   | .builtin .copy => (match c.args.toList with
    | x :: y :: _ => (kx m s x ++ kx m s y, kx m s x) :: ky T s l (pK m o.dst []) mb
    | _ => ([], []) :: ky T s l m mb)
   | .value f => (match YN T o f with
    | none => (kx m s f ++ A9 m s c.args.toList, []) :: ky T s l (pK m o.dst []) mb
    | some js => (A9 m s c.args.toList, A9 m s c.args.toList ++ (UK mb s (A9 m s c.args.toList) ++ js)) :: ky T s l (pK m o.dst js) mb)
   | _ => (A9 m s c.args.toList, []) :: ky T s l (pK m o.dst []) mb)
  | _ => ([], []) :: ky T s l m mb
def Kh (m : Nat) (ops : Array Oper) : Bool := (List.range ops.size).all fun i => decide (i < m) || (List.range i).all fun k => xQ ops 4 i k
inductive Mod where
 | leaf (i : Nat) (t : Ty)
 | agg (i n : Nat)
 | row (i R e k : Nat) (t : Ty)
 | box (b ty n : Nat) (rows : List (Nat × Nat × Nat × Nat × Ty))
def Mod.den : Mod → Type
 | .leaf _ t => t.den
 | .agg _ n => ST n
 | .row _ _ _ _ t => List t.den
 | .box _ _ n _ => ST n
def jC : List Mod → Type
 | [] => Unit
 | [m] => m.den
 | m :: m' :: l => m.den × jC (m' :: l)
def XA : Option aW → Bool
 | some (.rw ..) => true
 | _ => false
def z7 (s : SS) : (m : Mod) → Option m.den
 | .leaf i t => match lkV s.sl i with
  | .d c => c.as t
  | _ => none
 | .agg i n => match lkV s.sl i with
  | .ag cs => (match sE cs with | some cs => stK n cs | none => none)
  | _ => none
 | .row i R e k t => match lkV s.sl i, lkB s.bx R with
  | .row R', some (.rw e' k' t' xs _) => match Ty.same t' t with
   | some ⟨h⟩ => chk (Nat.beq R' R) (chk (e' == e) (chk (k' == k) (some (xY h xs))))
   | none => none
  | _, _ => none
 | .box b ty n rows => match lkB s.bx b with
  | some (.st ty' cs) => chk (ty' == ty) (chk (rows.all fun r => XA (lkB s.bx r.2.1)) (match cellsOf s rows 0 cs with | some ds => stK n ds | none => none))
  | _ => none
def sF (s : SS) : (l : List Mod) → Option (jC l)
 | [] => some ()
 | [m] => z7 s m
 | m :: m' :: l => Option.bind (z7 s m) fun x => Option.bind (sF s (m' :: l)) fun xs => some (x, xs)
def qJ : (m : Mod) → m.den → SS → Option SS
 | .leaf i t, x, s => some ⟨(i, .d (pO t x)) :: s.sl, s.bx, s.pr, s.ro, s.oc⟩
 | .agg i n, x, s => some ⟨(i, .ag (zV (stC n x))) :: s.sl, s.bx, s.pr, s.ro, s.oc⟩
 | .row i R e k t, xs, s => some ⟨(i, .row R) :: s.sl, (R, some (.rw e k t xs [])) :: s.bx, s.pr, s.ro, s.oc⟩
 | .box b ty n rows, x, s => match fK rows 0 (stC n x) s.bx with
  | some (vs, bx) => some ⟨s.sl, (b, some (.st ty vs)) :: bx, s.pr, s.ro, s.oc⟩
  | none => none
def jx : (l : List Mod) → jC l → SS → Option SS
 | [], _, s => some s
 | [m], x, s => qJ m x s
 | m :: m' :: l, x, s => match jx (m' :: l) x.2 s with | some s => qJ m x.1 s | none => none
def bB : List Mod → List Nat
 | [] => []
 | .row _ R _ _ _ :: l => R :: bB l
 | .box b _ _ rows :: l => b :: (rows.map (·.2.1) ++ bB l)
 | _ :: l => bB l
def WT (R : Nat) : SV → Bool
 | .row R' => Nat.beq R' R
 | _ => false
def oV (wr : List Nat) (s : SS) : List Mod → Bool
 | [] => true
 | .leaf i _ :: l => (match aA wr i with | true => oV wr s l | false => false)
 | .agg i _ :: l => (match aA wr i with | true => oV wr s l | false => false)
 | .row i R _ _ _ :: l => (match aA s.pr R, aA wr i || WT R (lkV s.sl i) with | false, true => oV wr s l | _, _ => false)
 | .box b _ _ rows :: l => (match aA s.pr b, rows.all fun r => !(aA s.pr r.2.1) with | false, true => oV wr s l | _, _ => false)
def uK (mb sc : List Nat) : List (Nat × Option aW) → List Nat → Bool
 | [], _ => true
 | (t, b) :: l, seen => match aA seen t with
  | true => uK mb sc l seen
  | false => match b with
   | some (.st _ cs) => (match aA mb t || (aA sc t || cC cs) with | true => uK mb sc l (t :: seen) | false => false)
   | _ => uK mb sc l (t :: seen)
def Hb : List Nat → List Nat → Bool
 | [], _ => true
 | a :: l, m => match aA m a with | true => false | false => Hb l m
mutual
def rN (sc wr : List Nat) (ms : List Mod) (pr : List Nat) (s : SS) : Bool := oV wr s ms && (Hb sc pr && (Hb sc (bB ms) && uK (bB ms) sc s.bx []))
def FC (pr kb : List Nat) : SV → Bool
 | .row t => aA pr t
 | .re _ _ _ => false
 | .vw _ _ _ => false
 | .ptr t _ => aA kb t
 | .ag cs => kK pr kb cs
 | .tup cs => kK pr kb cs
 | .fn _ ps qs => match kK pr kb ps with | true => kK pr kb qs | false => false
 | _ => true
def kK (pr kb : List Nat) : List SV → Bool
 | [] => true
 | c :: cs => match FC pr kb c with | true => kK pr kb cs | false => false
end
def rO (wr pr kb : List Nat) : List (Nat × SV) → List Nat → List (Nat × SV)
 | [], _ => []
 | (i, v) :: l, seen => match aA seen i with
  | true => rO wr pr kb l seen
  | false => match aA wr i with
   | true => rO wr pr kb l (i :: seen)
   | false => match FC pr kb v with
    | true => (i, v) :: rO wr pr kb l (i :: seen)
    | false => rO wr pr kb l (i :: seen)
def xA : aW → Bool
 | .st _ cs => cC cs
 | .rw .. => true
def n8 (mb : List Nat) : List (Nat × Option aW) → List Nat → List Nat
 | [], _ => []
 | (t, b) :: l, seen => match aA seen t with
  | true => n8 mb l seen
  | false => match b with
   | none => n8 mb l (t :: seen)
   | some b => match aA mb t, xA b with
    | false, true => t :: n8 mb l (t :: seen)
    | _, _ => n8 mb l (t :: seen)
def H9 : Option aW → Option aW
 | some (.rw e k t xs _) => some (.rw e k t xs [])
 | b => b
def rP (pr : List Nat) : List (Nat × Option aW) → List Nat → List (Nat × Option aW)
 | [], _ => []
 | (t, b) :: l, seen => match aA seen t with
  | true => rP pr l seen
  | false => match aA pr t with
   | true => (t, H9 b) :: rP pr l (t :: seen)
   | false => rP pr l (t :: seen)
def vJ : List SV → List SV
 | [] => []
 | _ :: l => .junk :: vJ l
def rJ (bx : List (Nat × Option aW)) : List Nat → List Nat
 | [] => []
 | b :: l => match lkB bx b with
  | some (.st _ _) => b :: rJ bx l
  | _ => rJ bx l
def Km (bx : List (Nat × Option aW)) : List Nat → List (Nat × Option aW) → List (Nat × Option aW)
 | [], r => r
 | b :: l, r => match lkB bx b with
  | some (.st ty cs) => (b, some (.st ty (vJ cs))) :: Km bx l r
  | _ => Km bx l r
def ch (sc wr : List Nat) (ms : List Mod) (s : SS) : SS :=
 let pr := n8 (bB ms ++ sc) s.bx []
 ⟨rO wr pr (bB ms ++ (rJ s.bx sc ++ pr)) s.sl [], Km s.bx sc (rP pr s.bx []), pr, s.ro, []⟩
def zK (but : List Nat) : List SV → List Nat
 | [] => []
 | .row t :: l => match aA but t with | true => zK but l | false => t :: zK but l
 | _ :: l => zK but l
def GB (s : SS) : List Mod → List Nat
 | [] => []
 | .leaf i _ :: l => zK [] [lkV s.sl i] ++ GB s l
 | .agg i _ :: l => (match lkV s.sl i with | .ag cs => zK [] cs | _ => []) ++ GB s l
 | .row .. :: l => GB s l
 | .box b _ _ rows :: l => (match lkB s.bx b with | some (.st _ cs) => zK (rows.map (·.2.1)) cs | _ => []) ++ GB s l
def clr (s : SS) : SS := ⟨s.sl, s.bx, s.pr, s.ro, []⟩
def tq (s : SS) : List (Nat × Nat × Nat × Nat × Ty) → List SV → List (Nat × Option aW) → Option (List SV × List (Nat × Option aW))
 | [], cs, bx => some (cs, bx)
 | (j, R, e, k, t) :: l, cs, bx => match cs[j]? with
  | some (.d .nl) => (match lkB bx R, decide (0 < k ∧ R < 1000000), aA s.pr R with
   | none, true, false => tq s l (cs.set j (.row R)) ((R, some (.rw e k t [] [])) :: bx)
   | _, _, _ => none)
  | _ => tq s l cs bx
def FF (wr : List Nat) : List Mod → SS → Option SS
 | [], s => some s
 | .row i R e k t :: l, s => match lkV s.sl i with
  | .d .nl => (match Nat.beq i R, lkB s.bx i, decide (0 < k ∧ i < 1000000), aA wr i, aA s.pr i with
   | true, none, true, true, false => FF wr l ⟨(i, .row i) :: s.sl, (i, some (.rw e k t [] [])) :: s.bx, s.pr, s.ro, s.oc⟩
   | _, _, _, _, _ => none)
  | _ => FF wr l s
 | .box b _ _ [] :: l, s => FF wr l s
 | .box b _ _ rows :: l, s => match lkB s.bx b with
  | some (.st ty cs) => (match aA s.pr b, tq s rows cs s.bx with
   | false, some (cs, bx) => FF wr l ⟨s.sl, (b, some (.st ty cs)) :: bx, s.pr, s.ro, s.oc⟩
   | _, _ => none)
  | _ => none
 | _ :: l, s => FF wr l s
def NA (wr : List Nat) (ms : List Mod) (s : SS) : Option SS := match FF wr ms s with
 | some s => kU (GB s ms) s
 | none => none
def pT (ms : List Mod) (s : SS) : Option (jC ms) := match kU (GB s ms) s with
 | some s => sF s ms
 | none => none
inductive s6 where
 | n
 | s (a b : s6)
 | lp (ms : List Mod) (id : Nat) (ret : Bool) (b : s6)
 | j (ms : List Mod) (h : s6)
def s6.l : s6 → s6
 | .s a _ => a
 | .j _ (.s a _) => a
 | _ => .n
def s6.r : s6 → s6
 | .s _ b => b
 | .j _ (.s _ b) => b
 | _ => .n
structure Cx where
 P : Program
 T : List (Nat × Ent)
 n : Nat
 rs : List PT
 vars : List ResultVar
 fz : List (Nat × List Nat)
 sc : List Nat
 fb : List (Nat × List Nat)
def lkF : List (Nat × List Nat) → Nat → List Nat
 | [], _ => []
 | (j, v) :: l, i => match Nat.beq i j with | true => v | false => lkF l i
def wrC : Code → List Nat
 | .region _ ops _ => cn ops.toList
 | .seq a b => wrC a ++ wrC b
 | .cond (.tmp i) a b => i :: (wrC a ++ wrC b)
 | .cond _ a b => wrC a ++ wrC b
 | .block _ c => wrC c
 | .loop c => wrC c
 | _ => []
def Kp (P : Program) (s : SS) : List ResultVar → Option (List SV)
 | [] => some []
 | .tmp t :: l => match Kp P s l with | some vs => some (lkV s.sl t :: vs) | none => none
 | .cell t ty :: l => match P7 P s ty (lkV s.sl t), Kp P s l with | some v, some vs => some (v :: vs) | _, _ => none
def Yg : List (Nat × Nat × Nat × Ty) → Nat → Bool
 | [], _ => false
 | (j, _) :: l, i => match Nat.beq i j with | true => true | false => Yg l i
def Cv (rows : List (Nat × Nat × Nat × Ty)) : Nat → List SV → List Nat
 | _, [] => []
 | j, c :: cs => match Yg rows j with | true => Cv rows (j + 1) cs | false => M7 c ++ Cv rows (j + 1) cs
def Xl : PT → SV → List Nat
 | .own .., _ => []
 | .agr _ rows, .ag cs => Cv rows 0 cs
 | .agr .., _ => []
 | _, v => M7 v
def PM : List PT → List SV → List Nat
 | p :: ps, v :: vs => Xl p v ++ PM ps vs
 | _, _ => []
def sX (i : Nat) : Nat := 1000000 + 64 * i
def Ye (s : SS) (i : Nat) : IB → List Nat
 | .bx _ _ rows => (match lkB s.bx (sX i) with | some (.st _ cs) => Cv rows 0 cs | _ => [])
 | _ => []
def T8 (s : SS) : Nat → List IB → List Nat
 | _, [] => []
 | i, b :: l => Ye s i b ++ T8 s (i + 1) l
def Wt (s : SS) (i : Nat) : (b : IB) → Option (b.den × List Nat)
 | .no => some ((), [])
 | .own e k t => (match sd s e k t (.row (sX i)) with | some (xs, _) => some (xs, []) | none => none)
 | .bx ty n rows => (match lkB s.bx (sX i) with
  | some (.st ty' cs) => chk (ty' == ty) (Ln s rows n cs)
  | _ => none)
def Qw (s : SS) : Nat → (ls : List IB) → Option (xC ls × List (List Nat))
 | _, [] => some ((), [])
 | i, b :: ls => match Wt s i b, Qw s (i + 1) ls with | some (o, js), some (os, kss) => some ((o, os), js :: kss) | _, _ => none
def I1 (s : SS) : (rs : List PT) → List SV → Option (bf rs × List (List Nat))
 | [], [] => some ((), [])
 | [p], [v] => (match NH s p v with | some (x, is) => some (x, [is]) | none => none)
 | p :: q :: l, v :: vs => (match NH s p v, I1 s (q :: l) vs with | some (x, is), some (xs, iss) => some ((x, xs), is :: iss) | _, _ => none)
 | _, _ => none
def T5 : (rs : List PT) → xC (cz rs) → bf (eS rs) → bf rs
 | [], _, _ => ()
 | [.io _], o, _ => o
 | .io _ :: _ :: _, o, r => (o, r)
 | .own .. :: _, _, r => r
 | .mv .. :: _, _, r => r
 | .bx .. :: _, _, r => r
 | .agr .. :: _, _, r => r
 | .lf _ :: _, _, r => r
 | .ag _ :: _, _, r => r
 | .pl _ :: _, _, r => r
 | .ps _ :: _, _, r => r
 | .fn .. :: _, _, r => r
def dp : Nat → List IB → List Nat
 | _, [] => []
 | i, .no :: l => dp (i + 1) l
 | i, .own .. :: l => sX i :: dp (i + 1) l
 | i, .bx .. :: l => sX i :: dp (i + 1) l
def WS (C : Cx) (s : SS) : Option (bf C.rs) := match Kp C.P s C.vars with
 | some vs => (match kU (T8 s 0 (cz C.rs) ++ PM (eS C.rs) vs) s with
  | some s1 => (match Kp C.P s1 C.vars with
   | some ws => (match Qw s1 0 (cz C.rs), I1 s1 (eS C.rs) ws with
    | some (o, kss), some (r, jss) => chk (rM (dp 0 (cz C.rs) ++ (bl kss ++ bl jss))) (some (T5 C.rs o r))
    | _, _ => none)
   | none => none)
  | none => none)
 | none => none
def Be (C : Cx) (s : SS) : Option (bf C.rs) := match ol C.rs with
 | true => WS C (clr s)
 | false => (match Kp C.P (clr s) C.vars with
  | some vs => Hg (clr s) C.rs vs
  | none => none)
def Tn : List Oper → Bool
 | [] => true
 | o :: l => match o.op, o.dst with | .store .., some _ => false | _, _ => Tn l
def Ub : List Oper → Bool
 | [] => false
 | o :: l => match o.op with | .buildSlice .. => true | _ => Ub l
def Qd : List Oper → Bool
 | [] => false
 | o :: l => match tN o with | some _ => true | none => Qd l
def Tk (ops : Array Oper) : Nat → Nat
 | 0 => 0
 | n + 1 => match (List.range n).all fun k => xQ ops 4 n k with | true => Tk ops n | false => n + 1
def iE (ops : Array Oper) : Nat := match Ub ops.toList, Qd ops.toList with
 | true, true => Tk ops ops.toList.length
 | _, _ => ops.toList.length
def Tw (C : Cx) (id : Nat) (ops : Array Oper) (draw : Bool) (s : SS) {ρ : Type} (k : SS → Option ρ) : Option ρ :=
 match kU (lkF C.fz id) s with
 | none => none
 | some s0 => let s : SS := ⟨s0.sl, s0.bx, s0.pr, s0.ro, []⟩; match draw with
  | false => chk (Tn ops.toList && Ha C.n ops.toList) (te true C.P C.T ops [] 1000 0 [] ops.toList s k)
  | true => chk (Tn ops.toList) (chk (Em (xG (ky C.T s ops.toList [] [])) C.n ops) (match Nat.beq (iE ops) ops.toList.length with
   | true => te false C.P C.T ops (ky C.T s ops.toList [] []) 1000 0 [] ops.toList s k
   | false => chk (Kh (iE ops) ops && decide (iE ops ≤ ops.toList.length)) (te false C.P C.T ops (ky C.T s ops.toList [] []) 1000 0 [] (ops.toList.take (iE ops)) s fun s => te true C.P C.T ops [] 1000 0 [] (ops.toList.drop (iE ops)) s k)))
def VJ (C : Cx) (id : Nat) (ops : Array Oper) (draw : Bool) (s : SS) {ρ : Type} (k : SS → Option ρ) : Option ρ := match lkF C.fb id with
 | [] => Tw C id ops draw s k
 | t :: l => chk (Qn s (t :: l)) (Tw C id ops draw s fun s => match G2 C.sc (t :: l) s with | some s => k s | none => none)
def Gh (C : Cx) (wr : List Nat) (h : s6) (body : (ρ : Type) → SS → (Exit → SS → Option ρ) → (bf C.rs → Option ρ) → Option ρ) (ρ : Type) (s : SS) (k : Exit → SS → Option ρ) (kr : bf C.rs → Option ρ) : Option ρ :=
 match h with
 | .j ms _ => match FF wr ms (clr s) with
  | none => none
  | some s1 => chk (rN C.sc wr ms s.pr s1) (Option.bind (body (jC ms) ⟨s1.sl, s1.bx, (ch C.sc wr ms s1).pr, s1.ro, s1.oc⟩ (fun e s' => match e with | .normal => pT ms s' | _ => none) (fun _ => none)) fun st =>
   match jx ms st (ch C.sc wr ms s1) with
   | some s2 => k .normal ⟨s2.sl, s2.bx, s.pr, s.ro, s.oc⟩
   | none => none)
 | _ => body ρ s k kr
def wI (C : Cx) : Code → s6 → (ρ : Type) → SS → (Exit → SS → Option ρ) → (bf C.rs → Option ρ) → Option ρ
 | .skip, _, _, s, k, _ => k .normal s
 | .label _, _, _, s, k, _ => k .normal s
 | .exit id, _, _, s, k, _ => k (.exit id) s
 | .ret, _, _, s, _, kr => Option.bind (Be C s) kr
 | .region id ops draw, h, ρ, s, k, kr => Gh C (cn ops.toList) h (fun _ s k _ => VJ C id ops draw s fun s => k .normal s) ρ s k kr
 | .seq a b, h, ρ, s, k, kr => Gh C (wrC a ++ wrC b) h (fun ρ s k kr => wI C a h.l ρ s (fun e s' => match e with | .normal => wI C b h.r ρ s' k kr | e => k e s') kr) ρ s k kr
 | .cond c a b, h, ρ, s, k, kr => Gh C (wrC (.cond c a b)) h (fun ρ s k kr => match evX s c with
   | .d (.bool t) => if t = true then wI C a h.l ρ (vI s c true) k kr else wI C b h.r ρ (vI s c false) k kr
   | _ => none) ρ s k kr
 | .block id c, h, ρ, s, k, kr => Gh C (wrC c) h (fun ρ s k kr => wI C c h.l ρ s (fun e s' => match e with | .exit id' => (match Nat.beq id' id with | true => k .normal s' | false => k (.exit id') s') | e => k e s') kr) ρ s k kr
 | .loop c, .lp ms id ret hb, _, s, k, kr => match NA (wrC c) ms (clr s) with
  | none => none
  | some s0 => chk (rN C.sc (wrC c) ms s.pr s0) (match sF s0 ms with
   | none => none
   | some st0 => match ret with
    | false => Option.bind (ah (fun st => match jx ms st (ch C.sc (wrC c) ms s0) with
      | none => none
      | some sh => wI C c hb (jC ms ⊕ jC ms) sh (fun e s' => match e with
       | .normal => Option.bind (pT ms s') fun st' => some (.inl st')
       | .exit id' => (match Nat.beq id' id with | true => Option.bind (pT ms s') fun st' => some (.inr st') | false => none)
       | _ => none) (fun _ => none)) ab st0) fun st => match jx ms st (ch C.sc (wrC c) ms s0) with
      | some s2 => k (.exit id) ⟨s2.sl, s2.bx, s.pr, s.ro, s.oc⟩
      | none => none
    | true => Option.bind (ah (fun st => match jx ms st (ch C.sc (wrC c) ms s0) with
      | none => none
      | some sh => wI C c hb (jC ms ⊕ (jC ms ⊕ bf C.rs)) sh (fun e s' => match e with
       | .normal => Option.bind (pT ms s') fun st' => some (.inl st')
       | .exit id' => (match Nat.beq id' id with | true => Option.bind (pT ms s') fun st' => some (.inr (.inl st')) | false => none)
       | _ => none) (fun r => some (.inr (.inr r)))) ab st0) fun o => match o with
      | .inr r => kr r
      | .inl st => match jx ms st (ch C.sc (wrC c) ms s0) with
       | some s2 => k (.exit id) ⟨s2.sl, s2.bx, s.pr, s.ro, s.oc⟩
       | none => none)
 | _, _, _, _, _, _ => none
def Ar : Nat → List SV → List (Nat × SV)
 | _, [] => []
 | i, v :: vs => (i, v) :: Ar (i + 1) vs
def iC (C : Cx) (c : Code) (h : s6) (ps : List PT) (x : cG ps) : Option (bf C.rs) :=
 wI C c h (bf C.rs) ⟨Ar 0 (Bo ps x), [], [], false, []⟩ (fun e s => match e with | .normal => Be C s | _ => none) (fun r => some r)
def mc (i : Nat) : PT → List Nat
 | .own .. => [sX i]
 | .mv .. => [900000 + 64 * i]
 | .bx _ _ rows => sX i :: List.range' (900000 + 64 * i) rows.length
 | .agr _ rows => List.range' (900000 + 64 * i) rows.length
 | _ => []
def bg : Nat → List PT → List (List Nat)
 | _, [] => []
 | i, p :: ps => mc i p :: bg (i + 1) ps
def X3 : PT → IB → Bool
 | .own .., .own .. => true
 | .bx .., .bx .. => true
 | .own .., _ => false
 | .bx .., _ => false
 | .agr .., _ => false
 | .io _, _ => false
 | _, .no => true
 | _, _ => false
def Nk : List PT → List IB → Bool
 | [], [] => true
 | p :: ps, b :: ls => match X3 p b with | true => Nk ps ls | false => false
 | _, _ => false
def PJ (C : Cx) (c : Code) (h : s6) (ps : List PT) (x : cG ps) : Option (bf C.rs) := match La ps (bg 0 ps) x with
 | some (vs, bx) => chk (rM (idU bx)) (wI C c h (bf C.rs) ⟨Ar 0 vs, bx, [], false, []⟩ (fun e s => match e with | .normal => Be C s | _ => none) (fun r => some r))
 | none => none
end
section
theorem an {ρ : Type} {b : Bool} {k : Option ρ} {r : ρ} (h : chk b k = some r) : b = true ∧ k = some r := by
 cases b
 ·cases h
 ·exact ⟨rfl, h⟩
theorem cV (j : Nat) (v : SV) (l : List (Nat × SV)) (i : Nat) : lkV ((j, v) :: l) i = if i = j then v else lkV l i := by
 simp only [lkV]
 by_cases h : i = j
 ·subst h; simp
 ·have : Nat.beq i j = false := by rw [← Bool.not_eq_true, Nat.beq_eq]; exact h
  rw [this, if_neg h]
theorem au (j : Nat) (v : Option aW) (l : List (Nat × Option aW)) (i : Nat) : lkB ((j, v) :: l) i = if i = j then v else lkB l i := by
 simp only [lkB]
 by_cases h : i = j
 ·subst h; simp
 ·have : Nat.beq i j = false := by rw [← Bool.not_eq_true, Nat.beq_eq]; exact h
  rw [this, if_neg h]
theorem qL (j : Nat) (v : Pin) (l : List (Nat × Pin)) (i : Nat) : lkP ((j, v) :: l) i = if i = j then some v else lkP l i := by
 simp only [lkP]
 by_cases h : i = j
 ·subst h; simp
 ·have : Nat.beq i j = false := by rw [← Bool.not_eq_true, Nat.beq_eq]; exact h
  rw [this, if_neg h]
theorem cW (a b : Nat) : Nat.beq a b = decide (a = b) := by
 by_cases h : a = b
 ·subst h; simp
 ·have : Nat.beq a b = false := by rw [← Bool.not_eq_true, Nat.beq_eq]; exact h
  simp [this, h]
theorem uI (l : List (Nat × SV)) (dst : Option Nat) (v : SV) (i : Nat) : lkV (rC l dst v) i = if dst = some i then v else lkV l i := by
 cases dst with
 | none => simp [rC]
 | some d =>
  simp only [rC, cV, Option.some.injEq]
  by_cases h : i = d
  ·subst h; simp
  ·rw [if_neg h, if_neg (Ne.symm h)]
theorem IH : ∀ cs : List SD, zV cs = cs.map .d
 | [] => rfl
 | c :: cs => by simp [zV, IH cs]
theorem o7 : ∀ (t : Ty) (x : t.den), (bJ t x).length = tyN t
 | .int _, _ => rfl
 | .bool, _ => rfl
 | .str, _ => rfl
 | .sl _, _ => rfl
 | .st i, x => VA i x
theorem CD : ∀ (t : Ty) (x : t.den), (Ae t x).map SD.toD = bJ t x
 | .int _, _ => rfl
 | .bool, _ => rfl
 | .str, _ => rfl
 | .sl _, _ => rfl
 | .st i, x => tb i x
theorem Qp : ∀ (t : Ty) (x : t.den), ∀ c ∈ Ae t x, c ≠ .nl
 | .int _, _, c, h => by simp [Ae] at h; subst h; exact fun e => by cases e
 | .bool, _, c, h => by simp [Ae] at h; subst h; exact fun e => by cases e
 | .str, _, c, h => by simp [Ae] at h; subst h; exact fun e => by cases e
 | .sl _, _, c, h => by simp [Ae] at h; subst h; exact fun e => by cases e
 | .st i, x, c, h => wd i x c h
theorem dE {α : Type} {x : α} {Q : Prop} (h : (none : Option α) = some x) : Q := by cases h
theorem I0 : ∀ {t : Ty} {cs : List SD} {x : t.den}, Wo t cs = some x → cs.map SD.toD = bJ t x
 | .st i, cs, x, h => zG h
 | .int k, [], x, h => dE (x := x) h
 | .int k, [c], x, h => (SD.as_ok (t := (.int k)) h).symm
 | .int k, _ :: _ :: _, x, h => dE (x := x) h
 | .bool, [], x, h => dE (x := x) h
 | .bool, [c], x, h => (SD.as_ok (t := .bool) h).symm
 | .bool, _ :: _ :: _, x, h => dE (x := x) h
 | .str, [], x, h => dE (x := x) h
 | .str, [c], x, h => (SD.as_ok (t := .str) h).symm
 | .str, _ :: _ :: _, x, h => dE (x := x) h
 | .sl t, [], x, h => dE (x := x) h
 | .sl t, [c], x, h => (SD.as_ok (t := (.sl t)) h).symm
 | .sl t, _ :: _ :: _, x, h => dE (x := x) h
def J4 : SD → D → Prop
 | .nl, y => y = .v (.slice none 0 0)
 | c, y => nrm y = c.toD
theorem J4.nrm {c : SD} {y : D} (h : J4 c y) : nrm y = c.toD := by
 cases c <;> first | exact h | (cases h; rfl)
theorem J4.of {c : SD} (hc : c ≠ .nl) : J4 c c.toD := by
 cases c <;> first | rfl | exact absurd rfl hc
theorem TQ {y : D} {x : Value} (h : nrm y = .v x) : y = .v x := by
 unfold Go.Proofs.YtchddofjajgopaaGreat.nrm at h
 split at h
 ·cases h
 ·exact h
theorem Xs {y : D} {es : List (List D)} (h : nrm y = .sl es) : y = .sl es ∨ (es = [] ∧ y = .v (.slice none 0 0)) := by
 unfold Go.Proofs.YtchddofjajgopaaGreat.nrm at h
 split at h
 ·injection h with h; exact .inr ⟨h.symm, rfl⟩
 ·exact .inl h
inductive a8 (B : List (Nat × Option aW)) : SV → PV → Prop
 | junk (q : PV) : a8 B .junk q
 | d (c : SD) (y : D) (h : J4 c y) : a8 B (.d c) (.d y)
 | ag (cs : List SV) (qs : List PV) (hl : cs.length = qs.length) (hr : ∀ (j : Nat) c q, cs[j]? = some c → qs[j]? = some q → a8 B c q) : a8 B (.ag cs) (.ag qs)
 | tup (cs : List SV) (qs : List PV) (hl : cs.length = qs.length) (hr : ∀ (j : Nat) c q, cs[j]? = some c → qs[j]? = some q → a8 B c q) : a8 B (.tup cs) (.tup qs)
 | ptr (t o : Nat) (ty : TypeId) (cs : List SV) (hb : lkB B t = some (.st ty cs)) : a8 B (.ptr t o) (.ptr t o)
 | row (t n e k : Nat) (ty : Ty) (xs : List ty.den) (pins : List (Nat × Pin)) (hb : lkB B t = some (.rw e k ty xs pins)) (hn : xs.length = n) : a8 B (.row t) (.row t n)
 | re (t p o n i e k : Nat) (ty : Ty) (xs : List ty.den) (pins : List (Nat × Pin)) (pin : Pin) (hb : lkB B t = some (.rw e k ty xs pins)) (hn : xs.length = n) (hp : lkP pins p = some pin) (hi : i = pin.i.toNat) : a8 B (.re t p o) (.re t n i o)
 | vw (t lo hi n e k : Nat) (ty : Ty) (xs : List ty.den) (pins : List (Nat × Pin)) (hb : lkB B t = some (.rw e k ty xs pins)) (hn : xs.length = n) : a8 B (.vw t lo hi) (.vw t n lo hi)
 | fe (cs : List SD) (ds : List D) (h : ds = cs.map SD.toD) (hn : ∀ c ∈ cs, c ≠ .nl) : a8 B (.fe cs) (.fe ds)
 | fn (f : FuncId) (ps qs : List SV) (ps' qs' : List PV) (hl : ps.length = ps'.length) (hr : ∀ (j : Nat) c q, ps[j]? = some c → ps'[j]? = some q → a8 B c q) (hl2 : qs.length = qs'.length) (hr2 : ∀ (j : Nat) c q, qs[j]? = some c → qs'[j]? = some q → a8 B c q) : a8 B (.fn f ps qs) (.fn f ps' qs')
structure cd (B : List (Nat × Option aW)) (cs : List SV) (qs : List PV) : Prop where
 len : cs.length = qs.length
 rep : ∀ (j : Nat) c q, cs[j]? = some c → qs[j]? = some q → a8 B c q
def XS (ty : Ty) (xs : List ty.den) (pins : List (Nat × Pin)) : Prop := ∀ p pin, lkP pins p = some pin → pin.i.toNat < xs.length ∧ ∀ cs, pin.cs = some cs → ∃ x, xs[pin.i.toNat]? = some x ∧ cs = Ae ty x
def lU (B : List (Nat × Option aW)) (oc : Bool) : Option aW → Option Box → Prop
 | none, q => oc = false → q = none
 | some (.st ty cs), q => ∃ qs, q = some (.st ty qs) ∧ cd B cs qs
 | some (.rw e k ty xs pins), q => q = some (.rw e k (xs.map (bJ ty))) ∧ XS ty xs pins
structure Sim (s : SS) (p : PS) : Prop where
 sl : ∀ i, a8 s.bx (lkV s.sl i) (p.t i)
 bx : ∀ t, lU s.bx (aA s.oc t) (lkB s.bx t) (p.b t)
structure BLe (B B' : List (Nat × Option aW)) : Prop where
 rw : ∀ t e k ty xs pins, lkB B t = some (.rw e k ty xs pins) → ∃ e' k' ty' xs' pins', lkB B' t = some (.rw e' k' ty' xs' pins') ∧ xs'.length = xs.length ∧ ∀ p pin, lkP pins p = some pin → ∃ pin', lkP pins' p = some pin' ∧ pin'.i = pin.i
 st : ∀ t ty cs, lkB B t = some (.st ty cs) → ∃ ty' cs', lkB B' t = some (.st ty' cs')
theorem BLe.refl (B : List (Nat × Option aW)) : BLe B B := ⟨fun _ e k ty xs pins h => ⟨e, k, ty, xs, pins, h, rfl, fun _ pin hp => ⟨pin, hp, rfl⟩⟩, fun _ ty cs h => ⟨ty, cs, h⟩⟩
theorem a8.mono {B B' : List (Nat × Option aW)} {v : SV} {q : PV} (h : a8 B v q) (hB : BLe B B') : a8 B' v q := by
 induction h with
 | junk q => exact .junk q
 | d c y h => exact .d c y h
 | ag cs qs hl hr ih => exact .ag cs qs hl ih
 | tup cs qs hl hr ih => exact .tup cs qs hl ih
 | ptr t o ty cs hb => obtain ⟨ty', cs', h1⟩ := hB.st t ty cs hb; exact .ptr t o ty' cs' h1
 | row t n e k ty xs pins hb hn =>
  obtain ⟨e', k', ty', xs', pins', h1, h2, h3⟩ := hB.rw t e k ty xs pins hb
  exact .row t n e' k' ty' xs' pins' h1 (h2.trans hn)
 | re t p o n i e k ty xs pins pin hb hn hp hi =>
  obtain ⟨e', k', ty', xs', pins', h1, h2, h3⟩ := hB.rw t e k ty xs pins hb
  obtain ⟨pin', h4, h5⟩ := h3 p pin hp
  exact .re t p o n i e' k' ty' xs' pins' pin' h1 (h2.trans hn) h4 (by rw [h5]; exact hi)
 | vw t lo hi n e k ty xs pins hb hn =>
  obtain ⟨e', k', ty', xs', pins', h1, h2, h3⟩ := hB.rw t e k ty xs pins hb
  exact .vw t lo hi n e' k' ty' xs' pins' h1 (h2.trans hn)
 | fe cs ds h hn => exact .fe cs ds h hn
 | fn f ps qs ps' qs' hl hr hl2 hr2 ih ih2 => exact .fn f ps qs ps' qs' hl ih hl2 ih2
theorem cd.mono {B B' : List (Nat × Option aW)} {cs : List SV} {qs : List PV} (h : cd B cs qs) (hB : BLe B B') : cd B' cs qs := ⟨h.len, fun j c q h1 h2 => (h.rep j c q h1 h2).mono hB⟩
theorem lU.mono {B B' : List (Nat × Option aW)} {oc : Bool} {b : Option aW} {q : Option Box} (h : lU B oc b q) (hB : BLe B B') : lU B' oc b q := by
 cases b with
 | none => exact h
 | some b => cases b with
  | st ty cs => obtain ⟨qs, h1, h2⟩ := h; exact ⟨qs, h1, h2.mono hB⟩
  | rw e k ty xs pins => exact h
variable {B : List (Nat × Option aW)}
theorem cd.nil : cd B [] [] := ⟨rfl, fun j c q h => by simp at h⟩
theorem cd.cons {c : SV} {q : PV} {cs : List SV} {qs : List PV} (h : a8 B c q) (hs : cd B cs qs) : cd B (c :: cs) (q :: qs) :=
 ⟨by simp [hs.len], fun j c' q' h1 h2 => by
  cases j with
  | zero => simp at h1 h2; subst h1 h2; exact h
  | succ j => simp at h1 h2; exact hs.rep j _ _ h1 h2⟩
theorem cd.head {c : SV} {q : PV} {cs : List SV} {qs : List PV} (h : cd B (c :: cs) (q :: qs)) : a8 B c q := h.rep 0 c q rfl rfl
theorem cd.tail {c : SV} {q : PV} {cs : List SV} {qs : List PV} (h : cd B (c :: cs) (q :: qs)) : cd B cs qs :=
 ⟨by have := h.len; simpa using this, fun j c' q' h1 h2 => h.rep (j + 1) c' q' (by simpa using h1) (by simpa using h2)⟩
theorem cd.cases {cs : List SV} {qs : List PV} (h : cd B cs qs) : (cs = [] ∧ qs = []) ∨ ∃ c q cs' qs', cs = c :: cs' ∧ qs = q :: qs' ∧ a8 B c q ∧ cd B cs' qs' := by
 cases cs with
 | nil => cases qs with
  | nil => exact .inl ⟨rfl, rfl⟩
  | cons q qs => have := h.len; simp at this
 | cons c cs => cases qs with
  | nil => have := h.len; simp at this
  | cons q qs => exact .inr ⟨c, q, cs, qs, rfl, rfl, h.head, h.tail⟩
theorem cd.take {cs : List SV} {qs : List PV} (h : cd B cs qs) (n : Nat) : cd B (cs.take n) (qs.take n) :=
 ⟨by simp [h.len], fun j c q h1 h2 => by
  rw [List.getElem?_take] at h1 h2
  split at h1
  ·rename_i hj; rw [if_pos hj] at h2; exact h.rep j c q h1 h2
  ·cases h1⟩
theorem cd.drop {cs : List SV} {qs : List PV} (h : cd B cs qs) (n : Nat) : cd B (cs.drop n) (qs.drop n) :=
 ⟨by simp [h.len], fun j c q h1 h2 => by
  rw [List.getElem?_drop] at h1 h2
  exact h.rep _ c q h1 h2⟩
theorem cd.append {cs ds : List SV} {qs ws : List PV} (h : cd B cs qs) (h' : cd B ds ws) : cd B (cs ++ ds) (qs ++ ws) :=
 ⟨by simp [h.len, h'.len], fun j c q h1 h2 => by
  rw [List.getElem?_append] at h1 h2
  rw [h.len] at h1
  split at h1
  ·rename_i hj; rw [if_pos hj] at h2; exact h.rep j c q h1 h2
  ·rename_i hj; rw [if_neg hj] at h2; exact h'.rep _ c q h1 h2⟩
theorem mg {α : Type} : ∀ (cs : List α) (o : Nat) (ns : List α), o + ns.length ≤ cs.length → mN cs o ns = splice cs o ns
 | [], 0, [], _ => rfl
 | [], 0, n :: ns, h => by simp at h
 | [], o + 1, ns, h => by simp at h
 | c :: cs, 0, [], _ => by simp [mN, splice]
 | c :: cs, 0, n :: ns, h => by
  simp only [mN]
  rw [mg cs 0 ns (by simp at h ⊢; omega)]
  simp [splice]
 | c :: cs, o + 1, ns, h => by
  simp only [mN]
  rw [mg cs o ns (by simp at h ⊢; omega)]
  unfold splice
  rw [show o + 1 + ns.length = (o + ns.length) + 1 by omega]
  simp
theorem cd.splice {cs ns : List SV} {qs ws : List PV} (h : cd B cs qs) (h' : cd B ns ws) (o : Nat) : cd B (Go.Proofs.YtchddofjajgopaaGreat.splice cs o ns) (Go.Proofs.YtchddofjajgopaaGreat.splice qs o ws) := by
 unfold Go.Proofs.YtchddofjajgopaaGreat.splice
 rw [h'.len]
 exact ((h.take o).append h').append (h.drop _)
end
section
variable {B : List (Nat × Option aW)} {s : SS} {p : PS}
theorem kJ (hs : Sim s p) {dst : Option Nat} {v : SV} {q : PV} (hv : a8 s.bx v q) : Sim (s.upd dst v .no) (p.upd dst q none) := by
 refine ⟨fun i => ?_, fun t => hs.bx t⟩
 show a8 s.bx (lkV (rC s.sl dst v) i) (wb p.t dst q i)
 rw [uI]
 unfold wb
 split
 ·exact hv
 ·exact hs.sl i
theorem zH {sl : List (Nat × SV)} {pr oc : List Nat} {ro : Bool} {dst : Option Nat} {v : SV} {q : PV} {B' : List (Nat × Option aW)} {u : Option (Nat × Box)} (h1 : ∀ i, dst ≠ some i → a8 B' (lkV sl i) (p.t i)) (h2 : ∀ t, lU B' (aA oc t) (lkB B' t) (dm p.b u t)) (hv : a8 B' v q) :
  Sim ⟨rC sl dst v, B', pr, ro, oc⟩ (p.upd dst q u) := by
 refine ⟨fun i => ?_, h2⟩
 show a8 B' (lkV (rC sl dst v) i) (wb p.t dst q i)
 rw [uI]
 unfold wb
 split
 ·exact hv
 ·rename_i h; exact h1 i h
theorem n7 (hs : Sim s p) {pr : List Nat} {ro : Bool} {dst : Option Nat} {v : SV} {q : PV} {t : Nat} {b : aW} {b' : Box} (hB : BLe s.bx ((t, some b) :: s.bx)) (hb : ∀ oc, lU ((t, some b) :: s.bx) oc (some b) (some b')) (hv : a8 ((t, some b) :: s.bx) v q) :
  Sim ⟨rC s.sl dst v, (t, some b) :: s.bx, pr, ro, s.oc⟩ (p.upd dst q (some (t, b'))) := by
 refine zH (fun i _ => (hs.sl i).mono hB) (fun t' => ?_) hv
 rw [au]
 simp only [dm]
 split
 ·exact hb _
 ·exact (hs.bx t').mono hB
theorem VC (hs : Sim s p) {pr : List Nat} {ro : Bool} {dst : Option Nat} {v : SV} {q : PV} {t : Nat} {b : aW} (hB : BLe s.bx ((t, some b) :: s.bx)) (hb : ∀ oc, lU ((t, some b) :: s.bx) oc (some b) (p.b t)) (hv : a8 ((t, some b) :: s.bx) v q) :
  Sim ⟨rC s.sl dst v, (t, some b) :: s.bx, pr, ro, s.oc⟩ (p.upd dst q none) := by
 refine zH (fun i _ => (hs.sl i).mono hB) (fun t' => ?_) hv
 rw [au]
 simp only [dm]
 split
 ·rename_i h; subst h; exact hb _
 ·exact (hs.bx t').mono hB
theorem p7 {b : aW} {t : Nat} (h : lkB B t = none) : BLe B ((t, some b) :: B) := by
 refine ⟨fun t' e k ty xs pins h1 => ?_, fun t' ty cs h1 => ?_⟩
 ·have : ¬ t' = t := fun e => by rw [e, h] at h1; cases h1
  exact ⟨e, k, ty, xs, pins, by rw [au, if_neg this]; exact h1, rfl, fun _ pin hp => ⟨pin, hp, rfl⟩⟩
 ·have : ¬ t' = t := fun e => by rw [e, h] at h1; cases h1
  exact ⟨ty, cs, by rw [au, if_neg this]; exact h1⟩
theorem NL {ty ty' : TypeId} {cs cs' : List SV} {t : Nat} (h : lkB B t = some (.st ty cs)) : BLe B ((t, some (.st ty' cs')) :: B) := by
 refine ⟨fun t' e k ty xs pins h1 => ?_, fun t' ty2 cs2 h1 => ?_⟩
 ·have : ¬ t' = t := fun e => by rw [e, h] at h1; cases h1
  exact ⟨e, k, ty, xs, pins, by rw [au, if_neg this]; exact h1, rfl, fun _ pin hp => ⟨pin, hp, rfl⟩⟩
 ·rw [au]
  split
  ·exact ⟨_, _, rfl⟩
  ·exact ⟨_, _, h1⟩
theorem NM {e k : Nat} {ty : Ty} {xs xs' : List ty.den} {pins pins' : List (Nat × Pin)} {t : Nat} (h : lkB B t = some (.rw e k ty xs pins)) (hl : xs'.length = xs.length) (hp : ∀ p pin, lkP pins p = some pin → ∃ pin', lkP pins' p = some pin' ∧ pin'.i = pin.i) : BLe B ((t, some (.rw e k ty xs' pins')) :: B) := by
 refine ⟨fun t' e2 k2 ty2 xs2 pins2 h1 => ?_, fun t' ty2 cs2 h1 => ?_⟩
 ·rw [au]
  split
  ·rename_i ht
   subst ht
   rw [h] at h1
   injection h1 with h1
   injection h1 with e1 e2 e3 e4 e5
   subst e3
   have e4 := eq_of_heq e4
   subst e4 e5
   exact ⟨e, k, ty, xs', pins', rfl, hl, hp⟩
  ·exact ⟨e2, k2, ty2, xs2, pins2, h1, rfl, fun _ pin hp => ⟨pin, hp, rfl⟩⟩
 ·have : ¬ t' = t := fun e => by rw [e, h] at h1; cases h1
  exact ⟨_, _, by rw [au, if_neg this]; exact h1⟩
def Kj (t : Nat) : aW → aW
 | .st ty cs => .st ty (im t cs)
 | b => b
theorem jb (t : Nat) : ∀ (l : List (Nat × Option aW)) (i : Nat), lkB (nH t l) i = (lkB l i).map (Kj t)
 | [], _ => rfl
 | (j, none) :: l, i => by simp only [nH, au, jb t l i]; split <;> rfl
 | (j, some (.st ty cs)) :: l, i => by simp only [nH, au, jb t l i]; split <;> rfl
 | (j, some (.rw e k ty xs pins)) :: l, i => by simp only [nH, au, jb t l i]; split <;> rfl
theorem zW (t : Nat) : ∀ (l : List (Nat × SV)) (i : Nat), lkV (C2 t l) i = stale t (lkV l i)
 | [], _ => rfl
 | (j, v) :: l, i => by simp only [C2, cV, zW t l i]; split <;> rfl
theorem me (t : Nat) : ∀ (cs : List SV) (j : Nat), (im t cs)[j]? = (cs[j]?).map (stale t)
 | [], j => by simp [im]
 | c :: cs, 0 => by simp [im]
 | c :: cs, j + 1 => by simpa [im] using me t cs j
theorem jX (t : Nat) : ∀ cs : List SV, (im t cs).length = cs.length
 | [] => rfl
 | c :: cs => by simp [im, jX t cs]
structure S9 (t : Nat) (B B' : List (Nat × Option aW)) : Prop where
 rw : ∀ t', t' ≠ t → ∀ e k ty xs pins, lkB B t' = some (.rw e k ty xs pins) → lkB B' t' = some (.rw e k ty xs pins)
 st : ∀ t' ty cs, lkB B t' = some (.st ty cs) → ∃ ty' cs', lkB B' t' = some (.st ty' cs')
theorem a8.stale {B' : List (Nat × Option aW)} {t : Nat} {v : SV} {q : PV} (h : a8 B v q) (hB : S9 t B B') : a8 B' (stale t v) q := by
 induction h with
 | junk q => exact .junk q
 | d c y h => exact .d c y h
 | ag cs qs hl hr ih =>
  refine .ag _ qs (by rw [jX]; exact hl) (fun j c q h1 h2 => ?_)
  rw [me, zm] at h1
  obtain ⟨c', h3, rfl⟩ := h1
  exact ih j c' q h3 h2
 | tup cs qs hl hr ih =>
  refine .tup _ qs (by rw [jX]; exact hl) (fun j c q h1 h2 => ?_)
  rw [me, zm] at h1
  obtain ⟨c', h3, rfl⟩ := h1
  exact ih j c' q h3 h2
 | ptr t' o ty cs hb => obtain ⟨ty', cs', h1⟩ := hB.st t' ty cs hb; exact .ptr t' o ty' cs' h1
 | row t' n e k ty xs pins hb hn =>
  simp only [Go.Proofs.YtchddofjajgopaaGreat.stale, cW]
  by_cases h : t' = t
  ·simp only [h, decide_true]; exact .junk _
  ·simp only [h, decide_false]; exact .row t' n e k ty xs pins (hB.rw t' h _ _ _ _ _ hb) hn
 | re t' p o n i e k ty xs pins pin hb hn hp hi =>
  simp only [Go.Proofs.YtchddofjajgopaaGreat.stale, cW]
  by_cases h : t' = t
  ·simp only [h, decide_true]; exact .junk _
  ·simp only [h, decide_false]; exact .re t' p o n i e k ty xs pins pin (hB.rw t' h _ _ _ _ _ hb) hn hp hi
 | vw t' lo hi n e k ty xs pins hb hn =>
  simp only [Go.Proofs.YtchddofjajgopaaGreat.stale, cW]
  by_cases h : t' = t
  ·simp only [h, decide_true]; exact .junk _
  ·simp only [h, decide_false]; exact .vw t' lo hi n e k ty xs pins (hB.rw t' h _ _ _ _ _ hb) hn
 | fe cs ds h hn => exact .fe cs ds h hn
 | fn f ps qs ps' qs' hl hr hl2 hr2 ih ih2 =>
  refine .fn f _ _ ps' qs' (by rw [jX]; exact hl) (fun j c q h1 h2 => ?_) (by rw [jX]; exact hl2) (fun j c q h1 h2 => ?_)
  ·rw [me, zm] at h1
   obtain ⟨c', h3, rfl⟩ := h1
   exact ih j c' q h3 h2
  ·rw [me, zm] at h1
   obtain ⟨c', h3, rfl⟩ := h1
   exact ih2 j c' q h3 h2
theorem cd.stale {B' : List (Nat × Option aW)} {t : Nat} {cs : List SV} {qs : List PV} (h : cd B cs qs) (hB : S9 t B B') : cd B' (im t cs) qs :=
 ⟨by rw [jX]; exact h.len, fun j c q h1 h2 => by
  rw [me, zm] at h1
  obtain ⟨c', h3, rfl⟩ := h1
  exact (h.rep j c' q h3 h2).stale hB⟩
theorem To (hs : Sim s p) {dst : Option Nat} {v : SV} {q : PV} {t e k : Nat} {ty : Ty} {zs xs0 : List ty.den} {pins0 : List (Nat × Pin)} (h0 : lkB s.bx t = some (.rw e k ty xs0 pins0)) (hv : a8 ((t, some (.rw e k ty zs [])) :: nH t s.bx) v q) :
  Sim (s.upd dst v (.grow t (.rw e k ty zs []))) (p.upd dst q (some (t, .rw e k (zs.map (bJ ty))))) := by
 have hX : S9 t s.bx ((t, some (.rw e k ty zs [])) :: nH t s.bx) := by
  refine ⟨fun t' ht e2 k2 ty2 xs2 pins2 h => ?_, fun t' ty2 cs2 h => ?_⟩
  ·rw [au, if_neg ht, jb, h]
   rfl
  ·have : ¬ t' = t := fun e => by rw [e, h0] at h; cases h
   rw [au, if_neg this, jb, h]
   exact ⟨_, _, rfl⟩
 refine zH (fun i _ => ?_) (fun t' => ?_) hv
 ·rw [zW]
  exact (hs.sl i).stale hX
 ·rw [au]
  simp only [dm]
  split
  ·exact ⟨rfl, fun p pin h => by cases h⟩
  ·rename_i ht
   rw [jb]
   have h := hs.bx t'
   cases hb : lkB s.bx t' with
   | none => rw [hb] at h; exact h
   | some b =>
    rw [hb] at h
    cases b with
    | st ty2 cs => obtain ⟨qs, h1, h2⟩ := h; exact ⟨qs, h1, h2.stale hX⟩
    | rw e2 k2 ty2 xs2 pins2 => exact h
def kv : Option aW → Option aW → Prop
 | some (.rw e k ty xs _), b => ∃ pins', b = some (.rw e k ty xs pins')
 | a, b => b = a
theorem kv.refl (a : Option aW) : kv a a := by
 match a with
 | none => rfl
 | some (.st _ _) => rfl
 | some (.rw _ _ _ _ pins) => exact ⟨pins, rfl⟩
theorem kv.trans {a b c : Option aW} (h : kv a b) (h' : kv b c) : kv a c := by
 match a, h with
 | none, h => cases h; exact h'
 | some (.st _ _), h => cases h; exact h'
 | some (.rw _ _ _ _ _), ⟨pins, h⟩ =>
  subst h
  obtain ⟨pins', h'⟩ := h'
  exact ⟨pins', h'⟩
mutual
def kL (pr : List Nat) : SV → Bool
 | .row t => aA pr t
 | .re _ _ _ => false
 | .vw _ _ _ => false
 | .ag cs => dX pr cs
 | .tup cs => dX pr cs
 | .fn _ ps qs => dX pr ps && dX pr qs
 | _ => true
def dX (pr : List Nat) : List SV → Bool
 | [] => true
 | c :: cs => kL pr c && dX pr cs
end
structure dD (sc W : List Nat) (s s' : SS) : Prop where
 pr : s'.pr = s.pr
 ro : s'.ro = s.ro
 bx : ∀ t, aA s.pr t = true → kv (lkB s.bx t) (lkB s'.bx t)
 sl : ∀ i, aA W i = false → kL s.pr (lkV s.sl i) = true → lkV s'.sl i = lkV s.sl i
 st : ∀ t, aA sc t = true → ∀ ty cs, lkB s.bx t = some (.st ty cs) → ∃ cs', lkB s'.bx t = some (.st ty cs') ∧ cs'.length = cs.length
variable {sc : List Nat}
theorem dD.refl (W : List Nat) (s : SS) : dD sc W s s := ⟨rfl, rfl, fun _ _ => .refl _, fun _ _ _ => rfl, fun _ _ _ cs h => ⟨cs, h, rfl⟩⟩
theorem dD.trans {W : List Nat} {s s' s'' : SS} (h : dD sc W s s') (h' : dD sc W s' s'') : dD sc W s s'' :=
 ⟨h'.pr.trans h.pr, h'.ro.trans h.ro, fun t ht => (h.bx t ht).trans (h'.bx t (by rw [h.pr]; exact ht)), fun i hi hsf => by
  have e := h.sl i hi hsf
  rw [h'.sl i hi (by rw [e, h.pr]; exact hsf), e], fun t ht ty cs h1 => by
  obtain ⟨cs1, h2, h3⟩ := h.st t ht ty cs h1
  obtain ⟨cs2, h4, h5⟩ := h'.st t ht ty cs1 h2
  exact ⟨cs2, h4, h5.trans h3⟩⟩
theorem dD.wide {W W' : List Nat} {s s' : SS} (h : dD sc W s s') (hW : ∀ i, aA W i = true → aA W' i = true) : dD sc W' s s' :=
 ⟨h.pr, h.ro, h.bx, fun i hi hsf => h.sl i (by cases e : aA W i; rfl; rw [hW i e] at hi; cases hi) hsf, h.st⟩
theorem xi {s : SS} {t : Nat} (h : wrB s t = true) : s.ro = false ∧ aA s.pr t = false := by
 unfold wrB at h
 split at h
 ·cases h
 ·rename_i h1; exact ⟨h1, by simpa using h⟩
theorem mq {s : SS} {t : Nat} (h : IE s t = true) : aA s.oc t = false ∧ aA s.pr t = false := by
 unfold IE at h
 split at h
 ·cases h
 ·rename_i h1; exact ⟨h1, by simpa using h⟩
def OkU (s : SS) : Upd → Prop
 | .no => True
 | .new t _ => aA s.pr t = false ∧ lkB s.bx t = none
 | .set t b => aA s.pr t = false ∧ ∀ ty cs, lkB s.bx t = some (.st ty cs) → ∃ cs', b = .st ty cs' ∧ cs'.length = cs.length
 | .grow t _ => aA s.pr t = false ∧ ∀ ty cs, lkB s.bx t ≠ some (.st ty cs)
 | .pin t b => kv (lkB s.bx t) (some b)
def OkW (s : SS) (dst : Option Nat) (u : Upd) (w : Option (Nat × Box)) : Prop := ∀ t b, w = some (t, b) → ((lkB s.bx t = none ∧ dst = some t) ∨ s.ro = false) ∧ fj.memL (Ti u) t = true
theorem dL {s : SS} {dst : Option Nat} {u : Upd} : OkW s dst u none := fun _ _ h => by cases h
theorem Dx (t : Nat) : fj.memL [t] t = true := by rw [zU]; simp
theorem xF {s : SS} {dst : Option Nat} {t : Nat} {b : Box} {sb : aW} (h : lkB s.bx t = none) (hd : dst = some t) : OkW s dst (.new t sb) (some (t, b)) := fun t' b' e => by injection e with e; injection e with e1 e2; subst e1; exact ⟨.inl ⟨h, hd⟩, Dx t⟩
theorem Nj {s : SS} {dst : Option Nat} {t : Nat} {b : Box} {sb : aW} (h : s.ro = false) : OkW s dst (.set t sb) (some (t, b)) := fun t' b' e => by injection e with e; injection e with e1 e2; subst e1; exact ⟨.inr h, Dx t⟩
theorem Xq {s : SS} {dst : Option Nat} {t : Nat} {b : Box} {sb : aW} (h : s.ro = false) : OkW s dst (.grow t sb) (some (t, b)) := fun t' b' e => by injection e with e; injection e with e1 e2; subst e1; exact ⟨.inr h, Dx t⟩
theorem Ds {pr : List Nat} {t t' : Nat} (ht : aA pr t = false) (h : aA pr t' = true) : ¬ t' = t := fun e => by rw [e, ht] at h; cases h
mutual
theorem C1 {pr : List Nat} {t : Nat} (ht : aA pr t = false) : ∀ v : SV, kL pr v = true → stale t v = v
 | .junk, _ => rfl
 | .d _, _ => rfl
 | .fe _, _ => rfl
 | .ptr _ _, _ => rfl
 | .row t', h => by
  have := Ds ht (show aA pr t' = true from h)
  simp only [stale, cW, this, decide_false]
 | .re _ _ _, h => by cases h
 | .vw _ _ _, h => by cases h
 | .ag cs, h => by simp only [stale]; rw [ng ht cs h]
 | .tup cs, h => by simp only [stale]; rw [ng ht cs h]
 | .fn f ps qs, h => by
  have h : (dX pr ps && dX pr qs) = true := h
  rw [Bool.and_eq_true] at h
  simp only [stale]; rw [ng ht ps h.1, ng ht qs h.2]
theorem ng {pr : List Nat} {t : Nat} (ht : aA pr t = false) : ∀ cs : List SV, dX pr cs = true → im t cs = cs
 | [], _ => rfl
 | c :: cs, h => by
  simp only [dX, Bool.and_eq_true] at h
  simp only [im]
  rw [C1 ht c h.1, ng ht cs h.2]
end
mutual
theorem Ki {t : Nat} : ∀ v : SV, oU v = true → stale t v = v
 | .junk, _ => rfl
 | .d _, _ => rfl
 | .fe _, _ => rfl
 | .ptr _ _, _ => rfl
 | .row _, h => by cases h
 | .re _ _ _, h => by cases h
 | .vw _ _ _, h => by cases h
 | .ag cs, h => by simp only [stale]; rw [ja cs h]
 | .tup cs, h => by simp only [stale]; rw [ja cs h]
 | .fn f ps qs, h => by
  have h : (match cC ps with | true => cC qs | false => false) = true := h
  split at h
  ·rename_i h1; simp only [stale]; rw [ja ps h1, ja qs h]
  ·cases h
theorem ja {t : Nat} : ∀ cs : List SV, cC cs = true → im t cs = cs
 | [], _ => rfl
 | c :: cs, h => by
  simp only [cC] at h
  split at h
  ·rename_i h1
   simp only [im]
   rw [Ki c h1, ja cs h]
  ·cases h
end
def lO (s : SS) : Prop := ∀ t, aA s.pr t = true → ∃ b, lkB s.bx t = some b ∧ xA b = true
theorem dD.prOk {W : List Nat} {s s' : SS} (h : dD sc W s s') (hp : lO s) : lO s' := by
 intro t ht
 rw [h.pr] at ht
 obtain ⟨b, h1, h2⟩ := hp t ht
 have := h.bx t ht
 rw [h1] at this
 cases b with
 | st ty cs => exact ⟨_, this, h2⟩
 | rw e k ty xs pins =>
  obtain ⟨pins', h3⟩ := this
  exact ⟨_, h3, rfl⟩
theorem xP {W : List Nat} {dst : Option Nat} {v : SV} {u : Upd} (hu : OkU s u) (hW : ∀ d, dst = some d → aA W d = true) (hpr : lO s) : dD sc W s (s.upd dst v u) := by
 have sl : ∀ i, aA W i = false → lkV (rC s.sl dst v) i = lkV s.sl i := fun i hi => by
  rw [uI, if_neg (fun e => by rw [hW i e] at hi; cases hi)]
 have one : ∀ t b, aA s.pr t = false → ∀ t', aA s.pr t' = true → kv (lkB s.bx t') (lkB ((t, some b) :: s.bx) t') := fun t b ht t' ht' => by
  rw [au, if_neg (fun e => by rw [e, ht] at ht'; cases ht')]
  exact .refl _
 cases u with
 | no => exact ⟨rfl, rfl, fun _ _ => .refl _, fun i hi _ => sl i hi, fun _ _ _ cs h => ⟨cs, h, rfl⟩⟩
 | new t b =>
  refine ⟨rfl, rfl, one t b hu.1, fun i hi _ => sl i hi, fun t' _ ty cs h => ⟨cs, ?_, rfl⟩⟩
  show lkB ((t, some b) :: s.bx) t' = _
  rw [au, if_neg (fun e => by rw [e, hu.2] at h; cases h)]
  exact h
 | set t b =>
  refine ⟨rfl, rfl, one t b hu.1, fun i hi _ => sl i hi, fun t' _ ty cs h => ?_⟩
  show ∃ cs', lkB ((t, some b) :: s.bx) t' = _ ∧ _
  rw [au]
  by_cases e : t' = t
  ·rw [if_pos e]
   rw [e] at h
   obtain ⟨cs', h1, h2⟩ := hu.2 ty cs h
   exact ⟨cs', by rw [h1], h2⟩
  ·rw [if_neg e]; exact ⟨cs, h, rfl⟩
 | pin t b =>
  refine ⟨rfl, rfl, fun t' _ => ?_, fun i hi _ => sl i hi, fun t' _ ty cs h => ?_⟩
  ·show kv _ (lkB ((t, some b) :: s.bx) t')
   rw [au]
   split
   ·rename_i e; subst e; exact hu
   ·exact .refl _
  ·show ∃ cs', lkB ((t, some b) :: s.bx) t' = _ ∧ _
   rw [au]
   by_cases e : t' = t
   ·rw [if_pos e]
    have hu : kv (lkB s.bx t) (some b) := hu
    rw [← e, h] at hu
    exact ⟨cs, hu, rfl⟩
   ·rw [if_neg e]; exact ⟨cs, h, rfl⟩
 | grow t b =>
  refine ⟨rfl, rfl, fun t' ht' => ?_, fun i hi hsf => ?_, fun t' _ ty cs h => ?_⟩
  ·show kv _ (lkB ((t, some b) :: nH t s.bx) t')
   rw [au, if_neg (fun e => by rw [e, hu.1] at ht'; cases ht'), jb]
   obtain ⟨b', h1, h2⟩ := hpr t' ht'
   rw [h1]
   cases b' with
   | st ty cs => simp only [Option.map_some, Kj]; rw [ja cs h2]; rfl
   | rw e k ty xs pins => exact ⟨pins, rfl⟩
  ·show lkV (rC (C2 t s.sl) dst v) i = _
   rw [uI, if_neg (fun e => by rw [hW i e] at hi; cases hi), zW]
   exact C1 hu.1 _ hsf
  ·show ∃ cs', lkB ((t, some b) :: nH t s.bx) t' = _ ∧ _
   rw [au, if_neg (fun e => hu.2 ty cs (by rw [← e]; exact h)), jb, h]
   exact ⟨_, rfl, jX t cs⟩
end
section
variable {B : List (Nat × Option aW)} {s : SS} {p : PS} {P : Program} {ρ : Type}
theorem Hm {v : Value} {c : SD} (h : Hn v = some c) : J4 c (.v v) ∧ v.oneCell' = true := by
 unfold Hn at h
 split at h
 ·injection h with h; subst h; exact ⟨rfl, rfl⟩
 ·injection h with h; subst h; exact ⟨rfl, rfl⟩
 ·injection h with h; subst h; exact ⟨rfl, rfl⟩
 ·injection h with h; subst h; exact ⟨rfl, rfl⟩
 ·cases h
theorem wO {B : List (Nat × Option aW)} : ∀ {l : List Value} {cs : List SV}, Ez l = some cs → cd B cs (l.map fun x => .d (.v x)) ∧ ∀ x ∈ l, x.oneCell' = true
 | [], cs, h => by injection h with h; subst h; exact ⟨.nil, fun x hx => by cases hx⟩
 | v :: l, cs, h => by
  simp only [Ez] at h
  split at h
  ·rename_i c cs' h1 h2
   injection h with h
   subst h
   obtain ⟨k1, k2⟩ := Hm h1
   obtain ⟨k3, k4⟩ := wO h2
   refine ⟨.cons (.d _ _ k1) k3, fun x hx => ?_⟩
   rcases List.mem_cons.1 hx with rfl | hx
   ·exact k2
   ·exact k4 x hx
  ·cases h
theorem VT {v : Value} (e : Dq v = .d (.v v)) : a8 B (match Hn v with | some c => .d c | none => .junk) (Dq v) := by
 split
 ·rename_i c h
  rw [e]
  exact .d _ _ (Hm h).1
 ·exact .junk _
theorem Et (v : Value) : a8 B (I7 v) (Dq v) := by
 have key := VT (B := B) (v := v)
 cases v with
 | agg xs =>
  simp only [I7]
  split
  ·rename_i cs h
   obtain ⟨h1, h2⟩ := wO (B := B) h
   have : xs.all (·.oneCell') = true := by
    rw [← Array.all_toList, List.all_eq_true]
    exact h2
   simp only [Dq, this, if_true]
   exact .ag _ _ h1.len h1.rep
  ·exact .junk _
 | tuple xs => exact .junk _
 | _ => exact key rfl
theorem ca (hs : Sim s p) (x : Operand) : a8 s.bx (evX s x) (ev p x) := by
 cases x with
 | tmp i => exact hs.sl i
 | const v => exact Et v
 | global g => exact .junk _
 | func f => exact .fn f [] [] [] [] rfl (fun j c q h => by simp at h) rfl (fun j c q h => by simp at h)
theorem kC {k : IntKind} {x : Int} {q : PV} (h : a8 B (.d (.int k x)) q) : q = .d (.v (.int k x)) := by
 cases h with
 | d c y h => rw [TQ (show nrm y = .v _ from h)]
theorem kD {x : Bool} {q : PV} (h : a8 B (.d (.bool x)) q) : q = .d (.v (.bool x)) := by
 cases h with
 | d c y h => rw [TQ (show nrm y = .v _ from h)]
theorem qd {x : ByteArray} {q : PV} (h : a8 B (.d (.str x)) q) : q = .d (.v (.string x)) := by
 cases h with
 | d c y h => rw [TQ (show nrm y = .v _ from h)]
theorem Pz {q : PV} (h : a8 B (.d .nl) q) : q = .d (.v (.slice none 0 0)) := by
 cases h with
 | d c y h => rw [show y = .v (.slice none 0 0) from h]
theorem Py {ty : Ty} {xs : List ty.den} {q : PV} (h : a8 B (.d (.sl ty xs)) q) : q = .d (.sl (xs.map (bJ ty))) ∨ (xs = [] ∧ q = .d (.v (.slice none 0 0))) := by
 cases h with
 | d c y h =>
  rcases Xs (show nrm y = .sl _ from h) with h | ⟨h1, h2⟩
  ·rw [h]; exact .inl rfl
  ·rw [h2]; exact .inr ⟨by simpa using h1, rfl⟩
theorem Gi {cs : List SV} {q : PV} (h : a8 B (.ag cs) q) : ∃ qs, q = .ag qs ∧ cd B cs qs := by
 cases h with
 | ag _ qs hl hr => exact ⟨qs, rfl, hl, hr⟩
theorem Tb {cs : List SV} {q : PV} (h : a8 B (.tup cs) q) : ∃ qs, q = .tup qs ∧ cd B cs qs := by
 cases h with
 | tup _ qs hl hr => exact ⟨qs, rfl, hl, hr⟩
theorem fH (k : IntKind) (x : Int) : a8 B (.d (.int k x)) (.d (.v (.int k x))) := .d _ _ rfl
theorem eL (x : Bool) : a8 B (.d (.bool x)) (.d (.v (.bool x))) := .d _ _ rfl
theorem vD (x : ByteArray) : a8 B (.d (.str x)) (.d (.v (.string x))) := .d _ _ rfl
theorem MP (ty : Ty) (xs : List ty.den) : a8 B (.d (.sl ty xs)) (.d (.sl (xs.map (bJ ty)))) := .d _ _ rfl
theorem Ip (hs : Sim s p) {t : Nat} {q : PV} {c : SD} (hv : a8 s.bx (.row t) q) (h : VE s t = some c) : ∃ e k ty xs pins, lkB s.bx t = some (.rw e k ty xs pins) ∧ c = .sl ty xs ∧ q = .row t xs.length ∧ p.b t = some (.rw e k (xs.map (bJ ty))) := by
 unfold VE at h
 split at h
 ·rename_i e k ty xs pins hb
  injection h with h
  have hbx := hs.bx t
  rw [hb] at hbx
  cases hv with
  | row _ n e2 k2 ty2 xs2 pins2 hb2 hn =>
   rw [hb] at hb2
   injection hb2 with hb2
   injection hb2 with e1 e2 e3 e4 e5
   subst e3
   have e4 := eq_of_heq e4
   subst e4
   exact ⟨e, k, ty, xs, pins, hb, h.symm, by rw [hn], hbx.1⟩
 ·cases h
theorem I5 (hs : Sim s p) {v : SV} {q : PV} {ty : Ty} {xs : List ty.den} (hv : a8 s.bx v q) (h : qU s v = some (.sl ty xs)) : kz p.b q = some (xs.map (bJ ty)) := by
 unfold qU at h
 split at h
 ·injection h with h
  subst h
  rcases Py hv with rfl | ⟨rfl, rfl⟩
  ·rfl
  ·simp [kz]
 ·obtain ⟨e, k, ty2, xs2, pins, h1, h2, rfl, h4⟩ := Ip hs hv h
  injection h2 with e1 e2
  subst e1
  have e2 := eq_of_heq e2
  subst e2
  simp [kz, h4]
 ·cases h
theorem Wu {v : SV} {q : PV} (hv : a8 s.bx v q) (h : qU s v = some .nl) : q = .d (.v (.slice none 0 0)) := by
 unfold qU at h
 split at h
 ·injection h with h
  subst h
  exact Pz hv
 ·unfold VE at h
  split at h
  ·injection h with h; cases h
  ·cases h
 ·cases h
theorem Ux (hs : Sim s p) {v : SV} {q : PV} {c : SD} (hv : a8 s.bx v q) (h : qU s v = some c) : asData p.b q = .d c.toD ∧ (oU v = true → clean q = true ∧ asData dP q = .d c.toD) := by
 unfold qU at h
 split at h
 ·injection h with h
  subst h
  cases hv with
  | d c y h => simp only [asData, h.nrm, clean, and_self, implies_true]
 ·obtain ⟨e, k, ty2, xs2, pins, h1, rfl, rfl, h4⟩ := Ip hs hv h
  refine ⟨by simp [asData, h4, SD.toD], fun h => by simp [oU] at h⟩
 ·cases h
theorem QA (hs : Sim s p) : ∀ {cs : List SV} {qs : List PV} {ds : List SD}, cd s.bx cs qs → I4 s cs = some ds → bL p.b qs = ds.map (fun c => .d c.toD) ∧ (cC cs = true → cN qs = true ∧ bL dP qs = ds.map (fun c => .d c.toD))
 | [], qs, ds, h, hd => by
  rcases h.cases with ⟨_, rfl⟩ | ⟨_, _, _, _, h1, _⟩
  ·injection hd with hd; subst hd; simp [bL, cN]
  ·cases h1
 | c :: cs, qs, ds, h, hd => by
  rcases h.cases with ⟨h1, _⟩ | ⟨c', q, cs', qs', h1, rfl, h2, h3⟩
  ·cases h1
  ·injection h1 with e1 e2
   subst e1 e2
   simp only [I4] at hd
   split at hd
   ·rename_i d ds' k1 k2
    injection hd with hd
    subst hd
    obtain ⟨m1, m2⟩ := Ux hs h2 k1
    obtain ⟨m3, m4⟩ := QA hs h3 k2
    refine ⟨by simp [bL, m1, m3], fun hn => ?_⟩
    simp only [cC] at hn
    split at hn
    ·rename_i hn1
     obtain ⟨n1, n2⟩ := m2 hn1
     obtain ⟨n3, n4⟩ := m4 hn
     simp [bL, cN, n1, n2, n3, n4]
    ·cases hn
   ·cases hd
theorem An {v : SV} {q : PV} {cs : List SV} (hv : a8 B v q) (h : Jf v = some cs) : ∃ qs, Ao q = some qs ∧ cd B cs qs := by
 cases hv with
 | junk q => cases h
 | tup => cases h
 | ag cs' qs hl hr => injection h with h; subst h; exact ⟨qs, rfl, hl, hr⟩
 | d c y hd => injection h with h; subst h; exact ⟨_, rfl, .cons (.d c y hd) .nil⟩
 | ptr t o ty cs' hb => injection h with h; subst h; exact ⟨_, rfl, .cons (.ptr t o ty cs' hb) .nil⟩
 | row t n e k ty xs pins hb hn => injection h with h; subst h; exact ⟨_, rfl, .cons (.row t n e k ty xs pins hb hn) .nil⟩
 | re t p o n i e k ty xs pins pin hb hn hp hi => injection h with h; subst h; exact ⟨_, rfl, .cons (.re t p o n i e k ty xs pins pin hb hn hp hi) .nil⟩
 | vw t lo hi n e k ty xs pins hb hn => injection h with h; subst h; exact ⟨_, rfl, .cons (.vw t lo hi n e k ty xs pins hb hn) .nil⟩
 | fe cs' ds hd hn => injection h with h; subst h; exact ⟨_, rfl, .cons (.fe cs' ds hd hn) .nil⟩
 | fn f ps qs ps' qs' hl hr hl2 hr2 => injection h with h; subst h; exact ⟨_, rfl, .cons (.fn f ps qs ps' qs' hl hr hl2 hr2) .nil⟩
theorem KB {cs : List SV} {qs : List PV} (h : cd B cs qs) {size : Nat} {agg : Bool} {v : SV} (hp : PX size agg cs = some v) : ∃ q, Gz size agg qs = some q ∧ a8 B v q := by
 unfold PX at hp
 unfold Gz
 split at hp
 ·rename_i ha
  rw [if_pos ha]
  split at hp
  ·rename_i hl
   injection hp with hp
   subst hp
   rw [h.len] at hl
   rw [if_pos hl]
   have := h.take size
   exact ⟨_, rfl, .ag _ _ this.len this.rep⟩
  ·cases hp
 ·rename_i ha
  rw [if_neg ha]
  rcases h.cases with ⟨rfl, rfl⟩ | ⟨c, q, cs', qs', rfl, rfl, h1, h2⟩
  ·cases hp
  ·injection hp with hp; subst hp; exact ⟨q, rfl, h1⟩
theorem DB (cs : List SD) (h : ∀ c ∈ cs, c ≠ .nl) : cd B (zV cs) ((cs.map SD.toD).map .d) := by
 induction cs with
 | nil => exact .nil
 | cons c cs ih => exact .cons (.d _ _ (J4.of (h c List.mem_cons_self))) (ih fun c hc => h c (List.mem_cons_of_mem _ hc))
end
section
variable {B : List (Nat × Option aW)} {s : SS} {p : PS} {P : Program} {ρ : Type}
def xh (s : SS) (k : SV → Option ρ) (res : ρ) (e : Option PV) : Prop := ∃ v q, e = some q ∧ k v = some res ∧ a8 s.bx v q
theorem dj {k : SV → Option ρ} {res : ρ} {e : Option PV} {v : SV} {q : PV} (he : e = some q) (hk : k v = some res) (hv : a8 s.bx v q) : xh s k res e := ⟨v, q, he, hk, hv⟩
theorem TZ {x : Operand} {n : Int} {kd : IntKind} {y : Int} (h : T6 x = some n) (hy : evX s x = .d (.int kd y)) : y = n := by
 unfold T6 at h
 split at h
 ·injection h with h
  subst h
  simp only [evX, I7, Hn] at hy
  injection hy with hy
  injection hy with _ hy
  exact hy.symm
 ·cases h
theorem RU {op : BinOp} {kd : IntKind} {lit : Option Int} {x y : Int} {k : SV → Option ρ} {res : ρ} (hl : ∀ n, lit = some n → y = n) (h : NN op kd lit x y k = some res) : xh s k res (yc op kd x y) := by
 cases op <;> simp only [NN] at h
 case add => exact dj rfl h (fH _ _)
 case sub => exact dj rfl h (fH _ _)
 case mul => exact dj rfl h (fH _ _)
 case quo =>
  split at h
  ·rename_i n
   obtain ⟨h1, h2⟩ := an h
   have hy := hl n rfl
   subst hy
   have : ¬ y = 0 := by simpa using h1
   exact dj (by simp [yc, this]) h2 (fH _ _)
  ·obtain ⟨q, h1, h2⟩ := ar h
   split at h1
   ·cases h1
   ·rename_i hy
    injection h1 with h1
    subst h1
    exact dj (by simp [yc, hy]) h2 (fH _ _)
 case rem =>
  split at h
  ·rename_i n
   obtain ⟨h1, h2⟩ := an h
   have hy := hl n rfl
   subst hy
   have : ¬ y = 0 := by simpa using h1
   exact dj (by simp [yc, this]) h2 (fH _ _)
  ·obtain ⟨q, h1, h2⟩ := ar h
   unfold BR at h1
   split at h1
   ·cases h1
   ·rename_i hy
    injection h1 with h1
    subst h1
    exact dj (by simp [yc, hy]) h2 (fH _ _)
 case eql => exact dj rfl h (eL _)
 case neq => exact dj rfl h (eL _)
 case lss => exact dj rfl h (eL _)
 case leq => exact dj rfl h (eL _)
 case gtr => exact dj rfl h (eL _)
 case geq => exact dj rfl h (eL _)
 case and => exact dj rfl h (fH _ _)
 case or => exact dj rfl h (fH _ _)
 case xor => exact dj rfl h (fH _ _)
 all_goals cases h
theorem Q0 {op : BinOp} {kd : IntKind} {lit : Option Int} {x y : Int} {k : SV → Option ρ} {res : ρ} (hl : ∀ n, lit = some n → y = n) (h : M1 op kd lit x y k = some res) : xh s k res (rG op kd x y) := by
 unfold M1 at h
 split at h
 ·rename_i n
  obtain ⟨h1, h2⟩ := an h
  have hy := hl n rfl
  subst hy
  have : ¬ y < 0 := by have := zd h1; omega
  split at h2
  ·exact dj (by simp [rG, this]) h2 (fH _ _)
  ·exact dj (by simp [rG, this]) h2 (fH _ _)
  ·cases h2
 ·obtain ⟨u, h1, h2⟩ := ar h
  split at h1
  ·cases h1
  ·rename_i hy
   split at h2
   ·exact dj (by simp [rG, hy]) h2 (fH _ _)
   ·exact dj (by simp [rG, hy]) h2 (fH _ _)
   ·cases h2
theorem QU {op : BinOp} {x y : ByteArray} {k : SV → Option ρ} {res : ρ} (h : MS op x y k = some res) : xh s k res (Kg op x y) := by
 cases op <;> simp only [MS] at h
 case add =>
  obtain ⟨z, h1, h2⟩ := ar h
  unfold lY at h1
  split at h1
  ·rename_i hz
   injection h1 with h1
   subst h1
   exact dj (by simp only [Kg, hz, if_true]) h2 (vD _)
  ·cases h1
 case eql => exact dj rfl h (eL _)
 case neq => exact dj rfl h (eL _)
 case lss => exact dj rfl h (eL _)
 case leq => exact dj rfl h (eL _)
 case gtr => exact dj rfl h (eL _)
 case geq => exact dj rfl h (eL _)
 all_goals cases h
theorem MQ {op : BinOp} {x y : Bool} {k : SV → Option ρ} {res : ρ} (h : Ia op x y k = some res) : xh s k res (qe op x y) := by
 cases op <;> simp only [Ia] at h
 case eql => exact dj rfl h (eL _)
 case neq => exact dj rfl h (eL _)
 all_goals cases h
theorem G4 : ∀ {l m : List Nat}, IT l m = true → l = m
 | [], [], _ => rfl
 | [], _ :: _, h => by cases h
 | _ :: _, [], h => by cases h
 | a :: l, b :: m, h => by
  simp only [IT, cW] at h
  by_cases e : a = b
  ·simp only [e, decide_true] at h; rw [e, G4 h]
  ·simp only [e, decide_false] at h; cases h
theorem G5 {c d : SD} {q w : PV} {n : Nat} {r : Bool} (hc : a8 B (.d c) q) (hd : a8 B (.d d) w) (hn : Np (.d c) = some n) (h : rR c d = some r) : Ad n q w = some r := by
 cases c with
 | int k a =>
  cases d <;> simp only [rR] at h <;> try cases h
  rw [kC hc, kC hd]
  injection hn with hn
  subst hn
  exact h
 | bool a =>
  cases d <;> simp only [rR] at h <;> try cases h
  rw [kD hc, kD hd]
  injection hn with hn
  subst hn
  rfl
 | str a =>
  cases d <;> simp only [rR] at h <;> try cases h
  rw [qd hc, qd hd]
  injection hn with hn
  subst hn
  rfl
 | sl t xs => cases hn
 | nl => cases hn
theorem Wf : ∀ {cs ds : List SV} {qs ws : List PV} {l : List Nat} {r : Bool}, cd B cs qs → cd B ds ws → CB cs = some l → Bn cs ds = some r → jE l qs ws = some r := by
 intro cs
 induction cs with
 | nil => intro ds qs ws l r _ _ _ h; cases ds <;> simp [Bn] at h
 | cons c cs ih =>
  intro ds qs ws l r hc hd hl h
  rcases hc.cases with ⟨h1, _⟩ | ⟨c', q, cs', qs', h1, rfl, hcq, hcs⟩
  ·cases h1
  injection h1 with e1 e2
  subst e1 e2
  rcases hd.cases with ⟨rfl, _⟩ | ⟨d, w, ds', ws', rfl, rfl, hdw, hds⟩
  ·cases c <;> cases cs <;> simp [Bn] at h
  simp only [CB] at hl
  split at hl
  ·rename_i n l' hn hl'
   injection hl with hl
   subst hl
   cases c with
   | d c =>
    cases d with
    | d d =>
     by_cases hlast : cs = [] ∧ ds' = []
     ·obtain ⟨rfl, rfl⟩ := hlast
      simp only [Bn] at h
      have := G5 hcq hdw hn h
      rcases hcs.cases with ⟨_, rfl⟩ | ⟨_, _, _, _, h1, _⟩
      ·rcases hds.cases with ⟨_, rfl⟩ | ⟨_, _, _, _, h1, _⟩
       ·injection hl' with hl'
        subst hl'
        simp [jE, this]
       ·cases h1
      ·cases h1
     ·have h : (match rR c d, Bn cs ds' with | some a, some r => some (a && r) | _, _ => none) = some r := by
       cases cs with
       | nil => cases ds' with
        | nil => exact absurd ⟨rfl, rfl⟩ hlast
        | cons => exact h
       | cons => exact h
      split at h
      ·rename_i a r' k1 k2
       injection h with h
       subst h
       simp [jE, G5 hcq hdw hn k1, ih hcs hds hl' k2]
      ·cases h
    | _ => cases cs <;> simp [Bn] at h
   | _ => simp [Np] at hn
  ·cases hl
theorem WD {op : BinOp} {t : TypeId} {lit : Option Int} {v w : SV} {q r : PV} {k : SV → Option ρ} {res : ρ} (hv : a8 s.bx v q) (hw : a8 s.bx w r) (hl : ∀ n kd y, lit = some n → w = .d (.int kd y) → y = n) (h : XO P op t lit v w k = some res) : xh s k res (rY P op t q r) := by
 unfold XO at h
 split at h
 ·rename_i kd x kd' y
  obtain rfl := kC hv
  obtain rfl := kC hw
  have e : rY P op t (.d (.v (.int kd x))) (.d (.v (.int kd' y))) = if IL op then rG op kd x y else if kd = kd' then yc op kd x y else none := rfl
  rw [e]
  split at h
  ·rename_i hs
   rw [if_pos hs]
   exact Q0 (fun n hn => hl n kd' y hn rfl) h
  ·rename_i hs
   rw [if_neg (by simp [hs])]
   split at h
   ·rename_i hk
    rw [if_pos hk]
    exact RU (fun n hn => hl n kd' y hn rfl) h
   ·cases h
 ·obtain rfl := qd hv
  obtain rfl := qd hw
  exact QU h
 ·obtain rfl := kD hv
  obtain rfl := kD hw
  split at h
  ·rename_i hu
   rename_i x y _
   have e : rY P op t (.d (.v (.bool x))) (.d (.v (.bool y))) = qe op x y := by simp [rY, asI, asS, asB, hu]
   rw [e]
   exact MQ h
  ·cases h
 ·rename_i xs ys
  obtain ⟨qs, rfl, hq⟩ := Gi hv
  obtain ⟨ws, rfl, hws⟩ := Gi hw
  split at h
  ·rename_i l l' r h1 h2 h3
   obtain ⟨h4, h5⟩ := an h
   obtain rfl := G4 h4
   have h6 := Wf hq hws h2 h3
   have e : rY P op t (.ag qs) (.ag ws) = qe op r true := by simp [rY, asI, asS, asB, IY, h1, h6]
   rw [e]
   split at h5
   ·exact dj (by simp [qe]) h5 (eL _)
   ·exact dj (by simp [qe]) h5 (eL _)
   ·cases h5
  ·cases h
 ·cases h
theorem Xf {op : UnOp} {v : SV} {q : PV} {k : SV → Option ρ} {res : ρ} (hv : a8 s.bx v q) (h : unX op v k = some res) : xh s k res (Qt op q) := by
 unfold unX at h
 split at h
 ·obtain rfl := kD hv; exact dj rfl h (eL _)
 ·obtain rfl := kC hv; exact dj rfl h (fH _ _)
 ·cases h
theorem Bq : ∀ (xs : List Int) (acc : ByteArray), uO (List.map (bJ (.int .u8)) xs) acc = some (xs.foldl (fun r n => r.push (UInt8.ofNat n.toNat)) acc)
 | [], acc => rfl
 | x :: xs, acc => Bq xs (acc.push (UInt8.ofNat x.toNat))
theorem Ej {b : Nat → Option Box} {src dst e : TypeId} {q : PV} {x : Int} {xs : List Int} (h1 : P.underlying src = some (.slice e)) (h2 : P.underlying dst = some .string) (h3 : P.underlying e = some (.int .u8)) (h4 : kz b q = some (List.map (bJ (.int .u8)) (x :: xs))) :
  gS P b src dst q = (uO (List.map (bJ (.int .u8)) (x :: xs)) ByteArray.empty).map fun s => .d (.v (.string s)) := by
 unfold gS
 rw [h1, h2]
 simp only [h3, h4]
 rfl
theorem Eh {b : Nat → Option Box} {src dst : TypeId} {q : PV} {u : TypeDesc} (h1 : P.underlying src = some u) (hne : ∀ e, u = .slice e → False) : gS P b src dst q = rV P src dst q := by
 unfold gS
 split
 ·rename_i e h3 h4
  rw [h1] at h3
  injection h3 with h3
  exact absurd h3 (hne e)
 ·rfl
theorem UD (hs : Sim s p) {src dst : TypeId} {v : SV} {q : PV} {k : SV → Option ρ} {res : ρ} (hv : a8 s.bx v q) (h : UE P s src dst v k = some res) : xh s k res (gS P p.b src dst q) := by
 unfold UE at h
 split at h
 ·cases h
 ·rename_i e h1
  split at h
  ·rename_i h2
   split at h
   ·rename_i xs h3 h4
    obtain ⟨z, h5, h6⟩ := ar h
    have h7 := I5 hs hv h4
    unfold VD at h5
    split at h5
    ·cases h5
    ·rename_i hne
     injection h5 with h5
     cases xs with
     | nil => exact absurd rfl hne
     | cons x xs =>
      refine dj ?_ h6 (vD _)
      rw [Ej h1 h2 h3 h7]
      exact congrArg (Option.map _) ((Bq _ _).trans (congrArg some h5))
   ·cases h
  ·cases h
 ·rename_i u hne h1
  rw [show gS P p.b src dst q = rV P src dst q from Eh h1 (fun e he => hne e he)]
  split at h
  ·rename_i h2
   obtain rfl := kC hv
   exact dj (by simp [rV, h1, h2, asI]) h (fH _ _)
  ·rename_i h2
   obtain rfl := qd hv
   exact dj (by simp [rV, h1, h2, asS]) h (vD _)
  ·cases h
theorem FI {t : TypeId} {f : Nat} {v : SV} {q : PV} {k : SV → Option ρ} {res : ρ} (hv : a8 s.bx v q) (h : wH P t v f k = some res) : xh s k res (gA P t q f) := by
 unfold wH at h
 split at h
 ·rename_i off size agg hf
  obtain ⟨h1, h2⟩ := an h
  have hsz : ¬ size = 0 := by simpa using h1
  split at h2
  ·cases hv with
   | ptr _ _ ty cs hb => exact dj (by simp [gA, hf, hsz]) h2 (.ptr _ _ ty cs hb)
  ·cases hv with
   | fe cs ds hd hn => exact dj (q := .fe (ds.drop off)) (by simp [gA, hf, hsz]) h2 (.fe _ _ (by rw [hd, List.map_drop]) (fun c hc => hn c (List.mem_of_mem_drop hc)))
  ·cases hv with
   | re _ _ _ n i e k ty xs pins pin hb hn hp hi => exact dj (q := .re _ n i (_ + off)) (by simp [gA, hf, hsz]) h2 (.re _ _ _ n i e k ty xs pins pin hb hn hp hi)
  ·cases h2
 ·cases h
theorem VX {v : SV} {q : PV} {k : SV → Option ρ} {res : ρ} (hv : a8 s.bx v q) (h : Xu v k = some res) : xh s k res (wJ q) := by
 unfold Xu at h
 split at h
 ·cases hv with
  | ptr _ _ ty cs hb => exact dj (by simp [wJ]) h (.ptr _ _ ty cs hb)
 ·cases hv with
  | re _ _ _ n i e k ty xs pins pin hb hn hp hi => exact dj (q := .re _ n i _) (by simp [wJ]) h (.re _ _ _ n i e k ty xs pins pin hb hn hp hi)
 ·cases hv with
  | fe cs ds hd hn => exact dj (q := .fe ds) (by simp [wJ]) h (.fe _ _ hd hn)
 ·cases h
theorem RD {t : TypeId} {f : Nat} {v : SV} {q : PV} {k : SV → Option ρ} {res : ρ} (hv : a8 s.bx v q) (h : Nz P t v f k = some res) : xh s k res (tI P t q f) := by
 unfold Nz at h
 split at h
 ·rename_i off size agg cs hf
  obtain ⟨qs, rfl, hq⟩ := Gi hv
  split at h
  ·rename_i v' h1
   obtain ⟨q', h2, h3⟩ := KB (hq.drop off) h1
   exact dj (by simp [tI, hf, h2]) h h3
  ·cases h
 ·cases h
theorem UR (hs : Sim s p) {v : SV} {q : PV} {cs : List SV} (hv : a8 s.bx v q) (h : US s v = some cs) : ∃ qs, tP p.b q = some qs ∧ cd s.bx cs qs := by
 unfold US at h
 split at h
 ·rename_i t off
  cases hv
  split at h
  ·rename_i ty cs' hb
   injection h with h
   subst h
   have := hs.bx t
   rw [hb] at this
   obtain ⟨qs, h1, h2⟩ := this
   exact ⟨qs.drop off, by simp [tP, h1], h2.drop off⟩
  ·cases h
 ·injection h with h
  subst h
  cases hv with
  | fe _ ds hd hn => exact ⟨_, rfl, by rw [hd]; exact DB _ hn⟩
 ·rename_i t pi off
  split at h
  ·rename_i e k ty xs pins hb
   split at h
   ·rename_i j cs' hp
    injection h with h
    subst h
    have hbx := hs.bx t
    rw [hb] at hbx
    obtain ⟨h1, h2⟩ := hbx
    obtain ⟨h3, h4⟩ := h2 pi _ hp
    obtain ⟨x, h5, h6⟩ := h4 cs' rfl
    cases hv with
    | re _ _ _ n i e2 k2 ty2 xs2 pins2 pin2 hb2 hn2 hp2 hi2 =>
     rw [hb] at hb2
     injection hb2 with hb2
     injection hb2 with e1 e2 e3 e4 e5
     subst e3
     have e4 := eq_of_heq e4
     subst e4 e5
     rw [hp] at hp2
     injection hp2 with hp2
     subst hp2
     refine ⟨((bJ ty x).drop off).map .d, by simp [tP, h1, hn2, hi2, h5], ?_⟩
     have := DB (B := s.bx) (cs'.drop off) (fun c hc => by rw [h6] at hc; exact Qp ty x c (List.mem_of_mem_drop hc))
     rw [h6] at this ⊢
     rw [List.map_drop, CD] at this
     simpa [List.map_drop] using this
   ·cases h
  ·cases h
 ·cases h
theorem KK (hs : Sim s p) {t : TypeId} {v w : SV} {q : PV} (hv : a8 s.bx v q) (h : P7 P s t v = some w) : ∃ r, pZ P p.b t q = some r ∧ a8 s.bx w r := by
 unfold P7 at h
 split at h
 ·rename_i i cl h1 h2
  obtain ⟨qs, h3, h4⟩ := UR hs hv h2
  obtain ⟨r, h5, h6⟩ := KB h4 h
  exact ⟨r, by simp [pZ, h1, h3, h5], h6⟩
 ·cases h
theorem Rx {v : SV} {q : PV} {i : Int} (hv : a8 B v q) (h : zZ v = some i) : ∃ k, q = .d (.v (.int k i)) := by
 unfold zZ at h
 split at h
 ·injection h with h; subst h; exact ⟨_, kC hv⟩
 ·cases h
theorem kP {q : PV} {k : IntKind} {i : Int} {n : Nat} (h : q = .d (.v (.int k i))) (h0 : 0 ≤ i) : vi (some q) n = some i.toNat := by
 subst h
 simp [vi, asI, h0]
end
section
variable {B : List (Nat × Option aW)} {s : SS} {p : PS} {P : Program} {ρ : Type}
def ML (s : SS) (p : PS) (dst : Option Nat) (k : SV → Upd → Option ρ) (res : ρ) (e : Option (PV × Option (Nat × Box))) : Prop :=
 ∃ v u q w, e = some (q, w) ∧ k v u = some res ∧ Sim (s.upd dst v u) (p.upd dst q w) ∧ OkU s u ∧ OkW s dst u w
theorem xh.done (hs : Sim s p) {dst : Option Nat} {k : SV → Upd → Option ρ} {res : ρ} {e : Option PV} (h : xh s (fun v => k v .no) res e) : ML s p dst k res (e.map fun r => (r, none)) := by
 obtain ⟨v, q, rfl, h2, h3⟩ := h
 exact ⟨v, .no, q, none, rfl, h2, kJ hs h3, trivial, dL⟩
theorem GO {α : Type} {xs : List α} {i : Int} {x : α} (h : ax xs i = some x) : 0 ≤ i ∧ xs[i.toNat]? = some x ∧ i.toNat < xs.length := by
 unfold ax at h
 split at h
 ·rename_i h0
  exact ⟨h0, h, (zg.1 h).1⟩
 ·cases h
theorem FH (hs : Sim s p) {dst : Option Nat} {t : TypeId} {v w : SV} {q r : PV} {k : SV → Upd → Option ρ} {res : ρ} (hv : a8 s.bx v q) (hw : a8 s.bx w r) (h : wD P s dst t v w k = some res) :
  ML s p dst k res ((d5 P p.b t q r).map fun r => (r, none)) := by
 unfold wD at h
 split at h
 ·rename_i e kd i d hu
  obtain rfl := kC hw
  split at h
  ·rename_i ie hie
   split at h
   ·rename_i ty xs
    obtain ⟨h1, h2⟩ := an h
    obtain ⟨x, h3, h4⟩ := ar h2
    obtain ⟨k0, k1, k2⟩ := GO h3
    have hl : (bJ ty x).length = ie.size := by rw [o7]; simpa using h1
    rcases Py hv with rfl | ⟨rfl, _⟩
    ·refine ⟨_, .no, .fe (bJ ty x), none, ?_, h4, kJ hs (.fe _ _ (CD ty x).symm (Qp ty x)), trivial, dL⟩
     simp [d5, hu, asI, hie, k0, k1, hl]
    ·simp at k2
   ·rename_i t'
    split at h
    ·rename_i e' kk ty xs pins hb
     obtain ⟨h1, h2⟩ := an h
     obtain ⟨h2, h3⟩ := an h2
     obtain ⟨x, h4, h5⟩ := ar h3
     obtain ⟨k0, k1, k2⟩ := GO h4
     have hbx := hs.bx t'
     rw [hb] at hbx
     obtain ⟨hbx, hpins⟩ := hbx
     have hkk : kk = ie.size := by simpa using h1
     have hnp : lkP pins d = none := by simpa using h2
     cases hv with
     | row _ n e2 k2' ty2 xs2 pins2 hb2 hn2 =>
      rw [hb] at hb2
      injection hb2 with hb2
      injection hb2 with e1 e2 e3 e4 e5
      subst e3
      have e4 := eq_of_heq e4
      subst e4 e5 hn2
      refine ⟨_, _, .re t' xs.length i.toNat 0, none, ?_, h5, ?_, (show kv (lkB s.bx t') _ from by rw [hb]; exact ⟨_, rfl⟩), dL⟩
      ·simp [d5, hu, asI, hie, k0, hbx, hkk, k2]
      ·have hble : BLe s.bx ((t', some (.rw e' kk ty xs ((d, ⟨i, some (Ae ty x)⟩) :: pins))) :: s.bx) := NM hb rfl (fun p pin hp => ⟨pin, by
        rw [qL, if_neg (fun e => by rw [e, hnp] at hp; cases hp)]; exact hp, rfl⟩)
       refine VC hs hble (fun _ => ⟨hbx, fun p pin hp => ?_⟩) (.re t' d 0 xs.length i.toNat e' kk ty xs _ ⟨i, some (Ae ty x)⟩ (by rw [au, if_pos rfl]) rfl (by rw [qL, if_pos rfl]) rfl)
       rw [qL] at hp
       split at hp
       ·injection hp with hp
        subst hp
        exact ⟨k2, fun cs hc => ⟨x, k1, by injection hc with hc; exact hc.symm⟩⟩
       ·exact hpins p pin hp
    ·cases h
   ·cases h
  ·cases h
 ·cases h
theorem uG {cs : List SV} {qs : List PV} {ds : List SD} (h : cd B cs qs) (hd : sE cs = some ds) : qs.mapM toD = some (ds.map SD.toD) := by
 induction cs generalizing qs ds with
 | nil =>
  rcases h.cases with ⟨_, rfl⟩ | ⟨_, _, _, _, h1, _⟩
  ·injection hd with hd; subst hd; rfl
  ·cases h1
 | cons c cs ih =>
  rcases h.cases with ⟨h1, _⟩ | ⟨c', q, cs', qs', h1, rfl, h2, h3⟩
  ·cases h1
  ·injection h1 with e1 e2
   subst e1 e2
   simp only [sE] at hd
   split at hd
   ·rename_i d ds' k1 k2
    injection hd with hd
    subst hd
    have := ih h3 k2
    unfold Xk at k1
    split at k1
    ·injection k1 with k1
     subst k1
     cases h2 with
     | d _ y hy => simp [List.mapM_cons, toD, hy.nrm, this]
    ·cases k1
   ·cases hd
theorem zL : ∀ {cs : List SV} {ds : List SD}, sE cs = some ds → cs.length = ds.length
 | [], ds, h => by injection h with h; subst h; rfl
 | c :: cs, ds, h => by
  simp only [sE] at h
  split at h
  ·rename_i d ds' k1 k2
   injection h with h
   subst h
   simp [zL k2]
  ·cases h
theorem mt : ∀ (l : List (Nat × Pin)) (i : Nat), lkP (vE l) i = (lkP l i).map fun pin => ⟨pin.i, none⟩
 | [], _ => rfl
 | (j, ⟨n, cs⟩) :: l, i => by simp only [vE, qL, mt l i]; split <;> rfl
theorem QW (hs : Sim s p) {dst : Option Nat} (hd : dst = none) {t : TypeId} {v w : SV} {q r : PV} {k : SV → Upd → Option ρ} {res : ρ} (hv : a8 s.bx v q) (hw : a8 s.bx w r) (h : MX P s t v w k = some res) :
  ML s p dst k res ((kX P p.b t q r).map fun u => (.junk, some u)) := by
 unfold MX at h
 split at h
 ·rename_i i ns hi hns
  obtain ⟨ws, hws, hcs⟩ := An hw hns
  split at h
  ·rename_i x off
   cases hv
   split at h
   ·rename_i ty cs hb
    obtain ⟨h1, h2⟩ := an h
    obtain ⟨h2, h3⟩ := an h2
    obtain ⟨h3, h4⟩ := an h3
    have h1 : ns.length = i.size := by simpa using h1
    have h2 := zd h2
    obtain ⟨hro, h3⟩ := xi h3
    have hbx := hs.bx x
    rw [hb] at hbx
    obtain ⟨qs, hq1, hq2⟩ := hbx
    have l1 := hcs.len
    have l2 := hq2.len
    refine ⟨_, _, .junk, some (x, .st ty (splice qs off ws)), ?_, h4, ?_, ⟨h3, fun ty2 cs2 h => ?_⟩, Nj hro⟩
    ·simp only [kX, hi, hws, hq1]
     rw [if_pos ⟨by omega, by omega⟩]
     rfl
    ·refine n7 hs (NL hb) (fun _ => ⟨_, rfl, ?_⟩) (.junk _)
     rw [mg cs off ns h2]
     exact (hq2.splice hcs off).mono (NL hb)
    ·rw [hb] at h
     injection h with h
     injection h with e1 e2
     subst e1 e2
     refine ⟨_, rfl, ?_⟩
     rw [mg cs off ns h2]
     unfold splice
     simp
     omega
   ·cases h
  ·rename_i x pi off
   split at h
   ·rename_i e kk ty xs pins ds hb hds
    split at h
    ·rename_i j cs0 hp
     obtain ⟨h1, h2⟩ := an h
     obtain ⟨h2, h3⟩ := an h2
     obtain ⟨h3, h4⟩ := an h3
     have h1 : ns.length = i.size := by simpa using h1
     have h2 := zd h2
     obtain ⟨hro, h3⟩ := xi h3
     split at h4
     ·rename_i cs' hcs'
      split at h4
      ·rename_i y hy
       have hbx := hs.bx x
       rw [hb] at hbx
       obtain ⟨hbx, hpins⟩ := hbx
       obtain ⟨k1, k2⟩ := hpins pi _ hp
       have hy2 := I0 hy
       cases hv with
       | re _ _ _ n i2 e2 k2' ty2 xs2 pins2 pin2 hb2 hn2 hp2 hi2 =>
        rw [hb] at hb2
        injection hb2 with hb2
        injection hb2 with e1 e2 e3 e4 e5
        subst e3
        have e4 := eq_of_heq e4
        subst e4 e5 hn2
        rw [hp] at hp2
        injection hp2 with hp2
        subst hp2
        simp only at hi2 k1 k2
        subst hi2
        obtain ⟨x0, hx0⟩ : ∃ x0, xs[j.toNat]? = some x0 := ⟨xs[j.toNat], by simp [k1]⟩
        have hds' : ws.mapM toD = some (ds.map SD.toD) := uG hcs hds
        have hlen0 : (bJ ty x0).length = tyN ty := o7 ty x0
        have hsp : splice (bJ ty x0) off (ds.map SD.toD) = bJ ty y := by
         split at hcs'
         ·rename_i hfull
          injection hcs' with hcs'
          subst hcs'
          have h0 : off = 0 := by omega
          subst h0
          rw [← hy2]
          have : (ds.map SD.toD).length = (bJ ty x0).length := by simp [hfull, hlen0]
          simp [splice, this]
         ·cases cs0 with
          | none => cases hcs'
          | some cs0 =>
           injection hcs' with hcs'
           obtain ⟨x1, h7, h8⟩ := k2 cs0 rfl
           rw [hx0] at h7
           injection h7 with h7
           subst h7
           have h9 : cs0.length = tyN ty := by
            have := CD ty x0
            rw [← h8] at this
            have := congrArg List.length this
            simpa [hlen0] using this
           rw [← hy2, ← hcs']
           show _ = List.map SD.toD (mN cs0 off ds)
           rw [mg cs0 off ds (by omega), wg, h8, CD]
        have hble : BLe s.bx ((x, some (.rw e kk ty (xs.set j.toNat y) ((pi, ⟨j, some (Ae ty y)⟩) :: vE pins))) :: s.bx) := NM hb (by simp) (fun p2 pin2 hp2 => by
         rw [qL]
         by_cases e : p2 = pi
         ·subst e
          rw [hp] at hp2
          injection hp2 with hp2
          subst hp2
          exact ⟨_, if_pos rfl, rfl⟩
         ·rw [if_neg e, mt, hp2]
          exact ⟨_, rfl, rfl⟩)
        refine ⟨_, _, .junk, some (x, .rw e kk ((xs.map (bJ ty)).set j.toNat (splice (bJ ty x0) off (ds.map SD.toD)))), ?_, h4, ?_, ⟨h3, fun ty2 cs2 h => by rw [hb] at h; cases h⟩, Nj hro⟩
        ·have hl2 : (ds.map SD.toD).length = i.size := by rw [List.length_map, ← zL hds]; exact h1
         have hl3 : off + (ds.map SD.toD).length ≤ (bJ ty x0).length := by rw [hlen0, List.length_map]; exact h2
         simp only [kX, hi, hws, hbx, hds', List.getElem?_map, hx0, Option.map_some, List.length_map]
         rw [List.length_map] at hl2 hl3
         rw [if_pos ⟨trivial, hl2, hl3⟩]
         rfl
        ·rw [hsp, ← List.map_set]
         refine n7 hs hble (fun _ => ⟨rfl, fun p2 pin2 hp2 => ?_⟩) (.junk _)
         rw [qL] at hp2
         split at hp2
         ·injection hp2 with hp2
          subst hp2
          exact ⟨by simpa using k1, fun cs hc => ⟨y, by simp [k1], by injection hc with hc; exact hc.symm⟩⟩
         ·rw [mt, zm] at hp2
          obtain ⟨pin3, h7, rfl⟩ := hp2
          exact ⟨by simpa using (hpins p2 pin3 h7).1, fun cs hc => by cases hc⟩
      ·cases h4
     ·cases h4
    ·cases h
   ·cases h
  ·cases h
 ·cases h
end
section
variable {B : List (Nat × Option aW)} {s : SS} {p : PS} {P : Program} {ρ : Type}
theorem D3 (hs : Sim s p) (place : Nat → Option (Nat × Nat)) : ∀ {l : List (Nat × Operand)} {cs cs' : List SV} {qs : List PV}, cd s.bx cs qs → K4 place cs (wt s l) = some cs' → ∃ qs', D4 place qs (l.map fun (i, x) => (i, ev p x)) = some qs' ∧ cd s.bx cs' qs'
 | [], cs, cs', qs, h, hf => by injection hf with hf; subst hf; exact ⟨qs, rfl, h⟩
 | (i, x) :: l, cs, cs', qs, h, hf => by
  simp only [wt, K4] at hf
  split at hf
  ·rename_i off size ns h1 h2
   obtain ⟨h3, h4⟩ := an hf
   obtain ⟨h4, h5⟩ := an h4
   obtain ⟨ws, h6, h7⟩ := An (ca hs x) h2
   replace h3 : ns.length = size := by simpa using h3
   replace h4 := zd h4
   rw [mg cs off ns h4] at h5
   obtain ⟨qs', h8, h9⟩ := D3 hs place (h.splice h7 off) h5
   refine ⟨qs', ?_, h9⟩
   have l1 := h7.len
   have l2 := h.len
   simp only [List.map_cons, D4, h1, h6]
   rw [if_pos ⟨by omega, by omega⟩]
   exact h8
  ·cases hf
theorem uD {i : TI} {z : List SV} (h : CO i = some z) : cd B z (oN i) := (wO h).1
theorem Kq {cs : List SV} {qs : List PV} (h : cd B cs qs) : ∀ n, cd B (Tv n cs) (List.replicate n qs).flatten
 | 0 => .nil
 | n + 1 => by rw [List.replicate_succ, List.flatten_cons]; exact h.append (Kq h n)
theorem Hl (k : Nat) : ∀ (n : Nat) (l : List SD), (Je k n l).map (List.map SD.toD) = qV k n (l.map SD.toD)
 | 0, _ => rfl
 | n + 1, l => by simp only [Je, qV, List.map_cons, List.map_take, Hl k n, List.map_drop]
theorem Hj {t : Ty} : ∀ {l : List (List SD)} {xs : List t.den}, I3 t l = some xs → l.map (List.map SD.toD) = xs.map (bJ t)
 | [], xs, h => by injection h with h; subst h; rfl
 | c :: l, xs, h => by
  simp only [I3] at h
  split at h
  ·rename_i x xs' h1 h2
   injection h with h
   subst h
   simp only [List.map_cons, I0 h1, Hj h2]
  ·cases h
theorem EC (hs : Sim s p) {dst : Option Nat} {t : TypeId} {n : Nat} {l : List (Nat × Operand)} {k : SV → Upd → Option ρ} {res : ρ} (h : tO P s dst t n (wt s l) k = some res) :
  ML s p dst k res (ig P p.b dst t n (l.map fun (i, x) => (i, ev p x))) := by
 unfold tO at h
 split at h
 ·rename_i d e hu
  split at h
  ·rename_i i ty hi hb hty
   split at h
   ·rename_i z hz
    have h1 := (an h).1
    replace h := (an h).2
    have h2 := (an h).1
    replace h := (an h).2
    have h3 := (an h).1
    replace h := (an h).2
    have h4 := (an h).1
    replace h := (an h).2
    replace h1 := zd h1
    replace h2 := zd h2
    replace h3 := zd h3
    obtain ⟨hfr, h4⟩ := mq h4
    split at h
    ·rename_i cs hcs
     split at h
     ·rename_i ds hds
      split at h
      ·rename_i xs hxs
       obtain ⟨h5, h6⟩ := an h
       obtain ⟨qs, h7, h8⟩ := D3 hs _ (Kq (uD (B := s.bx) hz) n) hcs
       have h9 := uG h8 hds
       have hbd : p.b d = none := by have := hs.bx d; rw [hb] at this; exact this hfr
       have hch : qV i.size n (ds.map SD.toD) = xs.map (bJ ty) := by rw [← Hl, Hj hxs]
       have hlen : xs.length = n := by
        have := congrArg List.length hch
        rw [Am, List.length_map] at this
        exact this.symm
       refine ⟨_, _, .row d n, some (d, .rw e i.size (xs.map (bJ ty))), ?_, h6, ?_, ⟨h4, hb⟩, xF hb rfl⟩
       ·simp only [ig, hu, hi, hbd]
        rw [if_pos ⟨h1, h2, h3⟩]
        simp only [h7, h9, hch]
       ·exact n7 hs (p7 hb) (fun _ => ⟨rfl, fun p pin hp => by cases hp⟩) (.row d n e i.size ty xs [] (by rw [au, if_pos rfl]) hlen)
      ·cases h
     ·cases h
    ·cases h
   ·cases h
  ·cases h
 ·cases h
theorem Ht {α : Type} {l m z : List α} (h : aU l m = some z) : l.length + m.length ≤ 1000000 ∧ z = l ++ m := by
 unfold aU at h
 split at h
 ·rename_i hl; injection h with h; exact ⟨hl, h.symm⟩
 ·cases h
theorem Ho {t : Ty} (h : t = t) (xs : List t.den) : xY h xs = xs := rfl
theorem NQ (hs : Sim s p) {dst : Option Nat} {t : TypeId} {v w : SV} {q r : PV} {k : SV → Upd → Option ρ} {res : ρ} (hv : a8 s.bx v q) (hw : a8 s.bx w r) (h : Jm P s dst t v w k = some res) :
  ML s p dst k res (jd P p.b dst t q r) ∧ True := by
 refine ⟨?_, trivial⟩
 unfold Jm at h
 split at h
 ·rename_i e ty ys hu hdw
  have hr := I5 hs hw hdw
  split at h
  ·rename_i i hi
   have h1 := (an h).1
   replace h := (an h).2
   have h2 := (an h).1
   replace h := (an h).2
   have h3 := (an h).1
   replace h := (an h).2
   have h4 := (an h).1
   replace h := (an h).2
   replace h1 := zd h1
   replace h2 := zd h2
   replace h3 := zd h3
   replace h4 : tyN ty = i.size := by simpa using h4
   have hla : wA i.size (ys.map (bJ ty)) := by
    intro x hx
    obtain ⟨y, _, rfl⟩ := List.mem_map.1 hx
    rw [o7, h4]
   have sm : ∀ n, n ≤ 1000000 → small n i.bytes := fun n hn => by
    unfold small
    exact Nat.le_trans (Nat.mul_le_mul hn h3) (by decide)
   split at h
   ·rename_i x
    split at h
    ·rename_i e' kk ty' xs pins hb
     split at h
     ·rename_i hty hsame
      obtain rfl := hty
      have h5 := (an h).1
      replace h := (an h).2
      have h6 := (an h).1
      replace h := (an h).2
      have h7 := (an h).1
      replace h := (an h).2
      replace h5 : e' = e := by simpa using h5
      replace h6 : kk = i.size := by simpa using h6
      obtain ⟨hfr, h7⟩ := xi h7
      obtain ⟨zs, h8, h9⟩ := ar h
      rw [Ho] at h8
      obtain ⟨h10, rfl⟩ := Ht h8
      have hbx := hs.bx x
      rw [hb] at hbx
      obtain ⟨hbx, _⟩ := hbx
      cases hv with
      | row _ n e2 k2 ty2 xs2 pins2 hb2 hn2 =>
       rw [hb] at hb2
       injection hb2 with hb2
       injection hb2 with q1 q2 q3 q4 q5
       subst q3
       have q4 := eq_of_heq q4
       subst q4 hn2
       refine ⟨_, _, .row x (xs.length + ys.length), some (x, .rw e' kk (xs.map (bJ ty) ++ ys.map (bJ ty))), ?_, h9, ?_, ⟨h7, fun ty2 cs2 h => by rw [hb] at h; cases h⟩, Xq hfr⟩
       ·simp only [jd, hu, hr, hi, hbx]
        rw [if_pos ⟨h1, h2, hla⟩, if_pos ⟨by simp, h5, h6, by simpa using sm _ h10⟩]
        simp [h5]
       ·rw [← List.map_append]
        exact To hs hb (.row x _ e' kk ty (xs ++ ys) [] (by rw [au, if_pos rfl]) (by simp))
     ·cases h
    ·cases h
   ·obtain rfl := Pz hv
    split at h
    ·rename_i d
     split at h
     ·rename_i hb
      have h7 := (an h).1
      replace h := (an h).2
      obtain ⟨hfr, h7⟩ := mq h7
      obtain ⟨zs, h8, h9⟩ := ar h
      obtain ⟨h10, rfl⟩ := Ht h8
      have hbd : p.b d = none := by have := hs.bx d; rw [hb] at this; exact this hfr
      refine ⟨_, _, .row d zs.length, some (d, .rw e i.size (zs.map (bJ ty))), ?_, h9, ?_, ⟨h7, hb⟩, xF hb rfl⟩
      ·simp only [jd, hu, hr, hi, hbd]
       rw [if_pos ⟨h1, h2, hla⟩, if_pos ⟨trivial, trivial⟩, if_pos (by simpa using sm _ (by simpa using h10))]
       simp
      ·exact n7 hs (p7 hb) (fun _ => ⟨rfl, fun p pin hp => by cases hp⟩) (.row d _ e i.size ty _ [] (by rw [au, if_pos rfl]) (by simp))
     ·cases h
    ·cases h
   ·cases h
  ·cases h
 ·cases h
theorem QY (hs : Sim s p) {t : TypeId} {v : SV} {q : PV} {lo hi : Option Operand} {k : SV → Option ρ} {res : ρ} (hv : a8 s.bx v q) (h : MZ P s t v (lo.map (evX s)) (hi.map (evX s)) k = some res) : xh s k res (ef P p.b t q (lo.map (ev p)) (hi.map (ev p))) := by
 have int : ∀ {x : Operand} {i : Int}, zZ (evX s x) = some i → ∃ kd, ev p x = .d (.v (.int kd i)) := fun {x i} h => Rx (ca hs x) h
 unfold MZ at h
 split at h
 ·rename_i e ty xs hu
  have hq : kz p.b q = some (xs.map (bJ ty)) ∧ ∃ y, q = .d y := by
   rcases Py hv with rfl | ⟨rfl, rfl⟩
   ·exact ⟨rfl, _, rfl⟩
   ·exact ⟨by simp [kz], _, rfl⟩
  obtain ⟨hq, y, rfl⟩ := hq
  split at h
  ·rename_i i hi'
   have h1 := (an h).1
   replace h := (an h).2
   replace h1 : tyN ty = i.size := by simpa using h1
   have hla : wA i.size (xs.map (bJ ty)) := by
    intro x hx
    obtain ⟨y, _, rfl⟩ := List.mem_map.1 hx
    rw [o7, h1]
   split at h
   ·rename_i hl hh
    rw [Option.map_eq_none_iff] at hl hh
    subst hl hh
    refine dj ?_ h (MP ty xs)
    simp only [ef, hu, hi', hq, Option.map_none, vi]
    rw [if_pos ⟨Nat.zero_le _, Nat.le_refl _, hla⟩]
    simp [List.take_of_length_le]
   ·rename_i l hl hh
    rw [Option.map_eq_none_iff] at hh
    rw [zm] at hl
    obtain ⟨lo, rfl, rfl⟩ := hl
    subst hh
    split at h
    ·rename_i li hli
     obtain ⟨kd, hkd⟩ := int hli
     obtain ⟨z, h2, h3⟩ := ar h
     unfold loO at h2
     split at h2
     ·rename_i hc
      injection h2 with h2
      subst h2
      refine dj ?_ h3 (MP ty _)
      simp only [ef, hu, hi', hq, Option.map_none, Option.map_some, hkd, kP rfl hc.1]
      simp only [vi, List.length_map]
      rw [if_pos ⟨hc.2, Nat.le_refl _, hla⟩]
      rw [← List.map_drop, ← List.map_take, List.take_of_length_le (by simp)]
     ·cases h2
    ·cases h
   ·rename_i l hl hh
    rw [Option.map_eq_none_iff] at hl
    rw [zm] at hh
    obtain ⟨hi2, rfl, rfl⟩ := hh
    subst hl
    split at h
    ·rename_i li hli
     obtain ⟨kd, hkd⟩ := int hli
     obtain ⟨z, h2, h3⟩ := ar h
     unfold hiO at h2
     split at h2
     ·rename_i hc
      injection h2 with h2
      subst h2
      refine dj ?_ h3 (MP ty _)
      simp only [ef, hu, hi', hq, Option.map_none, Option.map_some, hkd, kP rfl hc.1]
      simp only [vi, List.length_map]
      rw [if_pos ⟨Nat.zero_le _, hc.2, hla⟩]
      simp
     ·cases h2
    ·cases h
   ·rename_i l l' hl hh
    rw [zm] at hl hh
    obtain ⟨lo, rfl, rfl⟩ := hl
    obtain ⟨hi2, rfl, rfl⟩ := hh
    split at h
    ·rename_i li hi3 hli hhi
     obtain ⟨kd, hkd⟩ := int hli
     obtain ⟨kd2, hkd2⟩ := int hhi
     obtain ⟨z, h2, h3⟩ := ar h
     unfold lhO at h2
     split at h2
     ·rename_i hc
      injection h2 with h2
      subst h2
      refine dj ?_ h3 (MP ty _)
      simp only [ef, hu, hi', hq, Option.map_some, hkd, hkd2, kP rfl hc.1, kP rfl hc.2.1, List.length_map]
      rw [if_pos ⟨hc.2.2.1, hc.2.2.2, hla⟩]
      simp
     ·cases h2
    ·cases h
  ·cases h
 ·rename_i e x hu
  split at h
  ·rename_i i e' kk ty xs pins hi' hb
   have h1 := (an h).1
   replace h := (an h).2
   replace h1 : kk = i.size := by simpa using h1
   have hbx := hs.bx x
   rw [hb] at hbx
   obtain ⟨hbx, _⟩ := hbx
   have ox : ∀ {o : Option Operand} {n : Nat} {l : Int}, Xp (o.map (evX s)) (n : Int) = some l → 0 ≤ l → vi (o.map (ev p)) n = some l.toNat := by
    intro o n l ho h0
    cases o with
    | none => injection ho with ho; subst ho; rfl
    | some y =>
     obtain ⟨kd, hkd⟩ := int (show zZ (evX s y) = some l from ho)
     rw [Option.map_some, kP hkd h0]
   cases hv with
   | row _ n e2 k2 ty2 xs2 pins2 hb2 hn2 =>
    rw [hb] at hb2
    injection hb2 with hb2
    injection hb2 with q1 q2 q3 q4 q5
    subst q3
    have q4 := eq_of_heq q4
    subst q4 hn2
    split at h
    ·rename_i l h' hl hh
     obtain ⟨_, h2, h3⟩ := ar h
     unfold vwO at h2
     split at h2
     ·rename_i hc
      refine dj (q := .vw x xs.length l.toNat h'.toNat) ?_ h3 (.vw x _ _ _ e' kk ty xs pins hb rfl)
      have hl' := ox (n := 0) hl hc.1
      have hh' := ox (n := xs.length) hh hc.2.1
      simp only [ef, hu, hi', hbx, hl', hh', List.length_map]
      rw [if_pos ⟨trivial, h1, hc.2.2.1, hc.2.2.2⟩]
     ·cases h2
    ·cases h
  ·cases h
 ·rename_i x hu
  obtain rfl := qd hv
  split at h
  ·rename_i l hl hh
   rw [Option.map_eq_none_iff] at hh
   rw [zm] at hl
   obtain ⟨lo, rfl, rfl⟩ := hl
   subst hh
   split at h
   ·rename_i li hli
    obtain ⟨kd, hkd⟩ := int hli
    obtain ⟨z, h2, h3⟩ := ar h
    unfold Q1 at h2
    split at h2
    ·rename_i hc
     injection h2 with h2
     subst h2
     refine dj ?_ h3 (vD _)
     simp only [ef, hu, asS, Option.map_none, Option.map_some, hkd, kP rfl hc.1]
     simp only [vi]
     rw [if_pos ⟨hc.2, Nat.le_refl _⟩]
    ·cases h2
   ·cases h
  ·rename_i l hl hh
   rw [Option.map_eq_none_iff] at hl
   rw [zm] at hh
   obtain ⟨hi2, rfl, rfl⟩ := hh
   subst hl
   split at h
   ·rename_i li hli
    obtain ⟨kd, hkd⟩ := int hli
    obtain ⟨z, h2, h3⟩ := ar h
    unfold M5 at h2
    split at h2
    ·rename_i hc
     injection h2 with h2
     subst h2
     refine dj ?_ h3 (vD _)
     simp only [ef, hu, asS, Option.map_none, Option.map_some, hkd, kP rfl hc.1]
     simp only [vi]
     rw [if_pos ⟨Nat.zero_le _, hc.2⟩]
    ·cases h2
   ·cases h
  ·rename_i l l' hl hh
   rw [zm] at hl hh
   obtain ⟨lo, rfl, rfl⟩ := hl
   obtain ⟨hi2, rfl, rfl⟩ := hh
   split at h
   ·rename_i li hi3 hli hhi
    obtain ⟨kd, hkd⟩ := int hli
    obtain ⟨kd2, hkd2⟩ := int hhi
    obtain ⟨z, h2, h3⟩ := ar h
    unfold Il at h2
    split at h2
    ·rename_i hc
     injection h2 with h2
     subst h2
     refine dj ?_ h3 (vD _)
     simp only [ef, hu, asS, Option.map_some, hkd, hkd2, kP rfl hc.1, kP rfl hc.2.1]
     rw [if_pos ⟨hc.2.2.1, hc.2.2.2⟩]
    ·cases h2
   ·cases h
  ·cases h
 ·cases h
theorem VB (hs : Sim s p) {v : SV} {q : PV} {ty : Ty} {ys : List ty.den} (hv : a8 s.bx v q) (h : Xi s v = some (.sl ty ys)) : kz p.b q = some (ys.map (bJ ty)) := by
 unfold Xi at h
 split at h
 ·rename_i t lo hi
  split at h
  ·rename_i e kk ty2 xs pins hb
   injection h with h
   injection h with e1 e2
   subst e1
   have e2 := eq_of_heq e2
   subst e2
   have hbx := hs.bx t
   rw [hb] at hbx
   obtain ⟨hbx, _⟩ := hbx
   cases hv with
   | vw _ _ _ n e2 k2 ty2 xs2 pins2 hb2 hn2 =>
    rw [hb] at hb2
    injection hb2 with hb2
    injection hb2 with q1 q2 q3 q4 q5
    subst q3
    have q4 := eq_of_heq q4
    subst q4 hn2
    simp only [kz, hbx, List.length_map, if_true]
    rw [← List.map_drop, ← List.map_take]
  ·cases h
 ·exact I5 hs hv h
theorem TG (hs : Sim s p) {v : SV} {q : PV} {x lo hi : Nat} {e kk : Nat} {ty : Ty} {xs : List ty.den} {pins : List (Nat × Pin)} (hb : lkB s.bx x = some (.rw e kk ty xs pins)) (hv : a8 s.bx v q) (h : TH s v = some (x, lo, hi)) : PW q = some (x, xs.length, lo, hi) := by
 unfold TH at h
 split at h
 ·rename_i t
  split at h
  ·rename_i e2 k2 ty2 xs2 pins2 hb2
   injection h with h
   injection h with q1 q2
   injection q2 with q2 q3
   subst q1 q2 q3
   cases hv with
   | row _ n e3 k3 ty3 xs3 pins3 hb3 hn3 =>
    rw [hb] at hb2 hb3
    injection hb2 with hb2
    injection hb2 with r1 r2 r3 r4 r5
    subst r3
    have r4 := eq_of_heq r4
    subst r4
    injection hb3 with hb3
    injection hb3 with r1 r2 r3 r4 r5
    subst r3
    have r4 := eq_of_heq r4
    subst r4 hn3
    rfl
  ·cases h
 ·injection h with h
  injection h with q1 q2
  injection q2 with q2 q3
  subst q1 q2 q3
  cases hv with
  | vw _ _ _ n e3 k3 ty3 xs3 pins3 hb3 hn3 =>
   rw [hb] at hb3
   injection hb3 with hb3
   injection hb3 with r1 r2 r3 r4 r5
   subst r3
   have r4 := eq_of_heq r4
   subst r4 hn3
   rfl
 ·cases h
theorem Rp {α β : Type} (f : α → β) (xs ys : List α) (lo : Nat) : (nn xs lo ys).map f = nn (xs.map f) lo (ys.map f) := by
 simp [nn, List.map_take, List.map_drop]
theorem UB (hs : Sim s p) {dst : Option Nat} {t : TypeId} {v w : SV} {q r : PV} {k : SV → Upd → Option ρ} {res : ρ} (hv : a8 s.bx v q) (hw : a8 s.bx w r) (h : UC P s t v w k = some res) :
  ML s p dst k res ((p5 P p.b t q r).map fun r => (r.1, some r.2)) := by
 unfold UC at h
 split at h
 ·rename_i e ty ys x lo hi hu hsrc hpart
  split at h
  ·rename_i i e' kk ty' xs pins hi' hb
   split at h
   ·rename_i hty hsame
    obtain rfl := hty
    have h1 := (an h).1
    replace h := (an h).2
    have h2 := (an h).1
    replace h := (an h).2
    have h3 := (an h).1
    replace h := (an h).2
    replace h1 : kk = i.size := by simpa using h1
    replace h2 : tyN ty = i.size := by simpa using h2
    obtain ⟨hro, h3⟩ := xi h3
    obtain ⟨zs, h4, h5⟩ := ar h
    rw [Ho] at h4
    unfold WY at h4
    split at h4
    ·rename_i hc
     injection h4 with h4
     subst h4
     have hbx := hs.bx x
     rw [hb] at hbx
     obtain ⟨hbx, hpins⟩ := hbx
     have hr := VB hs hw hsrc
     have hp := TG hs hb hv hpart
     have hla : wA i.size (ys.map (bJ ty)) := by
      intro x hx
      obtain ⟨y, _, rfl⟩ := List.mem_map.1 hx
      rw [o7, h2]
     have hlen : (nn xs lo (ys.take (hi - lo))).length = xs.length := Gw (by rw [List.length_take]; omega)
     have hble : BLe s.bx ((x, some (.rw e' kk ty (nn xs lo (ys.take (hi - lo))) (vE pins))) :: s.bx) := NM hb hlen (fun p2 pin2 hp2 => by
      rw [mt, hp2]
      exact ⟨_, rfl, rfl⟩)
     refine ⟨_, _, .d (.v (.int .i64 (min ys.length (hi - lo) : Nat))), some (x, .rw e' kk ((nn xs lo (ys.take (hi - lo))).map (bJ ty))), ?_, h5, ?_, ⟨h3, fun ty2 cs2 h => by rw [hb] at h; cases h⟩, Nj hro⟩
     ·simp only [p5, hu, hr, hp, hi', hbx, List.length_map]
      rw [if_pos ⟨trivial, h1, hla, hc.1, hc.2⟩, Rp, List.map_take]
      rfl
     ·refine n7 hs hble (fun _ => ⟨rfl, fun p2 pin2 hp2 => ?_⟩) (fH _ _)
      rw [mt, zm] at hp2
      obtain ⟨pin3, h7, rfl⟩ := hp2
      exact ⟨by rw [hlen]; exact (hpins p2 pin3 h7).1, fun cs hc => by cases hc⟩
    ·cases h4
   ·cases h
  ·cases h
 ·cases h
theorem CP : ∀ (l : List Value), (l.map fun z => PV.d (.v z)).mapM toD = some (l.map fun z => nrm (.v z))
 | [] => rfl
 | z :: l => by simp only [List.map_cons, List.mapM_cons, CP l, toD]; rfl
theorem TW (hs : Sim s p) {dst : Option Nat} {t : TypeId} {x y : Operand} {k : SV → Upd → Option ρ} {res : ρ} (h : TX P s dst t (M3 x y) (evX s x) k = some res) :
  ML s p dst k res (uM P p.b dst t (ev p x) (ev p y)) := by
 unfold TX at h
 split at h
 ·rename_i d e kd n hu hx hsame
  have hpx := ca hs x
  rw [hx] at hpx
  have hpx := kC hpx
  have hpy : ∃ kd', ev p y = .d (.v (.int kd' n)) := by
   unfold M3 at hsame
   split at hsame
   ·rename_i i j hq
    have : i = j := by simpa using hsame
    subst this
    exact ⟨kd, hpx⟩
   ·rename_i k1 n1 k2 m1 hq
    have : n1 = m1 := by simpa using hsame
    subst this
    have : ev p (.const (.int k1 n1)) = .d (.v (.int k1 n1)) := rfl
    rw [this] at hpx
    injection hpx with hpx
    injection hpx with hpx
    injection hpx with q1 q2
    subst q2
    exact ⟨k2, rfl⟩
   ·cases hsame
  obtain ⟨kd', hpy⟩ := hpy
  split at h
  ·rename_i i ty hi hb hty
   split at h
   ·rename_i z hz
    split at h
    ·rename_i ds hds
     split at h
     ·rename_i z0 hz0
      have h1 := (an h).1
      replace h := (an h).2
      have h2 := (an h).1
      replace h := (an h).2
      have h3 := (an h).1
      replace h := (an h).2
      have h4 := (an h).1
      replace h := (an h).2
      replace h1 := zd h1
      replace h2 := zd h2
      obtain ⟨hfr, h4⟩ := mq h4
      obtain ⟨xs, h5, h6⟩ := ar h
      unfold mkO at h5
      split at h5
      ·rename_i hc
       injection h5 with h5
       subst h5
       have hbd : p.b d = none := by have := hs.bx d; rw [hb] at this; exact this hfr
       have e1 : (i.zero.map fun z => nrm (.v z)) = bJ ty z0 := by
        have h7 := uG (uD (B := s.bx) hz) hds
        rw [show oN i = i.zero.map (fun z => PV.d (.v z)) from rfl, CP] at h7
        injection h7 with h7
        rw [h7]; exact I0 hz0
       refine ⟨_, _, .row d n.toNat, some (d, .rw e i.size ((List.replicate n.toNat z0).map (bJ ty))), ?_, h6, ?_, ⟨h4, hb⟩, xF hb rfl⟩
       ·simp only [uM, hu, hpx, hpy, asI, hi, hbd]
        rw [if_pos ⟨trivial, hc.1, hc.2, h1, h2⟩, List.map_replicate, e1]
       ·exact n7 hs (p7 hb) (fun _ => ⟨rfl, fun p pin hp => by cases hp⟩) (.row d _ e i.size ty _ [] (by rw [au, if_pos rfl]) (by simp))
      ·cases h5
     ·cases h
    ·cases h
   ·cases h
  ·cases h
 ·cases h
theorem zT (mx : Bool) : ∀ (l : List SV) (v w : SV) (q : PV) (qs : List PV), a8 B v q → cd B l qs → xI mx v l = some w → ∃ r, (match mx with | true => rT q qs | false => rS q qs) = some r ∧ a8 B w r
 | [], v, w, q, qs, hv, hl, h => by
  rcases hl.cases with ⟨_, rfl⟩ | ⟨_, _, _, _, h1, _⟩
  ·have : v = w := by cases v <;> (injection h)
   subst this
   exact ⟨q, by cases mx <;> rfl, hv⟩
  ·cases h1
 | u :: l, v, w, q, qs, hv, hl, h => by
  rcases hl.cases with ⟨h1, _⟩ | ⟨u', r, l', qs', h1, rfl, h2, h3⟩
  ·cases h1
  ·injection h1 with e1 e2
   subst e1 e2
   unfold xI at h
   split at h
   ·rename_i heq; cases heq
   ·rename_i k x k' y l2 heq
    injection heq with e1 e2
    subst e1 e2
    obtain rfl := kC hv
    obtain rfl := kC h2
    obtain ⟨r', h4, h5⟩ := zT mx l _ w _ qs' (fH _ _) h3 h
    refine ⟨r', ?_, h5⟩
    cases mx
    ·simp only [rS, Ed, asI]; exact h4
    ·simp only [rT, Ef, asI]; exact h4
   ·cases h
theorem V3 (hs : Sim s p) {t : TypeId} {v : SV} {q : PV} {k : SV → Option ρ} {res : ρ} (hv : a8 s.bx v q) (h : Xw P s t v k = some res) : xh s k res (tH P t q) := by
 unfold Xw at h
 split at h
 ·rename_i e hu
  split at h
  ·rename_i ty xs hd
   refine dj ?_ h (fH _ _)
   have : Nn q = some xs.length := by
    unfold qU at hd
    split at hd
    ·injection hd with hd
     subst hd
     rcases Py hv with rfl | ⟨rfl, rfl⟩
     ·simp [Nn]
     ·rfl
    ·obtain ⟨e, k, ty2, xs2, pins, h1, h2, rfl, h4⟩ := Ip hs hv hd
     injection h2 with e1 e2
     subst e1
     have e2 := eq_of_heq e2
     subst e2
     rfl
    ·cases hd
   simp [tH, hu, this]
  ·rename_i hd
   obtain rfl := Wu hv hd
   exact dj (by simp [tH, hu, Nn]) h (fH _ _)
  ·split at h
   ·cases hv
    exact dj (by simp [tH, hu, Nn]) h (fH _ _)
   ·cases h
 ·rename_i hu
  split at h
  ·obtain rfl := qd hv
   exact dj (by simp [tH, hu, asS]) h (fH _ _)
  ·cases h
 ·cases h
end
end Go.Proofs.YtchddofjajgopaaGreat
