/- My texts, in one. -/
import Derived.Test.YtmjkjaahbgikjaaGreatZB
set_option linter.all false
set_option maxRecDepth 100000
set_option maxHeartbeats 4000000
namespace Go.Proofs.YtmjkjaahbgikjaaGreat
open Go.RowKit
open IntKind (i64)
open Go.Proofs.Tryz (prog)
section
section
variable {P : Program} {ρ ρ' ρ2 : Nat → Value} {b b' b2 : Nat → Option Box} {w w' : World} {w0 : WM} {F F' F0 : Nat → Prop} {n : Nat}
theorem aK.to {x : Value} {p : PV} (h : aK ρ b w F x p) : (∀ t ∈ be p, (∀ ty cs, b t = some (.st ty cs) → ∃ cs', b2 t = some (.st ty cs')) ∧ ∀ e k es, b t = some (.rw e k es) → b2 t = some (.rw e k es)) → aK ρ b2 w F x p := by
 induction h with
 | junk x => exact fun _ => .junk x
 | d x d h => exact fun _ => .d x d h
 | ag xs cs hl h1 hr ih => exact fun hc => .ag xs _ hl h1 (fun j x c h2 h3 => ih j x c h2 h3 (fun t ht => hc t (dF h3 ht)))
 | tup xs cs hl hr ih => exact fun hc => .tup xs _ hl (fun j x c h2 h3 => ih j x c h2 h3 (fun t ht => hc t (dF h3 ht)))
 | ptr t off g ty cs hb hρ =>
  intro hc
  obtain ⟨cs', h1⟩ := (hc t (by simp [be])).1 _ _ hb
  exact .ptr _ off g ty _ h1 hρ
 | row t n A c e k es hb hn hcc hA hρ =>
  intro hc
  exact .row _ n A c e k es ((hc t (by simp [be])).2 _ _ _ hb) hn hcc hA hρ
 | re t n i off a e k es hb hn hi hρ =>
  intro hc
  exact .re _ n i off a e k es ((hc t (by simp [be])).2 _ _ _ hb) hn hi hρ
 | vw t n lo hi A m c e k es hb hn hl hh hm hρ =>
  intro hc
  exact .vw _ n lo hi A m c e k es ((hc t (by simp [be])).2 _ _ _ hb) hn hl hh hm hρ
 | fe a cs us hF hcell hrep => exact fun _ => .fe a cs us hF hcell hrep
 | fn f xs ys ps qs hl hr hl2 hr2 ih ih2 =>
  intro hc
  exact .fn f xs ys _ _ hl (fun j x c h2 h3 => ih j x c h2 h3 (fun t ht => hc t (by simp only [be, List.mem_append]; exact .inl (dF h3 ht))))
   hl2 (fun j x c h2 h3 => ih2 j x c h2 h3 (fun t ht => hc t (by simp only [be, List.mem_append]; exact .inr (dF h3 ht))))
mutual
theorem Lq : ∀ p : PV, be (qo p) = be p
 | .junk => rfl
 | .d _ => rfl
 | .ptr _ _ => rfl
 | .row _ _ => rfl
 | .re _ _ _ _ => rfl
 | .vw _ _ _ _ => rfl
 | .fe _ => rfl
 | .ag cs => by simp only [qo, be, oY cs]
 | .tup cs => by simp only [qo, be, oY cs]
 | .fn f ps qs => by simp only [qo, be, oY ps, oY qs]
theorem oY : ∀ cs : List PV, bI (dL cs) = bI cs
 | [] => rfl
 | c :: cs => by simp only [dL, bI, Lq c, oY cs]
end
def yn (ρ : Nat → Value) (bi : BU) (K : List Nat) : Nat → Option (Value × Option (Nat × Nat)) := fun t => if t ∈ K then (match lkU bi t with
 | some (.st _ _) => some (ρ t, none)
 | some (.rw _ k es) => some (ρ t, some (k, es.length))
 | none => none) else none
def aaf (P : Program) (fn : Func) (K : List Nat) (Q : PV → BU → Prop) (e : Exit) (s : PS) : Prop :=
 (match e with | .normal => True | .ret => True | _ => False) ∧ ∃ r bo, Q r bo ∧ (∀ t ∈ K, t ∈ bU bo) ∧ (∀ s ∈ be r, s ∈ bU bo) ∧ J2 bo ∧ (∃ p, qK P fn s = some p ∧ qo p = r) ∧ ∀ t B, lkU bo t = some B → ∃ B', s.b t = some B' ∧ rB B' = B
theorem SN {f : FuncId} {fn : Func} {c : Code} {args : List PV} {bi : BU} {K : List Nat} {Q : PV → BU → Prop} (hf : P.funcs[f]? = some fn) (hb : fn.body = some c) (hcb : dN P f = true) (hlen : args.length ≤ fn.ntmps)
  (hid : ∀ t ∈ K, 1000000 ≤ t) (h : PWP P fn.ntmps c (aaf P fn K Q) ⟨mh args, lkU bi⟩) : PCm P f args bi K Q := by
 refine ⟨hcb, fun w F ρ vs hi0 hv => ?_⟩
 refine calls_of_wp hf hb ?_
 have hl : vs.size = args.length := by have := hv.len; simpa using this
 have hi1 : Inv ⟨w, CK ρ (lkU bi), yn ρ bi K⟩ F ρ (lkU bi) w F := by
  refine ⟨⟨hi0.ext.os, hi0.ext.tape, hi0.ext.output, hi0.ext.size, hi0.ext.block⟩, hi0.f0, hi0.flt, hi0.fnew, hi0.box, hi0.dist, fun t q hq => ?_⟩
  have hq : yn ρ bi K t = some q := hq
  unfold yn at hq
  split at hq
  ·rename_i hk
   split at hq
   ·rename_i ty cs hB
    injection hq with hq
    subst hq
    exact ⟨hid t hk, .inr ⟨⟨ty, cs, hB⟩, rfl⟩⟩
   ·rename_i e k es hB
    injection hq with hq
    subst hq
    exact ⟨hid t hk, .inr ⟨e, es, hB, Nat.le_refl _, fun _ => rfl⟩⟩
   ·cases hq
  ·cases hq
 have hc : nS fn.ntmps ⟨w, CK ρ (lkU bi), yn ρ bi K⟩ F ⟨mh args, lkU bi⟩ { tmps := vs ++ Array.replicate (fn.ntmps - vs.size) undef, defers := [] } w := by
  refine ⟨by simp; omega, rfl, ρ, F, hi1, fun i => ?_⟩
  by_cases hi : i < vs.size
  ·have e1 : (vs ++ Array.replicate (fn.ntmps - vs.size) undef).getD i undef = vs[i] := by simp [Array.getElem?_append, hi]
   show aK ρ (lkU bi) w F _ (mh args i)
   rw [e1]
   have hia : i < args.length := by omega
   unfold mh
   rw [zq hia]
   exact hv.rep i _ _ (by simp [hi]) (zq hia)
  ·show aK ρ (lkU bi) w F _ (mh args i)
   unfold mh
   rw [List.getElem?_eq_none (by omega)]
   exact .junk _
 refine wp_mono (h ⟨w, CK ρ (lkU bi), yn ρ bi K⟩ F _ w hc) fun e a' w' ⟨s', ⟨hex, r, bo, hq, hid2, hr, hbo, ⟨p, h1, h2⟩, h3⟩, _, hd, ρ', F', hi, hev⟩ => ?_
 obtain ⟨v, hv1, hv2⟩ := D6 (P := P) hi hev h1
 have hto : ∀ t ∈ bU bo, (∀ ty cs, s'.b t = some (.st ty cs) → ∃ cs', lkU bo t = some (.st ty cs')) ∧ ∀ e k es, s'.b t = some (.rw e k es) → lkU bo t = some (.rw e k es) := fun t ht => by
  obtain ⟨B, hB⟩ := cN.1 ht
  obtain ⟨B', hB', hn⟩ := h3 t B hB
  refine ⟨fun ty cs k => ?_, fun e k es k1 => ?_⟩
  ·rw [hB'] at k
   injection k with k
   subst k
   exact ⟨_, by rw [hB, ← hn]; rfl⟩
  ·rw [hB'] at k1
   injection k1 with k1
   subst k1
   rw [hB, ← hn]; rfl
 have hbox : ∀ t B, lkU bo t = some B → jh ρ' (lkU bo) (WM.own ⟨w, CK ρ (lkU bi), fun _ => none⟩) w' F' t B := fun t B hB => by
  obtain ⟨B', hB', rfl⟩ := h3 t B hB
  have hbx := hi.box t B' hB'
  have hcl := hbo t _ hB
  cases hbx with
  | st ty cs g xs hr0 hg hF0 hh hl h1 hr =>
   refine .st ty _ g xs hr0 hg hF0 hh (by rw [ir]; exact hl) h1 (fun j x c k1 k2 => ?_)
   obtain ⟨d, k3, rfl⟩ := kD cs j c k2
   refine ((hr j x d k1 k3).to fun s hs => hto s (hcl s ?_)).nrmd
   show s ∈ bI (dL cs)
   rw [oY]
   exact dF k3 hs
  | rw e k es xs hk0 m1 m2 m3 m4 m5 m6 => exact .rw e k es xs hk0 m1 m2 m3 m4 m5 m6
  | gn e k es m1 => exact .gn e k es m1
 have hstp : Stp ρ (Ez bi K) w F ρ' (lkU bo) w' F' := by
  have hk : ∀ t B, Ez bi K t = some B → lkU bi t = some B ∧ t ∈ K ∧ t ∈ bU bo := fun t B ht => by
   unfold Ez at ht
   split at ht
   ·rename_i hk; exact ⟨ht, hk, hid2 t hk⟩
   ·cases ht
  refine ⟨fun g hg => hi.f0 g hg, fun g hg => ?_, fun t ty cs ht => ?_, fun t e k es ht => ?_⟩
  ·exact hi.ext.block g (hi0.flt g hg) fun ⟨t, B, hB, hg2⟩ => ((hi0.box t B hB).lt hg2).2.2 hg
  ·obtain ⟨ht, hkt, m1⟩ := hk t _ ht
   have m2 := (hi.reg t (ρ t, none) (by show yn ρ bi K t = _; unfold yn; rw [if_pos hkt, ht])).2
   rcases m2 with m2 | ⟨⟨ty', cs', m2⟩, m3⟩
   ·obtain ⟨B, hB⟩ := cN.1 m1
    obtain ⟨B', hB', _⟩ := h3 t B hB
    rw [m2] at hB'
    cases hB'
   ·obtain ⟨cs2, h5⟩ := (hto t m1).1 _ _ m2
    exact ⟨⟨_, _, h5⟩, m3⟩
  ·obtain ⟨ht, hkt, m1⟩ := hk t _ ht
   have m2 := (hi.reg t (ρ t, some (k, es.length)) (by show yn ρ bi K t = _; unfold yn; rw [if_pos hkt, ht])).2
   rcases m2 with m2 | ⟨e', es', m2, m3, m4⟩
   ·obtain ⟨B, hB⟩ := cN.1 m1
    obtain ⟨B', hB', _⟩ := h3 t B hB
    rw [m2] at hB'
    cases hB'
   ·exact ⟨e', es', (hto t m1).2 _ _ _ m2, m3, m4⟩
 have hinv : Inv ⟨w, CK ρ (lkU bi), fun _ => none⟩ F ρ' (lkU bo) w' F' := by
  refine ⟨⟨hi.ext.os, hi.ext.tape, hi.ext.output, hi.ext.size, hi.ext.block⟩, hi.f0, hi.flt, hi.fnew, hbox, fun t t' B B' g k1 k2 hne hg => ?_, fun t q hq => by cases hq⟩
  obtain ⟨_, m1, _⟩ := h3 t B k1
  obtain ⟨_, m2, _⟩ := h3 t' B' k2
  exact hi.dist t t' _ _ g m1 m2 hne hg
 have hres : aK ρ' (lkU bo) w' F' v r := by
  rw [← h2]
  exact (hv2.to fun s hs => hto s (hr s (by rw [← h2, Lq]; exact hs))).nrmd
 have fin : a'.defers = [] ∧ ∃ v, (results fn a'.tmps).run P w' = .ok v w' ∧ ∃ v' ρ'' F'' r bo, Q r bo ∧ Ending.returned v = .returned v' ∧ Inv ⟨w, CK ρ (lkU bi), fun _ => none⟩ F ρ'' (lkU bo) w' F'' ∧ Stp ρ (Ez bi K) w F ρ'' (lkU bo) w' F'' ∧ aK ρ'' (lkU bo) w' F'' v' r :=
  ⟨hd, v, hv1, v, ρ', F', r, bo, hq, rfl, hinv, hstp, hres⟩
 cases e with
 | normal => exact fin
 | ret => exact fin
 | exit _ => exact hex.elim
 | goto _ => exact hex.elim
 | panic _ => exact hex.elim
 | outgrown => exact hex.elim
end
end
section
variable {B : List (Nat × Option aW)} {s : SS} {p : PS} {P : Program} {ρ : Type}
theorem nH (hs : Sim s p) : ∀ l : List Operand, ca s.bx (v6 s l) (l.map (ev p))
 | [] => .nil
 | x :: l => .cons (bZ hs x) (nH hs l)
theorem Vj {c : Bool} {v w z : SV} {q r : PV} (hv : bc B v q) (hw : bc B w r) (h : Vk c v w = some z) : bc B z (if c then q else r) := by
 unfold Vk at h
 split at h
 ·split at h
  ·rename_i hk
   subst hk
   injection h with h
   subst h
   obtain rfl := kM hv
   obtain rfl := kM hw
   cases c
   ·exact fQ _ _
   ·exact fQ _ _
  ·cases h
 ·injection h with h
  subst h
  obtain rfl := kN hv
  obtain rfl := kN hw
  cases c
  ·exact eS _
  ·exact eS _
 ·injection h with h
  subst h
  obtain rfl := qI hv
  obtain rfl := qI hw
  cases c
  ·exact wq _
  ·exact wq _
 ·cases c
  ·injection h with h; subst h; exact hw
  ·injection h with h; subst h; exact hv
theorem Sv {x : ByteArray} {i z : Int} (h : kW x i = some z) : 0 ≤ i ∧ ∃ c : UInt8, x.data.toList[i.toNat]? = some c ∧ z = (c.toNat : Int) := by
 unfold kW at h
 split at h
 ·rename_i h0
  rw [zm] at h
  obtain ⟨c, h1, h2⟩ := h
  exact ⟨h0, c, h1, h2.symm⟩
 ·cases h
theorem Yf {o : Oper} (hs : Sim s p) {k : SV → Upd → Option ρ} {res : ρ} (hst : ∀ t x y, o.op = .store t x y → o.dst = none) (h : Yg P o s k = some res) : NV s p o.dst k res (eff P o p) := by
 unfold Yg at h
 unfold eff
 split at h
 all_goals
  rename_i ho
  simp only [ho]
 ·exact ⟨_, .no, _, none, rfl, h, kT hs (bZ hs _), trivial, dK⟩
 ·exact ⟨_, .no, _, none, rfl, h, kT hs (bZ hs _), trivial, dK⟩
 ·rename_i c x y
  split at h
  ·rename_i t hc
   split at h
   ·rename_i v hv
    have hq := bZ hs c
    rw [hc] at hq
    have hb : asB (ev p c) = some t := by rw [kN hq]; rfl
    simp only [hb]
    exact ⟨_, .no, _, none, rfl, h, kT hs (Vj (bZ hs x) (bZ hs y) hv), trivial, dK⟩
   ·cases h
  ·cases h
 ·rename_i e
  split at h
  ·rename_i t i hd hi
   split at h
   ·rename_i z hb hz
    obtain ⟨h1, h2⟩ := ao h
    obtain ⟨hfr, h1⟩ := mA h1
    have hbd : p.b t = none := by have := hs.bx t; rw [hb] at this; exact this hfr
    refine ⟨_, _, .ptr t 0, some (t, .st e (pb i)), ?_, h2, ?_, ⟨h1, hb⟩, yx hb hd⟩
    ·simp [uF, hd, hi, hbd]
    ·exact oE hs (qE hb) (fun _ => ⟨_, rfl, vn hz⟩) (.ptr t 0 _ _ (by rw [ar, if_pos rfl]))
   ·cases h
  ·cases h
 ·rename_i e x
  split at h
  ·rename_i t cs hd hc
   split at h
   ·rename_i hb
    obtain ⟨h1, h2⟩ := ao h
    obtain ⟨hfr, h1⟩ := mA h1
    have hbd : p.b t = none := by have := hs.bx t; rw [hb] at this; exact this hfr
    obtain ⟨qs, h3, h4⟩ := Bj (bZ hs x) hc
    refine ⟨_, _, .ptr t 0, some (t, .st e qs), ?_, h2, ?_, ⟨h1, hb⟩, yx hb hd⟩
    ·simp [Fd, hd, h3, hbd]
    ·exact oE hs (qE hb) (fun _ => ⟨_, rfl, h4.mono (qE hb)⟩) (.ptr t 0 _ _ (by rw [ar, if_pos rfl]))
   ·cases h
  ·cases h
 ·rename_i t ps
  split at h
  ·rename_i i fl hi hf
   split at h
   ·rename_i z hz
    split at h
    ·rename_i cs hcs
     obtain ⟨qs, h1, h2⟩ := ES hs _ (vn hz) hcs
     refine ⟨_, .no, .ag qs, none, ?_, h, kT hs (.ag _ _ h2.len h2.rep), trivial, dK⟩
     simp only [yP, hi, hf, h1]
     rfl
    ·cases h
   ·cases h
  ·cases h
 ·exact FA hs h
 ·rename_i t x
  split at h
  ·rename_i v hv
   obtain ⟨r, h1, h2⟩ := LM hs (bZ hs x) hv
   exact ⟨_, .no, r, none, by simp [h1], h, kT hs h2, trivial, dK⟩
  ·cases h
 ·rename_i t x y
  exact So hs (hst _ _ _ ho) (bZ hs x) (bZ hs y) h
 ·rename_i op t x y yt
  exact (Yy (bZ hs x) (bZ hs y) (fun n kd z hn hz => VF hn hz) h).done hs
 ·rename_i op t x
  exact (Y7 (bZ hs x) h).done hs
 ·rename_i src dst x
  exact (Wo hs (bZ hs x) h).done hs
 ·rename_i t x lo hi
  exact (Sq hs (bZ hs x) h).done hs
 ·rename_i t x f
  exact (GS (bZ hs x) h).done hs
 ·rename_i t x f
  exact (Tf (bZ hs x) h).done hs
 ·rename_i t x i
  exact GR hs (bZ hs x) (bZ hs i) h
 ·rename_i x i
  split at h
  ·rename_i vs hv
   split at h
   ·rename_i v hvi
    have hq := bZ hs x
    rw [hv] at hq
    obtain ⟨qs, h1, h2⟩ := UT hq
    have hlt : i < qs.length := by rw [← h2.len]; exact (zg.1 hvi).1
    have hqi : qs[i]? = some qs[i] := by simp [hlt]
    refine ⟨_, .no, qs[i], none, ?_, h, kT hs (h2.rep i _ _ hvi hqi), trivial, dK⟩
    simp [sR, h1, hqi]
   ·cases h
  ·cases h
 ·rename_i t x i
  split at h
  ·rename_i sx kd ix hu hx hi
   obtain ⟨z, h1, h2⟩ := cO h
   obtain ⟨h3, c, h4, rfl⟩ := Sv h1
   have hq := bZ hs x
   rw [hx] at hq
   have hr := bZ hs i
   rw [hi] at hr
   refine ⟨_, .no, _, none, ?_, h2, kT hs (fQ .u8 _), trivial, dK⟩
   simp [JR, hu, qI hq, kM hr, asS, asI, h3, h4]
  ·cases h
 ·rename_i c
  split at h
  ·rename_i f hf
   simp only [hf]
   unfold MJ at h
   unfold sU
   have hargs := nH hs c.args.toList
   split at h
   ·split at h
    ·rename_i x t hx ht
     rw [hx] at hargs
     rcases hargs.cases with ⟨h1, _⟩ | ⟨v, q, vs, qs, h1, h2, h3, h4⟩
     ·cases h1
     ·injection h1 with e1 e2
      subst e1 e2
      rcases h4.cases with ⟨_, rfl⟩ | ⟨_, _, _, _, h5, _⟩
      ·simp only [h2, ht]
       exact (X3 hs h3 h).done hs
      ·cases h5
    ·cases h
   ·split at h
    ·rename_i x y t t' hx ht
     rw [hx] at hargs
     rcases hargs.cases with ⟨h1, _⟩ | ⟨v, q, vs, qs, h1, h2, h3, h4⟩
     ·cases h1
     ·injection h1 with e1 e2
      subst e1 e2
      rcases h4.cases with ⟨h5, _⟩ | ⟨v2, q2, vs2, qs2, h5, h6, h7, h8⟩
      ·cases h5
      ·injection h5 with e1 e2
       subst e1 e2
       rcases h8.cases with ⟨_, rfl⟩ | ⟨_, _, _, _, h9, _⟩
       ·subst h6
        simp only [h2, ht]
        split at h
        ·rename_i htt
         have htt : t' = t := by simpa using htt
         rw [if_pos htt]
         exact (Pd hs h3 h7 h).1
        ·cases h
       ·cases h9
    ·cases h
   ·split at h
    ·rename_i x xs hx
     rw [hx] at hargs
     rcases hargs.cases with ⟨h1, _⟩ | ⟨v, q, vs, qs, h1, h2, h3, h4⟩
     ·cases h1
     ·injection h1 with e1 e2
      subst e1 e2
      split at h
      ·rename_i w hw
       obtain ⟨r, h5, h6⟩ := AQ false xs x w q qs h3 h4 hw
       simp only [h2]
       exact ⟨_, .no, r, none, by simp [show sP q qs = some r from h5], h, kT hs h6, trivial, dK⟩
      ·cases h
    ·cases h
   ·split at h
    ·rename_i x xs hx
     rw [hx] at hargs
     rcases hargs.cases with ⟨h1, _⟩ | ⟨v, q, vs, qs, h1, h2, h3, h4⟩
     ·cases h1
     ·injection h1 with e1 e2
      subst e1 e2
      split at h
      ·rename_i w hw
       obtain ⟨r, h5, h6⟩ := AQ true xs x w q qs h3 h4 hw
       simp only [h2]
       exact ⟨_, .no, r, none, by simp [show sQ q qs = some r from h5], h, kT hs h6, trivial, dK⟩
      ·cases h
    ·cases h
   ·split at h
    ·rename_i x y t t' hx ht
     rw [hx] at hargs
     rcases hargs.cases with ⟨h1, _⟩ | ⟨v, q, vs, qs, h1, h2, h3, h4⟩
     ·cases h1
     ·injection h1 with e1 e2
      subst e1 e2
      rcases h4.cases with ⟨h5, _⟩ | ⟨v2, q2, vs2, qs2, h5, h6, h7, h8⟩
      ·cases h5
      ·injection h5 with e1 e2
       subst e1 e2
       rcases h8.cases with ⟨_, rfl⟩ | ⟨_, _, _, _, h9, _⟩
       ·subst h6
        simp only [h2, ht]
        exact Wm hs h3 h7 h
       ·cases h9
    ·cases h
   ·cases h
  ·cases h
 ·rename_i f ps qs
  have h1 := nH hs ps.toList
  have h2 := nH hs qs.toList
  exact ⟨_, .no, _, none, rfl, h, kT hs (.fn f _ _ _ _ h1.len h1.rep h2.len h2.rep), trivial, dK⟩
 ·rename_i t x y
  exact VC hs h
 ·rename_i x
  exact (XU (bZ hs x) h).done hs
 ·cases h
def toC : (c : CT) → c.den → PV
 | .v t, x => .d (qp t x).toD
 | .a i, x => .ag ((stD i x).map .d)
 | .pl t, x => .fe [(qp t x).toD]
 | .ps i, x => .fe (stD i x)
def DR : (cs : List CT) → uI cs → List PV
 | [], _ => []
 | c :: cs, x => toC c x.1 :: DR cs x.2
def pd : (p : PT) → p.den → PV
 | .lf t, x => .d (qp t x).toD
 | .ag i, x => .ag ((stD i x).map .d)
 | .pl t, x => .fe [(qp t x).toD]
 | .ps i, x => .fe (stD i x)
 | .fn f a b, x => .fn f (DR a x.1) (DR b x.2)
 | .own .., _ => .junk
 | .mv .., _ => .junk
 | .bx .., _ => .junk
 | .agr .., _ => .junk
 | .io _, _ => .junk
def rq : (ps : List PT) → cp ps → List PV
 | [], _ => []
 | p :: ps, x => pd p x.1 :: rq ps x.2
def yi : (rs : List PT) → a8 rs → List PV
 | [], _ => []
 | [p], x => [pd p x]
 | p :: q :: l, x => pd p x.1 :: yi (q :: l) x.2
def toR (rs : List PT) (x : a8 rs) : PV := match rs, x with
 | [p], x => pd p x
 | rs, x => .tup (yi rs x)
def dY (rows : List (Nat × Nat × Nat × Nat × Ty)) : Nat → List D → List PV
 | _, [] => []
 | j, d :: ds => (match pu rows j with
  | some (R, _, _, _) => (match d with | .sl es => .row R es.length | .v _ => .junk)
  | none => .d d) :: dY rows (j + 1) ds
def ch (rows : List (Nat × Nat × Nat × Nat × Ty)) : Nat → List D → BU
 | _, [] => []
 | j, d :: ds => match pu rows j with
  | some (R, e, k, _) => (match d with | .sl es => (R, .rw e k es) :: ch rows (j + 1) ds | .v _ => ch rows (j + 1) ds)
  | none => ch rows (j + 1) ds
def rwU (e k : Nat) (t : Ty) (xs : List t.den) : Box := .rw e k (xs.map (bR t))
def toI : (p : PT) → List Nat → p.den → PV × BU
 | .own e k t, is, xs => (match is with | [i] => (.row i (show List t.den from xs).length, [(i, rwU e k t xs)]) | _ => (.junk, []))
 | .mv e k t, is, xs => (match is with | [i] => (.row i (show List t.den from xs).length, [(i, rwU e k t xs)]) | _ => (.junk, []))
 | .bx ty n rows, is, x => (match is with | i :: is => (.ptr i 0, (i, .st ty (dY (l8 rows is) 0 (stD n x))) :: ch (l8 rows is) 0 (stD n x)) | _ => (.junk, []))
 | .agr n rows, is, x => (.ag (dY (l8 rows is) 0 (stD n x)), ch (l8 rows is) 0 (stD n x))
 | .io _, _, _ => (.junk, [])
 | .lf t, _, x => (pd (.lf t) x, [])
 | .ag i, _, x => (pd (.ag i) x, [])
 | .pl t, _, x => (pd (.pl t) x, [])
 | .ps i, _, x => (pd (.ps i) x, [])
 | .fn f a b, _, x => (pd (.fn f a b) x, [])
def dW : (ps : List PT) → List (List Nat) → cp ps → List PV × BU
 | [], _, _ => ([], [])
 | p :: ps, is :: iss, x => ((toI p is x.1).1 :: (dW ps iss x.2).1, (toI p is x.1).2 ++ (dW ps iss x.2).2)
 | _ :: _, [], _ => ([], [])
def YN : Box → Box
 | .rw e k es => .rw e k (es ++ [[]])
 | B => B
def EH (l : BU) : List Nat → BU
 | [] => []
 | t :: ts => (t, match lkU l t with | some B => YN B | none => .st 0 []) :: EH l ts
def toO : (p : PT) → (b : IB) → List Nat → List Nat → p.den → b.den → BU
 | .own .., .own e k t, is, _, _, xs => (match is with | [i] => [(i, rwU e k t xs)] | _ => [])
 | .bx .., .bx ty n rows, is, js, _, x => (match is with | i :: _ => (i, .st ty (dY (l8 rows js) 0 (stD n x))) :: ch (l8 rows js) 0 (stD n x) | _ => [])
 | _, _, _, _, _, _ => []
def H6 : PT → List Nat → List Nat
 | .mv .., is => is
 | .bx .., _ :: is => is
 | _, _ => []
def pn : List PT → List (List Nat) → List Nat
 | p :: ps, is :: iss => H6 p is ++ pn ps iss
 | _, _ => []
def Sk : (ps : List PT) → (ls : List IB) → List (List Nat) → List (List Nat) → cp ps → yu ls → BU
 | p :: ps, b :: ls, is :: iss, js :: kss, x, o => toO p b is js x.1 o.1 ++ Sk ps ls iss kss x.2 o.2
 | _, _, _, _, _, _ => []
def cQ : (rs : List PT) → List (List Nat) → a8 rs → List PV × BU
 | [p], is :: _, x => ([(toI p is x).1], (toI p is x).2)
 | p :: q :: l, is :: iss, x => ((toI p is x.1).1 :: (cQ (q :: l) iss x.2).1, (toI p is x.1).2 ++ (cQ (q :: l) iss x.2).2)
 | _, _, _ => ([], [])
def yw : List PV → PV
 | [v] => v
 | vs => .tup vs
def ZY : (p : PT) → (b : IB) → p.den → b.den → Prop
 | .own _ _ t, .own _ _ t', x, o => (show List t'.den from o).length = (show List t.den from x).length
 | _, _, _, _ => True
def LR : (ps : List PT) → (ls : List IB) → cp ps → yu ls → Prop
 | p :: ps, b :: ls, x, o => ZY p b x.1 o.1 ∧ LR ps ls x.2 o.2
 | _, _, _, _ => True
def iE : List PT → List (List Nat) → Prop
 | [], [] => True
 | p :: ps, is :: iss => is.length = p.nI ∧ iE ps iss
 | _, _ => False
def jS : List IB → List (List Nat) → Prop
 | [], [] => True
 | b :: ls, js :: kss => js.length = b.nJ ∧ jS ls kss
 | _, _ => False
def tB (ps rs : List PT) (iss kss jss : List (List Nat)) (x : cp ps) (r : a8 rs) : BU := Sk ps (cx rs) iss kss x (jM rs r) ++ ((cQ (eY rs) jss (iG rs r)).2 ++ EH (dW ps iss x).2 (pn ps iss))
def aak (P : Program) (f : FuncId) (ps rs : List PT) (x : cp ps) (r : a8 rs) : Prop :=
 LR ps (cx rs) x (jM rs r) ∧ ∀ iss kss jss, iE ps iss → jS (cx rs) kss → iE (eY rs) jss → (bm iss ++ (bm kss ++ bm jss)).Nodup → (∀ j ∈ bm kss ++ bm jss, j < 1000000) → (∀ i ∈ bm iss, i ∈ bU (dW ps iss x).2) → dN P f = true ∧
  ∀ (w0 : WM) (F0 : Nat → Prop) (ρ : Nat → Value) (b : Nat → Option Box) (w : World) (F : Nat → Prop) (vs : Array Value) (args : List PV), dL args = (dW ps iss x).1 → (∀ t B, lkU (dW ps iss x).2 t = some B → ∃ B', b t = some B' ∧ rB B' = B) → (∀ t ∈ bm kss ++ bm jss, b t = none) →
   Inv w0 F0 ρ b w F → cG ρ b w F vs.toList args → Calls P f vs w fun e w' => ∃ v ρ' F', e = .returned v ∧ Inv w0 F0 ρ' (dD b (tB ps rs iss kss jss x r)) w' F' ∧ Stp ρ b w F ρ' (dD b (tB ps rs iss kss jss x r)) w' F' ∧ aK ρ' (dD b (tB ps rs iss kss jss x r)) w' F' v (yw (cQ (eY rs) jss (iG rs r)).1)
def bK (P : Program) (f : FuncId) (ps rs : List PT) (F : cp ps → Option (a8 rs)) : Prop := ∀ x r, F x = some r → ((oN ps || oN rs) = false → PC P f (rq ps x) (toR rs r)) ∧ ((oN ps || oN rs) = true → aak P f ps rs x r)
def qF (P : Program) (T : List (Nat × Ent)) : Prop := ∀ f vs en, lkE T f vs = some en → bK P f en.ps en.rs en.f
theorem qF.nil : qF P [] := fun f vs en h => by cases h
theorem qF.cons {T : List (Nat × Ent)} {f : FuncId} {ps rs : List PT} {F : cp ps → Option (a8 rs)} (h : bK P f ps rs F) (hT : qF P T) : qF P ((f, ⟨ps, rs, F⟩) :: T) := by
 intro g vs en hg
 simp only [lkE, cS] at hg
 by_cases e : g = f
 ·subst e
  simp only [decide_true] at hg
  split at hg
  ·injection hg with hg
   subst hg
   exact h
  ·exact hT g vs en hg
 ·simp only [e, decide_false] at hg
  exact hT g vs en hg
theorem Ds {t : Ty} {c : SD} {x : t.den} (h : c.as t = some x) : (qp t x).toD = c.toD := by
 have h1 := SD.as_ok h
 cases t with
 | st i => simp [SD.as] at h
 | _ => simp only [bR, List.cons.injEq, and_true] at h1; exact h1
theorem Wi (hs : Sim s p) {t : Ty} {v : SV} {q : PV} {x : t.den} (hv : bc s.bx v q) (h : Yk s t v = some x) : asData p.b q = .d (qp t x).toD ∧ (pk v = true → clean q = true ∧ asData dP q = .d (qp t x).toD) := by
 unfold Yk at h
 split at h
 ·rename_i c hc
  have := Wh hs hv hc
  simp only [Ds h]
  exact this
 ·cases h
theorem aae (hs : Sim s p) {i : Nat} {v : SV} {q : PV} {x : ST i} (hv : bc s.bx v q) (h : Yn s i v = some x) : asData p.b q = .ag ((stD i x).map .d) ∧ (pk v = true → clean q = true ∧ asData dP q = .ag ((stD i x).map .d)) := by
 unfold Yn at h
 split at h
 ·rename_i cs
  split at h
  ·rename_i ds hds
   obtain ⟨qs, rfl, hq⟩ := Hl hv
   obtain ⟨h1, h2⟩ := R4 hs hq hds
   have h3 := AB h
   have e : ds.map (fun c => PV.d c.toD) = (stD i x).map .d := by rw [← h3, List.map_map]; rfl
   refine ⟨by simp only [asData, h1, e], fun hn => ?_⟩
   obtain ⟨h4, h5⟩ := h2 hn
   exact ⟨by simpa [clean] using h4, by simp only [asData, h5, e]⟩
  ·cases h
 ·cases h
theorem Z5 {cs : List SD} {q : PV} (b : Nat → Option Box) (hv : bc B (.fe cs) q) : asData b q = .fe (cs.map SD.toD) ∧ clean q = true := by
 cases hv with
 | fe _ ds h hn => subst h; exact ⟨rfl, rfl⟩
theorem Tg {t : Ty} {v : SV} {q : PV} {x : t.den} (b : Nat → Option Box) (hv : bc B v q) (h : R2 t v = some x) : asData b q = .fe [(qp t x).toD] ∧ clean q = true := by
 unfold R2 at h
 split at h
 ·rename_i c
  have e : (qp t x).toD = c.toD := Ds h
  rw [e]
  exact Z5 b hv
 ·cases h
theorem S6 {i : Nat} {v : SV} {q : PV} {x : ST i} (b : Nat → Option Box) (hv : bc B v q) (h : R1 i v = some x) : asData b q = .fe (stD i x) ∧ clean q = true := by
 unfold R1 at h
 split at h
 ·rename_i cs
  rw [← AB h]
  exact Z5 b hv
 ·cases h
theorem Yo (hs : Sim s p) {t : CT} {v : SV} {q : PV} {x : t.den} (hv : bc s.bx v q) (h : Z9 s t v = some x) : asData p.b q = toC t x ∧ (pk v = true → clean q = true ∧ asData dP q = toC t x) := by
 cases t with
 | v t => exact Wi hs hv h
 | a i => exact aae hs hv h
 | pl t => exact ⟨(Tg p.b hv h).1, fun _ => ⟨(Tg p.b hv h).2, (Tg dP hv h).1⟩⟩
 | ps i => exact ⟨(S6 p.b hv h).1, fun _ => ⟨(S6 p.b hv h).2, (S6 dP hv h).1⟩⟩
theorem Fk (hs : Sim s p) : ∀ {ps : List CT} {vs : List SV} {qs : List PV} {x : uI ps}, ca s.bx vs qs → MA s ps vs = some x → bO p.b qs = DR ps x ∧ (cy vs = true → cI qs = true ∧ bO dP qs = DR ps x)
 | [], [], qs, x, hv, h => by
  rcases hv.cases with ⟨_, rfl⟩ | ⟨_, _, _, _, h1, _⟩
  ·simp [bO, DR, cI]
  ·cases h1
 | [], _ :: _, _, _, _, h => by cases h
 | _ :: _, [], _, _, _, h => by cases h
 | t :: ps, v :: vs, qs, x, hv, h => by
  rcases hv.cases with ⟨h1, _⟩ | ⟨v', q, vs', qs', h1, rfl, h2, h3⟩
  ·cases h1
  ·injection h1 with e1 e2
   subst e1 e2
   simp only [MA] at h
   obtain ⟨y, h4, h5⟩ := cO h
   obtain ⟨ys, h6, h7⟩ := cO h5
   injection h7 with h7
   subst h7
   obtain ⟨m1, m2⟩ := Yo hs h2 h4
   obtain ⟨m3, m4⟩ := Fk hs h3 h6
   refine ⟨by simp [bO, DR, m1, m3], fun hn => ?_⟩
   simp only [cy] at hn
   split at hn
   ·rename_i hn1
    obtain ⟨n1, n2⟩ := m2 hn1
    obtain ⟨n3, n4⟩ := m4 hn
    simp [bO, cI, DR, n1, n2, n3, n4]
   ·cases hn
theorem YD {f : FuncId} {ps qs : List SV} {q : PV} (h : bc B (.fn f ps qs) q) : ∃ ps' qs', q = .fn f ps' qs' ∧ ca B ps ps' ∧ ca B qs qs' := by
 cases h with
 | fn _ _ _ ps' qs' hl hr hl2 hr2 => exact ⟨ps', qs', rfl, ⟨hl, hr⟩, hl2, hr2⟩
theorem Du (hs : Sim s p) {t : PT} {v : SV} {q : PV} {x : t.den} (hv : bc s.bx v q) (h : MD s t v = some x) : asData p.b q = pd t x ∧ (pk v = true → clean q = true ∧ asData dP q = pd t x) := by
 cases t with
 | lf t => exact Wi hs hv h
 | ag i => exact aae hs hv h
 | pl t => exact ⟨(Tg p.b hv h).1, fun _ => ⟨(Tg p.b hv h).2, (Tg dP hv h).1⟩⟩
 | ps i => exact ⟨(S6 p.b hv h).1, fun _ => ⟨(S6 p.b hv h).2, (S6 dP hv h).1⟩⟩
 | fn f a b =>
  have h : ZA s f a b v = some x := h
  unfold ZA at h
  split at h
  ·rename_i f' ps qs
   split at h
   ·rename_i hf
    rw [cS] at hf
    have hf := zd hf
    subst hf
    obtain ⟨y, h4, h5⟩ := cO h
    obtain ⟨ys, h6, h7⟩ := cO h5
    injection h7 with h7
    subst h7
    obtain ⟨ps', qs', rfl, k1, k2⟩ := YD hv
    obtain ⟨m1, m2⟩ := Fk hs k1 h4
    obtain ⟨m3, m4⟩ := Fk hs k2 h6
    refine ⟨by simp only [asData, pd, m1, m3], fun hn => ?_⟩
    simp only [pk] at hn
    split at hn
    ·rename_i hn1
     obtain ⟨n1, n2⟩ := m2 hn1
     obtain ⟨n3, n4⟩ := m4 hn
     exact ⟨by simp only [clean, n1, n3, Bool.and_self], by simp only [asData, pd, n2, n4]⟩
    ·cases hn
   ·cases h
  ·cases h
 | own => exact dC (x := x) h
 | mv => exact dC (x := x) h
 | bx => exact dC (x := x) h
 | agr => exact dC (x := x) h
 | io => exact dC (x := x) h
theorem MC (hs : Sim s p) : ∀ {ps : List PT} {vs : List SV} {qs : List PV} {x : cp ps}, ca s.bx vs qs → R3 s ps vs = some x → bO p.b qs = rq ps x ∧ (cy vs = true → cI qs = true ∧ bO dP qs = rq ps x)
 | [], [], qs, x, hv, h => by
  rcases hv.cases with ⟨_, rfl⟩ | ⟨_, _, _, _, h1, _⟩
  ·simp [bO, rq, cI]
  ·cases h1
 | [], _ :: _, _, _, _, h => by cases h
 | _ :: _, [], _, _, _, h => by cases h
 | t :: ps, v :: vs, qs, x, hv, h => by
  rcases hv.cases with ⟨h1, _⟩ | ⟨v', q, vs', qs', h1, rfl, h2, h3⟩
  ·cases h1
  ·injection h1 with e1 e2
   subst e1 e2
   simp only [R3] at h
   obtain ⟨y, h4, h5⟩ := cO h
   obtain ⟨ys, h6, h7⟩ := cO h5
   injection h7 with h7
   subst h7
   obtain ⟨m1, m2⟩ := Du hs h2 h4
   obtain ⟨m3, m4⟩ := MC hs h3 h6
   refine ⟨by simp [bO, rq, m1, m3], fun hn => ?_⟩
   simp only [cy] at hn
   split at hn
   ·rename_i hn1
    obtain ⟨n1, n2⟩ := m2 hn1
    obtain ⟨n3, n4⟩ := m4 hn
    simp [bO, cI, rq, n1, n2, n3, n4]
   ·cases hn
theorem Jh (i : Nat) (x : ST i) : ca B (AU (stC i x)) ((stD i x).map .d) := by
 rw [← tZ i x]
 exact Es _ (wX i x)
theorem RO {t : Ty} (x : t.den) (h : ∀ i, t ≠ .st i) : bc B (.fe [qp t x]) (.fe [(qp t x).toD]) := by
 refine .fe _ _ rfl fun c hc => ?_
 simp only [List.mem_cons, List.not_mem_nil, or_false] at hc
 subst hc
 cases t with
 | st i => exact absurd rfl (h i)
 | _ => exact fun e => by cases e
theorem Wd : ∀ (t : CT) (x : t.den), aaa t = true → bc B (Z7 t x) (toC t x)
 | .v (.int _), x, _ => fQ _ _
 | .v .bool, x, _ => eS _
 | .v .str, x, _ => wq _
 | .v (.sl t), x, _ => NZ t x
 | .v (.st i), x, h => by cases h
 | .a i, x, _ => .ag _ _ (Jh (B := B) i x).len (Jh i x).rep
 | .pl t, x, h => RO x fun i e => by subst e; cases h
 | .ps i, x, _ => .fe _ _ (tZ i x).symm (wX i x)
theorem Bc : ∀ (ps : List CT) (x : uI ps), Fo ps = true → ca B (Il ps x) (DR ps x)
 | [], _, _ => .nil
 | p :: ps, x, h => by
  simp only [Fo] at h
  split at h
  ·rename_i hp; exact .cons (Wd p x.1 hp) (Bc ps x.2 h)
  ·cases h
theorem yN : ∀ (t : PT) (x : t.den), SK t = true → bc B (Ti t x) (pd t x)
 | .lf (.int _), x, _ => fQ _ _
 | .lf .bool, x, _ => eS _
 | .lf .str, x, _ => wq _
 | .lf (.sl t), x, _ => NZ t x
 | .lf (.st i), x, h => by cases h
 | .ag i, x, _ => .ag _ _ (Jh (B := B) i x).len (Jh i x).rep
 | .pl t, x, h => RO x fun i e => by subst e; cases h
 | .ps i, x, _ => .fe _ _ (tZ i x).symm (wX i x)
 | .fn f a b, x, h => by
  have h : (match Fo a with | true => Fo b | false => false) = true := h
  split at h
  ·rename_i h1
   have k1 := Bc (B := B) a x.1 h1
   have k2 := Bc (B := B) b x.2 h
   exact .fn f _ _ _ _ k1.len k1.rep k2.len k2.rep
  ·cases h
 | .own .., x, h => by cases h
 | .mv .., x, h => by cases h
 | .bx .., x, h => by cases h
 | .agr .., x, h => by cases h
 | .io _, x, h => by cases h
theorem Im : ∀ (ps : List PT) (x : cp ps), ul ps = true → ca B (Cc ps x) (rq ps x)
 | [], _, _ => .nil
 | p :: ps, x, h => by
  simp only [ul] at h
  split at h
  ·rename_i hp; exact .cons (yN p x.1 hp) (Im ps x.2 h)
  ·cases h
theorem Bb : ∀ (rs : List PT) (x : a8 rs), ul rs = true → ca B (RS rs x) (yi rs x)
 | [], _, _ => .nil
 | [p], x, h => by
  simp only [ul] at h
  split at h
  ·rename_i hp; exact .cons (yN p x hp) .nil
  ·cases h
 | p :: q :: l, x, h => by
  have h' : SK p = true ∧ ul (q :: l) = true := by
   rw [ul] at h
   split at h
   ·rename_i hp; exact ⟨hp, h⟩
   ·cases h
  exact .cons (yN p x.1 h'.1) (Bb (q :: l) x.2 h'.2)
theorem Wc (rs : List PT) (x : a8 rs) (h : ul rs = true) : bc B (Z6 rs x) (toR rs x) := by
 match rs, x, h with
 | [], x, h => exact .tup _ _ rfl (fun j c q h1 => by simp [RS] at h1)
 | [p], x, h =>
  have := Bb (B := B) [p] x h
  exact this.head
 | p :: q :: l, x, h =>
  have := Bb (B := B) (p :: q :: l) x h
  exact .tup _ _ this.len this.rep
theorem EP : ∀ {ds : List D}, (∀ d ∈ ds, ∃ x, d = .v x) → uC (ds.map .d) = true
 | [], _ => rfl
 | d :: ds, h => by
  obtain ⟨x, rfl⟩ := h d List.mem_cons_self
  simp [uC, flat, EP (fun d hd => h d (List.mem_cons_of_mem _ hd))]
theorem Ia : ∀ (t : PT) (x : t.den), t.flat = true → flat (pd t x) = true
 | .lf (.int _), _, _ => rfl
 | .lf .bool, _, _ => rfl
 | .lf .str, _, _ => rfl
 | .lf (.sl _), _, h => by cases h
 | .lf (.st _), _, h => by cases h
 | .ag i, x, h => by
  simp only [pd, flat]
  exact EP (Y9 i x h)
 | .pl _, _, h => by cases h
 | .ps _, _, h => by cases h
 | .fn _ _ _, _, h => by cases h
 | .own .., _, h => by cases h
 | .mv .., _, h => by cases h
 | .bx .., _, h => by cases h
 | .agr .., _, h => by cases h
 | .io _, _, h => by cases h
theorem H9 : ∀ (rs : List PT) (x : a8 rs), qA rs = true → uC (yi rs x) = true
 | [], _, _ => rfl
 | [p], x, h => by
  simp only [qA] at h
  split at h
  ·rename_i hp; simp [yi, uC, Ia p x hp]
  ·cases h
 | p :: q :: l, x, h => by
  have h' : p.flat = true ∧ qA (q :: l) = true := by
   rw [qA] at h
   split at h
   ·rename_i hp; exact ⟨hp, h⟩
   ·cases h
  simp [yi, uC, Ia p x.1 h'.1, H9 (q :: l) x.2 h'.2]
theorem uH : ∀ (ds : List D), cI (ds.map .d) = true
 | [] => rfl
 | d :: ds => by simp [cI, clean, uH ds]
theorem Tw : ∀ (t : CT) (x : t.den), clean (toC t x) = true
 | .v _, _ => rfl
 | .a i, x => by simp [toC, clean, uH]
 | .pl _, _ => rfl
 | .ps _, _ => rfl
theorem Fv : ∀ (cs : List CT) (x : uI cs), cI (DR cs x) = true
 | [], _ => rfl
 | c :: cs, x => by simp only [DR, cI, Tw c x.1, Fv cs x.2, Bool.and_self]
theorem dG : ∀ (t : PT) (x : t.den), clean (pd t x) = true
 | .lf _, _ => rfl
 | .ag i, x => by simp [pd, clean, uH]
 | .pl _, _ => rfl
 | .ps _, _ => rfl
 | .fn _ a b, x => by simp only [pd, clean, Fv, Bool.and_self]
 | .own .., _ => rfl
 | .mv .., _ => rfl
 | .bx .., _ => rfl
 | .agr .., _ => rfl
 | .io _, _ => rfl
theorem Fu : ∀ (rs : List PT) (x : a8 rs), cI (yi rs x) = true
 | [], _ => rfl
 | [p], x => by simp only [yi, cI, Bool.and_true]; exact dG p x
 | p :: q :: l, x => by simp only [yi, cI, Bool.and_eq_true]; exact ⟨dG p x.1, Fu (q :: l) x.2⟩
theorem rp (rs : List PT) (x : a8 rs) : (∃ p, yi rs x = [p] ∧ toR rs x = p) ∨ toR rs x = .tup (yi rs x) := by
 match rs, x with
 | [], x => exact .inr rfl
 | [p], x => exact .inl ⟨_, rfl, rfl⟩
 | p :: q :: l, x => exact .inr rfl
theorem V3 (rs : List PT) (x : a8 rs) (h : qA rs = true) : flat (toR rs x) = true := by
 have := H9 rs x h
 rcases rp rs x with ⟨p, h1, h2⟩ | h1
 ·rw [h1] at this
  rw [h2]
  simpa [uC] using this
 ·rw [h1]
  simpa [flat] using this
theorem Tv (rs : List PT) (x : a8 rs) : clean (toR rs x) = true := by
 have := Fu rs x
 rcases rp rs x with ⟨p, h1, h2⟩ | h1
 ·rw [h1] at this
  rw [h2]
  simpa [cI] using this
 ·rw [h1]
  simpa [clean] using this
theorem Wr {T : List (Nat × Ent)} (hT : qF P T) (hs : Sim s p) {f : Nat} {vs : List SV} {qs : List PV} (hM : S2 T f vs = false) (hv : ca s.bx vs qs) {k : SV → Option ρ} {res : ρ} (h : R7 T f s vs k = some res) : ∃ v r, K1 P f p.b qs r ∧ k v = some res ∧ bc s.bx v r := by
 unfold R7 at h
 split at h
 ·cases h
 ·rename_i en hen
  have h0 := (ao h).1
  replace h := (ao h).2
  have h1 := (ao h).1
  replace h := (ao h).2
  obtain ⟨x, h2, h⟩ := cO h
  obtain ⟨r, h3, h4⟩ := cO h
  obtain ⟨m1, m2⟩ := MC hs hv h2
  have hc := (hT f _ en hen x r h3).1 (by unfold S2 at hM; rw [hen] at hM; exact hM)
  refine ⟨_, toR en.rs r, ?_, h4, Wc en.rs r h0⟩
  simp only [Bool.or_eq_true] at h1
  rcases h1 with h1 | h1
  ·obtain ⟨n1, n2⟩ := m2 h1
   exact .inl ⟨n1, Tv _ _, by rw [n2]; exact hc⟩
  ·exact .inr ⟨V3 _ _ h1, by rw [m1]; exact hc⟩
end
section
section
variable {P : Program} {n : Nat} {Qs : Exit → PS → Prop} {c : Code}
end
end
section
def Le (p p' : PS) : Prop := ∀ (n : Nat) (w0 : WM) (F0 : Nat → Prop) (a : Act) (w : World), nS n w0 F0 p a w → nS n w0 F0 p' a w
theorem Le.refl (p : PS) : Le p p := fun _ _ _ _ _ h => h
theorem Le.trans {p p' p'' : PS} (h : Le p p') (h' : Le p' p'') : Le p p'' := fun n w0 F0 a w hc => h' n w0 F0 a w (h n w0 F0 a w hc)
theorem ug {P : Program} {n : Nat} {c : Code} {Q : Exit → PS → Prop} {p p' : PS} (hl : Le p p') (h : PWP P n c Q p') : PWP P n c Q p := fun w0 F0 a w hc => h w0 F0 a w (hl n w0 F0 a w hc)
theorem fu {P : Program} {n : Nat} {c : Code} {Q Q' : Exit → PS → Prop} {p : PS} (h : PWP P n c Q p) (hq : ∀ e p', Q e p' → ∃ p'', Le p' p'' ∧ Q' e p'') : PWP P n c Q' p :=
 fun w0 F0 a w hc => wp_mono (h w0 F0 a w hc) fun e a' w' ⟨s', h1, h2⟩ => by
  obtain ⟨p'', h3, h4⟩ := hq e s' h1
  exact ⟨p'', h4, h3 n w0 F0 a' w' h2⟩
structure gR (s : SS) (p : PS) : Prop where
 sl : ∀ i, bc s.bx (lkV s.sl i) (p.t i)
 bx : ∀ t b, lkB s.bx t = some b → l7 s.bx true (some b) (p.b t)
theorem l7.some {B : List (Nat × Option aW)} {o o' : Bool} {b : aW} {q : Option Box} (h : l7 B o (some b) q) : l7 B o' (some b) q := by cases b <;> exact h
theorem Sim.w {s : SS} {p : PS} (h : Sim s p) : gR s p := ⟨h.sl, fun t b hb => by have := h.bx t; rw [hb] at this; exact this.some⟩
mutual
def Wj : SV → PV → PV
 | .junk, _ => .junk
 | .ag cs, .ag qs => .ag (oy cs qs)
 | .tup cs, .tup qs => .tup (oy cs qs)
 | .fn _ ps qs, .fn f ps' qs' => .fn f (oy ps ps') (oy qs qs')
 | _, q => q
def oy : List SV → List PV → List PV
 | [], _ => []
 | _, [] => []
 | c :: cs, q :: qs => Wj c q :: oy cs qs
end
def J0 : aW → Box → Box
 | .st _ cs, .st ty qs => .st ty (oy cs qs)
 | _, b => b
def xA (s : SS) (p : PS) : PS := ⟨fun i => Wj (lkV s.sl i) (p.t i), fun t => match lkB s.bx t with | none => none | some b => (p.b t).map (J0 b)⟩
theorem fY : ∀ (cs : List SV) (qs : List PV), cs.length = qs.length → (oy cs qs).length = qs.length
 | [], [], _ => rfl
 | [], _ :: _, h => by simp at h
 | _ :: _, [], h => by simp at h
 | c :: cs, q :: qs, h => by simp only [oy, List.length_cons, fY cs qs (by simpa using h)]
theorem fZ : ∀ (cs : List SV) (qs : List PV) (j : Nat) (r : PV), (oy cs qs)[j]? = some r → ∃ c q, cs[j]? = some c ∧ qs[j]? = some q ∧ r = Wj c q
 | [], qs, j, r, h => by simp [oy] at h
 | _ :: _, [], j, r, h => by simp [oy] at h
 | c :: cs, q :: qs, 0, r, h => by simp [oy] at h; exact ⟨c, q, rfl, rfl, h.symm⟩
 | c :: cs, q :: qs, j + 1, r, h => by
  simp [oy] at h
  simpa using fZ cs qs j r h
theorem K5 {B : List (Nat × Option aW)} {v : SV} {q : PV} (h : bc B v q) : bc B v (Wj v q) := by
 induction h with
 | junk q => exact .junk _
 | d c y h => exact .d c y h
 | ag cs qs hl hr ih =>
  refine .ag cs _ (by rw [fY cs qs hl]; exact hl) (fun j c r h1 h2 => ?_)
  obtain ⟨c', q', h3, h4, rfl⟩ := fZ cs qs j r h2
  rw [h1] at h3
  injection h3 with h3
  subst h3
  exact ih j c q' h1 h4
 | tup cs qs hl hr ih =>
  refine .tup cs _ (by rw [fY cs qs hl]; exact hl) (fun j c r h1 h2 => ?_)
  obtain ⟨c', q', h3, h4, rfl⟩ := fZ cs qs j r h2
  rw [h1] at h3
  injection h3 with h3
  subst h3
  exact ih j c q' h1 h4
 | ptr t o ty cs hb => exact .ptr t o ty cs hb
 | row t n e k ty xs pins hb hn => exact .row t n e k ty xs pins hb hn
 | re t p o n i e k ty xs pins pin hb hn hp hi => exact .re t p o n i e k ty xs pins pin hb hn hp hi
 | vw t lo hi n e k ty xs pins hb hn => exact .vw t lo hi n e k ty xs pins hb hn
 | fe cs ds h hn => exact .fe cs ds h hn
 | fn f ps qs ps' qs' hl hr hl2 hr2 ih ih2 =>
  refine .fn f ps qs _ _ (by rw [fY ps ps' hl]; exact hl) (fun j c r h1 h2 => ?_) (by rw [fY qs qs' hl2]; exact hl2) (fun j c r h1 h2 => ?_)
  ·obtain ⟨c', q', h3, h4, rfl⟩ := fZ ps ps' j r h2
   rw [h1] at h3
   injection h3 with h3
   subst h3
   exact ih j c q' h1 h4
  ·obtain ⟨c', q', h3, h4, rfl⟩ := fZ qs qs' j r h2
   rw [h1] at h3
   injection h3 with h3
   subst h3
   exact ih2 j c q' h1 h4
theorem Wl {B : List (Nat × Option aW)} {cs : List SV} {qs : List PV} (h : ca B cs qs) : ca B cs (oy cs qs) :=
 ⟨by rw [fY cs qs h.len]; exact h.len, fun j c r h1 h2 => by
  obtain ⟨c', q', h3, h4, rfl⟩ := fZ cs qs j r h2
  rw [h1] at h3
  injection h3 with h3
  subst h3
  exact K5 (h.rep j c q' h1 h4)⟩
section
variable {ρ : Nat → Value} {b b' : Nat → Option Box} {w : World} {F : Nat → Prop} {B : List (Nat × Option aW)}
theorem Ly (hst : ∀ t ty cs ty' qs, lkB B t = some (.st ty cs) → b t = some (.st ty' qs) → ∃ ty2 qs2, b' t = some (.st ty2 qs2)) (hrw : ∀ t e k ty xs pins, lkB B t = some (.rw e k ty xs pins) → b' t = b t) {v : SV} {q : PV} (hv : bc B v q) :
  ∀ {x : Value}, aK ρ b w F x q → aK ρ b' w F x (Wj v q) := by
 induction hv with
 | junk q => exact fun _ => .junk _
 | d c y h =>
  intro x hp
  cases hp with
  | d _ _ h => exact .d _ _ h
 | ag cs qs hl hr ih =>
  intro x hp
  cases hp with
  | ag xs _ hl2 h1 hr2 =>
   refine .ag xs _ (by rw [fY cs qs hl]; exact hl2) h1 (fun j x r h2 h3 => ?_)
   obtain ⟨c, q, h4, h5, rfl⟩ := fZ cs qs j r h3
   exact ih j c q h4 h5 (hr2 j x q h2 h5)
 | tup cs qs hl hr ih =>
  intro x hp
  cases hp with
  | tup xs _ hl2 hr2 =>
   refine .tup xs _ (by rw [fY cs qs hl]; exact hl2) (fun j x r h2 h3 => ?_)
   obtain ⟨c, q, h4, h5, rfl⟩ := fZ cs qs j r h3
   exact ih j c q h4 h5 (hr2 j x q h2 h5)
 | ptr t o ty cs hb =>
  intro x hp
  cases hp with
  | ptr _ _ g ty' qs h1 h2 =>
   obtain ⟨ty2, qs2, h3⟩ := hst t ty cs ty' qs hb h1
   exact .ptr t o g ty2 qs2 h3 h2
 | row t n e k ty xs pins hb hn =>
  intro x hp
  cases hp with
  | row _ _ A c e2 k2 es h1 h2 h3 h4 h5 => exact .row t n A c e2 k2 es (by rw [hrw t e k ty xs pins hb]; exact h1) h2 h3 h4 h5
 | re t p o n i e k ty xs pins pin hb hn hp hi =>
  intro x hx
  cases hx with
  | re _ _ _ _ a e2 k2 es h1 h2 h3 h4 => exact .re t n i o a e2 k2 es (by rw [hrw t e k ty xs pins hb]; exact h1) h2 h3 h4
 | vw t lo hi n e k ty xs pins hb hn=>
  intro x hp
  cases hp with
  | vw _ _ _ _ A m c e2 k2 es h1 h2 h3 h4 h5 h6 => exact .vw t n lo hi A m c e2 k2 es (by rw [hrw t e k ty xs pins hb]; exact h1) h2 h3 h4 h5 h6
 | fe cs ds h hn =>
  intro x hx
  cases hx with
  | fe a _ us h1 h2 h3 => exact .fe a ds us h1 h2 h3
 | fn f ps qs ps' qs' hl hr hl2 hr2 ih ih2 =>
  intro x hx
  cases hx with
  | fn _ xs ys _ _ m1 m2 m3 m4 =>
   refine .fn f xs ys _ _ (by rw [fY ps ps' hl]; exact m1) (fun j x r h2 h3 => ?_) (by rw [fY qs qs' hl2]; exact m3) (fun j x r h2 h3 => ?_)
   ·obtain ⟨c, q, h4, h5, rfl⟩ := fZ ps ps' j r h3
    exact ih j c q h4 h5 (m2 j x q h2 h5)
   ·obtain ⟨c, q, h4, h5, rfl⟩ := fZ qs qs' j r h3
    exact ih2 j c q h4 h5 (m4 j x q h2 h5)
end
theorem rx {s : SS} {p : PS} (h : gR s p) : Sim ⟨s.sl, s.bx, s.pr, s.ro, []⟩ (xA s p) := by
 refine ⟨fun i => K5 (h.sl i), fun t => ?_⟩
 show l7 s.bx (aA [] t) (lkB s.bx t) (match lkB s.bx t with | none => none | some b => (p.b t).map (J0 b))
 cases hb : lkB s.bx t with
 | none => exact fun _ => rfl
 | some bx =>
  have h1 := h.bx t bx hb
  cases bx with
  | st ty cs =>
   obtain ⟨qs, h2, h3⟩ := h1
   rw [h2]
   exact ⟨oy cs qs, rfl, Wl h3⟩
  | rw e k ty xs pins =>
   obtain ⟨h2, h3⟩ := h1
   rw [h2]
   exact ⟨rfl, h3⟩
theorem AW {s : SS} {p : PS} (h : gR s p) : Le p (xA s p) := by
 intro n w0 F0 a w ⟨h1, h2, ρ, F, hi, hev⟩
 have hst : ∀ t ty cs ty' qs, lkB s.bx t = some (.st ty cs) → p.b t = some (.st ty' qs) → ∃ ty2 qs2, (xA s p).b t = some (.st ty2 qs2) := fun t ty cs ty' qs k1 k2 => by
  refine ⟨ty', oy cs qs, ?_⟩
  show (match lkB s.bx t with | none => none | some b => (p.b t).map (J0 b)) = _
  rw [k1, k2]; rfl
 have hrw : ∀ t e k ty xs pins, lkB s.bx t = some (.rw e k ty xs pins) → (xA s p).b t = p.b t := fun t e k ty xs pins k1 => by
  show (match lkB s.bx t with | none => none | some b => (p.b t).map (J0 b)) = _
  rw [k1, (h.bx t _ k1).1]; rfl
 have hreg : ∀ t q, pA ρ p.b t q → pA ρ (xA s p).b t q := fun t q k => by
  cases hl : lkB s.bx t with
  | none => exact k.less (.inl (by show (match lkB s.bx t with | none => none | some b => (p.b t).map (J0 b)) = _; rw [hl]))
  | some b =>
   have hc : (xA s p).b t = (p.b t).map (J0 b) := by show (match lkB s.bx t with | none => none | some b => (p.b t).map (J0 b)) = _; rw [hl]
   cases b with
   | st ty cs =>
    refine k.mono (fun e => by rw [hc, e]; rfl) (fun ty' qs e => ⟨⟨ty', _, by rw [hc, e]; rfl⟩, rfl⟩) (fun e k' es he => ⟨e, es, by rw [hc, he]; rfl, Nat.le_refl _, fun _ => rfl⟩)
   | rw e k' ty xs pins => exact k.same (hrw t e k' ty xs pins hl) rfl
 have hb : ∀ t Bx, (xA s p).b t = some Bx → ∃ b B0, lkB s.bx t = some b ∧ p.b t = some B0 ∧ Bx = J0 b B0 := fun t Bx k => by
  have k : (match lkB s.bx t with | none => none | some b => (p.b t).map (J0 b)) = some Bx := k
  cases hl : lkB s.bx t with
  | none => rw [hl] at k; cases k
  | some b =>
   rw [hl] at k
   rw [zm] at k
   obtain ⟨B0, k1, k2⟩ := k
   exact ⟨b, B0, rfl, k1, k2.symm⟩
 refine ⟨h1, h2, ρ, F, ⟨hi.ext, hi.f0, hi.flt, hi.fnew, fun t Bx k => ?_, fun t t' Bx Bx' g k1 k2 => ?_, fun t q hq => ⟨(hi.reg t q hq).1, hreg t q (hi.reg t q hq).2⟩⟩, fun i => Ly hst hrw (h.sl i) (hev i)⟩
 ·obtain ⟨b, B0, k1, k2, rfl⟩ := hb t Bx k
  have hbx := hi.box t B0 k2
  have hs := h.bx t b k1
  cases b with
  | st ty cs =>
   obtain ⟨qs, k3, k4⟩ := hs
   rw [k2] at k3
   injection k3 with k3
   subst k3
   cases hbx with
   | st _ _ g xs hρ hg hF hh hl h1x hr =>
    refine .st ty _ g xs hρ hg hF hh (by rw [fY cs qs k4.len]; exact hl) h1x (fun j x r m1 m2 => ?_)
    obtain ⟨c, q, m3, m4, rfl⟩ := fZ cs qs j r m2
    exact Ly hst hrw (k4.rep j c q m3 m4) (hr j x q m1 m4)
  | rw e k ty xs pins =>
   obtain ⟨k3, _⟩ := hs
   rw [k2] at k3
   injection k3 with k3
   subst k3
   cases hbx with
   | rw _ _ _ xs' hk0 ho hF hk hl hr hown => exact .rw _ _ _ xs' hk0 ho hF hk hl hr hown
   | gn _ _ _ hρ => exact .gn _ _ _ hρ
 ·obtain ⟨_, B1, _, m1, _⟩ := hb t Bx k1
  obtain ⟨_, B2, _, m2, _⟩ := hb t' Bx' k2
  exact hi.dist t t' B1 B2 g m1 m2
def Z4 (t : Nat) (es : List (List D)) (p : PS) : PS := ⟨fun i => frz t es (p.t i), fun i => if i = t then none else (p.b i).map (A1 t es)⟩
theorem VI {p : PS} (t : Nat) {e k : Nat} {es : List (List D)} (hb0 : p.b t = some (.rw e k es)) : Le p (Z4 t es p) := by
 intro n w0 F0 a w ⟨h1, h2, ρ, F, hi, hev⟩
 have hb' : ∀ i, (Z4 t es p).b i = if i = t then none else (p.b i).map (A1 t es) := fun i => rfl
 have hbt := (hi.box t _ hb0)
 refine ⟨h1, h2, ρ, fun g => F g ∨ blk (ρ t) = some g, ⟨hi.ext, fun g hg => .inl (hi.f0 g hg), ?_, ?_, fun t' B h => ?_, fun t1 t2 B1 B2 g k1 k2 hne => ?_, hi.reg_frz hb'⟩, fun i => (hev i).frz hi hb0 hb'⟩
 ·rintro g (hg | hg)
  ·exact hi.flt g hg
  ·exact (hbt.lt hg).1
 ·rintro g (hg | hg)
  ·exact hi.fnew g hg
  ·exact .inr (hbt.lt hg).2.1
 ·rw [hb'] at h
  split at h
  ·cases h
  ·rename_i ht
   rw [zm] at h
   obtain ⟨B0, hB0, rfl⟩ := h
   have hnF : ∀ g, blk (ρ t') = some g → ¬ (F g ∨ blk (ρ t) = some g) := by
    rintro g hg (h | h)
    ·exact ((hi.box t' B0 hB0).lt hg).2.2 h
    ·exact hi.dist t' t B0 _ g hB0 hb0 ht hg h
   cases hi.box t' B0 hB0 with
   | st ty cs g xs hρ hg hF hh hl h1 hr =>
    refine .st ty _ g xs hρ hg (hnF g (by rw [hρ]; rfl)) hh (by rw [gZ]; exact hl) h1 (fun j x c k1 k2 => ?_)
    obtain ⟨d, h4, rfl⟩ := g5 t es cs j c k2
    exact (hr j x d k1 h4).frz hi hb0 hb'
   | rw e' k' es' xs hk0 ho hF hk hl hr hown => exact .rw e' k' es' xs hk0 ho hnF hk hl (fun j x d k1 k2 => (hr j x d k1 k2).mono (fun g h => .inl h) (fun _ _ => rfl)) hown
   | gn e' k' es' hρ => exact .gn e' k' es' hρ
 ·rw [hb'] at k1 k2
  split at k1
  ·cases k1
  ·split at k2
   ·cases k2
   ·rw [zm] at k1 k2
    obtain ⟨B1', k1, _⟩ := k1
    obtain ⟨B2', k2, _⟩ := k2
    exact hi.dist t1 t2 B1' B2' g k1 k2 hne
def VX (t : Nat) (c : SD) : aW → aW
 | .st ty cs => .st ty (nF t c cs)
 | b => b
theorem lc (t : Nat) (c : SD) : ∀ (l : List (Nat × Option aW)) (i : Nat), lkB (rI t c l) i = (lkB l i).map (VX t c)
 | [], _ => rfl
 | (j, none) :: l, i => by simp only [rI, ar, lc t c l i]; split <;> rfl
 | (j, some (.st ty cs)) :: l, i => by simp only [rI, ar, lc t c l i]; split <;> rfl
 | (j, some (.rw e k ty xs pins)) :: l, i => by simp only [rI, ar, lc t c l i]; split <;> rfl
theorem Dm (t : Nat) (c : SD) : ∀ (l : List (Nat × SV)) (i : Nat), lkV (EM t c l) i = uA t c (lkV l i)
 | [], _ => rfl
 | (j, v) :: l, i => by simp only [EM, cR, Dm t c l i]; split <;> rfl
theorem mG (t : Nat) (c : SD) : ∀ (cs : List SV) (j : Nat), (nF t c cs)[j]? = (cs[j]?).map (uA t c)
 | [], j => by simp [nF]
 | v :: cs, 0 => by simp [nF]
 | v :: cs, j + 1 => by simpa [nF] using mG t c cs j
theorem kE (t : Nat) (c : SD) : ∀ cs : List SV, (nF t c cs).length = cs.length
 | [] => rfl
 | v :: cs => by simp [nF, kE t c cs]
theorem bc.frz {B B' : List (Nat × Option aW)} {t e k : Nat} {ty : Ty} {xs : List ty.den} {pins : List (Nat × Pin)} (ht : lkB B t = some (.rw e k ty xs pins)) (hB : UR t B B') {v : SV} {q : PV} (h : bc B v q) : bc B' (uA t (.sl ty xs) v) (Go.Proofs.YtmjkjaahbgikjaaGreat.frz t (xs.map (bR ty)) q) := by
 induction h with
 | junk q => exact .junk _
 | d c y h => exact .d c y h
 | ag cs qs hl hr ih =>
  refine .ag _ _ (by rw [kE, gZ]; exact hl) (fun j c r h1 h2 => ?_)
  rw [mG, zm] at h1
  obtain ⟨c', h3, rfl⟩ := h1
  obtain ⟨q', h4, rfl⟩ := g5 _ _ qs j r h2
  exact ih j c' q' h3 h4
 | tup cs qs hl hr ih =>
  refine .tup _ _ (by rw [kE, gZ]; exact hl) (fun j c r h1 h2 => ?_)
  rw [mG, zm] at h1
  obtain ⟨c', h3, rfl⟩ := h1
  obtain ⟨q', h4, rfl⟩ := g5 _ _ qs j r h2
  exact ih j c' q' h3 h4
 | ptr t' o ty2 cs hb => obtain ⟨ty', cs', h1⟩ := hB.st t' ty2 cs hb; exact .ptr t' o ty' cs' h1
 | row t' n e2 k2 ty2 xs2 pins2 hb hn =>
  simp only [uA, Go.Proofs.YtmjkjaahbgikjaaGreat.frz, cS]
  by_cases h : t' = t
  ·subst h
   rw [ht] at hb
   injection hb with hb
   injection hb with e1 e2 e3 e4 e5
   subst e3
   have e4 := eq_of_heq e4
   subst e4
   simp only [decide_true, if_true, List.length_map, hn]
   exact NZ ty xs
  ·simp only [h, decide_false, if_false]
   exact .row t' n e2 k2 ty2 xs2 pins2 (hB.rw t' h _ _ _ _ _ hb) hn
 | re t' p o n i e2 k2 ty2 xs2 pins2 pin hb hn hp hi =>
  simp only [uA, Go.Proofs.YtmjkjaahbgikjaaGreat.frz, cS]
  by_cases h : t' = t
  ·simp only [h, decide_true]; exact .junk _
  ·simp only [h, decide_false, if_false]
   exact .re t' p o n i e2 k2 ty2 xs2 pins2 pin (hB.rw t' h _ _ _ _ _ hb) hn hp hi
 | vw t' lo hi n e2 k2 ty2 xs2 pins2 hb hn=>
  simp only [uA, Go.Proofs.YtmjkjaahbgikjaaGreat.frz, cS]
  by_cases h : t' = t
  ·simp only [h, decide_true]; exact .junk _
  ·simp only [h, decide_false, if_false]
   exact .vw t' lo hi n e2 k2 ty2 xs2 pins2 (hB.rw t' h _ _ _ _ _ hb) hn
 | fe cs ds h hn => exact .fe cs ds h hn
 | fn f ps qs ps' qs' hl hr hl2 hr2 ih ih2 =>
  refine .fn f _ _ _ _ (by rw [kE, gZ]; exact hl) (fun j c r h1 h2 => ?_) (by rw [kE, gZ]; exact hl2) (fun j c r h1 h2 => ?_)
  ·rw [mG, zm] at h1
   obtain ⟨c', h3, rfl⟩ := h1
   obtain ⟨q', h4, rfl⟩ := g5 _ _ ps' j r h2
   exact ih j c' q' h3 h4
  ·rw [mG, zm] at h1
   obtain ⟨c', h3, rfl⟩ := h1
   obtain ⟨q', h4, rfl⟩ := g5 _ _ qs' j r h2
   exact ih2 j c' q' h3 h4
mutual
theorem L8 {pr : List Nat} {t : Nat} {c : SD} (ht : aA pr t = false) : ∀ v : SV, kV pr v = true → uA t c v = v
 | .junk, _ => rfl
 | .d _, _ => rfl
 | .fe _, _ => rfl
 | .ptr _ _, _ => rfl
 | .row t', h => by
  have := El ht (show aA pr t' = true from h)
  simp only [uA, cS, this, decide_false]
 | .re _ _ _, h => by cases h
 | .vw _ _ _, h => by cases h
 | .ag cs, h => by simp only [uA]; rw [rH ht cs h]
 | .tup cs, h => by simp only [uA]; rw [rH ht cs h]
 | .fn f ps qs, h => by
  have h : (dX pr ps && dX pr qs) = true := h
  rw [Bool.and_eq_true] at h
  simp only [uA]; rw [rH ht ps h.1, rH ht qs h.2]
theorem rH {pr : List Nat} {t : Nat} {c : SD} (ht : aA pr t = false) : ∀ cs : List SV, dX pr cs = true → nF t c cs = cs
 | [], _ => rfl
 | v :: cs, h => by
  simp only [dX, Bool.and_eq_true] at h
  simp only [nF]
  rw [L8 ht v h.1, rH ht cs h.2]
end
mutual
theorem S7 {t : Nat} {c : SD} : ∀ v : SV, pk v = true → uA t c v = v
 | .junk, _ => rfl
 | .d _, _ => rfl
 | .fe _, _ => rfl
 | .ptr _ _, _ => rfl
 | .row _, h => by cases h
 | .re _ _ _, h => by cases h
 | .vw _ _ _, h => by cases h
 | .ag cs, h => by simp only [uA]; rw [mF cs h]
 | .tup cs, h => by simp only [uA]; rw [mF cs h]
 | .fn f ps qs, h => by
  have h : (match cy ps with | true => cy qs | false => false) = true := h
  split at h
  ·rename_i h1; simp only [uA]; rw [mF ps h1, mF qs h]
  ·cases h
theorem mF {t : Nat} {c : SD} : ∀ cs : List SV, cy cs = true → nF t c cs = cs
 | [], _ => rfl
 | v :: cs, h => by
  simp only [cy] at h
  split at h
  ·rename_i h1
   simp only [nF]
   rw [S7 v h1, mF cs h]
  ·cases h
end
theorem RH {sc : List Nat} {s s' : SS} {p : PS} {t : Nat} (hpr : l5 s) (hs : gR s p) (h : OS t s = some s') : ∃ p', Le p p' ∧ gR s' p' ∧ ∀ W, dB sc W s s' := by
 unfold OS at h
 split at h
 ·rename_i e k ty xs pins hb
  split at h
  ·rename_i ht
   injection h with h
   subst h
   have hpb : p.b t = some (.rw e k (xs.map (bR ty))) := (hs.bx t _ hb).1
   have hX : UR t s.bx ((t, none) :: rI t (.sl ty xs) s.bx) := by
    refine ⟨fun t' ht' e2 k2 ty2 xs2 pins2 h => ?_, fun t' ty2 cs2 h => ?_⟩
    ·rw [ar, if_neg ht', lc, h]; rfl
    ·have : ¬ t' = t := fun e => by rw [e, hb] at h; cases h
     rw [ar, if_neg this, lc, h]
     exact ⟨_, _, rfl⟩
   refine ⟨_, VI t hpb, ⟨fun i => ?_, fun t' b h => ?_⟩, fun W => ⟨rfl, rfl, fun t' ht' => ?_, fun i _ hsf => ?_, fun t' _ ty2 cs2 h => ?_⟩⟩
   ·show bc _ (lkV (EM t (.sl ty xs) s.sl) i) (frz t (xs.map (bR ty)) (p.t i))
    rw [Dm]
    exact (hs.sl i).frz hb hX
   ·have h : lkB ((t, none) :: rI t (.sl ty xs) s.bx) t' = some b := h
    rw [ar] at h
    split at h
    ·cases h
    ·rename_i hne
     rw [lc, zm] at h
     obtain ⟨b0, h1, rfl⟩ := h
     have h2 := hs.bx t' b0 h1
     show l7 _ true (some (VX t (.sl ty xs) b0)) (if t' = t then none else (p.b t').map (A1 t (xs.map (bR ty))))
     rw [if_neg hne]
     cases b0 with
     | st ty2 cs =>
      obtain ⟨qs, h3, h4⟩ := h2
      rw [h3]
      refine ⟨_, rfl, by rw [kE, gZ]; exact h4.len, fun j c r k1 k2 => ?_⟩
      rw [mG, zm] at k1
      obtain ⟨c', k3, rfl⟩ := k1
      obtain ⟨q', k4, rfl⟩ := g5 _ _ qs j r k2
      exact (h4.rep j c' q' k3 k4).frz hb hX
     | rw e2 k2 ty2 xs2 pins2 =>
      obtain ⟨h3, h4⟩ := h2
      rw [h3]
      exact ⟨rfl, h4⟩
   ·show kG _ (lkB ((t, none) :: rI t (.sl ty xs) s.bx) t')
    rw [ar, if_neg (fun e => by rw [e, ht] at ht'; cases ht'), lc]
    obtain ⟨b', h1, h2⟩ := hpr t' ht'
    rw [h1]
    cases b' with
    | st ty2 cs => simp only [Option.map_some, VX]; rw [mF cs h2]; rfl
    | rw e2 k2 ty2 xs2 pins2 => exact ⟨pins2, rfl⟩
   ·show lkV (EM t (.sl ty xs) s.sl) i = _
    rw [Dm]
    exact L8 ht _ hsf
   ·show ∃ cs', lkB ((t, none) :: rI t (.sl ty xs) s.bx) t' = _ ∧ _
    rw [ar, if_neg (fun e => by rw [e, hb] at h; cases h), lc, h]
    exact ⟨_, rfl, kE _ _ cs2⟩
  ·injection h with h
   subst h
   exact ⟨p, .refl p, hs, fun W => .refl W s⟩
 ·injection h with h
  subst h
  exact ⟨p, .refl p, hs, fun W => .refl W s⟩
theorem VV {sc : List Nat} {s s' : SS} {p : PS} {t : Nat} (hpr : l5 s) (hs : Sim s p) (h : OS t s = some s') : ∃ p', Le p p' ∧ Sim s' p' ∧ (∀ W, dB sc W s s') ∧ s'.oc = s.oc := by
 unfold OS at h
 split at h
 ·rename_i e k ty xs pins hb
  split at h
  ·rename_i ht
   have h0 : OS t s = some s' := by unfold OS; rw [hb]; simp only; rw [ht]; exact h
   injection h with h
   have hpb : p.b t = some (.rw e k (xs.map (bR ty))) := by have := hs.bx t; rw [hb] at this; exact this.1
   obtain ⟨p2, k1, k2, k3⟩ := RH (sc := sc) hpr hs.w h0
   have hX : UR t s.bx ((t, none) :: rI t (.sl ty xs) s.bx) := by
    refine ⟨fun t' ht' e2 k2 ty2 xs2 pins2 h => ?_, fun t' ty2 cs2 h => ?_⟩
    ·rw [ar, if_neg ht', lc, h]; rfl
    ·have : ¬ t' = t := fun e => by rw [e, hb] at h; cases h
     rw [ar, if_neg this, lc, h]
     exact ⟨_, _, rfl⟩
   subst h
   refine ⟨_, VI t hpb, ⟨fun i => ?_, fun t' => ?_⟩, k3, rfl⟩
   ·show bc _ (lkV (EM t (.sl ty xs) s.sl) i) (frz t (xs.map (bR ty)) (p.t i))
    rw [Dm]
    exact (hs.sl i).frz hb hX
   ·show l7 _ (aA s.oc t') (lkB ((t, none) :: rI t (.sl ty xs) s.bx) t') (if t' = t then none else (p.b t').map (A1 t (xs.map (bR ty))))
    rw [ar]
    by_cases hne : t' = t
    ·rw [if_pos hne, if_pos hne]; exact fun _ => rfl
    ·rw [if_neg hne, if_neg hne, lc]
     have h2 := hs.bx t'
     cases hl : lkB s.bx t' with
     | none => rw [hl] at h2; exact fun ho => by rw [h2 ho]; rfl
     | some b0 =>
      rw [hl] at h2
      cases b0 with
      | st ty2 cs =>
       obtain ⟨qs, h3, h4⟩ := h2
       rw [h3]
       refine ⟨_, rfl, by rw [kE, gZ]; exact h4.len, fun j c r k1 k2 => ?_⟩
       rw [mG, zm] at k1
       obtain ⟨c', k3, rfl⟩ := k1
       obtain ⟨q', k4, rfl⟩ := g5 _ _ qs j r k2
       exact (h4.rep j c' q' k3 k4).frz hb hX
      | rw e2 k2 ty2 xs2 pins2 =>
       obtain ⟨h3, h4⟩ := h2
       rw [h3]
       exact ⟨rfl, h4⟩
  ·injection h with h
   subst h
   exact ⟨p, .refl p, hs, fun W => .refl W s, rfl⟩
 ·injection h with h
  subst h
  exact ⟨p, .refl p, hs, fun W => .refl W s, rfl⟩
theorem xr {sc : List Nat} : ∀ {l : List Nat} {s s' : SS} {p : PS}, l5 s → Sim s p → lh l s = some s' → ∃ p', Le p p' ∧ Sim s' p' ∧ (∀ W, dB sc W s s') ∧ s'.oc = s.oc
 | [], s, s', p, _, hs, h => by injection h with h; subst h; exact ⟨p, .refl p, hs, fun W => .refl W s, rfl⟩
 | t :: l, s, s', p, hpr, hs, h => by
  simp only [lh] at h
  split at h
  ·rename_i s1 h1
   obtain ⟨p1, k1, k2, k3, k4⟩ := VV (sc := sc) hpr hs h1
   obtain ⟨p2, m1, m2, m3, m4⟩ := xr (sc := sc) ((k3 []).prOk hpr) k2 h
   exact ⟨p2, k1.trans m1, m2, fun W => (k3 W).trans (m3 W), m4.trans k4⟩
  ·cases h
theorem rJ {sc : List Nat} : ∀ {l : List Nat} {s s' : SS} {p : PS}, l5 s → gR s p → lh l s = some s' → ∃ p', Le p p' ∧ gR s' p' ∧ ∀ W, dB sc W s s'
 | [], s, s', p, _, hs, h => by injection h with h; subst h; exact ⟨p, .refl p, hs, fun W => .refl W s⟩
 | t :: l, s, s', p, hpr, hs, h => by
  simp only [lh] at h
  split at h
  ·rename_i s1 h1
   obtain ⟨p1, k1, k2, k3⟩ := RH hpr hs h1
   obtain ⟨p2, k4, k5, k6⟩ := rJ ((k3 []).prOk hpr) k2 h
   exact ⟨p2, k1.trans k4, k5, fun W => (k3 W).trans (k6 W)⟩
  ·cases h
mutual
def fzp (t : Nat) (ds : List D) : PV → PV
 | .ptr t' o => if t' = t then .fe (ds.drop o) else .ptr t' o
 | .ag cs => .ag (EJ t ds cs)
 | .tup cs => .tup (EJ t ds cs)
 | .fn f ps qs => .fn f (EJ t ds ps) (EJ t ds qs)
 | p => p
def EJ (t : Nat) (ds : List D) : List PV → List PV
 | [] => []
 | c :: cs => fzp t ds c :: EJ t ds cs
end
def EK (t : Nat) (ds : List D) : Box → Box
 | .st ty cs => .st ty (EJ t ds cs)
 | B => B
def Z3 (t : Nat) (ds : List D) (p : PS) : PS := ⟨fun i => fzp t ds (p.t i), fun i => if i = t then none else (p.b i).map (EK t ds)⟩
theorem iU (t : Nat) (ds : List D) : ∀ cs : List PV, (EJ t ds cs).length = cs.length
 | [] => rfl
 | c :: cs => by simp [EJ, iU t ds cs]
theorem iV (t : Nat) (ds : List D) : ∀ (cs : List PV) (j : Nat) (c : PV), (EJ t ds cs)[j]? = some c → ∃ d, cs[j]? = some d ∧ c = fzp t ds d
 | [], j, c, h => by simp [EJ] at h
 | d :: cs, j, c, h => by
  simp only [EJ] at h
  cases j with
  | zero => simp at h; exact ⟨d, rfl, h.symm⟩
  | succ j => simp at h; simpa using iV t ds cs j c h
section
variable {ρ : Nat → Value} {b b' : Nat → Option Box} {w : World} {F F0 : Nat → Prop} {w0 : WM}
theorem aK.fzp {x : Value} {p : PV} {t : Nat} {ty : TypeId} {cs : List PV} {ds : List D} (hi : Inv w0 F0 ρ b w F) (hb : b t = some (.st ty cs)) (hl : ds.length = cs.length) (hc : ∀ (j : Nat) d, ds[j]? = some d → ∃ y, cs[j]? = some (.d y) ∧ nrm y = d) (hb' : ∀ i, b' i = if i = t then none else (b i).map (EK t ds)) (h : aK ρ b w F x p) :
  aK ρ b' w (fun g => F g ∨ blk (ρ t) = some g) x (Go.Proofs.YtmjkjaahbgikjaaGreat.fzp t ds p) := by
 have hF : ∀ g, F g → (F g ∨ blk (ρ t) = some g) := fun g h => .inl h
 induction h with
 | junk x => exact .junk x
 | d x d h => exact .d x d (h.mono hF (fun _ _ => rfl))
 | ag xs cs hl h1 hr ih =>
  refine .ag xs _ (by rw [iU]; exact hl) h1 (fun j x c h2 h3 => ?_)
  obtain ⟨d, h4, rfl⟩ := iV t ds cs j c h3
  exact ih j x d h2 h4
 | tup xs cs hl hr ih =>
  refine .tup xs _ (by rw [iU]; exact hl) (fun j x c h2 h3 => ?_)
  obtain ⟨d, h4, rfl⟩ := iV t ds cs j c h3
  exact ih j x d h2 h4
 | fn f xs ys ps qs hl hr hl2 hr2 ih ih2 =>
  refine .fn f xs ys _ _ (by rw [iU]; exact hl) (fun j x c h2 h3 => ?_) (by rw [iU]; exact hl2) (fun j x c h2 h3 => ?_)
  ·obtain ⟨d, h4, rfl⟩ := iV t ds ps j c h3
   exact ih j x d h2 h4
  ·obtain ⟨d, h4, rfl⟩ := iV t ds qs j c h3
   exact ih2 j x d h2 h4
 | row t' m A cc e' k' es' hb2 hn hcc hA hρ =>
  have : t' ≠ t := fun e => by rw [e, hb] at hb2; cases hb2
  exact .row t' m A cc e' k' es' (by rw [hb', if_neg this, hb2]; rfl) hn hcc hA hρ
 | re t' m i o a e' k' es' hb2 hn hi' hρ =>
  have : t' ≠ t := fun e => by rw [e, hb] at hb2; cases hb2
  exact .re t' m i o a e' k' es' (by rw [hb', if_neg this, hb2]; rfl) hn hi' hρ
 | vw t' m lo hi' A mm cc e' k' es' hb2 hn hl hh hm hρ=>
  have : t' ≠ t := fun e => by rw [e, hb] at hb2; cases hb2
  exact .vw t' m lo hi' A mm cc e' k' es' (by rw [hb', if_neg this, hb2]; rfl) hn hl hh hm hρ
 | fe a cs us hF' hcell hrep => exact .fe a cs us (.inl hF') hcell (fun j d h => (hrep j d h).mono hF (fun _ _ => rfl))
 | ptr t' off g ty' cs' hb2 hρ =>
  simp only [Go.Proofs.YtmjkjaahbgikjaaGreat.fzp]
  by_cases ht : t' = t
  ·subst ht
   rw [if_pos rfl]
   cases hi.box t' _ hb with
   | st _ _ g' xs hρ' hg hFg hh hlx h1 hr =>
    rw [hρ] at hρ'
    injection hρ' with e
    injection e with e
    injection e with e
    subst e
    have key : ∀ (j : Nat) d, (ds.drop off)[j]? = some d → ∃ u, w.cell? ⟨g, off + j, none⟩ = some u ∧ ej w F u d := fun j d hj => by
     rw [List.getElem?_drop] at hj
     obtain ⟨y, k1, k2⟩ := hc _ d hj
     have hlt : off + j < xs.size := by rw [hlx, ← hl]; exact (zg.1 hj).1
     have k3 := hr (off + j) xs[off + j] _ (by simp [hlt]) k1
     refine ⟨xs[off + j], by rw [cell_of_row w g (off + j) xs ty (0, 0) hh]; simp [hlt], ?_⟩
     rw [← k2]
     exact k3.dd.nrm
    refine .fe _ _ (fun j => (w.cell? ⟨g, off + j, none⟩).getD undef) (.inr (by rw [hρ]; rfl)) (fun j d hj => ?_) (fun j d hj => ?_)
    ·obtain ⟨u, k1, _⟩ := key j d hj
     rw [qO, k1]; rfl
    ·obtain ⟨u, k1, k2⟩ := key j d hj
     rw [k1]
     exact k2.mono hF (fun _ _ => rfl)
  ·rw [if_neg ht]
   exact .ptr t' off g ty' _ (by rw [hb', if_neg ht, hb2]; rfl) hρ
end
theorem Inv.reg_fzp {ρ : Nat → Value} {b b' : Nat → Option Box} {w : World} {w0 : WM} {F F0 : Nat → Prop} {t : Nat} {ds : List D} (hi : Inv w0 F0 ρ b w F) (hb' : ∀ i, b' i = if i = t then none else (b i).map (EK t ds)) : ∀ i q, w0.R i = some q → 1000000 ≤ i ∧ pA ρ b' i q := by
 intro i q h
 obtain ⟨h1, h2⟩ := hi.reg i q h
 refine ⟨h1, ?_⟩
 by_cases hit : i = t
 ·exact h2.less (.inl (by rw [hb', if_pos hit]))
 ·refine h2.mono (fun e => by rw [hb', if_neg hit, e]; rfl) (fun ty cs e => ⟨⟨ty, _, by rw [hb', if_neg hit, e]; rfl⟩, rfl⟩) (fun e k es' he => ⟨e, es', by rw [hb', if_neg hit, he]; rfl, Nat.le_refl _, fun _ => rfl⟩)
theorem Zp {p : PS} (t : Nat) {ty : TypeId} {cs : List PV} {ds : List D} (hb0 : p.b t = some (.st ty cs)) (hl : ds.length = cs.length) (hc : ∀ (j : Nat) d, ds[j]? = some d → ∃ y, cs[j]? = some (.d y) ∧ nrm y = d) : Le p (Z3 t ds p) := by
 intro n w0 F0 a w ⟨h1, h2, ρ, F, hi, hev⟩
 have hb' : ∀ i, (Z3 t ds p).b i = if i = t then none else (p.b i).map (EK t ds) := fun i => rfl
 have hbt := (hi.box t _ hb0)
 refine ⟨h1, h2, ρ, fun g => F g ∨ blk (ρ t) = some g, ⟨hi.ext, fun g hg => .inl (hi.f0 g hg), ?_, ?_, fun t' B h => ?_, fun t1 t2 B1 B2 g k1 k2 hne => ?_, hi.reg_fzp hb'⟩, fun i => (hev i).fzp hi hb0 hl hc hb'⟩
 ·rintro g (hg | hg)
  ·exact hi.flt g hg
  ·exact (hbt.lt hg).1
 ·rintro g (hg | hg)
  ·exact hi.fnew g hg
  ·exact .inr (hbt.lt hg).2.1
 ·rw [hb'] at h
  split at h
  ·cases h
  ·rename_i ht
   rw [zm] at h
   obtain ⟨B0, hB0, rfl⟩ := h
   have hnF : ∀ g, blk (ρ t') = some g → ¬ (F g ∨ blk (ρ t) = some g) := by
    rintro g hg (h | h)
    ·exact ((hi.box t' B0 hB0).lt hg).2.2 h
    ·exact hi.dist t' t B0 _ g hB0 hb0 ht hg h
   cases hi.box t' B0 hB0 with
   | st ty cs g xs hρ hg hF hh hl2 h1 hr =>
    refine .st ty _ g xs hρ hg (hnF g (by rw [hρ]; rfl)) hh (by rw [iU]; exact hl2) h1 (fun j x c k1 k2 => ?_)
    obtain ⟨d, h4, rfl⟩ := iV t ds cs j c k2
    exact (hr j x d k1 h4).fzp hi hb0 hl hc hb'
   | rw e' k' es' xs hk0 ho hF hk hl hr hown => exact .rw e' k' es' xs hk0 ho hnF hk hl (fun j x d k1 k2 => (hr j x d k1 k2).mono (fun g h => .inl h) (fun _ _ => rfl)) hown
   | gn e' k' es' hρ => exact .gn e' k' es' hρ
 ·rw [hb'] at k1 k2
  split at k1
  ·cases k1
  ·split at k2
   ·cases k2
   ·rw [zm] at k1 k2
    obtain ⟨B1', k1, _⟩ := k1
    obtain ⟨B2', k2, _⟩ := k2
    exact hi.dist t1 t2 B1' B2' g k1 k2 hne
def RI (t : Nat) (c : List SD) : aW → aW
 | .st ty cs => .st ty (po t c cs)
 | b => b
theorem oJ (t : Nat) (c : List SD) : ∀ (l : List (Nat × Option aW)) (i : Nat), lkB (rK t c l) i = (lkB l i).map (RI t c)
 | [], _ => rfl
 | (j, none) :: l, i => by simp only [rK, ar, oJ t c l i]; split <;> rfl
 | (j, some (.st ty cs)) :: l, i => by simp only [rK, ar, oJ t c l i]; split <;> rfl
 | (j, some (.rw e k ty xs pins)) :: l, i => by simp only [rK, ar, oJ t c l i]; split <;> rfl
theorem JD (t : Nat) (c : List SD) : ∀ (l : List (Nat × SV)) (i : Nat), lkV (EN t c l) i = xt t c (lkV l i)
 | [], _ => rfl
 | (j, v) :: l, i => by simp only [EN, cR, JD t c l i]; split <;> rfl
theorem it (t : Nat) (c : List SD) : ∀ (cs : List SV) (j : Nat), (po t c cs)[j]? = (cs[j]?).map (xt t c)
 | [], j => by simp [po]
 | v :: cs, 0 => by simp [po]
 | v :: cs, j + 1 => by simpa [po] using it t c cs j
theorem fV (t : Nat) (c : List SD) : ∀ cs : List SV, (po t c cs).length = cs.length
 | [] => rfl
 | v :: cs => by simp [po, fV t c cs]
structure aam (t : Nat) (B B' : List (Nat × Option aW)) : Prop where
 rw : ∀ t' e k ty xs pins, lkB B t' = some (.rw e k ty xs pins) → lkB B' t' = some (.rw e k ty xs pins)
 st : ∀ t', t' ≠ t → ∀ ty cs, lkB B t' = some (.st ty cs) → ∃ ty' cs', lkB B' t' = some (.st ty' cs')
theorem bc.frp {B B' : List (Nat × Option aW)} {t : Nat} {ds : List SD} (hn : ∀ c ∈ ds, c ≠ .nl) (hB : aam t B B') {v : SV} {q : PV} (h : bc B v q) : bc B' (xt t ds v) (fzp t (ds.map SD.toD) q) := by
 induction h with
 | junk q => exact .junk _
 | d c y h => exact .d c y h
 | ag cs qs hl hr ih =>
  refine .ag _ _ (by rw [fV, iU]; exact hl) (fun j c r h1 h2 => ?_)
  rw [it, zm] at h1
  obtain ⟨c', h3, rfl⟩ := h1
  obtain ⟨q', h4, rfl⟩ := iV _ _ qs j r h2
  exact ih j c' q' h3 h4
 | tup cs qs hl hr ih =>
  refine .tup _ _ (by rw [fV, iU]; exact hl) (fun j c r h1 h2 => ?_)
  rw [it, zm] at h1
  obtain ⟨c', h3, rfl⟩ := h1
  obtain ⟨q', h4, rfl⟩ := iV _ _ qs j r h2
  exact ih j c' q' h3 h4
 | fn f ps qs ps' qs' hl hr hl2 hr2 ih ih2 =>
  refine .fn f _ _ _ _ (by rw [fV, iU]; exact hl) (fun j c r h1 h2 => ?_) (by rw [fV, iU]; exact hl2) (fun j c r h1 h2 => ?_)
  ·rw [it, zm] at h1
   obtain ⟨c', h3, rfl⟩ := h1
   obtain ⟨q', h4, rfl⟩ := iV _ _ ps' j r h2
   exact ih j c' q' h3 h4
  ·rw [it, zm] at h1
   obtain ⟨c', h3, rfl⟩ := h1
   obtain ⟨q', h4, rfl⟩ := iV _ _ qs' j r h2
   exact ih2 j c' q' h3 h4
 | ptr t' o ty2 cs hb =>
  simp only [xt, fzp, cS]
  by_cases h : t' = t
  ·simp only [h, decide_true, if_true]
   exact .fe _ _ (by rw [List.map_drop]) (fun c hc => hn c (List.mem_of_mem_drop hc))
  ·simp only [h, decide_false, if_false]
   obtain ⟨ty', cs', h1⟩ := hB.st t' h ty2 cs hb
   exact .ptr t' o ty' cs' h1
 | row t' n e2 k2 ty2 xs2 pins2 hb hn => exact .row t' n e2 k2 ty2 xs2 pins2 (hB.rw t' _ _ _ _ _ hb) hn
 | re t' p o n i e2 k2 ty2 xs2 pins2 pin hb hn hp hi => exact .re t' p o n i e2 k2 ty2 xs2 pins2 pin (hB.rw t' _ _ _ _ _ hb) hn hp hi
 | vw t' lo hi n e2 k2 ty2 xs2 pins2 hb hn => exact .vw t' lo hi n e2 k2 ty2 xs2 pins2 (hB.rw t' _ _ _ _ _ hb) hn
 | fe cs ds h hn => exact .fe cs ds h hn
theorem vu {cs cs' : List SV} (hl : cs'.length = cs.length) (h : ∀ (j : Nat) c, cs[j]? = some c → cs'[j]? = some c) : cs' = cs := by
 apply List.ext_getElem?
 intro j
 cases hj : cs[j]? with
 | none => rw [List.getElem?_eq_none_iff] at hj ⊢; omega
 | some c => exact h j c hj
theorem X6 {B : List (Nat × Option aW)} {t : Nat} {ds : List SD} (ht : lkB B t = none) {v : SV} {q : PV} (h : bc B v q) : xt t ds v = v := by
 induction h with
 | ag cs qs hl hr ih =>
  simp only [xt]
  rw [vu (fV _ _ _) fun j c hj => ?_]
  rw [it, hj, Option.map_some, ih j c (qs[j]'(by rw [← hl]; exact (zg.1 hj).1)) hj (by simp)]
 | tup cs qs hl hr ih =>
  simp only [xt]
  rw [vu (fV _ _ _) fun j c hj => ?_]
  rw [it, hj, Option.map_some, ih j c (qs[j]'(by rw [← hl]; exact (zg.1 hj).1)) hj (by simp)]
 | fn f ps qs ps' qs' hl hr hl2 hr2 ih ih2 =>
  simp only [xt]
  rw [vu (cs := ps) (fV _ _ _) fun j c hj => ?_, vu (cs := qs) (fV _ _ _) fun j c hj => ?_]
  ·rw [it, hj, Option.map_some, ih2 j c (qs'[j]'(by rw [← hl2]; exact (zg.1 hj).1)) hj (by simp)]
  ·rw [it, hj, Option.map_some, ih j c (ps'[j]'(by rw [← hl]; exact (zg.1 hj).1)) hj (by simp)]
 | ptr t' o ty cs hb =>
  have : ¬ t' = t := fun e => by rw [e, ht] at hb; cases hb
  simp only [xt, cS, this, decide_false]
 | _ => rfl
mutual
theorem S8 {t : Nat} {c : List SD} : ∀ v : SV, pk v = true → xt t c v = v
 | .junk, _ => rfl
 | .d _, _ => rfl
 | .fe _, _ => rfl
 | .ptr _ _, h => by cases h
 | .row _, h => by cases h
 | .re _ _ _, h => by cases h
 | .vw _ _ _, h => by cases h
 | .ag cs, h => by simp only [xt]; rw [kq cs h]
 | .tup cs, h => by simp only [xt]; rw [kq cs h]
 | .fn f ps qs, h => by
  have h : (match cy ps with | true => cy qs | false => false) = true := h
  split at h
  ·rename_i h1; simp only [xt]; rw [kq ps h1, kq qs h]
  ·cases h
theorem kq {t : Nat} {c : List SD} : ∀ cs : List SV, cy cs = true → po t c cs = cs
 | [], _ => rfl
 | v :: cs, h => by
  simp only [cy] at h
  split at h
  ·rename_i h1
   simp only [po]
   rw [S8 v h1, kq cs h]
  ·cases h
end
theorem HA : ∀ {ds : List SD}, Zl ds = true → ∀ c ∈ ds, c ≠ .nl
 | [], _, c, h => by cases h
 | d :: ds, h, c, hc => by
  rcases List.mem_cons.1 hc with rfl | hc'
  ·intro e; subst e; cases h
  ·cases d with
   | nl => cases h
   | _ => exact HA (ds := ds) h c hc'
theorem D5 : ∀ {cs : List SV} {ds : List SD}, tz cs = some ds → cs.length = ds.length ∧ ∀ (j : Nat) d, ds[j]? = some d → cs[j]? = some (.d d)
 | [], ds, h => by injection h with h; subst h; exact ⟨rfl, fun j d hj => by simp at hj⟩
 | v :: cs, ds, h => by
  simp only [tz] at h
  split at h
  ·rename_i c l hc hl
   injection h with h
   subst h
   obtain ⟨h1, h2⟩ := D5 hl
   refine ⟨by simp [h1], fun j d hj => ?_⟩
   cases j with
   | zero =>
    simp at hj
    subst hj
    cases v <;> simp [Zc] at hc
    subst hc
    rfl
   | succ j => simp at hj; simpa using h2 j d hj
  ·cases h
theorem Zu {sc W : List Nat} {s0 s s' : SS} {p0 p : PS} {t : Nat} (hpr : l5 s) (h0 : gR s0 p0) (hnew : lkB s0.bx t = none) (hk : dB sc W s0 s) (hs : gR s p) (h : fbX sc t s = some s') : ∃ p', Le p p' ∧ gR s' p' ∧ dB sc W s0 s' ∧ l5 s' := by
 unfold fbX at h
 split at h
 ·rename_i ty cs hb
  split at h
  ·rename_i ds hds
   obtain ⟨h1, h2⟩ := ao h
   injection h2 with h2
   subst h2
   rw [Bool.and_eq_true, Bool.and_eq_true] at h1
   obtain ⟨h1, h3, h4⟩ := h1
   have h3 : aA s.pr t = false := by simpa using h3
   have h4 : aA sc t = false := by simpa using h4
   have hnl := HA h1
   obtain ⟨hlen, hget⟩ := D5 hds
   obtain ⟨qs, hq, hqs⟩ := hs.bx t _ hb
   have hc : ∀ (j : Nat) d, (ds.map SD.toD)[j]? = some d → ∃ y, qs[j]? = some (.d y) ∧ nrm y = d := fun j d hj => by
    rw [List.getElem?_map, zm] at hj
    obtain ⟨c, hc, rfl⟩ := hj
    have hc2 := hget j c hc
    have hlt : j < qs.length := by rw [← hqs.len]; exact (zg.1 hc2).1
    have := hqs.rep j _ qs[j] hc2 (by simp)
    rw [zq hlt]
    revert this
    generalize qs[j] = q
    intro this
    cases this with
    | d _ y hd => exact ⟨y, rfl, hd.nrm⟩
   have hl : (ds.map SD.toD).length = qs.length := by rw [List.length_map, ← hlen, hqs.len]
   have hX : aam t s.bx ((t, none) :: rK t ds s.bx) := by
    refine ⟨fun t' e k ty2 xs pins h => ?_, fun t' ht' ty2 cs2 h => ?_⟩
    ·have : ¬ t' = t := fun e => by rw [e, hb] at h; cases h
     rw [ar, if_neg this, oJ, h]; rfl
    ·rw [ar, if_neg ht', oJ, h]; exact ⟨_, _, rfl⟩
   have hkp : dB sc W s0 ⟨EN t ds s.sl, (t, none) :: rK t ds s.bx, s.pr, s.ro, s.oc⟩ := by
    refine ⟨hk.pr, hk.ro, fun t' ht' => ?_, fun i hi hsf => ?_, fun t' ht' ty2 cs2 h => ?_⟩
    ·have hpt : aA s.pr t' = true := by rw [hk.pr]; exact ht'
     refine (hk.bx t' ht').trans ?_
     show kG _ (lkB ((t, none) :: rK t ds s.bx) t')
     rw [ar, if_neg (fun e => by rw [e, h3] at hpt; cases hpt), oJ]
     obtain ⟨b', k1, k2⟩ := hpr t' hpt
     rw [k1]
     cases b' with
     | st ty2 cs => simp only [Option.map_some, RI]; rw [kq cs k2]; rfl
     | rw e2 k2 ty2 xs2 pins2 => exact ⟨pins2, rfl⟩
    ·show lkV (EN t ds s.sl) i = _
     rw [JD, hk.sl i hi hsf]
     exact X6 hnew (h0.sl i)
    ·obtain ⟨cs', k1, k2⟩ := hk.st t' ht' ty2 cs2 h
     show ∃ cs', lkB ((t, none) :: rK t ds s.bx) t' = _ ∧ _
     rw [ar, if_neg (fun e => by rw [e, h4] at ht'; cases ht'), oJ, k1]
     exact ⟨_, rfl, by rw [fV]; exact k2⟩
   refine ⟨_, Zp t hq hl hc, ⟨fun i => ?_, fun t' b h => ?_⟩, hkp, fun t' ht' => ?_⟩
   ·show bc _ (lkV (EN t ds s.sl) i) (fzp t (ds.map SD.toD) (p.t i))
    rw [JD]
    exact (hs.sl i).frp hnl hX
   ·have h : lkB ((t, none) :: rK t ds s.bx) t' = some b := h
    rw [ar] at h
    split at h
    ·cases h
    ·rename_i hne
     rw [oJ, zm] at h
     obtain ⟨b0, h1, rfl⟩ := h
     have h2 := hs.bx t' b0 h1
     show l7 _ true (some (RI t ds b0)) (if t' = t then none else (p.b t').map (EK t (ds.map SD.toD)))
     rw [if_neg hne]
     cases b0 with
     | st ty2 cs =>
      obtain ⟨qs, h3, h4⟩ := h2
      rw [h3]
      refine ⟨_, rfl, by rw [fV, iU]; exact h4.len, fun j c r k1 k2 => ?_⟩
      rw [it, zm] at k1
      obtain ⟨c', k3, rfl⟩ := k1
      obtain ⟨q', k4, rfl⟩ := iV _ _ qs j r k2
      exact (h4.rep j c' q' k3 k4).frp hnl hX
     | rw e2 k2 ty2 xs2 pins2 =>
      obtain ⟨h3, h4⟩ := h2
      rw [h3]
      exact ⟨rfl, h4⟩
   ·obtain ⟨b', k1, k2⟩ := hpr t' ht'
    show ∃ b, lkB ((t, none) :: rK t ds s.bx) t' = some b ∧ _
    rw [ar, if_neg (fun e => by rw [e, h3] at ht'; cases ht'), oJ, k1]
    refine ⟨_, rfl, ?_⟩
    cases b' with
    | st ty2 cs => simp only [RI]; rw [kq cs k2]; exact k2
    | rw e2 k2 ty2 xs2 pins2 => rfl
  ·cases h
 ·cases h
theorem Md {sc W : List Nat} {s0 : SS} {p0 : PS} (h0 : gR s0 p0) : ∀ {l : List Nat} {s s' : SS} {p : PS}, l5 s → RP s0 l = true → dB sc W s0 s → gR s p → Ie sc l s = some s' → ∃ p', Le p p' ∧ gR s' p' ∧ dB sc W s0 s'
 | [], s, s', p, _, _, hk, hs, h => by injection h with h; subst h; exact ⟨p, .refl p, hs, hk⟩
 | t :: l, s, s', p, hpr, hn, hk, hs, h => by
  simp only [Ie] at h
  simp only [RP] at hn
  split at hn
  ·rename_i hnew
   split at h
   ·rename_i s1 h1
    obtain ⟨p1, k1, k2, k3, k4⟩ := Zu hpr h0 hnew hk hs h1
    obtain ⟨p2, m1, m2, m3⟩ := Md h0 k4 hn k3 k2 h
    exact ⟨p2, k1.trans m1, m2, m3⟩
   ·cases h
  ·cases hn
end
section
theorem DS {m : Nat} {ops : Array Oper} (h : Lb m ops = true) {i k : Nat} (hi : i < ops.size) (hm : ¬ i < m) (hk : k < i) : yI ops 4 i k = true := by
 unfold Lb at h
 rw [List.all_eq_true] at h
 have h := h i (List.mem_range.2 hi)
 simp only [Bool.or_eq_true, decide_eq_true_eq, List.all_eq_true] at h
 exact (h.resolve_left hm) k (List.mem_range.2 hk)
section
variable {P : Program} {w0 : WM} {F0 : Nat → Prop} {n : Nat} {ops : Array Oper} {Q : Exit → Act → World → Prop}
def TC (P : Program) (ops : Array Oper) : List Nat → PS → (PS → Prop) → Prop
 | [], s, K => K s
 | i :: l, s, K => ∃ s1, Le s s1 ∧ ∃ o r u, ops[i]? = some o ∧ Eff P ops o s1 r u ∧ TC P ops l (s1.updL o.dst r u) K
theorem Sa {bd : Nat → Bd} {mT : Nat} {Qs : Exit → PS → Prop} (hQ : ∀ e s a w, Qs e s → nS n w0 F0 s a w → Q e a w) (hB : Fh bd n ops = true) (hT : Lb mT ops = true) : ∀ (m : Nat) (l lt : List Nat) (listed : Array Bool) (s : PS) (a : Act) (w : World), (l ++ lt).length = m → (l ++ lt).Pairwise (· < ·) → (∀ j ∈ l, j < mT) → (∀ j ∈ lt, ¬ j < mT) → (∀ j, j ∈ l ++ lt ↔ (j < ops.size ∧ listed.getD j true = false)) → listed.size = ops.size → QU ops listed →
  FD P ops bd l s (fun s' => TC P ops lt s' (Qs .normal)) → nS n w0 F0 s a w → wpAny P .any ops Q m listed a w
 | 0, l, lt, listed, s, a, w, hl, _, _, _, hm, hls, _, h, hc => by
  have h0 : l ++ lt = [] := List.eq_nil_of_length_eq_zero hl
  obtain ⟨rfl, rfl⟩ := List.append_eq_nil_iff.1 h0
  refine ⟨?_, hQ _ s a w h hc⟩
  rw [List.eq_nil_iff_forall_not_mem]
  intro j hj
  obtain ⟨h1, o, h2, _⟩ := mem_ready.1 hj
  have := (hm j).2 ⟨(Array.getElem?_eq_some_iff.1 h2).1, h1⟩
  simp at this
 | m + 1, l, lt, listed, s, a, w, hl, hs, hlm, hltm, hm, hls, hcl, h, hc => by
  have notdone : ∀ {k : Nat}, k ∈ l ++ lt → listed.getD k false = false := fun {k} hk => by
   have h1 := (hm k).1 hk
   have hsz : k < listed.size := by rw [hls]; exact h1.1
   have h2 := h1.2
   simp [hsz] at h2 ⊢
   exact h2
  refine ⟨fun h0 => ?_, fun i hi => ?_⟩
  ·exfalso
   cases hll : l ++ lt with
   | nil => rw [hll] at hl; simp at hl
   | cons k ls =>
    have hk := (hm k).1 (by rw [hll]; simp)
    have hok : ops[k]? = some ops[k] := Array.getElem?_eq_getElem hk.1
    have : k ∈ Region.ready .any ops listed := by
     refine mem_ready.2 ⟨hk.2, _, hok, fun e he hb => ?_⟩
     have hlt := (mI hB hok).2.1 e he hb
     cases hx : listed.getD e.on false with
     | true => rfl
     | false =>
      exfalso
      have hsz : e.on < listed.size := by rw [hls]; omega
      have h2 : listed.getD e.on true = false := by
       simp [hsz] at hx ⊢; exact hx
      have h3 := (hm e.on).2 ⟨by omega, h2⟩
      rw [hll] at h3 hs
      rcases List.mem_cons.1 h3 with h | h
      ·omega
      ·have := (List.pairwise_cons.1 hs).1 _ h
       omega
    rw [h0] at this
    cases this
  ·obtain ⟨hun, oi, hoi, hall⟩ := mem_ready.1 hi
   have hisz := (Array.getElem?_eq_some_iff.1 hoi).1
   have hin : i ∈ l ++ lt := (hm i).2 ⟨hisz, hun⟩
   have hready : ∀ k, k ∈ l ++ lt → yI ops 4 i k = true → False := fun k hk hh => by
    have h1 := xq hcl 4 i k hh (fun o' ho' e he hb => by rw [hoi] at ho'; cases ho'; exact hall e he hb)
    rw [notdone hk] at h1
    cases h1
   have key : ∃ l' lt' s1 r u, Le s s1 ∧ Eff P ops oi s1 r u ∧ FD P ops bd l' (s1.updL oi.dst r u) (fun s' => TC P ops lt' s' (Qs .normal)) ∧ (l' ++ lt').length = m ∧ (l' ++ lt').Pairwise (· < ·) ∧ (∀ j ∈ l', j < mT) ∧ (∀ j ∈ lt', ¬ j < mT) ∧ (∀ j, j ∈ l' ++ lt' ↔ (j ∈ l ++ lt ∧ j ≠ i)) := by
    by_cases him : i < mT
    ·have hil : i ∈ l := by
      rcases List.mem_append.1 hin with h | h
      ·exact h
      ·exact absurd him (hltm i h)
     obtain ⟨l1, l2, rfl⟩ := List.append_of_mem hil
     have hpw0 := List.pairwise_append.1 hs
     have hpw := List.pairwise_append.1 hpw0.1
     have hfront := xj (P := P) (bd := bd) (K := fun s' => TC P ops lt s' (Qs .normal)) hoi l1 l2 s (fun k hk ok hok => by
      have hlt : k < i := hpw.2.2 k hk i (by simp)
      rcases (mI hB hoi).2.2 k ok hlt hok with hh | h
      ·exact (hready k (by simp [hk]) hh).elim
      ·exact h) h
     obtain ⟨o', r, u, ho', h1, _, h2⟩ := hfront
     rw [hoi] at ho'
     injection ho' with ho'
     subst ho'
     have hc3 := List.pairwise_cons.1 hpw.2.1
     have hne : ∀ x, x ∈ l1 ++ l2 → x ≠ i := fun x hx e => by
      subst e
      rcases List.mem_append.1 hx with h | h
      ·have := hpw.2.2 x h x (by simp); omega
      ·have := hc3.1 x h; omega
     refine ⟨l1 ++ l2, lt, s, r, u, .refl s, h1, h2, by simp at hl ⊢; omega, ?_, fun j hj => hlm j (by rcases List.mem_append.1 hj with h | h <;> simp [h]), hltm, fun j => ?_⟩
     ·refine List.pairwise_append.2 ⟨List.pairwise_append.2 ⟨hpw.1, hc3.2, fun x hx y hy => hpw.2.2 x hx y (by simp [hy])⟩, hpw0.2.1, fun x hx y hy => hpw0.2.2 x (by rcases List.mem_append.1 hx with h | h <;> simp [h]) y hy⟩
     ·refine ⟨fun hj => ?_, fun ⟨hj, hji⟩ => ?_⟩
      ·rcases List.mem_append.1 hj with hj2 | hj2
       ·exact ⟨by rcases List.mem_append.1 hj2 with h | h <;> simp [h], hne j hj2⟩
       ·exact ⟨by simp [hj2], fun e => by subst e; exact hltm j hj2 him⟩
      ·rcases List.mem_append.1 hj with h | h
       ·rcases List.mem_append.1 h with h | h
        ·simp [h]
        ·rcases List.mem_cons.1 h with h | h
         ·exact absurd h hji
         ·simp [h]
       ·simp [h]
    ·have hnil : l = [] := by
      cases l with
      | nil => rfl
      | cons k l =>
       exfalso
       have hk := hlm k (by simp)
       exact hready k (by simp) (DS hT hisz him (by omega))
     subst hnil
     cases lt with
     | nil => simp at hin
     | cons k lt =>
      have hki : k = i := by
       rcases List.mem_cons.1 hin with h | h
       ·exact h.symm
       ·exfalso
        have hlt := (List.pairwise_cons.1 hs).1 i h
        exact hready k (by simp) (DS hT hisz him hlt)
      subst hki
      obtain ⟨s1, hle, o', r, u, ho', h1, h2⟩ := h
      rw [hoi] at ho'
      injection ho' with ho'
      subst ho'
      have hc3 := List.pairwise_cons.1 hs
      refine ⟨[], lt, s1, r, u, hle, h1, h2, by simp at hl ⊢; omega, hc3.2, fun j hj => (by cases hj), fun j hj => hltm j (by simp [hj]), fun j => ?_⟩
      refine ⟨fun hj => ⟨by simp at hj; simp [hj], fun e => by
       subst e
       have := hc3.1 j (by simpa using hj)
       omega⟩, fun ⟨hj, hji⟩ => ?_⟩
      rcases List.mem_cons.1 hj with h | h
      ·exact absurd h hji
      ·simpa using h
   obtain ⟨l', lt', s1, r, u, hle, h1, h2, k1, k2, k3, k4, k5⟩ := key
   have hc1 := hle n w0 F0 a w hc
   have hstep := Vp (f := 0) (Q := Q) (K := wpAny P .any ops Q m (listed.setIfInBounds i true)) hc1 h1 (mI hB hoi).1 (fun a' w' hc' => by
    have hmono : ∀ j, listed.getD j false = true → (listed.setIfInBounds i true).getD j false = true := fun j hj => by
     by_cases hji : j = i
     ·subst hji
      have hsz : j < listed.size := by rw [hls]; exact hisz
      simp [hsz]
     ·rw [getD_set_ne false (Ne.symm hji)]; exact hj
    refine Sa hQ hB hT m l' lt' _ _ a' w' k1 k2 k3 k4 (fun j => ?_) (by simpa using hls) (fun j hj o ho e he hb => ?_) h2 hc'
    ·by_cases hji : j = i
     ·subst hji
      have hsz : j < listed.size := by rw [hls]; exact hisz
      refine ⟨fun hmem => absurd rfl ((k5 j).1 hmem).2, fun ⟨_, hx⟩ => ?_⟩
      simp [hsz] at hx
     ·rw [getD_set_ne true (Ne.symm hji), k5 j, hm j]
      simp [hji]
    ·by_cases hji : j = i
     ·subst hji
      rw [hoi] at ho
      cases ho
      exact hmono _ (hall e he hb)
     ·rw [getD_set_ne false (Ne.symm hji)] at hj
      exact hmono _ (hcl j hj o ho e he hb))
   unfold wpOp
   rw [hoi]
   simp only
   split
   ·rename_i hw
    rw [if_pos hw] at hstep
    exact .inl hstep
   ·rename_i hw
    rw [if_neg hw] at hstep
    exact hstep
theorem SG (bd : Nat → Bd) {Qs : Exit → PS → Prop} {s : PS} {id : Nat} {l : List Oper} (mT : Nat) (hmT : mT ≤ l.length) (hm : P.follows .mixedOrders = true) (hB : Fh bd n l.toArray = true) (hT : Lb mT l.toArray = true) (h : FD P l.toArray bd (List.range' 0 mT) s (fun s' => TC P l.toArray (List.range' mT (l.length - mT)) s' (Qs .normal))) : PWP P n (.region id l.toArray true) Qs s := by
 intro w0 F0 a w hc
 refine wp_region_any hm ?_
 have hr : List.range' 0 mT ++ List.range' mT (l.length - mT) = List.range' 0 l.length := by
  have := List.range'_append (s := 0) (m := mT) (n := l.length - mT) (step := 1)
  simp only [Nat.one_mul, Nat.zero_add] at this
  rw [this]
  congr 1
  omega
 refine Sa (Qs := Qs) (mT := mT) (fun _ s' _ _ h1 h2 => ⟨s', h1, h2⟩) hB hT l.toArray.size (List.range' 0 mT) (List.range' mT (l.length - mT)) _ s a _ (by rw [hr]; simp) (by rw [hr]; exact List.pairwise_lt_range') (fun j hj => by simp [List.mem_range'_1] at hj; exact hj) (fun j hj => by simp [List.mem_range'_1] at hj; omega) (fun j => ?_) (by simp) (fun j hj => by exfalso; simp only [Array.getD_eq_getD_getElem?, Array.getElem?_replicate] at hj; split at hj <;> cases hj) h (hc.drew _)
 rw [hr]
 simp only [List.mem_range'_1, Nat.zero_le, true_and, Nat.zero_add, List.size_toArray]
 refine ⟨fun h => ⟨h, by simp [h]⟩, fun h => h.1⟩
end
end
section
variable {B B' : List (Nat × Option aW)} {s : SS} {p : PS} {P : Program} {ρ : Type}
theorem ru (ks : List Nat) : ∀ (cs : List SV) (j : Nat), (tQ ks cs)[j]? = (cs[j]?).map (stV ks)
 | [], j => by simp [tQ]
 | c :: cs, 0 => by simp [tQ]
 | c :: cs, j + 1 => by simpa [tQ] using ru ks cs j
theorem pe (ks : List Nat) : ∀ cs : List SV, (tQ ks cs).length = cs.length
 | [] => rfl
 | c :: cs => by simp [tQ, pe ks cs]
theorem OD (ks : List Nat) : ∀ (l : List (Nat × SV)) (i : Nat), lkV (Sp ks l) i = stV ks (lkV l i)
 | [], _ => rfl
 | (j, v) :: l, i => by simp only [Sp, cR, OD ks l i]; split <;> rfl
def ZM (ks : List Nat) : aW → aW
 | .st ty cs => .st ty (tQ ks cs)
 | b => b
theorem ux (ks : List Nat) : ∀ (l : List (Nat × Option aW)) (i : Nat), lkB (wY ks l) i = (lkB l i).map (ZM ks)
 | [], _ => rfl
 | (j, none) :: l, i => by simp only [wY, ar, ux ks l i]; split <;> rfl
 | (j, some (.st ty cs)) :: l, i => by simp only [wY, ar, ux ks l i]; split <;> rfl
 | (j, some (.rw e k ty xs pins)) :: l, i => by simp only [wY, ar, ux ks l i]; split <;> rfl
structure ZH (ks : List Nat) (B B' : List (Nat × Option aW)) : Prop where
 rw : ∀ t, aA ks t = false → ∀ e k ty xs pins, lkB B t = some (.rw e k ty xs pins) → ∃ e' k' ty' xs' pins', lkB B' t = some (.rw e' k' ty' xs' pins') ∧ xs'.length = xs.length ∧ ∀ p pin, lkP pins p = some pin → ∃ pin', lkP pins' p = some pin' ∧ pin'.i = pin.i
 st : ∀ t ty cs, lkB B t = some (.st ty cs) → ∃ ty' cs', lkB B' t = some (.st ty' cs')
theorem bc.st {ks : List Nat} {v : SV} {q : PV} (h : bc B v q) (hB : ZH ks B B') : bc B' (stV ks v) q := by
 induction h with
 | junk q => exact .junk q
 | d c y h => exact .d c y h
 | ag cs qs hl hr ih =>
  refine .ag _ qs (by rw [pe]; exact hl) (fun j c q h1 h2 => ?_)
  rw [ru, zm] at h1
  obtain ⟨c', h3, rfl⟩ := h1
  exact ih j c' q h3 h2
 | tup cs qs hl hr ih =>
  refine .tup _ qs (by rw [pe]; exact hl) (fun j c q h1 h2 => ?_)
  rw [ru, zm] at h1
  obtain ⟨c', h3, rfl⟩ := h1
  exact ih j c' q h3 h2
 | ptr t' o ty cs hb => obtain ⟨ty', cs', h1⟩ := hB.st t' ty cs hb; exact .ptr t' o ty' cs' h1
 | row t' n e k ty xs pins hb hn =>
  simp only [stV]
  split
  ·exact .junk _
  ·rename_i h
   obtain ⟨e', k', ty', xs', pins', h1, h2, h3⟩ := hB.rw t' h e k ty xs pins hb
   exact .row t' n e' k' ty' xs' pins' h1 (h2.trans hn)
 | re t' p o n i e k ty xs pins pin hb hn hp hi =>
  simp only [stV]
  split
  ·exact .junk _
  ·rename_i h
   obtain ⟨e', k', ty', xs', pins', h1, h2, h3⟩ := hB.rw t' h e k ty xs pins hb
   obtain ⟨pin', h4, h5⟩ := h3 p pin hp
   exact .re t' p o n i e' k' ty' xs' pins' pin' h1 (h2.trans hn) h4 (by rw [h5]; exact hi)
 | vw t' lo hi n e k ty xs pins hb hn=>
  simp only [stV]
  split
  ·exact .junk _
  ·rename_i h
   obtain ⟨e', k', ty', xs', pins', h1, h2, h3⟩ := hB.rw t' h e k ty xs pins hb
   exact .vw t' lo hi n e' k' ty' xs' pins' h1 (h2.trans hn)
 | fe cs ds h hn => exact .fe cs ds h hn
 | fn f ps qs ps' qs' hl hr hl2 hr2 ih ih2 =>
  refine .fn f _ _ ps' qs' (by rw [pe]; exact hl) (fun j c q h1 h2 => ?_) (by rw [pe]; exact hl2) (fun j c q h1 h2 => ?_)
  ·rw [ru, zm] at h1
   obtain ⟨c', h3, rfl⟩ := h1
   exact ih j c' q h3 h2
  ·rw [ru, zm] at h1
   obtain ⟨c', h3, rfl⟩ := h1
   exact ih2 j c' q h3 h2
theorem ca.st {ks : List Nat} {cs : List SV} {qs : List PV} (h : ca B cs qs) (hB : ZH ks B B') : ca B' (tQ ks cs) qs :=
 ⟨by rw [pe]; exact h.len, fun j c q h1 h2 => by
  rw [ru, zm] at h1
  obtain ⟨c', h3, rfl⟩ := h1
  exact (h.rep j c' q h3 h2).st hB⟩
mutual
theorem Q3 {pr ks : List Nat} (hk : ∀ t, aA ks t = true → aA pr t = false) : ∀ v : SV, kV pr v = true → stV ks v = v
 | .junk, _ => rfl
 | .d _, _ => rfl
 | .fe _, _ => rfl
 | .ptr _ _, _ => rfl
 | .row t, h => by
  have h : aA pr t = true := h
  simp only [stV]
  split
  ·rename_i h1; rw [hk t h1] at h; cases h
  ·rfl
 | .re _ _ _, h => by cases h
 | .vw _ _ _, h => by cases h
 | .ag cs, h => by simp only [stV]; rw [tY hk cs h]
 | .tup cs, h => by simp only [stV]; rw [tY hk cs h]
 | .fn f ps qs, h => by
  have h : (dX pr ps && dX pr qs) = true := h
  rw [Bool.and_eq_true] at h
  simp only [stV]; rw [tY hk ps h.1, tY hk qs h.2]
theorem tY {pr ks : List Nat} (hk : ∀ t, aA ks t = true → aA pr t = false) : ∀ cs : List SV, dX pr cs = true → tQ ks cs = cs
 | [], _ => rfl
 | c :: cs, h => by
  simp only [dX, Bool.and_eq_true] at h
  simp only [tQ]
  rw [Q3 hk c h.1, tY hk cs h.2]
end
mutual
theorem U3 {ks : List Nat} : ∀ v : SV, pk v = true → stV ks v = v
 | .junk, _ => rfl
 | .d _, _ => rfl
 | .fe _, _ => rfl
 | .ptr _ _, _ => rfl
 | .row _, h => by cases h
 | .re _ _ _, h => by cases h
 | .vw _ _ _, h => by cases h
 | .ag cs, h => by simp only [stV]; rw [oW cs h]
 | .tup cs, h => by simp only [stV]; rw [oW cs h]
 | .fn f ps qs, h => by
  have h : (match cy ps with | true => cy qs | false => false) = true := h
  split at h
  ·rename_i h1; simp only [stV]; rw [oW ps h1, oW qs h]
  ·cases h
theorem oW {ks : List Nat} : ∀ cs : List SV, cy cs = true → tQ ks cs = cs
 | [], _ => rfl
 | c :: cs, h => by
  simp only [cy] at h
  split at h
  ·rename_i h1
   simp only [tQ]
   rw [U3 c h1, oW cs h]
  ·cases h
end
inductive UAl (G : List Nat) (B' : List (Nat × Option aW)) : List (Nat × Option aW) → BU → Prop
 | nil : UAl G B' [] []
 | cons (t : Nat) (sb : Option aW) (b : Box) (us : List (Nat × Option aW)) (u : BU) (h1 : ∀ x, sb = some x → l7 B' true (some x) (some b)) (h2 : sb = none → aA G t = true) (h : UAl G B' us u) : UAl G B' ((t, sb) :: us) ((t, b) :: u)
variable {G : List Nat}
theorem UAl.app {us us' : List (Nat × Option aW)} {u u' : BU} (h : UAl G B' us u) (h' : UAl G B' us' u') : UAl G B' (us ++ us') (u ++ u') := by
 induction h with
 | nil => exact h'
 | cons t sb b us u h1 h2 h ih => exact .cons t sb b _ _ h1 h2 ih
theorem fc : ∀ {us : List (Nat × Option aW)} {t : Nat}, t ∈ idU us ↔ ∃ sb, (t, sb) ∈ us
 | [], t => by simp [idU]
 | (i, b) :: us, t => by
  simp only [idU, List.mem_cons, Prod.mk.injEq]
  constructor
  ·rintro (rfl | h)
   ·exact ⟨b, .inl ⟨rfl, rfl⟩⟩
   ·obtain ⟨sb, h⟩ := fc.1 h; exact ⟨sb, .inr h⟩
  ·rintro ⟨sb, ⟨rfl, _⟩ | h⟩
   ·exact .inl rfl
   ·exact .inr (fc.2 ⟨sb, h⟩)
theorem U0 {us : List (Nat × Option aW)} {u : BU} (h : UAl G B' us u) (l : List (Nat × Option aW)) (t : Nat) :
  (t ∈ idU us ∧ ∃ sb b, lkB (us ++ l) t = sb ∧ lkU u t = some b ∧ (∀ x, sb = some x → l7 B' true (some x) (some b)) ∧ (sb = none → aA G t = true)) ∨ (t ∉ idU us ∧ lkB (us ++ l) t = lkB l t ∧ lkU u t = none) := by
 induction h with
 | nil => exact .inr ⟨by simp [idU], rfl, rfl⟩
 | cons i sb b us u h1 h2 h ih =>
  by_cases hi : t = i
  ·subst hi
   refine .inl ⟨by simp [idU], sb, b, ?_, ?_, h1, h2⟩
   ·rw [List.cons_append, ar, if_pos rfl]
   ·simp [lkU]
  ·rcases ih with ⟨m1, sb', b', m2, m3, m4⟩ | ⟨m1, m2, m3⟩
   ·refine .inl ⟨by simp [idU, m1], sb', b', ?_, ?_, m4⟩
    ·rw [List.cons_append, ar, if_neg hi]; exact m2
    ·simp only [lkU, if_neg hi]; exact m3
   ·refine .inr ⟨by simp [idU, m1, hi], ?_, ?_⟩
    ·rw [List.cons_append, ar, if_neg hi]; exact m2
    ·simp only [lkU, if_neg hi]; exact m3
theorem dM : ∀ {l : List Nat} {i : Nat}, aA l i = true ↔ i ∈ l
 | [], i => by simp [aA]
 | j :: l, i => by
  simp only [aA, cS, List.mem_cons]
  by_cases h : i = j
  ·simp [h]
  ·simp only [h, decide_false, false_or]; exact dM
theorem yB {l : List Nat} {i : Nat} : aA l i = false ↔ i ∉ l := by rw [← dM]; simp
theorem iT : ∀ {l : List Nat}, sI l = true → l.Nodup
 | [], _ => List.nodup_nil
 | a :: l, h => by
  simp only [sI] at h
  split at h
  ·cases h
  ·rename_i h1
   exact List.nodup_cons.2 ⟨yB.1 h1, iT h⟩
theorem rr : ∀ {l m : List Nat}, N3 l m = true → ∀ x ∈ l, x ∈ m
 | [], _, _, x, hx => by cases hx
 | a :: l, m, h, x, hx => by
  simp only [N3] at h
  split at h
  ·rename_i h1
   rcases List.mem_cons.1 hx with rfl | hx
   ·exact dM.1 h1
   ·exact rr h x hx
  ·cases h
theorem Eg : ∀ {l : List Nat}, Rn s l = true → ∀ i ∈ l, aA s.pr i = false
 | [], _, i, hi => by cases hi
 | a :: l, h, i, hi => by
  simp only [Rn] at h
  split at h
  ·cases h
  ·rename_i h1
   rcases List.mem_cons.1 hi with rfl | hi
   ·exact h1
   ·exact Eg h i hi
theorem Eh : ∀ {l : List Nat}, Ro s l = true → ∀ i ∈ l, JA s i = true ∧ lkB s.bx i = none ∧ i < 1000000
 | [], _, i, hi => by cases hi
 | a :: l, h, i, hi => by
  simp only [Ro] at h
  split at h
  ·rename_i h1 h2 h3
   rcases List.mem_cons.1 hi with rfl | hi
   ·exact ⟨h1, h2, Nat.le_of_ble_eq_true h3⟩
   ·exact Eh h i hi
  ·cases h
theorem Ei : ∀ {us : List (Nat × Option aW)}, Rp s us = true → ∀ t sb, (t, sb) ∈ us → ∀ ty cs, lkB s.bx t = some (.st ty cs) → ∃ cs', sb = some (.st ty cs') ∧ cs'.length = cs.length
 | [], _, t, sb, h, _, _, _ => by cases h
 | (i, b) :: us, h, t, sb, hm, ty, cs, hl => by
  simp only [Rp, Bool.and_eq_true] at h
  rcases List.mem_cons.1 hm with e | hm
  ·injection e with e1 e2
   subst e1 e2
   have h1 := h.1
   rw [hl] at h1
   simp only at h1
   split at h1
   ·rename_i ty' cs'
    rw [Bool.and_eq_true, Nat.beq_eq] at h1
    have := zd h1.1
    subst this
    exact ⟨cs', rfl, h1.2.symm⟩
   ·cases h1
  ·exact Ei h.2 t sb hm ty cs hl
mutual
theorem Iz (b : Nat → Option Box) : ∀ q : PV, clean q = true → asData b q = qo q
 | .junk, _ => rfl
 | .d _, _ => rfl
 | .fe _, _ => rfl
 | .ptr _ _, h => by cases h
 | .row _ _, h => by cases h
 | .re _ _ _ _, h => by cases h
 | .vw _ _ _ _, h => by cases h
 | .ag cs, h => by simp only [asData, qo]; rw [pz b cs h]
 | .tup cs, h => by simp only [asData, qo]; rw [pz b cs h]
 | .fn f ps qs, h => by
  have h : (cI ps && cI qs) = true := h
  rw [Bool.and_eq_true] at h
  simp only [asData, qo]; rw [pz b ps h.1, pz b qs h.2]
theorem pz (b : Nat → Option Box) : ∀ cs : List PV, cI cs = true → bO b cs = dL cs
 | [], _ => rfl
 | c :: cs, h => by
  simp only [cI, Bool.and_eq_true] at h
  simp only [bO, dL]; rw [Iz b c h.1, pz b cs h.2]
end
theorem xD (hs : Sim s p) {rows : List (Nat × Nat × Nat × Nat × Ty)} : ∀ {cs : List SV} {qs : List PV} {ds : List SD} {j : Nat}, ca s.bx cs qs → cellsOf s rows j cs = some ds →
  dL qs = dY rows j (ds.map SD.toD) ∧ ∀ t Bx, (t, Bx) ∈ ch rows j (ds.map SD.toD) → p.b t = some Bx
 | [], qs, ds, j, hv, h => by
  rcases hv.cases with ⟨_, rfl⟩ | ⟨_, _, _, _, h1, _⟩
  ·injection h with h; subst h; exact ⟨rfl, fun _ _ h => by cases h⟩
  ·cases h1
 | c :: cs, qs, ds, j, hv, h => by
  rcases hv.cases with ⟨h1, _⟩ | ⟨c', q, cs', qs', h1, rfl, h2, h3⟩
  ·cases h1
  ·injection h1 with e1 e2
   subst e1 e2
   simp only [cellsOf] at h
   split at h
   ·rename_i R e k t hf
    split at h
    ·rename_i R' e' k' t' xs pins hb
     split at h
     ·rename_i hty _
      obtain ⟨m1, h⟩ := ao h
      obtain ⟨m2, h⟩ := ao h
      obtain ⟨m3, h⟩ := ao h
      split at h
      ·rename_i r hr
       injection h with h
       subst h hty
       rw [Nat.beq_eq] at m1
       have m2 := zd m2
       have m3 := zd m3
       subst m1 m2 m3
       obtain ⟨k1, k2⟩ := xD hs h3 hr
       have hbx := hs.bx R'
       rw [hb] at hbx
       cases h2 with
       | row _ n e2 k2' ty2 xs2 pins2 hb2 hn =>
        rw [hb] at hb2
        injection hb2 with hb2
        injection hb2 with q1 q2 q3 q4 q5
        subst q3
        have q4 := eq_of_heq q4
        subst q4
        refine ⟨?_, ?_⟩
        ·simp only [dL, qo, List.map_cons, dY, hf, SD.toD, k1]
         simp [yQ, hn]
        ·intro t Bx hm
         simp only [List.map_cons, ch, hf, SD.toD, List.mem_cons, Prod.mk.injEq] at hm
         rcases hm with ⟨rfl, rfl⟩ | hm
         ·exact hbx.1
         ·exact k2 t Bx hm
      ·cases h
     ·cases h
    ·cases h
   ·rename_i hf
    split at h
    ·rename_i x r hr
     injection h with h
     subst h
     obtain ⟨k1, k2⟩ := xD hs h3 hr
     cases h2 with
     | d _ y hy =>
      refine ⟨?_, ?_⟩
      ·simp only [dL, qo, List.map_cons, dY, hf, k1, hy.nrm]
      ·intro t Bx hm
       simp only [List.map_cons, ch, hf] at hm
       exact k2 t Bx hm
    ·cases h
theorem BV : ∀ {rows : List (Nat × Nat × Nat × Ty)} {cs : List SV} {is : List Nat}, Dj rows cs = some is → is.length = rows.length
 | [], _, is, h => by injection h with h; subst h; rfl
 | (j, e) :: rows, cs, is, h => by
  simp only [Dj] at h
  split at h
  ·rename_i R is' _ h1
   injection h with h
   subst h
   simp [BV h1]
  ·cases h
theorem Fj (hs : Sim s p) {rows : List (Nat × Nat × Nat × Ty)} {n : Nat} {cs : List SV} {qs : List PV} {x : ST n} {is : List Nat} (hv : ca s.bx cs qs) (h : Mu s rows n cs = some (x, is)) :
  is.length = rows.length ∧ dL qs = dY (l8 rows is) 0 (stD n x) ∧ ∀ t Bx, (t, Bx) ∈ ch (l8 rows is) 0 (stD n x) → p.b t = some Bx := by
 unfold Mu at h
 split at h
 ·rename_i is' hi
  split at h
  ·rename_i ds hd
   split at h
   ·rename_i x' hx
    injection h with h
    injection h with e1 e2
    subst e1 e2
    rw [← AB hx]
    exact ⟨BV hi, xD hs hv hd⟩
   ·cases h
  ·cases h
 ·cases h
structure aai (p : PS) (pt : PT) (q : PV) (x : pt.den) (is : List Nat) : Prop where
 len : is.length = pt.nI
 v : qo q = (toI pt is x).1
 b : ∀ t Bx, (t, Bx) ∈ (toI pt is x).2 → ∃ B', p.b t = some B' ∧ rB B' = Bx
theorem Bg (hs : Sim s p) {e k : Nat} {t : Ty} {v : SV} {q : PV} {xs : List t.den} {is : List Nat} (hv : bc s.bx v q) (h : sY s e k t v = some (xs, is)) : ∃ i, is = [i] ∧ q = .row i xs.length ∧ p.b i = some (rwU e k t xs) ∧ ∃ e' k' t' xs' pins, lkB s.bx i = some (.rw e' k' t' xs' pins) ∧ xs'.length = xs.length := by
 unfold sY at h
 split at h
 ·rename_i i
  split at h
  ·rename_i e' k' t' xs' pins hb
   split at h
   ·rename_i hty _
    obtain ⟨m2, h⟩ := ao h
    obtain ⟨m3, h⟩ := ao h
    injection h with h
    injection h with e1 e2
    subst e1 e2 hty
    have m2 := zd m2
    have m3 := zd m3
    subst m2 m3
    have hbx := hs.bx i
    rw [hb] at hbx
    cases hv with
    | row _ n e2 k2' ty2 xs2 pins2 hb2 hn =>
     rw [hb] at hb2
     injection hb2 with hb2
     injection hb2 with q1 q2 q3 q4 q5
     subst q3
     have q4 := eq_of_heq q4
     subst q4
     exact ⟨i, rfl, by rw [← hn]; rfl, hbx.1, _, _, _, _, _, hb, rfl⟩
   ·cases h
  ·cases h
 ·cases h
theorem Ym (hs : Sim s p) {pt : PT} {v : SV} {q : PV} {x : pt.den} {is : List Nat} (hv : bc s.bx v q) (h : Mx s pt v = some (x, is)) : is = [] ∧ qo q = pd pt x := by
 unfold Mx at h
 obtain ⟨h1, h⟩ := ao h
 split at h
 ·rename_i x' hx
  injection h with h
  injection h with e1 e2
  subst e1 e2
  obtain ⟨k1, k2⟩ := (Du hs hv hx).2 h1
  exact ⟨rfl, by rw [← Iz dP q k1]; exact k2⟩
 ·cases h
theorem JW (hs : Sim s p) : ∀ {pt : PT} {v : SV} {q : PV} {x : pt.den} {is : List Nat}, bc s.bx v q → O6 s pt v = some (x, is) → aai p pt q x is := by
 intro pt v q x is hv h
 have plain : ∀ {pt : PT} {x : pt.den}, pt.nI = 0 → (toI pt [] x) = (pd pt x, []) → Mx s pt v = some (x, is) → aai p pt q x is := fun {pt x} h0 h1 h => by
  obtain ⟨rfl, h2⟩ := Ym hs hv h
  exact ⟨h0.symm, by rw [h1]; exact h2, by rw [h1]; exact fun _ _ h => by cases h⟩
 have row : ∀ {e k : Nat} {t : Ty} {xs : List t.den}, sY s e k t v = some (xs, is) → is.length = 1 ∧ ∃ i, is = [i] ∧ q = .row i xs.length ∧ p.b i = some (rwU e k t xs) := fun {e k t xs} h => by
  obtain ⟨i, rfl, h1, h2, _⟩ := Bg hs hv h
  exact ⟨rfl, i, rfl, h1, h2⟩
 cases pt with
 | lf t => exact plain rfl rfl h
 | ag i => exact plain rfl rfl h
 | pl t => exact plain rfl rfl h
 | ps i => exact plain rfl rfl h
 | fn f a b => exact plain rfl rfl h
 | io l => exact dC (x := (x, is)) h
 | own e k t =>
  obtain ⟨h1, i, rfl, h2, h3⟩ := row (xs := x) h
  refine ⟨h1, by rw [h2]; rfl, fun t' Bx hm => ?_⟩
  simp only [toI, List.mem_cons, List.not_mem_nil, or_false, Prod.mk.injEq] at hm
  obtain ⟨rfl, rfl⟩ := hm
  exact ⟨_, h3, rfl⟩
 | mv e k t =>
  obtain ⟨h1, i, rfl, h2, h3⟩ := row (xs := x) h
  refine ⟨h1, by rw [h2]; rfl, fun t' Bx hm => ?_⟩
  simp only [toI, List.mem_cons, List.not_mem_nil, or_false, Prod.mk.injEq] at hm
  obtain ⟨rfl, rfl⟩ := hm
  exact ⟨_, h3, rfl⟩
 | bx ty n rows =>
  replace h : MB s ty n rows v = some (x, is) := h
  unfold MB at h
  split at h
  ·rename_i i
   split at h
   ·rename_i ty' cs hb
    obtain ⟨m1, h⟩ := ao h
    have m1 := zd m1
    subst m1
    split at h
    ·rename_i x' is' hd
     injection h with h
     injection h with e1 e2
     subst e1 e2
     have hbx := hs.bx i
     rw [hb] at hbx
     obtain ⟨qs, k1, k2⟩ := hbx
     obtain ⟨k3, k4, k5⟩ := Fj hs k2 hd
     cases hv with
     | ptr _ _ _ _ _ =>
      refine ⟨by simp [k3, PT.nI], rfl, fun t' Bx hm => ?_⟩
      simp only [toI, List.mem_cons, Prod.mk.injEq] at hm
      rcases hm with ⟨rfl, rfl⟩ | hm
      ·exact ⟨_, k1, by rw [rB, k4]⟩
      ·have := k5 t' Bx hm
       refine ⟨Bx, this, ?_⟩
       have : ∀ {rows : List (Nat × Nat × Nat × Nat × Ty)} {ds : List D} {j : Nat}, (t', Bx) ∈ ch rows j ds → rB Bx = Bx := by
        intro rows ds
        induction ds with
        | nil => intro j h; cases h
        | cons d ds ih =>
         intro j h
         simp only [ch] at h
         split at h
         ·split at h
          ·rcases List.mem_cons.1 h with e | h
           ·injection e with _ e; subst e; rfl
           ·exact ih h
          ·exact ih h
         ·exact ih h
       exact this hm
    ·cases h
   ·cases h
  ·cases h
 | agr n rows =>
  replace h : O7 s n rows v = some (x, is) := h
  unfold O7 at h
  split at h
  ·rename_i cs
   obtain ⟨qs, rfl, hq⟩ := Hl hv
   obtain ⟨k3, k4, k5⟩ := Fj hs hq h
   refine ⟨k3, by simp only [qo, toI, k4], fun t' Bx hm => ?_⟩
   have := k5 t' Bx hm
   refine ⟨Bx, this, ?_⟩
   have : ∀ {rows : List (Nat × Nat × Nat × Nat × Ty)} {ds : List D} {j : Nat}, (t', Bx) ∈ ch rows j ds → rB Bx = Bx := by
    intro rows ds
    induction ds with
    | nil => intro j h; cases h
    | cons d ds ih =>
     intro j h
     simp only [ch] at h
     split at h
     ·split at h
      ·rcases List.mem_cons.1 h with e | h
       ·injection e with _ e; subst e; rfl
       ·exact ih h
      ·exact ih h
     ·exact ih h
   exact this hm
  ·cases h
theorem My (hs : Sim s p) : ∀ {ps : List PT} {vs : List SV} {qs : List PV} {x : cp ps} {iss : List (List Nat)}, ca s.bx vs qs → Ix s ps vs = some (x, iss) →
  iE ps iss ∧ dL qs = (dW ps iss x).1 ∧ ∀ t Bx, (t, Bx) ∈ (dW ps iss x).2 → ∃ B', p.b t = some B' ∧ rB B' = Bx
 | [], [], qs, x, iss, hv, h => by
  rcases hv.cases with ⟨_, rfl⟩ | ⟨_, _, _, _, h1, _⟩
  ·injection h with h
   injection h with _ h
   subst h
   exact ⟨trivial, rfl, fun _ _ h => by cases h⟩
  ·cases h1
 | [], _ :: _, _, _, _, _, h => by cases h
 | _ :: _, [], _, _, _, _, h => by cases h
 | pt :: ps, v :: vs, qs, x, iss, hv, h => by
  rcases hv.cases with ⟨h1, _⟩ | ⟨v', q, vs', qs', h1, rfl, h2, h3⟩
  ·cases h1
  ·injection h1 with e1 e2
   subst e1 e2
   simp only [Ix] at h
   split at h
   ·rename_i y is ys iss' m1 m2
    injection h with h
    injection h with e1 e2
    subst e1 e2
    obtain ⟨k1, k2, k3⟩ := JW hs h2 m1
    obtain ⟨k4, k5, k6⟩ := My hs h3 m2
    refine ⟨⟨k1, k4⟩, by simp only [dL, dW, k2, k5], fun t Bx hm => ?_⟩
    simp only [dW, List.mem_append] at hm
    rcases hm with hm | hm
    ·exact k3 t Bx hm
    ·exact k6 t Bx hm
   ·cases h
end
section
variable {B B' : List (Nat × Option aW)} {s : SS} {p : PS} {P : Program} {ρ : Type} {G : List Nat} {sc : List Nat}
def v7 (B' : List (Nat × Option aW)) (bx : List (Nat × Option aW)) : Prop := ∀ t x, (t, some x) ∈ bx → lkB B' t = some x
theorem v7.app {a b : List (Nat × Option aW)} (h : v7 B' (a ++ b)) : v7 B' a ∧ v7 B' b := ⟨fun t x hm => h t x (List.mem_append_left _ hm), fun t x hm => h t x (List.mem_append_right _ hm)⟩
theorem Om {rows : List (Nat × Nat × Nat × Nat × Ty)} : ∀ {cs : List SD} {j : Nat} {vs : List SV} {bx : List (Nat × Option aW)}, fU rows j cs [] = some (vs, bx) → (∀ c ∈ cs, c ≠ .nl) →
  UAl G B' bx (ch rows j (cs.map SD.toD)) ∧ (v7 B' bx → ca B' vs (dY rows j (cs.map SD.toD)))
 | [], j, vs, bx, h, _ => by
  simp only [fU] at h
  injection h with h
  injection h with e1 e2
  subst e1 e2
  exact ⟨.nil, fun _ => .nil⟩
 | c :: cs, j, vs, bx, h, hn => by
  simp only [fU] at h
  have hn' := fun c' hc => hn c' (List.mem_cons_of_mem _ hc)
  split at h
  ·rename_i R e k t hf
   split at h
   ·rename_i xs vs' bx' hx hr
    injection h with h
    injection h with e1 e2
    subst e1 e2
    obtain ⟨k1, k2⟩ := Om hr hn'
    have hD : c.toD = .sl ((show List t.den from xs).map (bR t)) := by
     rw [← Ds hx]; rfl
    simp only [List.map_cons, ch, dY, hf, hD]
    refine ⟨.cons R _ _ _ _ (fun x hx => ?_) (fun h => by cases h) k1, fun hs => .cons ?_ (k2 fun t x hm => hs t x (List.mem_cons_of_mem _ hm))⟩
    ·injection hx with hx
     subst hx
     exact ⟨rfl, fun p pin h => by cases h⟩
    ·exact .row R _ e k t xs [] (hs R _ List.mem_cons_self) (show List.length (show List t.den from xs) = _ from (List.length_map _).symm)
   ·cases h
  ·rename_i hf
   split at h
   ·rename_i vs' bx' hr
    injection h with h
    injection h with e1 e2
    subst e1 e2
    obtain ⟨k1, k2⟩ := Om hr hn'
    simp only [List.map_cons, ch, dY, hf]
    exact ⟨k1, fun hs => .cons (.d _ _ (K0.of (hn c List.mem_cons_self))) (k2 hs)⟩
   ·cases h
theorem EW {rows : List (Nat × Nat × Nat × Ty)} {is : List Nat} {n : Nat} {x : ST n} {vs : List SV} {bx : List (Nat × Option aW)} (h : Mg rows is n x = some (vs, bx)) :
  UAl G B' bx (ch (l8 rows is) 0 (stD n x)) ∧ (v7 B' bx → ca B' vs (dY (l8 rows is) 0 (stD n x))) := by
 rw [← tZ n x]
 exact Om h (wX n x)
theorem Ij {e k : Nat} {t : Ty} (xs : List t.den) {is : List Nat} {v : SV} {bx : List (Nat × Option aW)} (h : (match is with | [i] => some (SV.row i, [(i, some (aW.rw e k t xs []))]) | _ => none) = some (v, bx)) (hs : v7 B' bx) :
  ∃ i, is = [i] ∧ v = .row i ∧ UAl G B' bx [(i, rwU e k t xs)] ∧ bc B' v (.row i xs.length) := by
 split at h
 ·rename_i i
  injection h with h
  injection h with e1 e2
  subst e1 e2
  exact ⟨i, rfl, rfl, .cons i _ _ _ _ (fun x hx => by injection hx with hx; subst hx; exact ⟨rfl, fun p pin h => by cases h⟩) (fun h => by cases h) .nil, .row i _ e k t xs [] (hs i _ List.mem_cons_self) rfl⟩
 ·cases h
theorem JQ {pt : PT} {is : List Nat} {x : pt.den} {v : SV} {bx : List (Nat × Option aW)} (hp : (pt.isM || SK pt) = true) (h : Mj pt is x = some (v, bx)) (hs : v7 B' bx) :
  UAl G B' bx (toI pt is x).2 ∧ bc B' v (toI pt is x).1 := by
 have plain : ∀ {pt : PT} {x : pt.den}, pt.isM = false → (pt.isM || SK pt) = true → (toI pt is x) = (pd pt x, []) → v = Ti pt x → bx = [] → UAl G B' bx (toI pt is x).2 ∧ bc B' v (toI pt is x).1 := fun {pt x} h1 h2 h3 h4 h5 => by
  subst h4 h5
  rw [h1, Bool.false_or] at h2
  rw [h3]
  exact ⟨.nil, yN pt x h2⟩
 cases pt with
 | lf t => injection h with h; injection h with e1 e2; exact plain rfl hp rfl e1.symm e2.symm
 | ag t => injection h with h; injection h with e1 e2; exact plain rfl hp rfl e1.symm e2.symm
 | pl t => injection h with h; injection h with e1 e2; exact plain rfl hp rfl e1.symm e2.symm
 | ps t => injection h with h; injection h with e1 e2; exact plain rfl hp rfl e1.symm e2.symm
 | fn f a b => injection h with h; injection h with e1 e2; exact plain rfl hp rfl e1.symm e2.symm
 | io l => cases h
 | own e k t => obtain ⟨i, rfl, rfl, k1, k2⟩ := Ij (G := G) (B' := B') (show List t.den from x) h hs; exact ⟨k1, k2⟩
 | mv e k t => obtain ⟨i, rfl, rfl, k1, k2⟩ := Ij (G := G) (B' := B') (show List t.den from x) h hs; exact ⟨k1, k2⟩
 | bx ty n rows =>
  simp only [Mj] at h
  split at h
  ·rename_i i is'
   split at h
   ·rename_i vs bx' he
    injection h with h
    injection h with e1 e2
    subst e1 e2
    obtain ⟨k1, k2⟩ := EW (G := G) (B' := B') he
    have hc := k2 fun t x hm => hs t x (List.mem_cons_of_mem _ hm)
    exact ⟨.cons i _ _ _ _ (fun x hx => by injection hx with hx; subst hx; exact ⟨_, rfl, hc⟩) (fun h => by cases h) k1, .ptr i 0 _ _ (hs i _ List.mem_cons_self)⟩
   ·cases h
  ·cases h
 | agr n rows =>
  simp only [Mj] at h
  split at h
  ·rename_i vs bx' he
   injection h with h
   injection h with e1 e2
   subst e1 e2
   obtain ⟨k1, k2⟩ := EW (G := G) (B' := B') he
   have hc := k2 hs
   exact ⟨k1, .ag _ _ hc.len hc.rep⟩
  ·cases h
theorem Ik : ∀ {rs : List PT} {jss : List (List Nat)} {r : a8 rs} {vs : List SV} {bs : List (Nat × Option aW)}, sG rs = true → JP rs jss r = some (vs, bs) → v7 B' bs → UAl G B' bs (cQ rs jss r).2 ∧ ca B' vs (cQ rs jss r).1
 | [], [], r, vs, bs, _, h, _ => by
  have h : some (([] : List SV), ([] : List (Nat × Option aW))) = some (vs, bs) := h
  injection h with h
  injection h with e1 e2
  subst e1 e2
  exact ⟨.nil, .nil⟩
 | [], _ :: _, r, vs, bs, _, h, _ => by cases h
 | [pt], [], r, vs, bs, _, h, _ => by cases h
 | [pt], [is], r, vs, bs, hp, h, hs => by
  have h : (match Mj pt is r with | some (v, b) => some ([v], b) | none => none) = some (vs, bs) := h
  simp only [sG] at hp
  split at hp
  ·rename_i hp1
   split at h
   ·rename_i v b he
    injection h with h
    injection h with e1 e2
    subst e1 e2
    obtain ⟨k1, k2⟩ := JQ (G := G) (B' := B') hp1 he hs
    exact ⟨k1, .cons k2 .nil⟩
   ·cases h
  ·cases hp
 | [pt], _ :: _ :: _, r, vs, bs, _, h, _ => by cases h
 | pt :: q :: l, [], r, vs, bs, _, h, _ => by cases h
 | pt :: q :: l, is :: iss, r, vs, bs, hp, h, hs => by
  have h : (match Mj pt is r.1, JP (q :: l) iss r.2 with | some (v, b), some (vs, bs) => some (v :: vs, b ++ bs) | _, _ => none) = some (vs, bs) := h
  rw [sG] at hp
  split at hp
  ·rename_i hp1
   split at h
   ·rename_i v b vs' bs' he hr
    injection h with h
    injection h with e1 e2
    subst e1 e2
    obtain ⟨s1, s2⟩ := hs.app
    obtain ⟨k1, k2⟩ := JQ (G := G) (B' := B') hp1 he s1
    obtain ⟨k3, k4⟩ := Ik hp hr s2
    exact ⟨k1.app k3, .cons k2 k4⟩
   ·cases h
  ·cases hp
theorem Vr {vs : List SV} {qs : List PV} (h : ca B vs qs) : bc B (Vs vs) (yw qs) := by
 match vs, qs, h with
 | [], [], h => exact .tup _ _ rfl (fun j c q h1 => by simp at h1)
 | [v], [q], h => exact h.head
 | v :: v' :: vs, q :: q' :: qs, h => exact .tup _ _ h.len h.rep
 | [], _ :: _, h => have := h.len; simp at this
 | _ :: _, [], h => have := h.len; simp at this
 | [_], _ :: _ :: _, h => have := h.len; simp at this
 | _ :: _ :: _, [_], h => have := h.len; simp at this
def Bo (s : SS) (ks js : List Nat) (t : Nat) (sb : Option aW) : Prop :=
 aA ks t = true ∨ t ∈ js ∨ (∃ ty cs, lkB s.bx t = some (.st ty cs)) ∨ ∃ e k ty xs pins e' k' ty' xs', lkB s.bx t = some (.rw e k ty xs pins) ∧ sb = some (.rw e' k' ty' xs' (wt pins)) ∧ xs'.length = xs.length
theorem DF : ∀ {rows : List (Nat × Nat × Nat × Ty)} {is : List Nat} {j R e k : Nat} {t : Ty}, pu (l8 rows is) j = some (R, e, k, t) → R ∈ is
 | [], is, j, R, e, k, t, h => by cases is <;> cases h
 | (j0, e0, k0, t0) :: rows, [], j, R, e, k, t, h => by cases h
 | (j0, e0, k0, t0) :: rows, R0 :: is, j, R, e, k, t, h => by
  simp only [l8, pu] at h
  split at h
  ·injection h with h
   injection h with h _
   subst h
   exact List.mem_cons_self
  ·exact List.mem_cons_of_mem _ (DF h)
theorem Js {rows : List (Nat × Nat × Nat × Ty)} {is : List Nat} : ∀ {cs : List SD} {j : Nat} {vs : List SV} {bx : List (Nat × Option aW)}, fU (l8 rows is) j cs [] = some (vs, bx) → ∀ t sb, (t, sb) ∈ bx → t ∈ is
 | [], j, vs, bx, h, t, sb, hm => by
  simp only [fU] at h
  injection h with h
  injection h with e1 e2
  subst e1 e2
  cases hm
 | c :: cs, j, vs, bx, h, t, sb, hm => by
  simp only [fU] at h
  split at h
  ·rename_i R e k t' hf
   split at h
   ·rename_i xs vs' bx' hx hr
    injection h with h
    injection h with e1 e2
    subst e1 e2
    rcases List.mem_cons.1 hm with e | hm
    ·injection e with e _
     subst e
     exact DF hf
    ·exact Js hr t sb hm
   ·cases h
  ·split at h
   ·rename_i vs' bx' hr
    injection h with h
    injection h with e1 e2
    subst e1 e2
    exact Js hr t sb hm
   ·cases h
theorem Yd (hs : Sim s p) {pt : PT} {b : IB} {is js : List Nat} {x : pt.den} {o : b.den} {v : SV} {q : PV} {m : MU} (hv : bc s.bx v q) (hd : O6 s pt v = some (x, is)) (hl : ZY pt b x o) (h : Zy s pt b is js o = some m) (hsn : v7 B' m.us) :
  (UAl G B' m.us (toO pt b is js x o) ∧ m.gs = H6 pt is ∧ ∀ i ∈ m.gs, aA m.ks i = true) ∧ ∀ t sb, (t, sb) ∈ m.us → Bo s m.ks js t sb := by
 have nil : some (⟨[], [], []⟩ : MU) = some m → toO pt b is js x o = [] → H6 pt is = [] → (UAl G B' m.us (toO pt b is js x o) ∧ m.gs = H6 pt is ∧ ∀ i ∈ m.gs, aA m.ks i = true) ∧ ∀ t sb, (t, sb) ∈ m.us → Bo s m.ks js t sb := fun h1 h2 h3 => by
  injection h1 with h1
  subst h1
  rw [h2, h3]
  exact ⟨⟨.nil, rfl, fun _ h => by cases h⟩, fun t sb h => by cases h⟩
 cases pt with
 | lf t => cases b with
  | no => exact nil h rfl rfl
  | _ => cases h
 | ag t => cases b with
  | no => exact nil h rfl rfl
  | _ => cases h
 | pl t => cases b with
  | no => exact nil h rfl rfl
  | _ => cases h
 | ps t => cases b with
  | no => exact nil h rfl rfl
  | _ => cases h
 | fn f a c => cases b with
  | no => exact nil h rfl rfl
  | _ => cases h
 | io l => cases b <;> cases h
 | agr n rows => cases b <;> cases h
 | own e k t => cases b with
  | no => cases h
  | bx => cases h
  | own e' k' t' =>
   obtain ⟨i, rfl, h1, h2, e2, k2, t2, xs2, pins, h3, h4⟩ := Bg hs hv (show sY s e k t v = some (x, is) from hd)
   have h : some (⟨[], [(i, some (.rw e' k' t' o (Jw s i)))], []⟩ : MU) = some m := h
   injection h with h
   subst h
   have hp : Jw s i = wt pins := by unfold Jw; rw [h3]
   rw [hp]
   have hl : (show List t'.den from o).length = (show List t.den from x).length := hl
   refine ⟨⟨.cons i _ _ _ _ (fun y hy => ?_) (fun h => by cases h) .nil, rfl, fun _ h => by cases h⟩, fun t sb hm => ?_⟩
   ·injection hy with hy
    subst hy
    refine ⟨rfl, fun pp pin hpin => ?_⟩
    rw [mD, zm] at hpin
    obtain ⟨pin0, h5, rfl⟩ := hpin
    have hbx := hs.bx i
    rw [h3] at hbx
    obtain ⟨h6, _⟩ := hbx.2 pp pin0 h5
    exact ⟨by show pin0.i.toNat < (show List t'.den from o).length; rw [hl]; show _ < List.length _; rw [← h4]; exact h6, fun cs h => by cases h⟩
   ·simp only [List.mem_cons, List.not_mem_nil, or_false, Prod.mk.injEq] at hm
    obtain ⟨rfl, rfl⟩ := hm
    exact .inr (.inr (.inr ⟨_, _, _, _, _, _, _, _, _, h3, rfl, by show (show List t'.den from o).length = _; rw [hl]; exact h4.symm⟩))
 | mv e k t => cases b with
  | own => cases h
  | bx => cases h
  | no =>
   obtain ⟨i, rfl, _⟩ := Bg hs hv (show sY s e k t v = some (x, is) from hd)
   have h : some (⟨[i], [], [i]⟩ : MU) = some m := h
   injection h with h
   subst h
   exact ⟨⟨.nil, rfl, fun j hj => dM.2 hj⟩, fun t sb hm => by cases hm⟩
 | bx ty n rows => cases b with
  | own => cases h
  | no => cases h
  | bx ty' n' rows' =>
   have hb : ∃ i is' cs ty0, is = i :: is' ∧ lkB s.bx i = some (.st ty0 cs) := by
    replace hd : MB s ty n rows v = some (x, is) := hd
    clear h
    unfold MB at hd
    split at hd
    ·rename_i i
     split at hd
     ·rename_i ty0 cs hb
      obtain ⟨_, hd⟩ := ao hd
      split at hd
      ·injection hd with hd
       injection hd with _ hd
       exact ⟨i, _, cs, ty0, hd.symm, hb⟩
      ·cases hd
     ·cases hd
    ·cases hd
   obtain ⟨i, is', cs, ty0, rfl, hb⟩ := hb
   have h : (match Mg rows' js n' o with | some (vs, bx) => some (⟨is', (i, some (.st ty' vs)) :: bx, is'⟩ : MU) | none => none) = some m := h
   split at h
   ·rename_i vs bx he
    injection h with h
    subst h
    obtain ⟨k1, k2⟩ := EW (G := G) (B' := B') he
    have hc := k2 fun t x hm => hsn t x (List.mem_cons_of_mem _ hm)
    refine ⟨⟨.cons i _ _ _ _ (fun x hx => by injection hx with hx; subst hx; exact ⟨_, rfl, hc⟩) (fun h => by cases h) k1, rfl, fun j hj => dM.2 hj⟩, fun t sb hm => ?_⟩
    rcases List.mem_cons.1 hm with e | hm
    ·injection e with e1 e2
     subst e1 e2
     exact .inr (.inr (.inl ⟨_, _, hb⟩))
    ·exact .inr (.inl (Js he t sb hm))
   ·cases h
theorem Bo.more {ks ks' js js' : List Nat} {t : Nat} {sb : Option aW} (h : Bo s ks js t sb) (hk : ∀ t, aA ks t = true → aA ks' t = true) (hj : ∀ t ∈ js, t ∈ js') : Bo s ks' js' t sb := by
 rcases h with h | h | h
 ·exact .inl (hk t h)
 ·exact .inr (.inl (hj t h))
 ·exact .inr (.inr h)
theorem Mh (hs : Sim s p) : ∀ {ps : List PT} {ls : List IB} {iss kss : List (List Nat)} {x : cp ps} {o : yu ls} {vs : List SV} {qs : List PV} {m : MU}, ca s.bx vs qs → Ix s ps vs = some (x, iss) → LR ps ls x o → RT s ps ls iss kss o = some m → v7 B' m.us →
  (UAl G B' m.us (Sk ps ls iss kss x o) ∧ m.gs = pn ps iss ∧ ∀ i ∈ m.gs, aA m.ks i = true) ∧ ∀ t sb, (t, sb) ∈ m.us → Bo s m.ks (bm kss) t sb
 | [], [], [], [], x, o, vs, qs, m, _, _, _, h, _ => by
  have h : some (⟨[], [], []⟩ : MU) = some m := h
  injection h with h
  subst h
  exact ⟨⟨.nil, rfl, fun _ h => by cases h⟩, fun t sb h => by cases h⟩
 | [], [], [], _ :: _, x, o, vs, qs, m, _, _, _, h, _ => by cases h
 | [], [], _ :: _, _, x, o, vs, qs, m, _, _, _, h, _ => by cases h
 | [], _ :: _, _, _, x, o, vs, qs, m, _, _, _, h, _ => by cases h
 | _ :: _, [], _, _, x, o, vs, qs, m, _, _, _, h, _ => by cases h
 | _ :: _, _ :: _, [], _, x, o, vs, qs, m, _, _, _, h, _ => by cases h
 | _ :: _, _ :: _, _ :: _, [], x, o, vs, qs, m, _, _, _, h, _ => by cases h
 | pt :: ps, b :: ls, is :: iss, js :: kss, x, o, vs, qs, m, hv, hd, hl, h, hsn => by
  have h : (match Zy s pt b is js o.1, RT s ps ls iss kss o.2 with | some m, some m' => some (m.app m') | _, _ => none) = some m := h
  cases vs with
  | nil => cases hd
  | cons v vs =>
  rcases hv.cases with ⟨h1, _⟩ | ⟨v', q, vs', qs', h1, rfl, h2, h3⟩
  ·cases h1
  ·injection h1 with e1 e2
   subst e1 e2
   simp only [Ix] at hd
   split at hd
   ·rename_i y is1 ys iss1 m1 m2
    injection hd with hd
    injection hd with e1 e2
    injection e2 with e2 e3
    subst e1 e2 e3
    split at h
    ·rename_i ma mb ha hb
     injection h with h
     subst h
     have hsn : v7 B' (ma.us ++ mb.us) := hsn
     obtain ⟨s1, s2⟩ := hsn.app
     obtain ⟨⟨k1, g1, g2⟩, k2⟩ := Yd hs h2 m1 hl.1 ha s1
     obtain ⟨⟨k3, g3, g4⟩, k4⟩ := Mh hs h3 m2 hl.2 hb s2
     refine ⟨⟨k1.app k3, by show ma.gs ++ mb.gs = _; rw [g1, g3]; rfl, fun i hi => ?_⟩, fun t sb hm => ?_⟩
     ·have hi : i ∈ ma.gs ++ mb.gs := hi
      rcases List.mem_append.1 hi with hi | hi
      ·exact dM.2 (List.mem_append_left _ (dM.1 (g2 i hi)))
      ·exact dM.2 (List.mem_append_right _ (dM.1 (g4 i hi)))
     have hm : (t, sb) ∈ ma.us ++ mb.us := hm
     rcases List.mem_append.1 hm with hm | hm
     ·exact (k2 t sb hm).more (fun t ht => dM.2 (List.mem_append_left _ (dM.1 ht))) fun t ht => List.mem_append_left _ ht
     ·exact (k4 t sb hm).more (fun t ht => dM.2 (List.mem_append_right _ (dM.1 ht))) fun t ht => List.mem_append_right _ ht
    ·cases h
   ·cases hd
theorem L5 (l : BU) : ∀ (is : List Nat), (∀ i ∈ is, aA G i = true) → UAl G B' (lg is) (EH l is)
 | [], _ => .nil
 | a :: is, hg => .cons a _ _ _ _ (fun y hy => by cases hy) (fun _ => hg a List.mem_cons_self) (L5 l is fun i hi => hg i (List.mem_cons_of_mem _ hi))
theorem rG : ∀ {is : List Nat} {t : Nat} {sb : Option aW}, (t, sb) ∈ lg is → t ∈ is ∧ sb = none
 | [], t, sb, h => by cases h
 | a :: is, t, sb, h => by
  rcases List.mem_cons.1 h with e | h
  ·injection e with e1 e2; subst e1 e2; exact ⟨List.mem_cons_self, rfl⟩
  ·obtain ⟨h1, h2⟩ := rG h; exact ⟨List.mem_cons_of_mem _ h1, h2⟩
theorem H5 : ∀ {is : List Nat} {t : Nat}, t ∈ is → (t, none) ∈ lg is
 | a :: is, t, h => by
  rcases List.mem_cons.1 h with rfl | h
  ·exact List.mem_cons_self
  ·exact List.mem_cons_of_mem _ (H5 h)
theorem EX : ∀ {ps : List PT} {iss : List (List Nat)} {x : cp ps} {vs : List SV} {bs : List (Nat × Option aW)}, sG ps = true → Mi ps iss x = some (vs, bs) → v7 B' bs → UAl G B' bs (dW ps iss x).2 ∧ ca B' vs (dW ps iss x).1
 | [], [], x, vs, bs, _, h, _ => by
  injection h with h
  injection h with e1 e2
  subst e1 e2
  exact ⟨.nil, .nil⟩
 | [], _ :: _, x, vs, bs, _, h, _ => by cases h
 | _ :: _, [], x, vs, bs, _, h, _ => by cases h
 | pt :: ps, is :: iss, x, vs, bs, hp, h, hs => by
  simp only [Mi] at h
  simp only [sG] at hp
  split at hp
  ·rename_i hp1
   split at h
   ·rename_i v b vs' bs' he hr
    injection h with h
    injection h with e1 e2
    subst e1 e2
    obtain ⟨s1, s2⟩ := hs.app
    obtain ⟨k1, k2⟩ := JQ (G := G) (B' := B') hp1 he s1
    obtain ⟨k3, k4⟩ := EX hp hr s2
    exact ⟨k1.app k3, .cons k2 k4⟩
   ·cases h
  ·cases hp
theorem UAl.dom {us : List (Nat × Option aW)} {u : BU} (h : UAl G B' us u) : bU u = idU us := by
 induction h with
 | nil => rfl
 | cons t sb b us u h1 h2 h ih => simp only [bU, idU, ih]
theorem Dg : ∀ {l l' : List (Nat × Option aW)}, (idU l).Nodup → v7 (l ++ l') l
 | [], _, _, t, x, hm => by cases hm
 | (i, b) :: l, l', hn, t, x, hm => by
  rw [show idU ((i, b) :: l) = i :: idU l from rfl, List.nodup_cons] at hn
  rw [List.cons_append, ar]
  rcases List.mem_cons.1 hm with e | hm
  ·injection e with e1 e2
   subst e1 e2
   rw [if_pos rfl]
  ·rw [if_neg (fun (e : t = i) => hn.1 (by rw [← e]; exact fc.2 ⟨_, hm⟩))]
   exact Dg hn.2 t x hm
end
section
variable {B B' : List (Nat × Option aW)} {s : SS} {p : PS} {P : Program} {ρ : Type} {G : List Nat} {sc : List Nat}
theorem Hq : ∀ (rs : List PT) (base : Nat), iE rs (nX base rs)
 | [], _ => trivial
 | p :: l, base => ⟨List.length_range', Hq l _⟩
theorem BR : ∀ (ls : List IB) (base : Nat), jS ls (uq base ls)
 | [], _ => trivial
 | p :: l, base => ⟨List.length_range', BR l _⟩
theorem oI : ∀ {l : BU} {t : Nat} {B : Box}, lkU l t = some B → (t, B) ∈ l
 | [], t, B, h => by cases h
 | (j, C) :: l, t, B, h => by
  simp only [lkU] at h
  split at h
  ·rename_i e; subst e; injection h with h; subst h; exact List.mem_cons_self
  ·exact List.mem_cons_of_mem _ (oI h)
theorem xe {rows : List (Nat × Nat × Nat × Ty)} {is : List Nat} : ∀ {ds : List D} {j t : Nat} {Bx : Box}, (t, Bx) ∈ ch (l8 rows is) j ds → t ∈ is
 | [], j, t, Bx, h => by cases h
 | d :: ds, j, t, Bx, h => by
  simp only [ch] at h
  split at h
  ·rename_i hf
   split at h
   ·rcases List.mem_cons.1 h with e | h
    ·injection e with e _; subst e; exact DF hf
    ·exact xe h
   ·exact xe h
  ·exact xe h
theorem Je {pt : PT} {is : List Nat} {x : pt.den} {t : Nat} {Bx : Box} (h : (t, Bx) ∈ (toI pt is x).2) : t ∈ is := by
 cases pt with
 | lf => cases h
 | ag => cases h
 | pl => cases h
 | ps => cases h
 | fn => cases h
 | io => cases h
 | own e k t' =>
  simp only [toI] at h
  split at h
  ·simp only [List.mem_cons, List.not_mem_nil, or_false, Prod.mk.injEq] at h; simp [h.1]
  ·cases h
 | mv e k t' =>
  simp only [toI] at h
  split at h
  ·simp only [List.mem_cons, List.not_mem_nil, or_false, Prod.mk.injEq] at h; simp [h.1]
  ·cases h
 | bx ty n rows =>
  simp only [toI] at h
  split at h
  ·rcases List.mem_cons.1 h with e | h
   ·injection e with e _; subst e; exact List.mem_cons_self
   ·exact List.mem_cons_of_mem _ (xe h)
  ·cases h
 | agr n rows => exact xe h
theorem rL (l : List Nat) (ls : List (List Nat)) : bm (l :: ls) = l ++ bm ls := rfl
theorem DP : ∀ {ps : List PT} {iss : List (List Nat)} {x : cp ps} {t : Nat} {Bx : Box}, (t, Bx) ∈ (dW ps iss x).2 → t ∈ bm iss
 | [], _, _, _, _, h => by cases h
 | _ :: _, [], _, _, _, h => by cases h
 | p :: ps, is :: iss, x, t, Bx, h => by
  simp only [dW, List.mem_append] at h
  rw [rL, List.mem_append]
  exact h.imp Je DP
def Wx (p : PS) : List Nat → BU
 | [] => []
 | t :: l => match p.b t with | some B => (t, B) :: Wx p l | none => Wx p l
theorem vD (p : PS) : ∀ (l : List Nat) (t : Nat), lkU (Wx p l) t = if t ∈ l then p.b t else none
 | [], t => rfl
 | a :: l, t => by
  simp only [Wx]
  cases ha : p.b a with
  | none =>
   rw [vD p l t]
   by_cases h : t = a
   ·subst h; simp [ha]
   ·simp [h]
  | some B =>
   simp only [lkU]
   by_cases h : t = a
   ·subst h; simp [ha]
   ·simp only [h, if_false, List.mem_cons, false_or]; exact vD p l t
structure YY (sc : List Nat) (P : Program) (f : Nat) (dst : Option Nat) (s : SS) (p : PS) (qs : List PV) (v : SV) (m : MU) (r : PV) (u : BU) : Prop where
 ro : s.ro = false
 call : YZ P p.b f qs r u
 sim : Sim (s.updM dst v m) (p.updL dst r u)
 keep : ∀ W, (∀ d, dst = some d → aA W d = true) → dB sc W s (s.updM dst v m)
 foot : ∀ t Bx, lkU u t = some Bx → t ∈ idU m.us
theorem Wt {T : List (Nat × Ent)} (hT : qF P T) (hpr : l5 s) (hs : Sim s p) {f : Nat} {dst : Option Nat} {vs : List SV} {qs : List PV} (hM : S2 T f vs = true) (hv : ca s.bx vs qs) {k : SV → MU → Option ρ} {res : ρ} (h : R8 T f s dst vs k = some res) :
  ∃ v m r u, k v m = some res ∧ YY sc P f dst s p qs v m r u := by
 unfold R8 at h
 split at h
 ·cases h
 ·rename_i hro
  split at h
  ·rename_i en d hen
   split at h
   ·rename_i x iss hd
    obtain ⟨r, hf, h⟩ := cO h
    simp only at h
    split at h
    ·rename_i m ws bs hm hbs
     obtain ⟨hc, h⟩ := ao h
     simp only [Bool.and_eq_true] at hc
     obtain ⟨c1, c2, c3, c4, c5, c6, c7, c10, c8, c9, c11⟩ := hc
     have c1 := Eg c1
     have c2 := Eh c2
     have c3 := iT c3
     have c4 := iT c4
     have c5 := Ei c5
     have c6 := rr c6
     have c7 := rr c7
     have c8 := rr c8
     have hE : (oN en.ps || oN en.rs) = true := by unfold S2 at hM; rw [hen] at hM; exact hM
     obtain ⟨hlen, hsem⟩ := (hT f _ en hen x r hf).2 hE
     obtain ⟨hsh, hargs, hbox⟩ := My hs hv hd
     have hall : ∀ i ∈ bm iss, i ∈ bU (dW en.ps iss x).2 := fun i hi => by
      unfold YU at c10
      split at c10
      ·rename_i vv bi hbi
       rw [Bool.and_eq_true] at c10
       have hse := Dg (l' := []) (iT c10.1)
       obtain ⟨z1, _⟩ := EX (G := []) c11 hbi hse
       rw [z1.dom]
       exact rr c10.2 i hi
      ·cases c10
     obtain ⟨hcb, hsem⟩ := hsem iss (uq (500000 + 64 * d) (cx en.rs)) (nX (500000 + 64 * d + DU (cx en.rs)) (eY en.rs)) hsh (BR _ _) (Hq _ _) c3 (fun j hj => (c2 j (List.mem_append_right _ hj)).2.2) hall
     have hseen : v7 ((m.us ++ (bs ++ lg m.gs)) ++ wY m.ks s.bx) (m.us ++ (bs ++ lg m.gs)) := Dg c4
     have hG : ∀ i ∈ m.gs, aA (m.gs ++ s.oc) i = true := fun i hi => dM.2 (List.mem_append_left _ hi)
     obtain ⟨s1, s23⟩ := hseen.app
     obtain ⟨s2, _⟩ := s23.app
     obtain ⟨⟨k1, g1, g2⟩, k2⟩ := Mh (G := m.gs ++ s.oc) hs hv hd hlen hm s1
     obtain ⟨k3, k4⟩ := Ik (G := m.gs ++ s.oc) c9 hbs s2
     have hal := k1.app (k3.app (L5 (dW en.ps iss x).2 m.gs hG))
     have hids : ∀ t, t ∈ idU m.us ++ m.gs → t ∈ idU (m.us ++ (bs ++ lg m.gs)) := fun t ht => by
      rcases List.mem_append.1 ht with ht | ht
      ·obtain ⟨sb, h⟩ := fc.1 ht; exact fc.2 ⟨sb, List.mem_append_left _ h⟩
      ·exact fc.2 ⟨none, List.mem_append_right _ (List.mem_append_right _ (H5 ht))⟩
     have hids2 : ∀ t, t ∈ idU bs → t ∈ idU (m.us ++ (bs ++ lg m.gs)) := fun t ht => by obtain ⟨sb, h⟩ := fc.1 ht; exact fc.2 ⟨sb, List.mem_append_right _ (List.mem_append_left _ h)⟩
     have hids3 : ∀ t, t ∈ idU (m.us ++ (bs ++ lg m.gs)) → t ∈ idU m.us ++ m.gs ∨ t ∈ idU bs := fun t ht => by
      obtain ⟨sb, h⟩ := fc.1 ht
      rcases List.mem_append.1 h with h | h
      ·exact .inl (List.mem_append_left _ (fc.2 ⟨sb, h⟩))
      ·rcases List.mem_append.1 h with h | h
       ·exact .inr (fc.2 ⟨sb, h⟩)
       ·exact .inl (List.mem_append_right _ (rG h).1)
     have hlk := fun t => U0 hal (wY m.ks s.bx) t
     have hnone2 : ∀ t, t ∈ idU bs ++ (bm (uq (500000 + 64 * d) (cx en.rs)) ++ bm (nX (500000 + 64 * d + DU (cx en.rs)) (eY en.rs))) → p.b t = none := fun t ht => by
      obtain ⟨n1, n2, _⟩ := c2 t ht
      have := hs.bx t
      rw [n2] at this
      exact this (mA n1).1
     have hnone : ∀ t, t ∈ idU bs → p.b t = none := fun t ht => hnone2 t (List.mem_append_left _ ht)
     have hBL : ZH m.ks s.bx ((m.us ++ (bs ++ lg m.gs)) ++ wY m.ks s.bx) := by
      refine ⟨fun t hk e kk ty xs pins hb => ?_, fun t ty cs hb => ?_⟩
      ·rcases hlk t with ⟨m1, sb, b, m2, m3, m4, m5⟩ | ⟨m1, m2, _⟩
       ·obtain ⟨sb', hsb'⟩ := fc.1 m1
        rcases List.mem_append.1 hsb' with hin | hin
        ·rcases k2 t sb' hin with q | q | ⟨ty', cs', q⟩ | ⟨e1, kk1, ty1, xs1, pins1, e2, kk2, ty2, xs2, q1, q2, q3⟩
         ·rw [hk] at q; cases q
         ·have := (c2 t (List.mem_append_right _ (List.mem_append_left _ q))).2.1
          rw [hb] at this
          cases this
         ·rw [hb] at q; cases q
         ·rw [hb] at q1
          injection q1 with q1
          injection q1 with z1 z2 z3 z4 z5
          subst z3
          have z4 := eq_of_heq z4
          subst z1 z2 z4 z5 q2
          refine ⟨_, _, _, _, _, hseen t _ (List.mem_append_left _ hin), q3, fun pp pin hp => ⟨⟨pin.i, none⟩, by rw [mD, hp]; rfl, rfl⟩⟩
        ·rcases List.mem_append.1 hin with hin | hin
         ·have := (c2 t (List.mem_append_left _ (fc.2 ⟨_, hin⟩))).2.1
          rw [hb] at this
          cases this
         ·rw [g2 t (rG hin).1] at hk; cases hk
       ·exact ⟨e, kk, ty, xs, pins, by rw [m2, ux, hb]; rfl, rfl, fun _ pin hp => ⟨pin, hp, rfl⟩⟩
      ·rcases hlk t with ⟨m1, sb, b, m2, m3, m4, m5⟩ | ⟨m1, m2, _⟩
       ·obtain ⟨sb', hsb'⟩ := fc.1 m1
        rcases List.mem_append.1 hsb' with hin | hin
        ·obtain ⟨cs', q1, _⟩ := c5 t sb' (List.mem_append_left _ hin) ty cs hb
         subst q1
         exact ⟨ty, cs', hseen t _ (List.mem_append_left _ hin)⟩
        ·rcases List.mem_append.1 hin with hin | hin
         ·have := (c2 t (List.mem_append_left _ (fc.2 ⟨_, hin⟩))).2.1
          rw [hb] at this
          cases this
         ·obtain ⟨cs', q1, _⟩ := c5 t sb' (List.mem_append_right _ hin) ty cs hb
          rw [(rG hin).2] at q1
          cases q1
       ·exact ⟨ty, _, by rw [m2, ux, hb]; rfl⟩
     have hu : ∀ t, lkU (tB en.ps en.rs iss (uq (500000 + 64 * d) (cx en.rs)) (nX (500000 + 64 * d + DU (cx en.rs)) (eY en.rs)) x r) t = lkU (Sk en.ps (cx en.rs) iss (uq (500000 + 64 * d) (cx en.rs)) x (jM en.rs r) ++ ((cQ (eY en.rs) (nX (500000 + 64 * d + DU (cx en.rs)) (eY en.rs)) (iG en.rs r)).2 ++ EH (dW en.ps iss x).2 m.gs)) t := fun t => by unfold tB; rw [g1]
     refine ⟨Vs ws, ⟨m.ks, m.us ++ (bs ++ lg m.gs), m.gs⟩, yw (cQ (eY en.rs) (nX (500000 + 64 * d + DU (cx en.rs)) (eY en.rs)) (iG en.rs r)).1, tB en.ps en.rs iss (uq (500000 + 64 * d) (cx en.rs)) (nX (500000 + 64 * d + DU (cx en.rs)) (eY en.rs)) x r, h, hro, ⟨hcb, Wx p (bm iss), fun t Bx ht => ?_, fun t Bx ht hn => ?_, fun w0 F0 ρ' b w F ws' hb hbn hi hr => ?_⟩, ⟨fun i => ?_, fun t => ?_⟩, fun W hW => ?_, fun t Bx ht => ?_⟩
     ·rw [vD] at ht
      split at ht
      ·rename_i hin
       rcases hlk t with ⟨_, _, b, _, m3, _⟩ | ⟨m1, _⟩
       ·exact ⟨⟨b, (hu t).trans m3⟩, ht⟩
       ·exact absurd (hids t (c6 t hin)) m1
      ·cases ht
     ·rw [vD] at hn
      rcases hlk t with ⟨m1, _⟩ | ⟨_, _, m3⟩
      ·rcases hids3 t m1 with m1 | m1
       ·rcases List.mem_append.1 (c7 t m1) with m1 | m1
        ·rw [if_pos m1] at hn; exact hn
        ·exact hnone2 t (List.mem_append_right _ (List.mem_append_left _ m1))
       ·exact hnone t m1
      ·rw [hu, m3] at ht; cases ht
     ·refine hsem w0 F0 ρ' b w F ws' qs hargs (fun t Bx ht => ?_) (fun t ht => ?_) hi hr
      ·have hm := oI ht
       obtain ⟨B1, q1, q2⟩ := hbox t Bx hm
       exact ⟨B1, hb t B1 (by rw [vD, if_pos (DP hm)]; exact q1), q2⟩
      ·have hin := c8 t ht
       rcases hlk t with ⟨_, _, b1, _, m3, _⟩ | ⟨m1, _⟩
       ·refine hbn t b1 ((hu t).trans m3) ?_
        rw [vD, if_neg (fun h1 => ?_)]
        exact (List.nodup_append.1 c3).2.2 t h1 t ht rfl
       ·exact absurd ((List.mem_append.1 hin).elim (fun h => hids t (List.mem_append_left _ h)) (hids2 t)) m1
     ·show bc ((m.us ++ (bs ++ lg m.gs)) ++ wY m.ks s.bx) (lkV (sw (Sp m.ks s.sl) (some d) (Vs ws)) i) (wW p.t (some d) _ i)
      rw [vt]
      unfold wW
      split
      ·exact Vr k4
      ·rw [OD]; exact (hs.sl i).st hBL
     ·show l7 ((m.us ++ (bs ++ lg m.gs)) ++ wY m.ks s.bx) (aA (m.gs ++ s.oc) t) (lkB ((m.us ++ (bs ++ lg m.gs)) ++ wY m.ks s.bx) t) (dD p.b _ t)
      rcases hlk t with ⟨_, sb, b, m2, m3, m4, m5⟩ | ⟨_, m2, m3⟩
      ·rw [m2]
       have hb : dD p.b (tB en.ps en.rs iss (uq (500000 + 64 * d) (cx en.rs)) (nX (500000 + 64 * d + DU (cx en.rs)) (eY en.rs)) x r) t = some b := by simp only [dD, hu, m3]
       rw [hb]
       cases sb with
       | none => intro ho; rw [m5 rfl] at ho; cases ho
       | some y => have := m4 y rfl; cases y <;> exact this
      ·rw [m2, ux]
       have hb : dD p.b (tB en.ps en.rs iss (uq (500000 + 64 * d) (cx en.rs)) (nX (500000 + 64 * d + DU (cx en.rs)) (eY en.rs)) x r) t = p.b t := by simp only [dD, hu, m3]
       rw [hb]
       have hbx := hs.bx t
       cases hl : lkB s.bx t with
       | none =>
        rw [hl] at hbx
        intro ho
        refine hbx (yB.2 fun hi => ?_)
        rw [yB] at ho
        exact ho (List.mem_append_right _ hi)
       | some y =>
        rw [hl] at hbx
        cases y with
        | st ty cs => obtain ⟨qs', z1, z2⟩ := hbx; exact ⟨qs', z1, z2.st hBL⟩
        | rw e kk ty xs pins => exact hbx
     ·have hkp : ∀ t, aA m.ks t = true → aA s.pr t = false := fun t ht => c1 t (List.mem_append_right _ (List.mem_append_left _ (dM.1 ht)))
      refine ⟨rfl, rfl, fun t ht => ?_, fun i hi hsf => ?_, fun t _ ty cs hb => ?_⟩
      ·show kG _ (lkB ((m.us ++ (bs ++ lg m.gs)) ++ wY m.ks s.bx) t)
       rcases hlk t with ⟨m1, _⟩ | ⟨_, m2, _⟩
       ·rcases hids3 t m1 with m1 | m1
        ·have : t ∈ idU m.us ++ (m.ks ++ m.gs) := by
          rcases List.mem_append.1 m1 with m1 | m1
          ·exact List.mem_append_left _ m1
          ·exact List.mem_append_right _ (List.mem_append_right _ m1)
         rw [c1 t this] at ht; cases ht
        ·rw [(mA (c2 t (List.mem_append_left _ m1)).1).2] at ht; cases ht
       ·rw [m2, ux]
        obtain ⟨b', z1, z2⟩ := hpr t ht
        rw [z1]
        cases b' with
        | st ty cs => simp only [Option.map_some, ZM]; rw [oW cs z2]; rfl
        | rw e kk ty xs pins => exact ⟨pins, rfl⟩
      ·show lkV (sw (Sp m.ks s.sl) (some d) (Vs ws)) i = lkV s.sl i
       rw [vt, if_neg (fun e => by rw [hW i e] at hi; cases hi), OD]
       exact Q3 hkp _ hsf
      ·show ∃ cs', lkB ((m.us ++ (bs ++ lg m.gs)) ++ wY m.ks s.bx) t = _ ∧ _
       rcases hlk t with ⟨m1, sb, b, m2, m3, m4, m5⟩ | ⟨m1, m2, _⟩
       ·obtain ⟨sb', hsb'⟩ := fc.1 m1
        rcases List.mem_append.1 hsb' with hin | hin
        ·obtain ⟨cs', q1, q2⟩ := c5 t sb' (List.mem_append_left _ hin) ty cs hb
         subst q1
         exact ⟨cs', hseen t _ (List.mem_append_left _ hin), q2⟩
        ·rcases List.mem_append.1 hin with hin | hin
         ·have := (c2 t (List.mem_append_left _ (fc.2 ⟨_, hin⟩))).2.1
          rw [hb] at this
          cases this
         ·obtain ⟨cs', q1, q2⟩ := c5 t sb' (List.mem_append_right _ hin) ty cs hb
          rw [(rG hin).2] at q1
          cases q1
       ·exact ⟨_, by rw [m2, ux, hb]; rfl, pe _ _⟩
     ·rcases hlk t with ⟨m1, _⟩ | ⟨_, _, m3⟩
      ·exact m1
      ·rw [hu, m3] at ht; cases ht
    ·cases h
   ·cases h
  ·cases h
end
section
variable {sc : List Nat} {P : Program} {T : List (Nat × Ent)} {ops : Array Oper}
def LeQ (q : Bool) (p p' : PS) : Prop := match q with | true => Le p p' | false => p' = p
theorem LeQ.refl (q : Bool) (p : PS) : LeQ q p p := by cases q; exact rfl; exact Le.refl p
def v8 (q : Bool) (P : Program) (ops : Array Oper) (bd : Nat → Bd) : Nat → List Oper → PS → (PS → Prop) → Prop
 | _, [], s, K => K s
 | i, o :: l, s, K => ∃ s1, LeQ q s s1 ∧ ∃ r u, Eff P ops o s1 r u ∧ (q = false → ft ops o s1 u (bd i)) ∧ v8 q P ops bd (i + 1) l (s1.updL o.dst r u) K
theorem LQ {bd : Nat → Bd} {w0 : WM} {F0 : Nat → Prop} {n : Nat} {Q : Exit → Act → World → Prop} {Qs : Exit → PS → Prop} (hQ : ∀ e s a w, Qs e s → nS n w0 F0 s a w → Q e a w) : ∀ (i : Nat) (l : List Oper) (s : PS) (a : Act) (w : World), Ip n l = true → v8 true P ops bd i l s (Qs .normal) → nS n w0 F0 s a w → wpList P ops Q l a w
 | _, [], s, a, w, _, h, hc => hQ _ s a w h hc
 | i, o :: l, s, a, w, hd, h, hc => by
  obtain ⟨s1, h1, r, u, h2, _, h3⟩ := h
  have hc1 := (show Le s s1 from h1) n w0 F0 a w hc
  obtain ⟨hd1, hd2⟩ := O4 hd
  exact wpList_step fun K hK => Vp (f := 0) hc1 h2 hd1 (fun a' w' hc' => hK _ _ (LQ hQ (i + 1) l _ a' w' hd2 h3 hc'))
theorem Lv {bd : Nat → Bd} {n : Nat} {Qs : Exit → PS → Prop} {s : PS} {id : Nat} {l : List Oper} (hd : Ip n l = true) (h : v8 true P l.toArray bd 0 l s (Qs .normal)) : PWP P n (.region id l.toArray false) Qs s :=
 fun _ _ a w hc => wp_region_lit (LQ (Qs := Qs) (fun _ s' _ _ h1 h2 => ⟨s', h1, h2⟩) 0 l s a w hd h hc)
theorem AE {bd : Nat → Bd} {K : PS → Prop} : ∀ (l : List Oper) (k : Nat) (s : PS), (∀ j, j < l.length → l[j]? = ops[k + j]?) → v8 false P ops bd k l s K → FD P ops bd (List.range' k l.length) s K
 | [], k, s, _, h => h
 | o :: l, k, s, hl, h => by
  obtain ⟨s1, he, r, u, h1, hf, h2⟩ := h
  have he : s1 = s := he
  subst he
  have h0 : ops[k]? = some o := by simpa using (hl 0 (by simp)).symm
  rw [List.length_cons, List.range'_succ]
  exact ⟨o, r, u, h0, h1, hf rfl, AE l (k + 1) _ (fun j hj => by have := hl (j + 1) (by simp; omega); simpa [Nat.add_assoc, Nat.add_comm 1 j] using this) h2⟩
theorem Q7 {bd : Nat → Bd} {K : PS → Prop} : ∀ (l : List Oper) (i k : Nat) (s : PS), (∀ j, j < l.length → l[j]? = ops[k + j]?) → v8 true P ops bd i l s K → TC P ops (List.range' k l.length) s K
 | [], i, k, s, _, h => h
 | o :: l, i, k, s, hl, h => by
  obtain ⟨s1, hle, r, u, h1, _, h2⟩ := h
  have h0 : ops[k]? = some o := by simpa using (hl 0 (by simp)).symm
  rw [List.length_cons, List.range'_succ]
  exact ⟨s1, hle, o, r, u, h0, h1, Q7 l (i + 1) (k + 1) _ (fun j hj => by have := hl (j + 1) (by simp; omega); simpa [Nat.add_assoc, Nat.add_comm 1 j] using this) h2⟩
theorem fR {q : Bool} {bd : Nat → Bd} : ∀ {l : List Oper} {i : Nat} {p : PS} {K K' : PS → Prop}, v8 q P ops bd i l p K → (∀ p', K p' → K' p') → v8 q P ops bd i l p K'
 | [], i, p, K, K', h, hk => hk p h
 | o :: l, i, p, K, K', h, hk => by
  obtain ⟨s1, h1, r, u, h2, hf, h3⟩ := h
  exact ⟨s1, h1, r, u, h2, hf, fR h3 hk⟩
theorem BT {q : Bool} {bd : Nat → Bd} : ∀ {a b : List Oper} {i : Nat} {p : PS} {K : PS → Prop}, v8 q P ops bd i a p (fun p' => v8 q P ops bd (i + a.length) b p' K) → v8 q P ops bd i (a ++ b) p K
 | [], b, i, p, K, h => h
 | o :: a, b, i, p, K, h => by
  obtain ⟨s1, h1, r, u, h2, hf, h3⟩ := h
  refine ⟨s1, h1, r, u, h2, hf, BT ?_⟩
  rw [List.length_cons] at h3
  rw [show i + 1 + a.length = i + (a.length + 1) by omega]
  exact h3
mutual
theorem ph {B : List (Nat × Option aW)} : ∀ {v : SV} {q : PV} {l : List Nat}, bc B v q → wu v = some l → ∀ x ∈ be q, x ∈ l
 | .junk, q, l, _, h, x, hx => by cases h
 | .d c, q, l, hv, h, x, hx => by cases hv with | d _ y _ => simp [be] at hx
 | .fe cs, q, l, hv, h, x, hx => by cases hv with | fe _ ds _ _ => simp [be] at hx
 | .ptr t o, q, l, hv, h, x, hx => by
  cases hv with
  | ptr _ _ ty cs hb => injection h with h; subst h; simpa [be] using hx
 | .row t, q, l, hv, h, x, hx => by
  cases hv with
  | row _ n e k ty xs pins hb hn => injection h with h; subst h; simpa [be] using hx
 | .re t p o, q, l, hv, h, x, hx => by
  cases hv with
  | re _ _ _ n i e k ty xs pins pin hb hn hp hi => injection h with h; subst h; simpa [be] using hx
 | .vw t p o, q, l, hv, h, x, hx => by
  cases hv with
  | vw _ _ _ n e k ty xs pins hb hn => injection h with h; subst h; simpa [be] using hx
 | .ag cs, q, l, hv, h, x, hx => by
  cases hv with
  | ag _ qs hl hr => exact my (qs := qs) ⟨hl, hr⟩ h x (by simpa [be] using hx)
 | .tup cs, q, l, hv, h, x, hx => by
  cases hv with
  | tup _ qs hl hr => exact my (qs := qs) ⟨hl, hr⟩ h x (by simpa [be] using hx)
 | .fn f ps qs, q, l, hv, h, x, hx => by
  cases hv with
  | fn _ _ _ ps' qs' hl hr hl2 hr2 =>
   simp only [wu] at h
   split at h
   ·rename_i a b ha hb
    injection h with h
    subst h
    simp only [be, List.mem_append] at hx ⊢
    rcases hx with hx | hx
    ·exact .inl (my (qs := ps') ⟨hl, hr⟩ ha x hx)
    ·exact .inr (my (qs := qs') ⟨hl2, hr2⟩ hb x hx)
   ·cases h
theorem my {B : List (Nat × Option aW)} : ∀ {cs : List SV} {qs : List PV} {l : List Nat}, ca B cs qs → qL cs = some l → ∀ x ∈ bI qs, x ∈ l
 | [], qs, l, hv, h, x, hx => by
  rcases hv.cases with ⟨_, rfl⟩ | ⟨_, _, _, _, h1, _⟩
  ·simp [bI] at hx
  ·cases h1
 | c :: cs, qs, l, hv, h, x, hx => by
  rcases hv.cases with ⟨h1, _⟩ | ⟨c', q, cs', qs', h1, rfl, h2, h3⟩
  ·cases h1
  ·injection h1 with e1 e2
   subst e1 e2
   simp only [qL] at h
   split at h
   ·rename_i a b ha hb
    injection h with h
    subst h
    simp only [bI, List.mem_append] at hx ⊢
    rcases hx with hx | hx
    ·exact .inl (ph h2 ha x hx)
    ·exact .inr (my h3 hb x hx)
   ·cases h
end
theorem L9 {o : Oper} {s : SS} {p : PS} {l : List Nat} (hs : Sim s p) (h : RL o s = some l) : ∀ x ∈ pq o p, x ∈ l := by
 unfold RL at h
 unfold pq
 split at h <;> rename_i ho <;> simp only [ho]
 ·exact ph (bZ hs _) h
 ·exact ph (bZ hs _) h
 ·exact ph (bZ hs _) h
 ·exact ph (bZ hs _) h
 ·exact ph (bZ hs _) h
 ·rename_i c
  split at h
  ·rename_i f hf
   simp only [hf]
   split at h
   ·rename_i a b ha hb
    injection h with h
    subst h
    intro x hx
    rcases List.mem_append.1 hx with hx | hx
    ·exact List.mem_append_left _ (ph (bZ hs f) ha x hx)
    ·exact List.mem_append_right _ (my (nH hs c.args.toList) hb x hx)
   ·cases h
  ·rename_i hf
   split
   ·rename_i f hf2
    exact absurd hf2 (hf f)
   ·exact my (nH hs c.args.toList) h
 ·intro x hx
  simp at hx
theorem rt : ∀ {l m : List Nat}, N4 l m = true → ∀ x ∈ l, ft.memL m x = true
 | [], m, _, x, hx => by cases hx
 | a :: l, m, h, x, hx => by
  simp only [N4] at h
  split at h
  ·rename_i ha
   rcases List.mem_cons.1 hx with rfl | hx
   ·exact ha
   ·exact rt h x hx
  ·cases h
theorem HF : ∀ {l : List Nat} {x : Nat}, ft.memL l x = true → x ∈ l
 | [], x, h => by cases h
 | a :: l, x, h => by
  rw [AR, Bool.or_eq_true] at h
  rcases h with h | h
  ·have := zd h; subst this; simp
  ·exact List.mem_cons_of_mem _ (HF h)
theorem Ma {B : List Bd} {i : Nat} {o : Oper} {s : SS} {p : PS} {u : Upd} {w : Option (Nat × Box)} (hs : Sim s p) (hw : OkW s o.dst u w) {q : Bool} (h : H7 q B i o s u = true) : q = false → ft ops o p w.toList (yy B i) := by
 intro hq
 subst hq
 unfold H7 at h
 simp only at h
 split at h
 ·rename_i fs hf
  rw [Bool.and_eq_true] at h
  refine ⟨fun _ x hx => rt h.1 x (L9 hs hf x hx), fun x Bx hx => ?_⟩
  cases w with
  | none => cases hx
  | some y =>
   obtain ⟨t, b⟩ := y
   simp only [Option.toList, lkU] at hx
   split at hx
   ·rename_i e
    subst e
    exact rt h.2 x (HF (hw x b rfl).2)
   ·cases hx
 ·cases h
theorem V2 {B : List Bd} {i : Nat} {o : Oper} {s : SS} {p : PS} {m : MU} {u : BU} (hs : Sim s p) (hw : ∀ t Bx, lkU u t = some Bx → t ∈ idU m.us) {q : Bool} (h : RM q B i o s m = true) : q = false → ft ops o p u (yy B i) := by
 intro hq
 subst hq
 unfold RM at h
 simp only at h
 split at h
 ·rename_i fs hf
  rw [Bool.and_eq_true] at h
  exact ⟨fun _ x hx => rt h.1 x (L9 hs hf x hx), fun x Bx hx => rt h.2 x (hw x Bx hx)⟩
 ·cases h
theorem de : ∀ (a b : List Nat) (i : Nat), aA (a ++ b) i = (aA a i || aA b i)
 | [], b, i => rfl
 | j :: a, b, i => by
  simp only [List.cons_append, aA, de a b i]
  split <;> simp
theorem aZ (j : Nat) (l : List Nat) (i : Nat) : aA (j :: l) i = (decide (i = j) || aA l i) := by
 simp only [aA, cS]
 by_cases h : i = j
 ·simp [h]
 ·simp [h]
theorem DK : ∀ {g : Nat} {l a b : List Oper} {d : Nat}, Q2 g l = some (a, d, b) → l = a ++ b ∧ ∃ o ∈ a, o.dst = some d
 | g, [], a, b, d, h => by cases h
 | g, o :: l, a, b, d, h => by
  simp only [Q2] at h
  split at h
  ·rename_i d' hd
   injection h with h
   injection h with h1 h2
   injection h2 with h2 h3
   subst h1 h2 h3
   refine ⟨rfl, o, List.mem_cons_self, ?_⟩
   split at hd
   ·rename_i g' d2 e1 e2 hdst
    split at hd
    ·injection hd with hd; subst hd; exact hdst
    ·cases hd
   ·cases hd
  ·split at h
   ·rename_i a' d' b' h'
    injection h with h
    injection h with h1 h2
    injection h2 with h2 h3
    subst h1 h2 h3
    obtain ⟨h4, o', h5, h6⟩ := DK h'
    exact ⟨by rw [h4]; rfl, o', List.mem_cons_of_mem _ h5, h6⟩
   ·cases h
theorem sW : ∀ {l : List Oper} {o : Oper} {d : Nat}, o ∈ l → o.dst = some d → aA (ci l) d = true
 | [], o, d, h, _ => by cases h
 | x :: l, o, d, h, hd => by
  rcases List.mem_cons.1 h with rfl | h
  ·simp only [ci, hd, aZ, decide_true, Bool.true_or]
  ·have := sW h hd
   simp only [ci]
   split
   ·simp [aZ, this]
   ·exact this
theorem Bf : ∀ {l : List Oper} {d : Nat}, aA (ci l) d = true → ∃ o ∈ l, o.dst = some d
 | [], d, h => by cases h
 | x :: l, d, h => by
  simp only [ci] at h
  split at h
  ·rename_i d' hd'
   rw [aZ, Bool.or_eq_true] at h
   rcases h with h | h
   ·have := zd h
    subst this
    exact ⟨x, List.mem_cons_self, hd'⟩
   ·obtain ⟨o, h1, h2⟩ := Bf h
    exact ⟨o, List.mem_cons_of_mem _ h1, h2⟩
  ·obtain ⟨o, h1, h2⟩ := Bf h
   exact ⟨o, List.mem_cons_of_mem _ h1, h2⟩
theorem xz : ∀ (a b : List Oper), ci (a ++ b) = ci a ++ ci b
 | [], b => rfl
 | o :: a, b => by
  simp only [List.cons_append, ci, xz a b]
  split <;> rfl
theorem uv : ∀ (ds : List Nat) (l : List (Nat × SV)) (i : Nat), lkV (oL ds l) i = if aA ds i = true then .junk else lkV l i
 | [], l, i => by simp [oL, aA]
 | d :: ds, l, i => by
  simp only [oL, cR, uv ds l i, aZ]
  by_cases h : i = d
  ·simp [h]
  ·simp [h]
structure Fr (l : List Oper) (s : SS) (p p' : PS) : Prop where
 t : s.ro = true → ∀ i, aA (ci l) i = false → p'.t i = p.t i
 b : s.ro = true → ∀ t, (lkB s.bx t ≠ none ∨ aA (ci l) t = false) → p'.b t = p.b t
theorem Y6 {s : SS} {dst : Option Nat} {v : SV} {u : Upd} {t : Nat} (h : lkB s.bx t ≠ none) : lkB (s.upd dst v u).bx t ≠ none := by
 cases u with
 | no => exact h
 | grow t' b =>
  show lkB ((t', some b) :: nW t' s.bx) t ≠ none
  rw [ar]
  split
  ·simp
  ·rw [jk]; simpa using h
 | _ =>
  rename_i t' b
  show lkB ((t', some b) :: s.bx) t ≠ none
  rw [ar]
  split
  ·simp
  ·exact h
theorem UW {s : SS} {dst : Option Nat} {v : SV} {u : Upd} : (s.upd dst v u).ro = s.ro := by cases u <;> rfl
theorem X7 {o : Oper} {l : List Oper} {s : SS} {p p' : PS} {v : SV} {u : Upd} {q : PV} {w : Option (Nat × Box)} (hw : OkW s o.dst u w) (h : Fr l (s.upd o.dst v u) (p.upd o.dst q w) p') : Fr (o :: l) s p p' := by
 have sub : ∀ i, aA (ci (o :: l)) i = false → aA (ci l) i = false ∧ o.dst ≠ some i := fun i hi => by
  simp only [ci] at hi
  split at hi
  ·rename_i d hd
   rw [aZ, Bool.or_eq_false_iff] at hi
   refine ⟨hi.2, fun e => ?_⟩
   rw [hd] at e
   injection e with e
   have := of_decide_eq_false hi.1
   exact this e.symm
  ·rename_i hd
   exact ⟨hi, fun e => by rw [hd] at e; cases e⟩
 refine ⟨fun hro i hi => ?_, fun hro t ht => ?_⟩
 ·obtain ⟨h1, h2⟩ := sub i hi
  rw [h.t (by rw [UW]; exact hro) i h1]
  simp only [PS.upd, wW, if_neg h2]
 ·have hb : (p.upd o.dst q w).b t = p.b t := by
   show dm p.b w t = p.b t
   unfold dm
   split
   ·rename_i j Bx
    rcases (hw j Bx rfl).1 with ⟨h1, h2⟩ | h1
    ·split
     ·rename_i e
      subst e
      rcases ht with ht | ht
      ·exact absurd h1 ht
      ·exact absurd h2 (sub t ht).2
     ·rfl
    ·rw [hro] at h1; cases h1
   ·rfl
  rw [h.b (by rw [UW]; exact hro) t (ht.imp Y6 fun ht => (sub t ht).1), hb]
def Gn (sc W : List Nat) (l : List Oper) (s : SS) (p : PS) {ρ : Type} (k : SS → Option ρ) (res : ρ) (p' : PS) : Prop := ∃ s', Sim s' p' ∧ dB sc W s s' ∧ l5 s' ∧ k s' = some res ∧ Fr l s p p'
theorem AK {W : List Nat} {o : Oper} {l : List Oper} {s : SS} {p p' : PS} {ρ : Type} {k : SS → Option ρ} {res : ρ} {v : SV} {u : Upd} {q : PV} {w : Option (Nat × Box)} (hW : ∀ d, o.dst = some d → aA W d = true) (hpr : l5 s) (hu : OkU s u) (hw : OkW s o.dst u w)
  (h : Gn sc W l (s.upd o.dst v u) (p.upd o.dst q w) k res p') : Gn sc W (o :: l) s p k res p' := by
 obtain ⟨s', h1, h2, h3, h4, h5⟩ := h
 exact ⟨s', h1, (yH hu hW hpr).trans h2, h3, h4, X7 hw h5⟩
theorem Ot {W : List Nat} {f : Nat} {qs : List PV} {o : Oper} {l : List Oper} {s : SS} {p p' : PS} {ρ : Type} {k : SS → Option ρ} {res : ρ} {v : SV} {m : MU} {r : PV} {u : BU} (hW : ∀ d, o.dst = some d → aA W d = true) (hR : YY sc P f o.dst s p qs v m r u)
  (h : Gn sc W l (s.updM o.dst v m) (p.updL o.dst r u) k res p') : Gn sc W (o :: l) s p k res p' := by
 obtain ⟨s', h1, h2, h3, h4, h5⟩ := h
 exact ⟨s', h1, (hR.keep W hW).trans h2, h3, h4, fun hro => (by rw [hR.ro] at hro; cases hro), fun hro => (by rw [hR.ro] at hro; cases hro)⟩
theorem XJ {q : Bool} {o : Oper} {s s' : SS} {p : PS} (hpr : l5 s) (hs : Sim s p) (h : XK q T o s = some s') : ∃ p', LeQ q p p' ∧ Sim s' p' ∧ (∀ W, dB sc W s s') ∧ (s.ro = true → s' = s ∧ p' = p) ∧ (o.guard = none ∨ p' = p) := by
 have triv : s' = s → ∃ p', LeQ q p p' ∧ Sim s' p' ∧ (∀ W, dB sc W s s') ∧ (s.ro = true → s' = s ∧ p' = p) ∧ (o.guard = none ∨ p' = p) := fun e => by
  subst e; exact ⟨p, .refl _ _, hs, fun W => .refl W s', fun _ => ⟨rfl, rfl⟩, .inr rfl⟩
 unfold XK at h
 split at h
 ·rename_i hro hg
  have froz : ∀ {l : List Nat}, lh l s = some s' → ∃ p', LeQ true p p' ∧ Sim s' p' ∧ (∀ W, dB sc W s s') ∧ (s.ro = true → s' = s ∧ p' = p) ∧ (o.guard = none ∨ p' = p) := fun h => by
   obtain ⟨p', k1, k2, k3, k4⟩ := xr (sc := sc) hpr hs h
   exact ⟨p', k1, k2, k3, fun h => (by rw [hro] at h; cases h), .inl hg⟩
  split at h
  ·exact froz h
  ·split at h
   ·split at h
    ·split at h
     ·exact froz h
     ·split at h
      ·injection h with h; exact triv h.symm
      ·exact froz h
    ·injection h with h; exact triv h.symm
   ·injection h with h; exact triv h.symm
  ·injection h with h; exact triv h.symm
 ·injection h with h; exact triv h.symm
theorem D9 {W : List Nat} {l : List Oper} {s s1 : SS} {p p1 p' : PS} {ρ : Type} {k : SS → Option ρ} {res : ρ} (hk : dB sc W s s1) (hro : s.ro = true → s1 = s ∧ p1 = p) (h : Gn sc W l s1 p1 k res p') : Gn sc W l s p k res p' := by
 obtain ⟨s', h1, h2, h3, h4, h5⟩ := h
 refine ⟨s', h1, hk.trans h2, h3, h4, fun hr => ?_, fun hr => ?_⟩
 ·obtain ⟨e1, e2⟩ := hro hr
  subst e1 e2
  exact h5.t hr
 ·obtain ⟨e1, e2⟩ := hro hr
  subst e1 e2
  exact h5.b hr
theorem Dh {q : Bool} {B : List Bd} (hT : qF P T) {W : List Nat} : ∀ (n i : Nat) (kn : List Nat) (l : List Oper) {ρ : Type} {s : SS} {p : PS} {k : SS → Option ρ} {res : ρ}, (∀ o ∈ l, ∀ d, o.dst = some d → aA W d = true) → (∀ (j : Nat) (o : Oper), ops[j]? = some o → ∀ d, o.dst = some d → aA W d = true) →
  (∀ o ∈ l, ∀ t x y, o.op = .store t x y → o.dst = none) → l5 s → Sim s p → ud q P T ops B n i kn l s k = some res → v8 q P ops (yy B) i l p (Gn sc W l s p k res) := by
 intro n
 induction n with
 | zero =>
  intro i kn l ρ s p k res hW hO hst hpr hs h
  cases l with
  | nil => exact ⟨s, hs, .refl _ _, hpr, h, fun _ _ _ => rfl, fun _ _ _ => rfl⟩
  | cons o l => cases h
 | succ n ih =>
  intro i kn l ρ s p k res hW hO hst hpr hs h
  cases l with
  | nil => exact ⟨s, hs, .refl _ _, hpr, h, fun _ _ _ => rfl, fun _ _ _ => rfl⟩
  | cons o l =>
   have hWo := hW o List.mem_cons_self
   have hWl : ∀ o ∈ l, ∀ d, o.dst = some d → aA W d = true := fun o ho => hW o (List.mem_cons_of_mem _ ho)
   have hstl : ∀ o ∈ l, ∀ t x y, o.op = .store t x y → o.dst = none := fun o ho => hst o (List.mem_cons_of_mem _ ho)
   have goOk : kp ops o p = some true → (match XK q T o s with
     | none => none
     | some s => (match uJ o with
      | some (x, xs) => (match evX s x with
       | .fn f ps qs => (match S2 T f (ps ++ v6 s xs ++ qs) with
        | false => chk (H7 q B i o s .no) (R7 T f s (ps ++ v6 s xs ++ qs) fun r => ud q P T ops B n (i + 1) kn l (s.upd o.dst r .no) k)
        | true => R8 T f s o.dst (ps ++ v6 s xs ++ qs) fun v m => chk (RM q B i o s m) (ud q P T ops B n (i + 1) kn l (s.updM o.dst v m) k))
       | _ => none)
      | none => Yg P o s fun v u => chk (H7 q B i o s u) (ud q P T ops B n (i + 1) kn l (s.upd o.dst v u) k))) = some res → v8 q P ops (yy B) i (o :: l) p (Gn sc W (o :: l) s p k res) := by
    intro hg h
    split at h
    ·cases h
    ·rename_i s1 hfz
     obtain ⟨p1, hle, hs1, hk1, hro, hgn⟩ := XJ (sc := sc) hpr hs hfz
     have hg1 : kp ops o p1 = some true := by
      rcases hgn with hgn | hgn
      ·simp [kp, hgn]
      ·rw [hgn]; exact hg
     have hpr1 : l5 s1 := (hk1 []).prOk hpr
     have mk : ∀ {r : PV} {u : BU}, KZ P o p1 r u → Eff P ops o p1 r u := fun h => by unfold Eff; rw [hg1]; exact h
     split at h
     ·rename_i x xs hc
      have hx := bZ hs1 x
      split at h
      rotate_left
      ·cases h
      rename_i f ps qs hev
      rw [hev] at hx
      obtain ⟨ps', qs', e1, e2, e3⟩ := YD hx
      split at h
      rotate_left
      ·rename_i hM
       obtain ⟨v, m, r, u, h, hR⟩ := Wt (sc := sc) hT hpr1 hs1 hM ((e2.append (nH hs1 xs)).append e3) h
       obtain ⟨hfb, h⟩ := ao h
       refine ⟨p1, hle, r, u, mk ?_, V2 hs1 hR.foot hfb, ?_⟩
       ·unfold KZ
        simp only [hc, e1, CA]
        exact .inr hR.call
       exact fR (ih (i + 1) kn l hWl hO hstl ((hR.keep W hWo).prOk hpr1) hR.sim h) fun p' hp => D9 (hk1 W) hro (Ot hWo hR hp)
      rename_i hM
      obtain ⟨hfb, h⟩ := ao h
      obtain ⟨v, r, h1, h2, h3⟩ := Wr hT hs1 hM ((e2.append (nH hs1 xs)).append e3) h
      refine ⟨p1, hle, r, [], mk ?_, Ma (w := none) hs1 dK hfb, ?_⟩
      ·unfold KZ
       simp only [hc, e1, CA]
       exact .inl ⟨trivial, h1⟩
      have hs' : Sim (s1.upd o.dst v .no) (p1.upd o.dst r none) := kT hs1 h3
      rw [show ([] : BU) = (none : Option (Nat × Box)).toList from rfl, DM]
      exact fR (ih (i + 1) kn l hWl hO hstl ((yH (sc := sc) (u := .no) trivial hWo hpr1).prOk hpr1) hs' h2) fun p' hp => D9 (hk1 W) hro (AK (u := .no) hWo hpr1 trivial dK hp)
     ·rename_i hc
      obtain ⟨v, u, qv, w, h1, h2, h3, h4, h5⟩ := Yf hs1 (hst o List.mem_cons_self) h
      obtain ⟨hfb, h2⟩ := ao h2
      refine ⟨p1, hle, qv, w.toList, mk ?_, Ma hs1 h5 hfb, ?_⟩
      ·unfold KZ
       simp only [hc]
       exact ⟨w, h1, rfl⟩
      rw [DM]
      exact fR (ih (i + 1) kn l hWl hO hstl ((yH (sc := sc) h4 hWo hpr1).prOk hpr1) h3 h2) fun p' hp => D9 (hk1 W) hro (AK hWo hpr1 h4 h5 hp)
   have skipOk : kp ops o p = some false → ud q P T ops B n (i + 1) kn l (s.upd o.dst (.tup []) .no) k = some res → v8 q P ops (yy B) i (o :: l) p (Gn sc W (o :: l) s p k res) := by
    intro hg h
    refine ⟨p, .refl _ _, .tup [], [], by unfold Eff; rw [hg]; exact ⟨rfl, rfl⟩, fun _ => ⟨fun h => (by rw [hg] at h; cases h), fun x Bx h => (by cases h)⟩, ?_⟩
    rw [show ([] : BU) = (none : Option (Nat × Box)).toList from rfl, DM]
    have hs' : Sim (s.upd o.dst (.tup []) .no) (p.upd o.dst (.tup []) none) := kT hs (.tup [] [] rfl (fun j c q h => by simp at h))
    exact fR (ih (i + 1) kn l hWl hO hstl ((yH (sc := sc) (u := .no) trivial hWo hpr).prOk hpr) hs' h) fun p' hp => AK (u := .no) hWo hpr trivial dK hp
   unfold ud at h
   simp only at h
   split at h
   ·rename_i hg
    exact goOk (by simp [kp, hg]) h
   ·rename_i j want hg
    split at h
    ·cases h
    ·rename_i g hgd
     have hsg := hs.sl g
     split at h
     ·rename_i hv
      rw [hv] at hsg
      obtain ⟨qs, h1, h2⟩ := UT hsg
      have : qs = [] := by have := h2.len; simpa using this.symm
      subst this
      exact skipOk (by simp [kp, hg, hgd, h1]) h
     ·rename_i b hv
      rw [hv] at hsg
      have hpg := kN hsg
      have hgb : kp ops o p = some (b == want) := by simp [kp, hg, hgd, hpg, asB]
      split at h
      ·split at h
       ·split at h
        ·exact goOk (by rw [hgb]; rfl) h
        ·exact skipOk (by rw [hgb]; rfl) h
       ·split at h
        ·exact skipOk (by rw [hgb]; rfl) h
        ·exact goOk (by rw [hgb]; rfl) h
      ·split at h
       ·cases h
       ·rename_i l1 d l2 hup
        obtain ⟨h1, o1, h2, h3⟩ := DK hup
        obtain ⟨qb, h4, h5⟩ := cO h
        have hg0 : ∃ o', ops[j]? = some o' ∧ o'.dst = some g := by
         cases ho : ops[j]? with
         | none => simp [ho] at hgd
         | some o' => exact ⟨o', rfl, by simpa [ho] using hgd⟩
        obtain ⟨o', ho', hdo'⟩ := hg0
        have hWg : aA W g = true := hO j o' ho' g hdo'
        rw [h1]
        have hW1 : ∀ o ∈ l1, ∀ d, o.dst = some d → aA W d = true := fun o ho => hW o (by rw [h1]; exact List.mem_append_left _ ho)
        have hW2 : ∀ o ∈ l2, ∀ d, o.dst = some d → aA W d = true := fun o ho => hW o (by rw [h1]; exact List.mem_append_right _ ho)
        have hst1 : ∀ o ∈ l1, ∀ t x y, o.op = .store t x y → o.dst = none := fun o ho => hst o (by rw [h1]; exact List.mem_append_left _ ho)
        have hst2 : ∀ o ∈ l2, ∀ t x y, o.op = .store t x y → o.dst = none := fun o ho => hst o (by rw [h1]; exact List.mem_append_right _ ho)
        have hsb : Sim ⟨(g, .d (.bool b)) :: s.sl, s.bx, s.pr, true, s.oc⟩ p := by
         refine ⟨fun i => ?_, hs.bx⟩
         show bc s.bx (lkV ((g, .d (.bool b)) :: s.sl) i) (p.t i)
         rw [cR]
         split
         ·rename_i e; subst e; exact hsg
         ·exact hs.sl i
        have hA : v8 q P ops (yy B) i l1 p (Gn sc W l1 ⟨(g, .d (.bool b)) :: s.sl, s.bx, s.pr, true, s.oc⟩ p (De d) qb) := by
         cases b
         ·exact ih i (g :: kn) l1 hW1 hO hst1 hpr hsb (by simpa using h4)
         ·exact ih i (g :: kn) l1 hW1 hO hst1 hpr hsb (by simpa using h4)
        refine BT (fR hA fun p1 hp1 => ?_)
        obtain ⟨s1, k1, k2, k3, k4, k5⟩ := hp1
        have hd : aA (ci l1) d = true := sW h2 h3
        have hpd : p1.t d = .d (.v (.bool qb)) := by
         have := k1.sl d
         unfold De at k4
         split at k4
         ·rename_i b' hb'
          injection k4 with k4
          subst k4
          rw [hb'] at this
          exact kN this
         ·cases k4
        have hs2 : Sim ⟨(d, .d (.bool qb)) :: oL (ci l1) s.sl, s.bx, s.pr, s.ro, ci l1 ++ s.oc⟩ p1 := by
         refine ⟨fun i => ?_, fun t => ?_⟩
         ·show bc s.bx (lkV ((d, .d (.bool qb)) :: oL (ci l1) s.sl) i) (p1.t i)
          rw [cR]
          split
          ·rename_i e; subst e; rw [hpd]; exact eS qb
          ·rw [uv]
           split
           ·exact .junk _
           ·rename_i hi
            rw [k5.t rfl i (by simpa using hi)]
            exact hs.sl i
         ·show l7 s.bx (aA (ci l1 ++ s.oc) t) (lkB s.bx t) (p1.b t)
          have hbt := hs.bx t
          cases hl : lkB s.bx t with
          | none =>
           rw [hl] at hbt
           intro hoc
           rw [de, Bool.or_eq_false_iff] at hoc
           rw [k5.b rfl t (.inr hoc.1)]
           exact hbt hoc.2
          | some bx =>
           rw [hl] at hbt
           rw [k5.b rfl t (.inl (by show lkB s.bx t ≠ none; rw [hl]; simp))]
           cases bx <;> exact hbt
        have hk2 : dB sc W s ⟨(d, .d (.bool qb)) :: oL (ci l1) s.sl, s.bx, s.pr, s.ro, ci l1 ++ s.oc⟩ := by
         refine ⟨rfl, rfl, fun _ _ => .refl _, fun i hi _ => ?_, fun _ _ _ cs h => ⟨cs, h, rfl⟩⟩
         show lkV ((d, .d (.bool qb)) :: oL (ci l1) s.sl) i = _
         rw [cR, if_neg (fun e => by rw [e, hW1 o1 h2 d h3] at hi; cases hi), uv]
         rw [if_neg (fun e => by
          obtain ⟨o2, m1, m2⟩ := Bf e
          rw [hW1 o2 m1 i m2] at hi
          cases hi)]
        refine fR (ih (i + l1.length) kn l2 hW2 hO hst2 (hk2.prOk hpr) hs2 h5) fun p2 hp2 => ?_
        obtain ⟨s3, m1, m2, m3, m4, m5⟩ := hp2
        refine ⟨s3, m1, hk2.trans m2, m3, m4, fun hro i hi => ?_, fun hro t ht => ?_⟩
        ·rw [xz, de, Bool.or_eq_false_iff] at hi
         rw [m5.t hro i hi.2, k5.t rfl i hi.1]
        ·rw [xz, de, Bool.or_eq_false_iff] at ht
         rw [m5.b hro t (ht.imp id fun h => h.2), k5.b rfl t (ht.imp id fun h => h.1)]
     ·cases h
end
theorem S0 {p : PS} (i e k : Nat) (ht : p.t i = .d (.v (.slice none 0 0))) (hb : p.b i = none) (hi0 : i < 1000000) (hk : 0 < k) : Le p (p.upd (some i) (.row i 0) (some (i, .rw e k []))) := by
 intro n w0 F0 a w ⟨h1, h2, ρ, F, hi, hev⟩
 have hx := (hev i)
 rw [ht] at hx
 obtain ⟨hx, _⟩ := hx.vv
 have hnew := Em (P := default) (t := i) (e := e) (k := k) (es := []) (xs := []) (v := .slice none 0 0) (w' := w) hi hi0 hb hk (Ext.refl w) (fun g hg => by cases hg) (World.ownsRow_nil w _ e k) (by simp) rfl (by simp)
 obtain ⟨v, w', ρ', hok, k1, k2, k3⟩ := hnew
 injection hok with e1 e2
 subst e1 e2
 refine ⟨h1, h2, ρ', F, k1, fun j => ?_⟩
 by_cases hj : i = j
 ·subst hj
  rw [hx]
  simpa [PS.upd, wW] using k3
 ·have : (p.upd (some i) (.row i 0) (some (i, .rw e k []))).t j = p.t j := by simp [PS.upd, wW, hj]
  rw [this]
  exact (hev j).mono k2
theorem OH {p : PS} (i t j e k : Nat) {ty : TypeId} {cs : List PV} (hb : p.b t = some (.st ty cs)) (hc : cs[j]? = some (.d (.v (.slice none 0 0)))) (hi : p.b i = none) (hi0 : i < 1000000) (hk : 0 < k) :
  Le p ⟨p.t, dm (dm p.b (some (i, .rw e k []))) (some (t, .st ty (cs.set j (.row i 0))))⟩ := by
 intro n w0 F0 a w ⟨h1, h2, ρ, F, hinv, hev⟩
 have hnew := Em (P := default) (t := i) (e := e) (k := k) (es := []) (xs := []) (v := .slice none 0 0) (w' := w) hinv hi0 hi hk (Ext.refl w) (fun g hg => by cases hg) (World.ownsRow_nil w _ e k) (by simp) rfl (by simp)
 obtain ⟨v, w', ρ', hok, k1, k2, k3⟩ := hnew
 injection hok with e1 e2
 subst e1 e2
 have hti : t ≠ i := fun e => by rw [e, hi] at hb; cases hb
 have hb1 : (dm p.b (some (i, .rw e k []))) t = some (.st ty cs) := by rw [cE _ _ hti]; exact hb
 have hs2 : Stp ρ' (dm p.b (some (i, .rw e k []))) w F ρ' (dm (dm p.b (some (i, .rw e k []))) (some (t, .st ty (cs.set j (.row i 0))))) w F := by
  refine ⟨fun _ h => h, fun _ _ => rfl, fun t' ty' cs' h => ⟨?_, rfl⟩, fun t' e' k' es h => ?_⟩
  ·by_cases h' : t' = t
   ·subst h'; rw [dk]; exact ⟨_, _, rfl⟩
   ·rw [cE _ _ h']; exact ⟨_, _, h⟩
  ·have h' : t' ≠ t := fun e => by rw [e, hb1] at h; cases h
   rw [cE _ _ h']
   exact ⟨e', es, h, Nat.le_refl _, fun _ => rfl⟩
 have hinv2 : Inv w0 F0 ρ' (dm (dm p.b (some (i, .rw e k []))) (some (t, .st ty (cs.set j (.row i 0))))) w F := by
  have hs3 := hs2
  rw [← cY ρ' t] at hs3
  have := Inv.turn (v := ρ' t) (B' := .st ty (cs.set j (.row i 0))) (w' := w) k1 hb1 (by rw [cY] at hs3 ⊢; exact hs2) k1.ext (Nat.le_refl _) (fun _ _ _ => rfl) (fun g hg => .inl hg) ?_
  ·rw [cY] at this; exact this
  ·rw [cY]
   cases k1.box t _ hb1 with
   | st _ _ g xs hρ hg hF hh hl h1x hr =>
    refine .st ty _ g xs hρ hg hF hh (by rw [List.length_set]; exact hl) h1x (fun p x c h4 h5 => ?_)
    rw [List.getElem?_set] at h5
    split at h5
    ·rename_i hjp
     subst hjp
     split at h5
     ·injection h5 with h5
      subst h5
      have hx := hr j x _ h4 hc
      obtain ⟨hx, _⟩ := hx.vv
      rw [hx]
      exact k3.mono hs2
     ·cases h5
    ·exact (hr p x c h4 h5).mono hs2
 exact ⟨h1, h2, ρ', F, hinv2, fun q => ((hev q).mono k2).mono hs2⟩
theorem BLe.trans {B B' B'' : List (Nat × Option aW)} (h : BLe B B') (h' : BLe B' B'') : BLe B B'' := by
 refine ⟨fun t e k ty xs pins h1 => ?_, fun t ty cs h1 => ?_⟩
 ·obtain ⟨e1, k1, ty1, xs1, pins1, h2, h3, h4⟩ := h.rw t e k ty xs pins h1
  obtain ⟨e2, k2, ty2, xs2, pins2, h5, h6, h7⟩ := h'.rw t e1 k1 ty1 xs1 pins1 h2
  refine ⟨e2, k2, ty2, xs2, pins2, h5, h6.trans h3, fun p pin hp => ?_⟩
  obtain ⟨pin1, h8, h9⟩ := h4 p pin hp
  obtain ⟨pin2, h10, h11⟩ := h7 p pin1 h8
  exact ⟨pin2, h10, h11.trans h9⟩
 ·obtain ⟨ty1, cs1, h2⟩ := h.st t ty cs h1
  exact h'.st t ty1 cs1 h2
theorem XY {B : List (Nat × Option aW)} {b : Nat} {x : Option aW} (h : lkB B b = x) (t : Nat) : lkB ((b, x) :: B) t = lkB B t := by
 rw [ar]
 split
 ·rename_i e; subst e; exact h.symm
 ·rfl
theorem bc.lk {B B' : List (Nat × Option aW)} (h : ∀ t, lkB B' t = lkB B t) {v : SV} {q : PV} (hv : bc B v q) : bc B' v q :=
 hv.mono ⟨fun t e k ty xs pins h1 => ⟨e, k, ty, xs, pins, by rw [h]; exact h1, rfl, fun _ pin hp => ⟨pin, hp, rfl⟩⟩, fun t ty cs h1 => ⟨ty, cs, by rw [h]; exact h1⟩⟩
theorem l7.lk {B B' : List (Nat × Option aW)} (h : ∀ t, lkB B' t = lkB B t) {o : Bool} {b : Option aW} {q : Option Box} (hv : l7 B o b q) : l7 B' o b q :=
 hv.mono ⟨fun t e k ty xs pins h1 => ⟨e, k, ty, xs, pins, by rw [h]; exact h1, rfl, fun _ pin hp => ⟨pin, hp, rfl⟩⟩, fun t ty cs h1 => ⟨ty, cs, by rw [h]; exact h1⟩⟩
theorem Sim.lk {sl : List (Nat × SV)} {B B' : List (Nat × Option aW)} {pr oc : List Nat} {ro : Bool} {p : PS} (h : ∀ t, lkB B' t = lkB B t) (hs : Sim ⟨sl, B, pr, ro, oc⟩ p) : Sim ⟨sl, B', pr, ro, oc⟩ p :=
 ⟨fun i => (hs.sl i).lk h, fun t => by show l7 B' _ (lkB B' t) _; rw [h]; exact (hs.bx t).lk h⟩
theorem un {s : SS} {b : Nat} {ty : TypeId} : ∀ {rows : List (Nat × Nat × Nat × Nat × Ty)} {cs cs' : List SV} {bx bx' : List (Nat × Option aW)} {p : PS}, (∃ x, lkB bx b = some x) → Sim ⟨s.sl, (b, some (.st ty cs)) :: bx, s.pr, s.ro, []⟩ p → uo s rows cs bx = some (cs', bx') →
  ∃ p', Le p p' ∧ Sim ⟨s.sl, (b, some (.st ty cs')) :: bx', s.pr, s.ro, []⟩ p' ∧ (∀ t, aA s.pr t = true → lkB bx' t = lkB bx t) ∧ cs'.length = cs.length ∧ ∀ t x, lkB bx t = some x → lkB bx' t = some x
 | [], cs, cs', bx, bx', p, _, hs, h => by
  injection h with h
  injection h with e1 e2
  subst e1 e2
  exact ⟨p, .refl p, hs, fun _ _ => rfl, rfl, fun _ _ h => h⟩
 | (j, R, e, k, t) :: l, cs, cs', bx, bx', p, hb, hs, h => by
  simp only [uo] at h
  split at h
  ·rename_i hj
   split at h
   ·rename_i hR hk hp
    have hk := zd hk
    obtain ⟨xb, hxb⟩ := hb
    have hRb : ¬ R = b := fun e => by rw [e, hxb] at hR; cases hR
    have hbx := hs.bx b
    have hbx : l7 ((b, some (.st ty cs)) :: bx) (aA [] b) (lkB ((b, some (.st ty cs)) :: bx) b) (p.b b) := hbx
    rw [ar, if_pos rfl] at hbx
    obtain ⟨qs, h1, h2⟩ := hbx
    have hRn : lkB ((b, some (.st ty cs)) :: bx) R = none := by rw [ar, if_neg hRb]; exact hR
    have hpR : p.b R = none := by
     have h3 := hs.bx R
     have h3 : l7 ((b, some (.st ty cs)) :: bx) (aA [] R) (lkB ((b, some (.st ty cs)) :: bx) R) (p.b R) := h3
     rw [hRn] at h3
     exact h3 rfl
    have hlt : j < qs.length := by rw [← h2.len]; exact (zg.1 hj).1
    have hqj : qs[j]? = some (.d (.v (.slice none 0 0))) := by
     have h3 : qs[j]? = some qs[j] := by simp [hlt]
     rw [h3, Q0 (h2.rep j _ _ hj h3)]
    have hle := OH R b j e k h1 hqj hpR hk.2 hk.1
    have hB1 : BLe ((b, some (.st ty cs)) :: bx) ((R, some (.rw e k t [] [])) :: (b, some (.st ty cs)) :: bx) := qE hRn
    have hB2 : BLe ((R, some (.rw e k t [] [])) :: (b, some (.st ty cs)) :: bx) ((b, some (.st ty (cs.set j (.row R)))) :: (R, some (.rw e k t [] [])) :: (b, some (.st ty cs)) :: bx) := Pa (ty := ty) (cs := cs) (by rw [ar, if_neg (fun e => hRb e.symm), ar, if_pos rfl])
    have hB := hB1.trans hB2
    have hsame : ∀ t', lkB ((b, some (.st ty (cs.set j (.row R)))) :: (R, some (.rw e k t [] [])) :: bx) t' = lkB ((b, some (.st ty (cs.set j (.row R)))) :: (R, some (.rw e k t [] [])) :: (b, some (.st ty cs)) :: bx) t' := fun t' => by
     simp only [ar]
     split
     ·rfl
     ·rename_i h'; split
      ·rfl
      ·rfl
    have hs1 : Sim ⟨s.sl, (b, some (.st ty (cs.set j (.row R)))) :: (R, some (.rw e k t [] [])) :: (b, some (.st ty cs)) :: bx, s.pr, s.ro, []⟩ ⟨p.t, dm (dm p.b (some (R, .rw e k []))) (some (b, .st ty (qs.set j (.row R 0))))⟩ := by
     refine ⟨fun i => (hs.sl i).mono hB, fun t' => ?_⟩
     show l7 _ (aA [] t') (lkB ((b, some (.st ty (cs.set j (.row R)))) :: (R, some (.rw e k t [] [])) :: (b, some (.st ty cs)) :: bx) t') (dm (dm p.b (some (R, .rw e k []))) (some (b, .st ty (qs.set j (.row R 0)))) t')
     rw [ar]
     by_cases e1 : t' = b
     ·subst e1
      rw [if_pos rfl, dk]
      refine ⟨_, rfl, by simpa using h2.len, fun j' c q m1 m2 => ?_⟩
      rw [List.getElem?_set] at m1 m2
      by_cases e2 : j = j'
      ·subst e2
       have hlc : j < cs.length := by rw [h2.len]; exact hlt
       rw [if_pos rfl, if_pos hlc] at m1
       rw [if_pos rfl, if_pos hlt] at m2
       injection m1 with m1
       injection m2 with m2
       subst m1 m2
       exact .row R 0 e k t [] [] (by rw [ar, if_neg hRb, ar, if_pos rfl]) rfl
      ·rw [if_neg e2] at m1 m2
       exact (h2.rep j' c q m1 m2).mono hB
     ·rw [if_neg e1, cE _ _ e1, ar]
      by_cases e2 : t' = R
      ·subst e2
       rw [if_pos rfl, dk]
       exact ⟨rfl, fun p pin hp => by cases hp⟩
      ·rw [if_neg e2, cE _ _ e2]
       exact (hs.bx t').mono hB
    have hs2 := hs1.lk hsame
    obtain ⟨p', k1, k2, k3, k4, k5⟩ := un (s := s) (b := b) (ty := ty) ⟨xb, by rw [ar, if_neg (fun e => hRb e.symm)]; exact hxb⟩ hs2 h
    refine ⟨p', hle.trans k1, k2, fun t' ht' => ?_, by rw [k4, List.length_set], fun t' x hx => k5 t' x ?_⟩
    ·rw [k3 t' ht', ar, if_neg (fun e => by rw [e, hp] at ht'; cases ht')]
    ·rw [ar, if_neg (fun e => by rw [e, hR] at hx; cases hx)]; exact hx
   ·cases h
  ·exact un hb hs h
theorem qx {sc wr : List Nat} : ∀ {ms : List Mod} {s s' : SS} {p : PS}, s.oc = [] → l5 s → Sim s p → GP wr ms s = some s' → ∃ p', Le p p' ∧ Sim s' p' ∧ dB sc wr s s' ∧ s'.oc = []
 | [], s, s', p, ho, _, hs, h => by injection h with h; subst h; exact ⟨p, .refl p, hs, .refl _ _, ho⟩
 | .leaf _ _ :: l, s, s', p, ho, hpr, hs, h => qx (ms := l) ho hpr hs h
 | .agg _ _ :: l, s, s', p, ho, hpr, hs, h => qx (ms := l) ho hpr hs h
 | .box _ _ _ [] :: l, s, s', p, ho, hpr, hs, h => qx (ms := l) ho hpr hs h
 | .box b _ _ (r :: rows) :: l, s, s', p, ho, hpr, hs, h => by
  simp only [GP] at h
  split at h
  ·rename_i ty cs hb
   split at h
   ·rename_i cs' bx' hp hn
    have hs0 : Sim ⟨s.sl, (b, some (.st ty cs)) :: s.bx, s.pr, s.ro, []⟩ p := by
     have : Sim ⟨s.sl, s.bx, s.pr, s.ro, []⟩ p := by rw [← ho]; exact hs
     exact this.lk (XY hb)
    obtain ⟨p1, k1, k2, k3, k4, k5⟩ := un ⟨_, hb⟩ hs0 hn
    have hk : dB sc wr s ⟨s.sl, (b, some (.st ty cs')) :: bx', s.pr, s.ro, s.oc⟩ := by
     refine ⟨rfl, rfl, fun t ht => ?_, fun _ _ _ => rfl, fun t _ ty2 cs2 h2 => ?_⟩
     ·show kG _ (lkB ((b, some (.st ty cs')) :: bx') t)
      rw [ar, if_neg (fun e => by rw [e, hp] at ht; cases ht), k3 t ht]
      exact .refl _
     ·show ∃ cs3, lkB ((b, some (.st ty cs')) :: bx') t = _ ∧ _
      rw [ar]
      by_cases e : t = b
      ·rw [e, hb] at h2
       injection h2 with h2
       injection h2 with e1 e2
       subst e1 e2
       rw [if_pos e]
       exact ⟨_, rfl, k4⟩
      ·rw [if_neg e]
       exact ⟨cs2, k5 t _ h2, rfl⟩
    obtain ⟨p2, m1, m2, m3, m4⟩ := qx (ms := l) (s := ⟨s.sl, (b, some (.st ty cs')) :: bx', s.pr, s.ro, s.oc⟩) ho (hk.prOk hpr) (by rw [ho]; exact k2) h
    exact ⟨p2, k1.trans m1, m2, hk.trans m3, m4⟩
   ·cases h
  ·cases h
 | .row i R e k t :: l, s, s', p, ho, hpr, hs, h => by
  simp only [GP] at h
  split at h
  ·rename_i hv
   split at h
   ·rename_i hR hb hk hw hp
    have hk := zd hk
    have hsi := hs.sl i
    rw [hv] at hsi
    have hpt := Q0 hsi
    have hpb : p.b i = none := by
     have := hs.bx i
     rw [hb] at this
     exact this (by rw [ho]; rfl)
    have hle := S0 (p := p) i e k hpt hpb hk.2 hk.1
    have hs1 : Sim ⟨sw s.sl (some i) (.row i), (i, some (.rw e k t [] [])) :: s.bx, s.pr, s.ro, s.oc⟩ (p.upd (some i) (.row i 0) (some (i, .rw e k (([] : List t.den).map (bR t))))) :=
     oE hs (qE hb) (fun _ => ⟨rfl, fun p pin hp => by cases hp⟩) (.row i 0 e k t [] [] (by rw [ar, if_pos rfl]) rfl)
    have hkp : dB sc wr s ⟨(i, .row i) :: s.sl, (i, some (.rw e k t [] [])) :: s.bx, s.pr, s.ro, s.oc⟩ := by
     refine ⟨rfl, rfl, fun t' ht' => ?_, fun j hj _ => ?_, fun t' _ ty2 cs2 h2 => ⟨cs2, by show lkB ((i, some (.rw e k t [] [])) :: s.bx) t' = _; rw [ar, if_neg (fun e => by rw [e, hb] at h2; cases h2)]; exact h2, rfl⟩⟩
     ·show kG _ (lkB ((i, some (.rw e k t [] [])) :: s.bx) t')
      rw [ar, if_neg (fun e => by rw [e, hp] at ht'; cases ht')]
      exact .refl _
     ·show lkV ((i, .row i) :: s.sl) j = _
      rw [cR, if_neg (fun e => by rw [e, hw] at hj; cases hj)]
    obtain ⟨p2, m1, m2, m3, m4⟩ := qx (ms := l) (s := ⟨(i, .row i) :: s.sl, (i, some (.rw e k t [] [])) :: s.bx, s.pr, s.ro, s.oc⟩) ho (hkp.prOk hpr) hs1 h
    exact ⟨p2, hle.trans m1, m2, hkp.trans m3, m4⟩
   ·cases h
  ·exact qx (ms := l) ho hpr hs h
theorem nC (wr pr kb : List Nat) : ∀ (l : List (Nat × SV)) (seen : List Nat) (i : Nat), lkV (sK wr pr kb l seen) i = if aA seen i = true then .junk else if aA wr i = true then .junk else if GN pr kb (lkV l i) = true then lkV l i else .junk
 | [], seen, i => by simp [sK, lkV, GN]
 | (j, v) :: l, seen, i => by
  simp only [sK]
  have hc := cR j v l i
  split
  ·rename_i hs
   rw [nC wr pr kb l seen i, hc]
   by_cases e : i = j
   ·subst e; simp [hs]
   ·simp [e]
  ·rename_i hs
   split
   ·rename_i hw
    rw [nC wr pr kb l (j :: seen) i, hc, aZ]
    by_cases e : i = j
    ·subst e; simp [hw]
    ·simp [e]
   ·rename_i hw
    split
    ·rename_i hf
     rw [cR, nC wr pr kb l (j :: seen) i, hc, aZ]
     by_cases e : i = j
     ·subst e; simp [hs, hw, hf]
     ·simp [e]
    ·rename_i hf
     rw [nC wr pr kb l (j :: seen) i, hc, aZ]
     by_cases e : i = j
     ·subst e; simp [hf]
     ·simp [e]
theorem nD (pr : List Nat) : ∀ (l : List (Nat × Option aW)) (seen : List Nat) (t : Nat), lkB (sM pr l seen) t = if aA seen t = true then none else if aA pr t = true then Jb (lkB l t) else none
 | [], seen, t => by simp [sM, lkB, Jb]
 | (j, b) :: l, seen, t => by
  simp only [sM]
  have hc := ar j b l t
  split
  ·rename_i hs
   rw [nD pr l seen t, hc]
   by_cases e : t = j
   ·subst e; simp [hs]
   ·simp [e]
  ·rename_i hs
   split
   ·rename_i hw
    rw [ar, nD pr l (j :: seen) t, hc, aZ]
    by_cases e : t = j
    ·subst e; simp [hs, hw]
    ·simp [e]
   ·rename_i hw
    rw [nD pr l (j :: seen) t, hc, aZ]
    by_cases e : t = j
    ·subst e; simp [hw]
    ·simp [e]
theorem kY (mb : List Nat) : ∀ (l : List (Nat × Option aW)) (seen : List Nat) (t : Nat), aA (oG mb l seen) t = true ↔ aA seen t = false ∧ aA mb t = false ∧ ∃ b, lkB l t = some b ∧ yq b = true
 | [], seen, t => by simp [oG, aA, lkB]
 | (j, b) :: l, seen, t => by
  have hc := ar j b l t
  simp only [oG]
  split
  ·rename_i hs
   rw [kY mb l seen t, hc]
   by_cases e : t = j
   ·subst e; simp [hs]
   ·simp [e]
  ·rename_i hs
   split
   ·rw [kY mb l (j :: seen) t, hc, aZ]
    by_cases e : t = j
    ·subst e; simp
    ·simp [e]
   ·rename_i b'
    split
    ·rename_i h1 h2
     rw [aZ, Bool.or_eq_true, kY mb l (j :: seen) t, hc, aZ]
     by_cases e : t = j
     ·subst e; simp [hs, h1, h2]
     ·simp [e]
    ·rename_i h12
     rw [kY mb l (j :: seen) t, hc, aZ]
     by_cases e : t = j
     ·subst e
      simp only [decide_true, Bool.true_or, Bool.true_eq_false, false_and, if_true, Option.some.injEq, exists_eq_left', false_iff, not_and]
      intro _ h3 h4
      exact h12 h3 h4
     ·simp [e]
theorem vo (bx : List (Nat × Option aW)) : ∀ (l : List Nat) (r : List (Nat × Option aW)) (t : Nat), (aA l t = true → ∀ ty cs, lkB bx t = some (.st ty cs) → lkB (Lj bx l r) t = some (.st ty (wA cs))) ∧ ((aA l t = false ∨ ∀ ty cs, lkB bx t ≠ some (.st ty cs)) → lkB (Lj bx l r) t = lkB r t)
 | [], r, t => ⟨fun h => (by cases h), fun _ => rfl⟩
 | b :: l, r, t => by
  obtain ⟨h1, h2⟩ := vo bx l r t
  simp only [Lj]
  split
  ·rename_i ty cs hb
   refine ⟨fun hm ty2 cs2 h => ?_, fun h => ?_⟩
   ·rw [ar]
    by_cases e : t = b
    ·subst e
     rw [hb] at h
     injection h with h
     injection h with e1 e2
     subst e1 e2
     rw [if_pos rfl]
    ·rw [if_neg e]
     rw [aZ] at hm
     exact h1 (by simpa [e] using hm) ty2 cs2 h
   ·rw [ar]
    by_cases e : t = b
    ·subst e
     rcases h with h | h
     ·rw [aZ] at h; simp at h
     ·exact absurd hb (h ty cs)
    ·rw [if_neg e]
     rw [aZ] at h
     exact h2 (h.imp (by simp [e]) id)
  ·rename_i hb
   refine ⟨fun hm ty2 cs2 h => ?_, fun h => ?_⟩
   ·by_cases e : t = b
    ·subst e; exact absurd h (hb ty2 cs2)
    ·rw [aZ] at hm
     exact h1 (by simpa [e] using hm) ty2 cs2 h
   ·rw [aZ] at h
    by_cases e : t = b
    ·subst e; exact h2 (.inr fun ty cs => hb ty cs)
    ·exact h2 (h.imp (by simp [e]) id)
theorem qq (bx : List (Nat × Option aW)) : ∀ (l : List Nat) (t : Nat), aA (sE bx l) t = true ↔ aA l t = true ∧ ∃ ty cs, lkB bx t = some (.st ty cs)
 | [], t => by simp [sE, aA]
 | b :: l, t => by
  have ih := qq bx l t
  simp only [sE]
  split
  ·rename_i ty cs hb
   rw [aZ, aZ, Bool.or_eq_true, Bool.or_eq_true, ih]
   by_cases e : t = b
   ·subst e; simp [hb]
   ·simp [e]
  ·rename_i hb
   rw [ih, aZ, Bool.or_eq_true]
   by_cases e : t = b
   ·subst e
    refine ⟨fun h => ⟨.inl (by simp), h.2⟩, fun h => ?_⟩
    obtain ⟨ty, cs, h⟩ := h.2
    exact absurd h (hb ty cs)
   ·simp [e]
theorem AX : ∀ cs : List SV, (wA cs).length = cs.length
 | [] => rfl
 | c :: cs => by simp [wA, AX cs]
theorem HR : ∀ (cs : List SV) (j : Nat) (c : SV), (wA cs)[j]? = some c → c = .junk
 | [], j, c, h => by simp [wA] at h
 | _ :: cs, 0, c, h => by simp [wA] at h; exact h.symm
 | _ :: cs, j + 1, c, h => by simp [wA] at h; exact HR cs j c h
theorem oK (mb sc : List Nat) : ∀ (l : List (Nat × Option aW)) (seen : List Nat), vx mb sc l seen = true → ∀ t ty cs, aA seen t = false → lkB l t = some (.st ty cs) → aA mb t = true ∨ aA sc t = true ∨ cy cs = true
 | [], seen, _, t, ty, cs, _, h => by cases h
 | (j, b) :: l, seen, hk, t, ty, cs, hs, h => by
  simp only [vx] at hk
  rw [ar] at h
  split at hk
  ·rename_i hj
   have e : ¬ t = j := fun e => by rw [e, hj] at hs; cases hs
   rw [if_neg e] at h
   exact oK mb sc l seen hk t ty cs hs h
  ·split at hk
   ·split at hk
    ·rename_i hm
     by_cases e : t = j
     ·rw [if_pos e] at h
      injection h with h
      injection h with e1 e2
      subst e1 e2 e
      simpa [Bool.or_eq_true] using hm
     ·rw [if_neg e] at h
      exact oK mb sc l (j :: seen) hk t ty cs (by rw [aZ]; simp [e, hs]) h
    ·cases hk
   ·rename_i hb
    by_cases e : t = j
    ·rw [if_pos e] at h
     exact absurd h (hb ty cs)
    ·rw [if_neg e] at h
     exact oK mb sc l (j :: seen) hk t ty cs (by rw [aZ]; simp [e, hs]) h
theorem sX : ∀ {a b : List Nat}, Iq a b = true → ∀ t, aA a t = true → aA b t = false
 | [], b, _, t, h => by cases h
 | x :: a, b, hd, t, h => by
  simp only [Iq] at hd
  split at hd
  ·cases hd
  ·rename_i hx
   rw [aZ, Bool.or_eq_true] at h
   rcases h with h | h
   ·have := zd h; subst this; exact hx
   ·exact sX hd t h
theorem ry {pr kb : List Nat} : ∀ {cs : List SV} (_ : kU pr kb cs = true) {j : Nat} {c : SV}, cs[j]? = some c → GN pr kb c = true
 | [], _, j, c, h => by simp at h
 | d :: cs, h, j, c, hj => by
  simp only [kU] at h
  split at h
  ·rename_i h1
   cases j with
   | zero => simp at hj; subst hj; exact h1
   | succ j => simp at hj; exact ry h hj
  ·cases h
theorem Sg {B B' : List (Nat × Option aW)} {pr kb : List Nat} (hrw : ∀ t, aA pr t = true → ∀ e k ty xs pins, lkB B t = some (.rw e k ty xs pins) → ∃ e' k' ty' xs' pins', lkB B' t = some (.rw e' k' ty' xs' pins') ∧ xs'.length = xs.length)
  (hst : ∀ t, aA kb t = true → ∀ ty cs, lkB B t = some (.st ty cs) → ∃ ty' cs', lkB B' t = some (.st ty' cs')) {v : SV} {q : PV} (h : bc B v q) : GN pr kb v = true → bc B' v q := by
 induction h with
 | junk q => exact fun _ => .junk q
 | d c y h => exact fun _ => .d c y h
 | ag cs qs hl hr ih => exact fun hs => .ag cs qs hl fun j c q h1 h2 => ih j c q h1 h2 (ry hs h1)
 | tup cs qs hl hr ih => exact fun hs => .tup cs qs hl fun j c q h1 h2 => ih j c q h1 h2 (ry hs h1)
 | ptr t o ty cs hb => exact fun hs => by obtain ⟨ty', cs', h1⟩ := hst t hs ty cs hb; exact .ptr t o ty' cs' h1
 | row t n e k ty xs pins hb hn =>
  intro hs
  obtain ⟨e', k', ty', xs', pins', h1, h2⟩ := hrw t hs e k ty xs pins hb
  exact .row t n e' k' ty' xs' pins' h1 (h2.trans hn)
 | re t p o n i e k ty xs pins pin hb hn hp hi => exact fun hs => by cases hs
 | vw t lo hi n e k ty xs pins hb hn => exact fun hs => by cases hs
 | fe cs ds h hn => exact fun _ => .fe cs ds h hn
 | fn f ps qs ps' qs' hl hr hl2 hr2 ih ih2 =>
  intro hs
  have hs : (match kU pr kb ps with | true => kU pr kb qs | false => false) = true := hs
  split at hs
  ·rename_i h1
   exact .fn f ps qs ps' qs' hl (fun j c q h2 h3 => ih j c q h2 h3 (ry h1 h2)) hl2 (fun j c q h2 h3 => ih2 j c q h2 h3 (ry hs h2))
  ·cases hs
mutual
theorem U8 {pr pr' kb : List Nat} (h : ∀ t, aA pr t = true → aA pr' t = true) : ∀ v : SV, GN pr kb v = true → kV pr' v = true
 | .junk, _ => rfl
 | .d _, _ => rfl
 | .fe _, _ => rfl
 | .ptr _ _, _ => rfl
 | .row t, hs => h t hs
 | .re _ _ _, hs => by cases hs
 | .vw _ _ _, hs => by cases hs
 | .ag cs, hs => by simp only [kV]; exact yl h cs hs
 | .tup cs, hs => by simp only [kV]; exact yl h cs hs
 | .fn f ps qs, hs => by
  have hs : (match kU pr kb ps with | true => kU pr kb qs | false => false) = true := hs
  split at hs
  ·rename_i h1
   simp only [kV, Bool.and_eq_true]
   exact ⟨yl h ps h1, yl h qs hs⟩
  ·cases hs
theorem yl {pr pr' kb : List Nat} (h : ∀ t, aA pr t = true → aA pr' t = true) : ∀ cs : List SV, kU pr kb cs = true → dX pr' cs = true
 | [], _ => rfl
 | c :: cs, hs => by
  simp only [kU] at hs
  split at hs
  ·rename_i h1
   simp only [dX, Bool.and_eq_true]
   exact ⟨U8 h c h1, yl h cs hs⟩
  ·cases hs
end
theorem pf {pr : List Nat} : ∀ {cs : List SV} (_ : dX pr cs = true) {j : Nat} {c : SV}, cs[j]? = some c → kV pr c = true
 | [], _, j, c, h => by simp at h
 | d :: cs, h, j, c, hj => by
  simp only [dX, Bool.and_eq_true] at h
  cases j with
  | zero => simp at hj; subst hj; exact h.1
  | succ j => simp at hj; exact pf h.2 hj
theorem uc {pr kb : List Nat} : ∀ {cs : List SV}, (∀ (j : Nat) c, cs[j]? = some c → GN pr kb c = true) → kU pr kb cs = true
 | [], _ => rfl
 | c :: cs, h => by
  simp only [kU]
  rw [h 0 c rfl]
  exact uc fun j d hj => h (j + 1) d (by simpa using hj)
theorem Od {B : List (Nat × Option aW)} {pr pr' kb : List Nat} (h : ∀ t, aA pr t = true → aA pr' t = true) (hst : ∀ t ty cs, lkB B t = some (.st ty cs) → aA kb t = true) {v : SV} {q : PV} (hv : bc B v q) : kV pr v = true → GN pr' kb v = true := by
 induction hv with
 | junk q => exact fun _ => rfl
 | d c y h => exact fun _ => rfl
 | ag cs qs hl hr ih =>
  refine fun hs => uc fun j c hj => ?_
  have hlt : j < qs.length := by rw [← hl]; exact (zg.1 hj).1
  exact ih j c qs[j] hj (by simp [hlt]) (pf hs hj)
 | tup cs qs hl hr ih =>
  refine fun hs => uc fun j c hj => ?_
  have hlt : j < qs.length := by rw [← hl]; exact (zg.1 hj).1
  exact ih j c qs[j] hj (by simp [hlt]) (pf hs hj)
 | ptr t o ty cs hb => exact fun _ => hst t ty cs hb
 | row t n e k ty xs pins hb hn => exact fun hs => h t hs
 | re t p o n i e k ty xs pins pin hb hn hp hi => exact fun hs => by cases hs
 | vw t lo hi n e k ty xs pins hb hn => exact fun hs => by cases hs
 | fe cs ds h hn => exact fun _ => rfl
 | fn f ps qs ps' qs' hl hr hl2 hr2 ih ih2 =>
  intro hs
  simp only [kV, Bool.and_eq_true] at hs
  have k1 : kU pr' kb ps = true := uc fun j c hj => by
   have hlt : j < ps'.length := by rw [← hl]; exact (zg.1 hj).1
   exact ih j c ps'[j] hj (by simp [hlt]) (pf hs.1 hj)
  have k2 : kU pr' kb qs = true := uc fun j c hj => by
   have hlt : j < qs'.length := by rw [← hl2]; exact (zg.1 hj).1
   exact ih2 j c qs'[j] hj (by simp [hlt]) (pf hs.2 hj)
  show (match kU pr' kb ps with | true => kU pr' kb qs | false => false) = true
  rw [k1]
  exact k2
theorem aao {B : List (Nat × Option aW)} {c : SD} {q : PV} (h : bc B (.d c) q) : ∃ y, q = .d y ∧ K0 c y := by
 cases h with
 | d _ y h => exact ⟨y, rfl, h⟩
theorem Y0 {B : List (Nat × Option aW)} {t : Nat} {q : PV} (h : bc B (.row t) q) : ∃ n, q = .row t n := by
 cases h with
 | row _ n => exact ⟨n, rfl⟩
def l6 (bx : List (Nat × Option aW)) : Prop := ∀ t e k ty xs pins, lkB bx t = some (.rw e k ty xs pins) → pins = []
theorem l6.cons_rw {bx : List (Nat × Option aW)} (h : l6 bx) {R e k : Nat} {t : Ty} {xs : List t.den} : l6 ((R, some (.rw e k t xs [])) :: bx) := by
 intro t' e' k' ty' xs' pins' h1
 rw [ar] at h1
 split at h1
 ·injection h1 with h1
  injection h1 with q1 q2 q3 q4 q5
  exact q5.symm
 ·exact h t' e' k' ty' xs' pins' h1
theorem l6.cons_st {bx : List (Nat × Option aW)} (h : l6 bx) {R : Nat} {ty : TypeId} {cs : List SV} : l6 ((R, some (.st ty cs)) :: bx) := by
 intro t' e' k' ty' xs' pins' h1
 rw [ar] at h1
 split at h1
 ·cases h1
 ·exact h t' e' k' ty' xs' pins' h1
def Hi (bx : List (Nat × Option aW)) (p : PS) : Prop := ∀ t b, lkB bx t = some b → l7 bx true (some b) (p.b t)
theorem IJ {bx : List (Nat × Option aW)} {p : PS} (hn : l6 bx) (hb : Hi bx p) {R e k : Nat} {t : Ty} {xs : List t.den} (hR : p.b R = some (.rw e k (xs.map (bR t)))) : BLe bx ((R, some (.rw e k t xs [])) :: bx) := by
 refine ⟨fun t' e2 k2 ty2 xs2 pins2 h => ?_, fun t' ty2 cs2 h => ?_⟩
 ·rw [ar]
  by_cases e1 : t' = R
  ·subst e1
   rw [if_pos rfl]
   have h1 := (hb t' _ h).1
   rw [hR] at h1
   injection h1 with h1
   injection h1 with q1 q2 q3
   refine ⟨e, k, t, xs, [], rfl, by simpa using congrArg List.length q3, fun p pin hp => ?_⟩
   rw [hn _ _ _ _ _ _ h] at hp
   cases hp
  ·rw [if_neg e1]; exact ⟨_, _, _, _, _, h, rfl, fun p pin hp => ⟨pin, hp, rfl⟩⟩
 ·rw [ar]
  by_cases e1 : t' = R
  ·subst e1
   obtain ⟨qs, h1, _⟩ := hb t' _ h
   rw [hR] at h1
   cases h1
  ·rw [if_neg e1]; exact ⟨_, _, h⟩
theorem Ww {bx : List (Nat × Option aW)} {p : PS} (hb : Hi bx p) {b : Nat} {ty : TypeId} {cs : List SV} {qs : List PV} (hR : p.b b = some (.st ty qs)) : BLe bx ((b, some (.st ty cs)) :: bx) := by
 refine ⟨fun t' e2 k2 ty2 xs2 pins2 h => ?_, fun t' ty2 cs2 h => ?_⟩
 ·rw [ar]
  by_cases e1 : t' = b
  ·subst e1
   have h1 := (hb t' _ h).1
   rw [hR] at h1
   cases h1
  ·rw [if_neg e1]; exact ⟨_, _, _, _, _, h, rfl, fun p pin hp => ⟨pin, hp, rfl⟩⟩
 ·rw [ar]
  by_cases e1 : t' = b
  ·rw [if_pos e1]; exact ⟨_, _, rfl⟩
  ·rw [if_neg e1]; exact ⟨_, _, h⟩
theorem Hi.cons {bx : List (Nat × Option aW)} {p : PS} (h : Hi bx p) {R : Nat} {b : aW} (hB : BLe bx ((R, some b) :: bx)) (hb : l7 ((R, some b) :: bx) true (some b) (p.b R)) : Hi ((R, some b) :: bx) p := by
 intro t b' h1
 rw [ar] at h1
 by_cases e : t = R
 ·subst e
  rw [if_pos rfl] at h1
  injection h1 with h1
  subst h1
  exact hb
 ·rw [if_neg e] at h1
  exact (h t b' h1).mono hB
theorem X1 {t : Ty} {xs ys : List t.den} (h : xs.map (bR t) = ys.map (bR t)) : xs.length = ys.length := by
 have h9 := congrArg List.length h
 rw [List.length_map, List.length_map] at h9
 exact h9
theorem Zb {t t' : Ty} {xs : List t.den} {ys : List t'.den} {c : SD} (h : c.as (.sl t) = some xs) (hd : c.toD = .sl (ys.map (bR t'))) : xs.map (bR t) = ys.map (bR t') := by
 have h1 := SD.as_ok h
 rw [hd] at h1
 have h2 : [D.sl (xs.map (bR t))] = [D.sl (ys.map (bR t'))] := h1
 injection h2 with h2
 injection h2
theorem uj {s' : SS} {p : PS} (hs' : gR s' p) {rows : List (Nat × Nat × Nat × Nat × Ty)} : ∀ {cs : List SV} {qs : List PV} {ds0 ds : List SD} {j : Nat} {bx bx' : List (Nat × Option aW)} {vs : List SV}, ca s'.bx cs qs → cellsOf s' rows j cs = some ds0 → ds0.map SD.toD = ds.map SD.toD → (∀ c ∈ ds, c ≠ .nl) →
  l6 bx → Hi bx p → fU rows j ds bx = some (vs, bx') → l6 bx' ∧ Hi bx' p ∧ BLe bx bx' ∧ ca bx' vs qs ∧ (∀ t, (∀ r ∈ rows, r.2.1 ≠ t) → lkB bx' t = lkB bx t)
 | [], qs, ds0, ds, j, bx, bx', vs, hc, h0, hd, _, hn, hb, h => by
  rcases hc.cases with ⟨_, rfl⟩ | ⟨_, _, _, _, h1, _⟩
  ·injection h0 with h0
   subst h0
   have : ds = [] := by simpa using hd.symm
   subst this
   injection h with h
   injection h with e1 e2
   subst e1 e2
   exact ⟨hn, hb, .refl _, .nil, fun _ _ => rfl⟩
  ·cases h1
 | c :: cs, qs, ds0, ds, j, bx, bx', vs, hc, h0, hd, hnl, hn, hb, h => by
  rcases hc.cases with ⟨h1, _⟩ | ⟨c', q, cs', qs', h1, rfl, hq, hcs⟩
  ·cases h1
  injection h1 with e1 e2
  subst e1 e2
  have findR_mem : ∀ {rows : List (Nat × Nat × Nat × Nat × Ty)} {j R e k : Nat} {t : Ty}, pu rows j = some (R, e, k, t) → ∃ r ∈ rows, r.2.1 = R := by
   intro rows
   induction rows with
   | nil => intro j R e k t h; cases h
   | cons r rows ih =>
    intro j R e k t h
    obtain ⟨j', R', e', k', t'⟩ := r
    simp only [pu] at h
    split at h
    ·injection h with h
     injection h with h _
     exact ⟨_, List.mem_cons_self, h⟩
    ·obtain ⟨r, h1, h2⟩ := ih h
     exact ⟨r, List.mem_cons_of_mem _ h1, h2⟩
  simp only [cellsOf] at h0
  split at h0
  ·rename_i R e k t hf
   split at h0
   ·rename_i R' e' k' t' xs pins hbR
    split at h0
    ·rename_i ht hsame
     have k1 := (ao h0).1
     replace h0 := (ao h0).2
     have k2 := (ao h0).1
     replace h0 := (ao h0).2
     have k3 := (ao h0).1
     replace h0 := (ao h0).2
     replace k1 : R' = R := by simpa [cS] using k1
     replace k2 : e' = e := by simpa using k2
     replace k3 : k' = k := by simpa using k3
     subst k1 k2 k3 ht
     split at h0
     ·rename_i r hr
      injection h0 with h0
      subst h0
      cases ds with
      | nil => simp at hd
      | cons d ds =>
       simp only [List.map_cons, List.cons.injEq] at hd
       obtain ⟨hd1, hd2⟩ := hd
       simp only [fU, hf] at h
       split at h
       ·rename_i xs' vs' bx1 hxs hp
        injection h with h
        injection h with e1 e2
        subst e1 e2
        obtain ⟨m1, m2, m3, m4, m5⟩ := uj hs' hcs hr hd2 (fun c hc => hnl c (List.mem_cons_of_mem _ hc)) hn hb hp
        have hpR : p.b R' = some (.rw e' k' (xs.map (bR t'))) := (hs'.bx R' _ hbR).1
        have hx : xs'.map (bR t') = xs.map (bR t') := Zb hxs (by rw [← hd1]; rfl)
        have hpR' : p.b R' = some (.rw e' k' (xs'.map (bR t'))) := by rw [hx]; exact hpR
        have hB := IJ m1 m2 hpR'
        refine ⟨m1.cons_rw, m2.cons hB ⟨hpR', fun p pin hp => by cases hp⟩, m3.trans hB, .cons ?_ (m4.mono hB), fun t2 ht2 => ?_⟩
        ·cases hq with
         | row _ n e2 k2 ty2 xs2 pins2 hb2 hn2 =>
          rw [hbR] at hb2
          injection hb2 with hb2
          injection hb2 with q1 q2 q3 q4 q5
          subst q3
          have q4 := eq_of_heq q4
          subst q4
          refine .row R' n e' k' t' xs' [] (by rw [ar, if_pos rfl]) ?_
          rw [← hn2]
          exact X1 hx
        ·rw [ar, if_neg (fun e => by
          obtain ⟨r, h1, h2⟩ := findR_mem hf
          exact ht2 r h1 (h2.trans e.symm))]
         exact m5 t2 ht2
       ·cases h
     ·cases h0
    ·cases h0
   ·cases h0
  ·rename_i hf
   split at h0
   ·rename_i x r hr
    injection h0 with h0
    subst h0
    cases ds with
    | nil => simp at hd
    | cons d ds =>
     simp only [List.map_cons, List.cons.injEq] at hd
     obtain ⟨hd1, hd2⟩ := hd
     simp only [fU, hf] at h
     split at h
     ·rename_i vs' bx1 hp
      injection h with h
      injection h with e1 e2
      subst e1 e2
      obtain ⟨m1, m2, m3, m4, m5⟩ := uj hs' hcs hr hd2 (fun c hc => hnl c (List.mem_cons_of_mem _ hc)) hn hb hp
      refine ⟨m1, m2, m3, .cons ?_ m4, m5⟩
      cases hq with
      | d _ y hy =>
       refine .d d y ?_
       have h1 := hy.nrm
       rw [hd1] at h1
       have h2 := hnl d List.mem_cons_self
       cases d <;> first | exact h1 | exact absurd rfl h2
     ·cases h
   ·cases h0
theorem Ye {t : Ty} {c : SD} {x : t.den} (h : c.as t = some x) : qp t x ≠ .nl := by
 cases t with
 | st i => simp [SD.as] at h
 | _ => intro e; cases e
theorem LK {t : Nat} : ∀ {rows : List (Nat × Nat × Nat × Nat × Ty)} {r : Nat × Nat × Nat × Nat × Ty}, r ∈ rows → r.2.1 = t → aA (rows.map (·.2.1)) t = true
 | [], r, h, _ => by cases h
 | a :: rows, r, h, e => by
  rw [List.map_cons, aZ, Bool.or_eq_true]
  rcases List.mem_cons.1 h with rfl | h
  ·exact .inl (by simp [e])
  ·exact .inr (LK h e)
theorem Ri {s' : SS} {p : PS} (hs' : gR s' p) {m : Mod} {x : m.den} {c c' : SS} (hg : A0 s' m = some x) (hc : gR c p) (hn : l6 c.bx) (h : rA m x c = some c') :
  gR c' p ∧ l6 c'.bx ∧ BLe c.bx c'.bx ∧ (∀ t, aA (bv [m]) t = false → lkB c'.bx t = lkB c.bx t) := by
 cases m with
 | leaf i t =>
  simp only [rA] at h
  injection h with h
  subst h
  refine ⟨⟨fun j => ?_, hc.bx⟩, hn, .refl _, fun _ _ => rfl⟩
  show bc c.bx (lkV ((i, .d (qp t x)) :: c.sl) j) (p.t j)
  rw [cR]
  split
  ·rename_i e
   subst e
   have h1 := hs'.sl j
   have hg : (match lkV s'.sl j with | .d c => c.as t | _ => none) = some (show t.den from x) := hg
   split at hg
   ·rename_i c0 hc0
    rw [hc0] at h1
    obtain ⟨y, hp, hy⟩ := aao h1
    rw [hp]
    refine .d _ y ?_
    have h2 := hy.nrm
    rw [← Ds hg] at h2
    have h3 := Ye hg
    revert h2 h3
    generalize qp t x = z
    intro h2 h3
    cases z <;> first | exact h2 | exact absurd rfl h3
   ·exact dC hg
  ·exact hc.sl j
 | agg i n =>
  simp only [rA] at h
  injection h with h
  subst h
  refine ⟨⟨fun j => ?_, hc.bx⟩, hn, .refl _, fun _ _ => rfl⟩
  show bc c.bx (lkV ((i, .ag (AU (stC n x))) :: c.sl) j) (p.t j)
  rw [cR]
  split
  ·rename_i e
   subst e
   have h1 := hs'.sl j
   simp only [A0] at hg
   split at hg
   ·rename_i cs hcs
    split at hg
    ·rename_i ds hds
     rw [hcs] at h1
     obtain ⟨qs, h2, h3⟩ := Hl h1
     rw [h2]
     have h4 := vp h3 hds
     have h5 := AB hg
     have hlen : qs.length = (stC n x).length := by
      have a := AH hds
      have b := h3.len
      have c := congrArg List.length h5
      have d := congrArg List.length (tZ n x)
      simp only [List.length_map] at c d
      omega
     refine .ag _ qs (by rw [JC, List.length_map]; exact hlen.symm) (fun k v q k1 k2 => ?_)
     rw [JC, List.getElem?_map, zm] at k1
     obtain ⟨z, k3, rfl⟩ := k1
     obtain ⟨y, k4, k5⟩ := yD qs _ h4 |>.2 k (z.toD) (by
      have h7 : (stC n x).map SD.toD = stD n x := tZ n x
      rw [h5, ← h7, List.getElem?_map, k3]
      rfl)
     rw [k2] at k4
     injection k4 with k4
     subst k4
     have h6 := wX n x z (List.mem_of_getElem? k3)
     refine .d z y ?_
     cases z <;> first | exact k5.symm | exact absurd rfl h6
    ·exact dC hg
   ·exact dC hg
  ·exact hc.sl j
 | row i R e k t =>
  simp only [rA] at h
  injection h with h
  subst h
  simp only [A0] at hg
  split at hg
  ·rename_i R' e' k' t' xs pins hv hb
   split at hg
   ·rename_i ht hsame
    have k1 := (ao hg).1
    replace hg := (ao hg).2
    have k2 := (ao hg).1
    replace hg := (ao hg).2
    have k3 := (ao hg).1
    replace hg := (ao hg).2
    replace k1 : R' = R := by simpa [cS] using k1
    replace k2 : e' = e := by simpa using k2
    replace k3 : k' = k := by simpa using k3
    subst k1 k2 k3 ht
    injection hg with hg
    subst hg
    have hpR : p.b R' = some (.rw e' k' (xs.map (bR t'))) := (hs'.bx R' _ hb).1
    have hB := IJ hn hc.bx hpR
    refine ⟨⟨fun j => ?_, Hi.cons hc.bx hB ⟨hpR, fun p pin hp => by cases hp⟩⟩, hn.cons_rw, hB, fun t2 ht2 => ?_⟩
    ·show bc _ (lkV ((i, .row R') :: c.sl) j) (p.t j)
     rw [cR]
     split
     ·rename_i e
      subst e
      have h1 := hs'.sl j
      rw [hv] at h1
      obtain ⟨n, h2⟩ := Y0 h1
      rw [h2] at h1 ⊢
      cases h1 with
      | row _ _ e2 k2 ty2 xs2 pins2 hb2 hn2 =>
       rw [hb] at hb2
       injection hb2 with hb2
       injection hb2 with q1 q2 q3 q4 q5
       subst q3
       have q4 := eq_of_heq q4
       subst q4
       exact .row R' n e' k' t' xs [] (by rw [ar, if_pos rfl]; rfl) hn2
     ·exact (hc.sl j).mono hB
    ·show lkB ((R', _) :: c.bx) t2 = _
     rw [ar, if_neg (fun e => by subst e; simp [bv, aZ] at ht2)]
   ·exact dC hg
  ·exact dC hg
 | box b ty n rows =>
  simp only [rA] at h
  split at h
  ·rename_i vs bx hp
   injection h with h
   subst h
   simp only [A0] at hg
   split at hg
   ·rename_i ty' cs hb
    have k1 := (ao hg).1
    replace hg := (ao hg).2
    replace k1 : ty' = ty := by simpa using k1
    subst k1
    replace hg := (ao hg).2
    split at hg
    ·rename_i ds hds
     obtain ⟨qs, h1, h2⟩ := hs'.bx b _ hb
     have h3 := AB hg
     obtain ⟨m1, m2, m3, m4, m5⟩ := uj hs' h2 hds (h3.trans (tZ n x).symm) (wX n x) hn hc.bx hp
     have hB := Ww (cs := vs) m2 h1
     refine ⟨⟨fun j => ((hc.sl j).mono m3).mono hB, Hi.cons m2 hB ⟨qs, h1, m4.mono hB⟩⟩, m1.cons_st, m3.trans hB, fun t2 ht2 => ?_⟩
     simp only [bv, aZ, de, Bool.or_eq_false_iff] at ht2
     show lkB ((b, _) :: bx) t2 = _
     rw [ar, if_neg (fun e => by have := ht2.1; simp [e] at this)]
     refine m5 t2 fun r hr e => ?_
     have := LK hr e
     rw [this] at ht2
     cases ht2.2.1
    ·exact dC hg
   ·exact dC hg
  ·cases h
section
variable {sc wr : List Nat}
theorem jO (m : Mod) (l : List Mod) (t : Nat) : aA (bv (m :: l)) t = (aA (bv [m]) t || aA (bv l) t) := by
 cases m with
 | leaf i t' => simp [bv, aA]
 | agg i n => simp [bv, aA]
 | row i R e k t' => simp [bv, aZ, aA]
 | box b ty n rows => simp [bv, aZ, de, aA, Bool.or_assoc]
def xk : Mod → Option Nat
 | .leaf i _ => some i
 | .agg i _ => some i
 | .row i _ _ _ _ => some i
 | .box .. => none
theorem Rh {m : Mod} {x : m.den} {l : List (Nat × SV)} {bx : List (Nat × Option aW)} {pr oc : List Nat} {ro : Bool} {s2 : SS} (h : rA m x ⟨l, bx, pr, ro, oc⟩ = some s2) :
  ∃ X bx2, s2 = ⟨X ++ l, bx2, pr, ro, oc⟩ ∧ (∀ l', rA m x ⟨l', bx, pr, ro, oc⟩ = some ⟨X ++ l', bx2, pr, ro, oc⟩) ∧ ∀ i, aA (X.map (·.1)) i = true → xk m = some i := by
 cases m with
 | leaf i t => simp only [rA] at h ⊢; injection h with h; subst h; exact ⟨[(i, .d (qp t x))], bx, rfl, fun _ => rfl, fun j hj => by simp [aZ, aA] at hj; simp [xk, hj]⟩
 | agg i n => simp only [rA] at h ⊢; injection h with h; subst h; exact ⟨[(i, .ag (AU (stC n x)))], bx, rfl, fun _ => rfl, fun j hj => by simp [aZ, aA] at hj; simp [xk, hj]⟩
 | row i R e k t => simp only [rA] at h ⊢; injection h with h; subst h; exact ⟨[(i, .row R)], _, rfl, fun _ => rfl, fun j hj => by simp [aZ, aA] at hj; simp [xk, hj]⟩
 | box b ty n rows =>
  simp only [rA] at h ⊢
  split at h
  ·rename_i vs bx' hp
   injection h with h
   subst h
   exact ⟨[], _, rfl, fun _ => rfl, fun j hj => by cases hj⟩
  ·cases h
theorem Lx : ∀ {ms : List Mod} {st : jN ms} {l : List (Nat × SV)} {bx : List (Nat × Option aW)} {pr oc : List Nat} {ro : Bool} {s2 : SS}, jG ms st ⟨l, bx, pr, ro, oc⟩ = some s2 →
  ∃ X bx2, s2 = ⟨X ++ l, bx2, pr, ro, oc⟩ ∧ (∀ l', jG ms st ⟨l', bx, pr, ro, oc⟩ = some ⟨X ++ l', bx2, pr, ro, oc⟩) ∧ ∀ i, aA (X.map (·.1)) i = true → ∃ m ∈ ms, xk m = some i
 | [], st, l, bx, pr, oc, ro, s2, h => by injection h with h; subst h; exact ⟨[], bx, rfl, fun _ => rfl, fun j hj => by cases hj⟩
 | [m], st, l, bx, pr, oc, ro, s2, h => by
  obtain ⟨X, bx2, h1, h2, h3⟩ := Rh (show rA m st _ = some s2 from h)
  exact ⟨X, bx2, h1, h2, fun i hi => ⟨m, List.mem_cons_self, h3 i hi⟩⟩
 | m :: m' :: ms, st, l, bx, pr, oc, ro, s2, h => by
  have h : (match jG (m' :: ms) st.2 ⟨l, bx, pr, ro, oc⟩ with | some s => rA m st.1 s | none => none) = some s2 := h
  split at h
  ·rename_i s1 h1
   obtain ⟨X, bx2, rfl, k2, k3⟩ := Lx h1
   obtain ⟨Y, bx3, rfl, m2, m3⟩ := Rh h
   refine ⟨Y ++ X, bx3, by simp, fun l' => ?_, fun i hi => ?_⟩
   ·show (match jG (m' :: ms) st.2 ⟨l', bx, pr, ro, oc⟩ with | some s => rA m st.1 s | none => none) = _
    rw [k2 l']
    simp only
    rw [m2]
    simp
   ·rw [List.map_append, de, Bool.or_eq_true] at hi
    rcases hi with hi | hi
    ·exact ⟨m, List.mem_cons_self, m3 i hi⟩
    ·obtain ⟨m0, h4, h5⟩ := k3 i hi
     exact ⟨m0, List.mem_cons_of_mem _ h4, h5⟩
  ·cases h
theorem JE : ∀ (X l : List (Nat × SV)) (i : Nat), lkV (X ++ l) i = if aA (X.map (·.1)) i = true then lkV X i else lkV l i
 | [], l, i => by simp [aA]
 | (j, v) :: X, l, i => by
  simp only [List.cons_append, cR, JE X l i, List.map_cons, aZ]
  by_cases e : i = j
  ·simp [e]
  ·simp [e]
theorem RG {s' : SS} {m : Mod} {x : m.den} (hg : A0 s' m = some x) {t : Nat} (ht : aA (bv [m]) t = true) {ty : TypeId} {cs : List SV} (hb : lkB s'.bx t = some (.st ty cs)) : ∃ ty n rows, m = .box t ty n rows := by
 cases m with
 | leaf i t' => cases ht
 | agg i n => cases ht
 | row i R e k t' =>
  simp only [bv, aZ, aA, Bool.or_false, decide_eq_true_eq] at ht
  subst ht
  have hg : (match lkV s'.sl i, lkB s'.bx t with | .row R', some (.rw e' k' t2 xs _) => (match Ty.same t2 t' with | some ⟨h⟩ => chk (Nat.beq R' t) (chk (e' == e) (chk (k' == k) (some (yQ h xs)))) | none => none) | _, _ => none) = some (show List t'.den from x) := hg
  rw [hb] at hg
  split at hg
  ·rename_i h2; cases h2
  ·cases hg
 | box b ty' n rows =>
  simp only [bv, aZ, de, aA, Bool.or_false, Bool.or_eq_true, decide_eq_true_eq] at ht
  rcases ht with ht | ht
  ·subst ht; exact ⟨_, _, _, rfl⟩
  ·exfalso
   simp only [A0] at hg
   split at hg
   ·have h1 := (ao (ao hg).2).1
    have key : ∀ rows : List (Nat × Nat × Nat × Nat × Ty), aA (rows.map (·.2.1)) t = true → (rows.all fun r => Zs (lkB s'.bx r.2.1)) = true → Zs (lkB s'.bx t) = true := by
     intro rows
     induction rows with
     | nil => intro h; cases h
     | cons r rows ih =>
      intro h h2
      rw [List.all_cons, Bool.and_eq_true] at h2
      rw [List.map_cons, aZ, Bool.or_eq_true] at h
      rcases h with h | h
      ·have := zd h
       rw [this]; exact h2.1
      ·exact ih h h2.2
    have h2 := key rows ht h1
    rw [hb] at h2
    cases h2
   ·exact dC hg
theorem LB {s' : SS} {p : PS} (hs' : gR s' p) : ∀ {ms : List Mod} {st : jN ms} {c c' : SS}, tA s' ms = some st → gR c p → l6 c.bx → jG ms st c = some c' →
  gR c' p ∧ l6 c'.bx ∧ BLe c.bx c'.bx ∧ (∀ t, aA (bv ms) t = false → lkB c'.bx t = lkB c.bx t) ∧ ∀ t, aA (bv ms) t = true → ∀ ty cs, lkB s'.bx t = some (.st ty cs) → ∃ ty' cs', lkB c'.bx t = some (.st ty' cs')
 | [], st, c, c', _, hc, hn, h => by injection h with h; subst h; exact ⟨hc, hn, .refl _, fun _ _ => rfl, fun t ht => by cases ht⟩
 | [m], st, c, c', hp, hc, hn, h => by
  have hg : A0 s' m = some st := hp
  have h : rA m st c = some c' := h
  obtain ⟨h1, h2, h3, h4⟩ := Ri hs' hg hc hn h
  refine ⟨h1, h2, h3, h4, fun t ht ty cs hb => ?_⟩
  obtain ⟨ty', n, rows, rfl⟩ := RG hg ht hb
  simp only [rA] at h
  split at h
  ·injection h with h
   subst h
   exact ⟨_, _, by show lkB ((t, _) :: _) t = _; rw [ar, if_pos rfl]⟩
  ·cases h
 | m :: m' :: ms, st, c, c', hp, hc, hn, h => by
  have hp : Option.bind (A0 s' m) (fun x => Option.bind (tA s' (m' :: ms)) fun xs => some (x, xs)) = some st := hp
  obtain ⟨x, hg, hp2⟩ := cO hp
  obtain ⟨xs, hp3, he⟩ := cO hp2
  injection he with he
  subst he
  have h : (match jG (m' :: ms) xs c with | some s => rA m x s | none => none) = some c' := h
  split at h
  ·rename_i c1 h1
   obtain ⟨k1, k2, k3, k4, k5⟩ := LB hs' hp3 hc hn h1
   obtain ⟨n1, n2, n3, n4⟩ := Ri hs' hg k1 k2 h
   refine ⟨n1, n2, k3.trans n3, fun t ht => ?_, fun t ht ty cs hb => ?_⟩
   ·rw [jO, Bool.or_eq_false_iff] at ht
    rw [n4 t ht.1, k4 t ht.2]
   ·rw [jO, Bool.or_eq_true] at ht
    rcases ht with ht | ht
    ·obtain ⟨ty', n, rows, rfl⟩ := RG hg ht hb
     simp only [rA] at h
     split at h
     ·injection h with h
      subst h
      exact ⟨_, _, by show lkB ((t, _) :: _) t = _; rw [ar, if_pos rfl]⟩
     ·cases h
    ·obtain ⟨ty', cs', h5⟩ := k5 t ht ty cs hb
     exact n3.st t ty' cs' h5
  ·cases h
theorem ur {s : SS} : ∀ {ms : List Mod}, pm wr s ms = true → (∀ m ∈ ms, ∀ i, xk m = some i → aA wr i = true ∨ ∃ R, aA (bv ms) R = true ∧ lkV s.sl i = .row R) ∧ ∀ t, aA (bv ms) t = true → aA s.pr t = false
 | [], _ => ⟨fun m hm => (by cases hm), fun t ht => (by cases ht)⟩
 | m :: ms, h => by
  have key : pm wr s ms = true ∧ (∀ i, xk m = some i → aA wr i = true ∨ ∃ R, aA (bv [m]) R = true ∧ lkV s.sl i = .row R) ∧ ∀ t, aA (bv [m]) t = true → aA s.pr t = false := by
   cases m with
   | leaf i t =>
    simp only [pm] at h
    split at h
    ·rename_i hw; exact ⟨h, fun j hj => by injection hj with hj; subst hj; exact .inl hw, fun t ht => by cases ht⟩
    ·cases h
   | agg i n =>
    simp only [pm] at h
    split at h
    ·rename_i hw; exact ⟨h, fun j hj => by injection hj with hj; subst hj; exact .inl hw, fun t ht => by cases ht⟩
    ·cases h
   | row i R e k t =>
    simp only [pm] at h
    split at h
    ·rename_i hp hw
     refine ⟨h, fun j hj => ?_, fun t ht => ?_⟩
     ·injection hj with hj
      subst hj
      rw [Bool.or_eq_true] at hw
      rcases hw with hw | hw
      ·exact .inl hw
      ·unfold YM at hw
       split at hw
       ·rename_i R' hv
        rw [cS] at hw
        have := zd hw
        subst this
        exact .inr ⟨R', by simp [bv, aZ], hv⟩
       ·cases hw
     ·simp only [bv, aZ, aA, Bool.or_false, decide_eq_true_eq] at ht
      subst ht; exact hp
    ·cases h
   | box b ty n rows =>
    simp only [pm] at h
    split at h
    ·rename_i hp hr
     refine ⟨h, fun j hj => (by cases hj), fun t ht => ?_⟩
     simp only [bv, aZ, de, aA, Bool.or_false, Bool.or_eq_true, decide_eq_true_eq] at ht
     rcases ht with ht | ht
     ·subst ht; exact hp
     ·clear h
      induction rows with
      | nil => cases ht
      | cons r rows ih =>
       rw [List.all_cons, Bool.and_eq_true] at hr
       rw [List.map_cons, aZ, Bool.or_eq_true] at ht
       rcases ht with ht | ht
       ·have := zd ht
        rw [this]; simpa using hr.1
       ·exact ih hr.2 ht
    ·cases h
  obtain ⟨h1, h2, h3⟩ := key
  obtain ⟨h4, h5⟩ := ur h1
  refine ⟨fun m0 hm i hi => ?_, fun t ht => ?_⟩
  ·rcases List.mem_cons.1 hm with rfl | hm
   ·rcases h2 i hi with h | ⟨R, h6, h7⟩
    ·exact .inl h
    ·exact .inr ⟨R, by rw [jO, h6]; rfl, h7⟩
   ·rcases h4 m0 hm i hi with h | ⟨R, h6, h7⟩
    ·exact .inl h
    ·exact .inr ⟨R, by rw [jO, h6]; simp, h7⟩
  ·rw [jO, Bool.or_eq_true] at ht
   exact ht.elim (h3 t) (h5 t)
theorem mz : ∀ {cs : List SV} (_ : cy cs = true) {j : Nat} {c : SV}, cs[j]? = some c → pk c = true
 | [], _, j, c, h => by simp at h
 | d :: cs, h, j, c, hj => by
  simp only [cy] at h
  split at h
  ·rename_i h1
   cases j with
   | zero => simp at hj; subst hj; exact h1
   | succ j => simp at hj; exact mz h hj
  ·cases h
theorem NY {B B' : List (Nat × Option aW)} {v : SV} {q : PV} (h : bc B v q) : pk v = true → bc B' v q := by
 induction h with
 | junk q => exact fun _ => .junk q
 | d c y h => exact fun _ => .d c y h
 | ag cs qs hl hr ih => exact fun hs => .ag cs qs hl fun j c q h1 h2 => ih j c q h1 h2 (mz hs h1)
 | tup cs qs hl hr ih => exact fun hs => .tup cs qs hl fun j c q h1 h2 => ih j c q h1 h2 (mz hs h1)
 | ptr t o ty cs hb => exact fun hs => by cases hs
 | row t n e k ty xs pins hb hn => exact fun hs => by cases hs
 | re t p o n i e k ty xs pins pin hb hn hp hi => exact fun hs => by cases hs
 | vw t lo hi n e k ty xs pins hb hn => exact fun hs => by cases hs
 | fe cs ds h hn => exact fun _ => .fe cs ds h hn
 | fn f ps qs ps' qs' hl hr hl2 hr2 ih ih2 =>
  intro hs
  have hs : (match cy ps with | true => cy qs | false => false) = true := hs
  split at hs
  ·rename_i h1
   exact .fn f ps qs ps' qs' hl (fun j c q h2 h3 => ih j c q h2 h3 (mz h1 h2)) hl2 (fun j c q h2 h3 => ih2 j c q h2 h3 (mz hs h2))
  ·cases hs
def tC (sc wr : List Nat) (ms : List Mod) (s1 : SS) : SS := ⟨s1.sl, s1.bx, (cg sc wr ms s1).pr, s1.ro, s1.oc⟩
theorem qr (ms : List Mod) (s1 : SS) (t : Nat) : aA (cg sc wr ms s1).pr t = true ↔ aA (bv ms) t = false ∧ aA sc t = false ∧ ∃ b, lkB s1.bx t = some b ∧ yq b = true := by
 show aA (oG (bv ms ++ sc) s1.bx []) t = true ↔ _
 rw [kY, de, Bool.or_eq_false_iff]
 simp [aA, and_assoc]
theorem AZ (ms : List Mod) (s1 : SS) : l5 (tC sc wr ms s1) := fun t ht => ((qr (wr := wr) ms s1 t).1 ht).2.2
theorem yT {ms : List Mod} {s1 : SS} {t : Nat} (h : aA (cg sc wr ms s1).pr t = true) : lkB (cg sc wr ms s1).bx t = Jb (lkB s1.bx t) := by
 obtain ⟨_, h2, _⟩ := (qr ms s1 t).1 h
 show lkB (Lj s1.bx sc (sM (cg sc wr ms s1).pr s1.bx [])) t = _
 rw [(vo s1.bx sc _ t).2 (.inl h2), nD, h]
 simp [aA]
theorem Dv {ms : List Mod} {s1 : SS} {t : Nat} (h : aA sc t = true) {ty : TypeId} {cs : List SV} (hb : lkB s1.bx t = some (.st ty cs)) : lkB (cg sc wr ms s1).bx t = some (.st ty (wA cs)) :=
 (vo s1.bx sc _ t).1 h ty cs hb
theorem FC {ms : List Mod} {s1 : SS} {t : Nat} {b : aW} (h : lkB (cg sc wr ms s1).bx t = some b) : aA (cg sc wr ms s1).pr t = true ∨ aA sc t = true ∧ ∃ ty cs, lkB s1.bx t = some (.st ty cs) := by
 by_cases h1 : aA sc t = true ∧ ∃ ty cs, lkB s1.bx t = some (.st ty cs)
 ·exact .inr h1
 ·left
  have h2 : aA sc t = false ∨ ∀ ty cs, lkB s1.bx t ≠ some (.st ty cs) := by
   by_cases h3 : aA sc t = true
   ·exact .inr fun ty cs h4 => h1 ⟨h3, ty, cs, h4⟩
   ·exact .inl (by simpa using h3)
  have h : lkB (Lj s1.bx sc (sM (cg sc wr ms s1).pr s1.bx [])) t = some b := h
  rw [(vo s1.bx sc _ t).2 h2, nD] at h
  cases h4 : aA (cg sc wr ms s1).pr t with
  | true => rfl
  | false => rw [h4] at h; simp [aA] at h
theorem JB {ms : List Mod} {s1 s' : SS} {p1 p' : PS} {st : jN ms} {s2 : SS} (hs1 : gR s1 p1) (hchk : sJ sc wr ms s1.pr s1 = true) (hk : dB sc wr (tC sc wr ms s1) s') (hs' : gR s' p') (hpk : tA s' ms = some st) (hput : jG ms st (cg sc wr ms s1) = some s2) :
  gR s2 p' ∧ dB sc wr (tC sc wr ms s1) s2 ∧ s2.pr = (cg sc wr ms s1).pr := by
 unfold sJ at hchk
 simp only [Bool.and_eq_true] at hchk
 obtain ⟨c1, c2, c3, c4⟩ := hchk
 obtain ⟨o1, o2⟩ := ur c1
 have hscm := sX c3
 obtain ⟨X, bx2, rfl, hX, hkeys⟩ := Lx (show jG ms st ⟨(cg sc wr ms s1).sl, (cg sc wr ms s1).bx, (cg sc wr ms s1).pr, (cg sc wr ms s1).ro, (cg sc wr ms s1).oc⟩ = some s2 from hput)
 have hX0 := hX []
 rw [List.append_nil] at hX0
 have hsame : ∀ t, aA (cg sc wr ms s1).pr t = true → kG (lkB s1.bx t) (lkB s'.bx t) := hk.bx
 have hbx : Hi (cg sc wr ms s1).bx p' := by
  intro t b hb
  rcases FC hb with h | ⟨h, ty, cs, h1⟩
  ·obtain ⟨_, _, b1, h2, h3⟩ := (qr ms s1 t).1 h
   have h4 := hsame t h
   rw [yT h, h2] at hb
   rw [h2] at h4
   cases b1 with
   | st ty cs =>
    injection hb with hb
    subst hb
    obtain ⟨qs, h5, h6⟩ := hs'.bx t _ h4
    exact ⟨qs, h5, h6.len, fun j c q m1 m2 => NY (h6.rep j c q m1 m2) (mz h3 m1)⟩
   | rw e k ty xs pins =>
    injection hb with hb
    subst hb
    obtain ⟨pins', h4⟩ := h4
    exact ⟨(hs'.bx t _ h4).1, fun p pin hp => by cases hp⟩
  ·rw [Dv h h1] at hb
   injection hb with hb
   subst hb
   obtain ⟨cs', h2, h3⟩ := hk.st t h ty cs h1
   obtain ⟨qs, h4, h5⟩ := hs'.bx t _ h2
   refine ⟨qs, h4, by rw [AX, ← h3]; exact h5.len, fun j c q m1 m2 => ?_⟩
   rw [HR cs j c m1]
   exact .junk q
 have hnp : l6 (cg sc wr ms s1).bx := by
  intro t e k ty xs pins hb
  rcases FC hb with h | ⟨h, ty2, cs, h1⟩
  ·rw [yT h] at hb
   cases hl : lkB s1.bx t with
   | none => rw [hl] at hb; cases hb
   | some b =>
    rw [hl] at hb
    cases b with
    | st => cases hb
    | rw e2 k2 ty2 xs2 pins2 =>
     injection hb with hb
     injection hb with q1 q2 q3 q4 q5
     exact q5.symm
  ·rw [Dv h h1] at hb; cases hb
 have hc0 : gR ⟨[], (cg sc wr ms s1).bx, (cg sc wr ms s1).pr, (cg sc wr ms s1).ro, (cg sc wr ms s1).oc⟩ p' := ⟨fun i => .junk _, hbx⟩
 obtain ⟨k1, k2, k3, k4, k5⟩ := LB hs' hpk hc0 hnp hX0
 have k4 : ∀ t, aA (bv ms) t = false → lkB bx2 t = lkB (cg sc wr ms s1).bx t := k4
 have hprm : ∀ t, aA (cg sc wr ms s1).pr t = true → aA (bv ms) t = false := fun t ht => ((qr ms s1 t).1 ht).1
 have hkb : ∀ t, aA (bv ms ++ (sE s1.bx sc ++ (cg sc wr ms s1).pr)) t = true → ∀ ty cs, lkB s'.bx t = some (.st ty cs) → ∃ ty' cs', lkB bx2 t = some (.st ty' cs') := by
  intro t ht ty cs hb
  rw [de, de, Bool.or_eq_true, Bool.or_eq_true] at ht
  rcases ht with ht | ht | ht
  ·exact k5 t ht ty cs hb
  ·obtain ⟨h1, ty2, cs2, h2⟩ := (qq s1.bx sc t).1 ht
   rw [k4 t (hscm t h1), Dv h1 h2]
   exact ⟨_, _, rfl⟩
  ·rw [k4 t (hprm t ht), yT ht]
   have h1 := hsame t ht
   obtain ⟨_, _, b1, h2, h3⟩ := (qr ms s1 t).1 ht
   rw [h2] at h1 ⊢
   cases b1 with
   | st ty2 cs2 => exact ⟨_, _, rfl⟩
   | rw e k ty2 xs pins =>
    obtain ⟨pins', h1⟩ := h1
    rw [h1] at hb
    cases hb
 have hbase : ∀ i, lkV (cg sc wr ms s1).sl i = if aA wr i = true then .junk else if GN (cg sc wr ms s1).pr (bv ms ++ (sE s1.bx sc ++ (cg sc wr ms s1).pr)) (lkV s1.sl i) = true then lkV s1.sl i else .junk := fun i => by
  show lkV (sK wr (cg sc wr ms s1).pr (bv ms ++ (sE s1.bx sc ++ (cg sc wr ms s1).pr)) s1.sl []) i = _
  rw [nC]
  simp [aA]
 refine ⟨⟨fun i => ?_, k1.bx⟩, ⟨rfl, rfl, fun t ht => ?_, fun i hi hsf => ?_, fun t ht ty cs hb => ?_⟩, rfl⟩
 ·show bc bx2 (lkV (X ++ (cg sc wr ms s1).sl) i) (p'.t i)
  rw [JE]
  split
  ·exact k1.sl i
  ·rw [hbase]
   split
   ·exact .junk _
   ·rename_i hw
    split
    ·rename_i hsf
     have e := hk.sl i (by simpa using hw) (U8 (fun t h => h) _ hsf)
     have h1 := hs'.sl i
     rw [e] at h1
     refine Sg (fun t ht e k ty xs pins hb => ?_) hkb h1 hsf
     rw [k4 t (hprm t ht), yT ht]
     have h2 := hsame t ht
     obtain ⟨_, _, b1, h3, h4⟩ := (qr ms s1 t).1 ht
     rw [h3] at h2 ⊢
     cases b1 with
     | st ty2 cs2 => have h2 : lkB s'.bx t = some (.st ty2 cs2) := h2; rw [h2] at hb; cases hb
     | rw e2 k2 ty2 xs2 pins2 =>
      obtain ⟨pins', h2⟩ := h2
      rw [h2] at hb
      injection hb with hb
      injection hb with q1 q2 q3 q4 q5
      subst q3
      have q4 := eq_of_heq q4
      subst q4
      exact ⟨_, _, _, _, _, rfl, rfl⟩
    ·exact .junk _
 ·show kG (lkB s1.bx t) (lkB bx2 t)
  have ht : aA (cg sc wr ms s1).pr t = true := ht
  rw [k4 t (hprm t ht), yT ht]
  match lkB s1.bx t with
  | none => rfl
  | some (.st _ _) => rfl
  | some (.rw _ _ _ _ _) => exact ⟨[], rfl⟩
 ·show lkV (X ++ (cg sc wr ms s1).sl) i = lkV s1.sl i
  have hsf : kV (cg sc wr ms s1).pr (lkV s1.sl i) = true := hsf
  rw [JE, if_neg, hbase, if_neg (by simp [hi]), if_pos]
  ·refine Od (fun t h => h) (fun t ty cs hb => ?_) (hs1.sl i) hsf
   rw [de, de, Bool.or_eq_true, Bool.or_eq_true]
   rcases oK _ _ _ _ c4 t ty cs rfl hb with h | h | h
   ·exact .inl h
   ·exact .inr (.inl ((qq s1.bx sc t).2 ⟨h, ty, cs, hb⟩))
   ·by_cases hm : aA (bv ms) t = true
    ·exact .inl hm
    ·by_cases hsc : aA sc t = true
     ·exact .inr (.inl ((qq s1.bx sc t).2 ⟨hsc, ty, cs, hb⟩))
     ·exact .inr (.inr ((qr ms s1 t).2 ⟨by simpa using hm, by simpa using hsc, _, hb, h⟩))
  ·intro hX1
   obtain ⟨m, hm, hkey⟩ := hkeys i hX1
   rcases o1 m hm i hkey with h | ⟨R, h1, h2⟩
   ·rw [h] at hi; cases hi
   ·rw [h2] at hsf
    have hsf : aA (cg sc wr ms s1).pr R = true := hsf
    rw [hprm R hsf] at h1
    cases h1
 ·show ∃ cs', lkB bx2 t = _ ∧ _
  rw [k4 t (hscm t ht), Dv ht (show lkB s1.bx t = _ from hb)]
  exact ⟨_, rfl, AX cs⟩
end
section
theorem Dk {P : Program} {s : SS} {p : PS} (hs : Sim s p) : ∀ {l : List ResultVar} {vs : List SV}, Lm P s l = some vs → ∃ qs, l.mapM (CB P p) = some qs ∧ ca s.bx vs qs
 | [], vs, h => by injection h with h; subst h; exact ⟨[], rfl, .nil⟩
 | .tmp t :: l, vs, h => by
  simp only [Lm] at h
  split at h
  ·rename_i vs' h1
   injection h with h
   subst h
   obtain ⟨qs, h2, h3⟩ := Dk hs h1
   exact ⟨p.t t :: qs, by simp [List.mapM_cons, CB, h2], .cons (hs.sl t) h3⟩
  ·cases h
 | .cell t ty :: l, vs, h => by
  simp only [Lm] at h
  split at h
  ·rename_i v vs' h0 h1
   injection h with h
   subst h
   obtain ⟨qs, h2, h3⟩ := Dk hs h1
   obtain ⟨r, h4, h5⟩ := LM hs (hs.sl t) h0
   exact ⟨r :: qs, by simp [List.mapM_cons, CB, h4, h2], .cons h5 h3⟩
  ·cases h
theorem Mw {s : SS} {p : PS} (hs : Sim s p) : ∀ {rs : List PT} {vs : List SV} {qs : List PV} {x : a8 rs}, ca s.bx vs qs → Iv s rs vs = some x → bO p.b qs = yi rs x
 | [], [], qs, x, hv, h => by
  rcases hv.cases with ⟨_, rfl⟩ | ⟨_, _, _, _, h1, _⟩
  ·rfl
  ·cases h1
 | [], _ :: _, _, x, _, h => dC (x := x) h
 | [t], [], _, x, _, h => dC (x := x) h
 | [t], [v], qs, x, hv, h => by
  rcases hv.cases with ⟨h1, _⟩ | ⟨v', q, vs', qs', h1, rfl, h2, h3⟩
  ·cases h1
  ·injection h1 with e1 e2
   subst e1 e2
   rcases h3.cases with ⟨_, rfl⟩ | ⟨_, _, _, _, h4, _⟩
   ·have := (Du hs h2 (show MD s t v = some x from h)).1
    simp only [bO, yi, this]
   ·cases h4
 | [t], _ :: _ :: _, _, x, _, h => dC (x := x) h
 | t :: t' :: rs, [], _, x, _, h => dC (x := x) h
 | t :: t' :: rs, v :: vs, qs, x, hv, h => by
  rcases hv.cases with ⟨h1, _⟩ | ⟨v', q, vs', qs', h1, rfl, h2, h3⟩
  ·cases h1
  ·injection h1 with e1 e2
   subst e1 e2
   have h : Option.bind (MD s t v) (fun x => Option.bind (Iv s (t' :: rs) vs) fun xs => some (x, xs)) = some x := h
   obtain ⟨y, h4, h5⟩ := cO h
   obtain ⟨ys, h6, h7⟩ := cO h5
   injection h7 with h7
   subst h7
   simp only [bO, yi, (Du hs h2 h4).1, Mw hs h3 h6]
theorem Iu {s : SS} : ∀ {rs : List PT} {vs : List SV} {x : a8 rs}, Iv s rs vs = some x → vs.length = rs.length
 | [], [], x, _ => rfl
 | [], _ :: _, x, h => dC (x := x) h
 | [t], [], x, h => dC (x := x) h
 | [t], [v], x, _ => rfl
 | [t], _ :: _ :: _, x, h => dC (x := x) h
 | t :: t' :: rs, [], x, h => dC (x := x) h
 | t :: t' :: rs, v :: vs, x, h => by
  have h : Option.bind (MD s t v) (fun x => Option.bind (Iv s (t' :: rs) vs) fun xs => some (x, xs)) = some x := h
  obtain ⟨y, h4, h5⟩ := cO h
  obtain ⟨ys, h6, h7⟩ := cO h5
  simp only [List.length_cons, Iu h6]
theorem LV {C : Cx} {fn : Func} (hv : fn.results.toList = C.vars) {s : SS} {p : PS} (hs : Sim (clr s) p) {r : a8 C.rs} (hM : oN C.rs = false) (h : B4 C s = some r) : ∃ q, qK C.P fn p = some q ∧ asData p.b q = toR C.rs r := by
 unfold B4 at h
 rw [hM] at h
 simp only at h
 split at h
 ·rename_i vs hvs
  obtain ⟨qs, h1, h2⟩ := Dk hs hvs
  have h3 := Mw hs h2 h
  have h4 := Iu h
  have h5 := h2.len
  unfold qK
  rw [hv, h1]
  match qs, h3, h5 with
  | [], h3, h5 =>
   refine ⟨.tup [], rfl, ?_⟩
   rcases rp C.rs r with ⟨q, k1, _⟩ | k1
   ·rw [k1] at h3; simp [bO] at h3
   ·rw [k1, ← h3]; rfl
  | [q], h3, h5 =>
   refine ⟨q, rfl, ?_⟩
   have : C.rs.length = 1 := by rw [← h4, h5]; rfl
   rcases rp C.rs r with ⟨q', k1, k2⟩ | k1
   ·rw [k1] at h3
    rw [k2]
    simpa [bO] using h3
   ·exfalso
    match C.rs, r, this, k1 with
    | [t], r, _, k1 => cases t <;> simp [toR, pd] at k1
  | q :: q' :: qs, h3, h5 =>
   refine ⟨.tup (q :: q' :: qs), rfl, ?_⟩
   rcases rp C.rs r with ⟨q2, k1, _⟩ | k1
   ·rw [k1] at h3; simp [bO] at h3
   ·rw [k1, ← h3]; rfl
 ·cases h
theorem Ow : ∀ (rs : List PT) (o : yu (cx rs)) (r : a8 (eY rs)), jM rs (VM rs o r) = o ∧ iG rs (VM rs o r) = r
 | [], _, _ => ⟨rfl, rfl⟩
 | [.io _], _, _ => ⟨rfl, rfl⟩
 | .io _ :: _ :: _, _, _ => ⟨rfl, rfl⟩
 | .own .. :: _, _, _ => ⟨rfl, rfl⟩
 | .mv .. :: _, _, _ => ⟨rfl, rfl⟩
 | .bx .. :: _, _, _ => ⟨rfl, rfl⟩
 | .agr .. :: _, _, _ => ⟨rfl, rfl⟩
 | .lf _ :: _, _, _ => ⟨rfl, rfl⟩
 | .ag _ :: _, _, _ => ⟨rfl, rfl⟩
 | .pl _ :: _, _, _ => ⟨rfl, rfl⟩
 | .ps _ :: _, _, _ => ⟨rfl, rfl⟩
 | .fn .. :: _, _, _ => ⟨rfl, rfl⟩
def boI (i : Nat) : (b : IB) → List Nat → b.den → BU
 | .no, _, _ => []
 | .own e k t, _, xs => [(tR i, rwU e k t xs)]
 | .bx ty n rows, js, x => (tR i, .st ty (dY (l8 rows js) 0 (stD n x))) :: ch (l8 rows js) 0 (stD n x)
def rR : Nat → (ls : List IB) → List (List Nat) → yu ls → BU
 | i, b :: ls, js :: kss, o => boI i b js o.1 ++ rR (i + 1) ls kss o.2
 | _, _, _, _ => []
def Sc (C : Cx) (fn : Func) (p : PS) (r : a8 C.rs) : Prop :=
 (oN C.rs = false → ∃ q, qK C.P fn p = some q ∧ asData p.b q = toR C.rs r) ∧
 (oN C.rs = true → ∃ kss jss, jS (cx C.rs) kss ∧ iE (eY C.rs) jss ∧ (dp 0 (cx C.rs) ++ (bm kss ++ bm jss)).Nodup ∧ (∃ q, qK C.P fn p = some q ∧ qo q = yw (cQ (eY C.rs) jss (iG C.rs r)).1) ∧
  ∀ t Bx, (t, Bx) ∈ rR 0 (cx C.rs) kss (jM C.rs r) ++ (cQ (eY C.rs) jss (iG C.rs r)).2 → ∃ B', p.b t = some B' ∧ rB B' = Bx)
theorem Jv {rows : List (Nat × Nat × Nat × Nat × Ty)} {t : Nat} {Bx : Box} : ∀ {ds : List D} {j : Nat}, (t, Bx) ∈ ch rows j ds → rB Bx = Bx
 | [], j, h => by cases h
 | d :: ds, j, h => by
  simp only [ch] at h
  split at h
  ·split at h
   ·rcases List.mem_cons.1 h with e | h
    ·injection e with _ e; subst e; rfl
    ·exact Jv h
   ·exact Jv h
  ·exact Jv h
theorem Yp {s : SS} {p : PS} (hs : Sim s p) {i : Nat} {b : IB} {o : b.den} {js : List Nat} (h : Yq s i b = some (o, js)) : js.length = b.nJ ∧ ∀ t Bx, (t, Bx) ∈ boI i b js o → ∃ B', p.b t = some B' ∧ rB B' = Bx := by
 cases b with
 | no =>
  injection h with h
  injection h with _ h
  subst h
  exact ⟨rfl, fun _ _ h => by cases h⟩
 | own e k t =>
  simp only [Yq] at h
  split at h
  ·rename_i xs is hd
   injection h with h
   injection h with e1 e2
   subst e1 e2
   refine ⟨rfl, fun t' Bx hm => ?_⟩
   have hbx := hs.bx (tR i)
   unfold sY at hd
   simp only at hd
   split at hd
   ·rename_i e' k' t2 xs' pins hb
    split at hd
    ·rename_i hty _
     obtain ⟨m2, hd⟩ := ao hd
     obtain ⟨m3, hd⟩ := ao hd
     injection hd with hd
     injection hd with e1 e2
     subst e1 hty
     have m2 := zd m2
     have m3 := zd m3
     subst m2 m3
     rw [hb] at hbx
     simp only [boI, List.mem_cons, List.not_mem_nil, or_false, Prod.mk.injEq] at hm
     obtain ⟨rfl, rfl⟩ := hm
     exact ⟨_, hbx.1, rfl⟩
    ·cases hd
   ·cases hd
  ·cases h
 | bx ty n rows =>
  simp only [Yq] at h
  split at h
  ·rename_i ty' cs hb
   obtain ⟨m1, h⟩ := ao h
   have m1 := zd m1
   subst m1
   have hbx := hs.bx (tR i)
   rw [hb] at hbx
   obtain ⟨qs, k1, k2⟩ := hbx
   obtain ⟨k3, k4, k5⟩ := Fj hs k2 h
   refine ⟨k3, fun t Bx hm => ?_⟩
   rcases List.mem_cons.1 hm with e | hm
   ·injection e with e1 e2
    subst e1 e2
    exact ⟨_, k1, by rw [rB, k4]⟩
   ·exact ⟨_, k5 t Bx hm, Jv hm⟩
  ·cases h
theorem Mz {s : SS} {p : PS} (hs : Sim s p) : ∀ {ls : List IB} {i : Nat} {o : yu ls} {kss : List (List Nat)}, RZ s i ls = some (o, kss) → jS ls kss ∧ ∀ t Bx, (t, Bx) ∈ rR i ls kss o → ∃ B', p.b t = some B' ∧ rB B' = Bx
 | [], i, o, kss, h => by
  injection h with h
  injection h with _ h
  subst h
  exact ⟨trivial, fun _ _ h => by cases h⟩
 | b :: ls, i, o, kss, h => by
  simp only [RZ] at h
  split at h
  ·rename_i o1 js os kss' h1 h2
   injection h with h
   injection h with e1 e2
   subst e1 e2
   obtain ⟨k1, k2⟩ := Yp hs h1
   obtain ⟨k3, k4⟩ := Mz hs h2
   refine ⟨⟨k1, k3⟩, fun t Bx hm => ?_⟩
   rcases List.mem_append.1 hm with hm | hm
   ·exact k2 t Bx hm
   ·exact k4 t Bx hm
  ·cases h
theorem Iw {s : SS} {p : PS} (hs : Sim s p) : ∀ {rs : List PT} {vs : List SV} {qs : List PV} {x : a8 rs} {jss : List (List Nat)}, ca s.bx vs qs → JV s rs vs = some (x, jss) →
  iE rs jss ∧ dL qs = (cQ rs jss x).1 ∧ ∀ t Bx, (t, Bx) ∈ (cQ rs jss x).2 → ∃ B', p.b t = some B' ∧ rB B' = Bx
 | [], [], qs, x, jss, hv, h => by
  rcases hv.cases with ⟨_, rfl⟩ | ⟨_, _, _, _, h1, _⟩
  ·injection h with h
   injection h with _ h
   subst h
   exact ⟨trivial, rfl, fun _ _ h => by cases h⟩
  ·cases h1
 | [], _ :: _, _, x, jss, _, h => dC (x := (x, jss)) h
 | [pt], [], _, x, jss, _, h => dC (x := (x, jss)) h
 | [pt], [v], qs, x, jss, hv, h => by
  rcases hv.cases with ⟨h1, _⟩ | ⟨v', q, vs', qs', h1, rfl, h2, h3⟩
  ·cases h1
  ·injection h1 with e1 e2
   subst e1 e2
   rcases h3.cases with ⟨_, rfl⟩ | ⟨_, _, _, _, h4, _⟩
   ·have h : (match O6 s pt v with | some (x, is) => some (x, [is]) | none => none) = some (x, jss) := h
    split at h
    ·rename_i y is hd
     injection h with h
     injection h with e1 e2
     subst e1 e2
     obtain ⟨k1, k2, k3⟩ := JW hs h2 hd
     exact ⟨⟨k1, trivial⟩, by simp only [dL, cQ, k2], k3⟩
    ·cases h
   ·cases h4
 | [pt], _ :: _ :: _, _, x, jss, _, h => dC (x := (x, jss)) h
 | pt :: q :: l, [], _, x, jss, _, h => dC (x := (x, jss)) h
 | pt :: q :: l, v :: vs, qs, x, jss, hv, h => by
  rcases hv.cases with ⟨h1, _⟩ | ⟨v', qv, vs', qs', h1, rfl, h2, h3⟩
  ·cases h1
  ·injection h1 with e1 e2
   subst e1 e2
   have h : (match O6 s pt v, JV s (q :: l) vs with | some (x, is), some (xs, iss) => some ((x, xs), is :: iss) | _, _ => none) = some (x, jss) := h
   split at h
   ·rename_i y is ys iss hd hr
    injection h with h
    injection h with e1 e2
    subst e1 e2
    obtain ⟨k1, k2, k3⟩ := JW hs h2 hd
    obtain ⟨k4, k5, k6⟩ := Iw hs h3 hr
    refine ⟨⟨k1, k4⟩, by simp only [dL, cQ, k2, k5], fun t Bx hm => ?_⟩
    rcases List.mem_append.1 hm with hm | hm
    ·exact k3 t Bx hm
    ·exact k6 t Bx hm
   ·cases h
theorem Oj {P : Program} {fn : Func} {p : PS} {qs : List PV} (h : fn.results.toList.mapM (CB P p) = some qs) : qK P fn p = some (yw qs) := by
 unfold qK
 rw [h]
 match qs with
 | [] => rfl
 | [q] => rfl
 | q :: q' :: qs => rfl
theorem XT (qs : List PV) : qo (yw qs) = yw (dL qs) := by
 match qs with
 | [] => rfl
 | [q] => rfl
 | q :: q' :: qs => rfl
theorem RA {C : Cx} {fn : Func} (hv : fn.results.toList = C.vars) {s : SS} {p : PS} (hpr : l5 (clr s)) (hs : Sim (clr s) p) {r : a8 C.rs} (h : B4 C s = some r) : ∃ p', Le p p' ∧ Sc C fn p' r := by
 cases hM : oN C.rs with
 | false => exact ⟨p, .refl p, fun _ => LV hv hs hM h, fun e => by rw [hM] at e; cases e⟩
 | true =>
  unfold B4 at h
  rw [hM] at h
  simp only [YL] at h
  split at h
  ·split at h
   ·rename_i s1 hf
    obtain ⟨p1, k1, k2, _, _⟩ := xr (sc := C.sc) hpr hs hf
    split at h
    ·rename_i ws hws
     obtain ⟨qs, k3, k4⟩ := Dk k2 hws
     split at h
     ·rename_i o kss r' jss ho hr
      obtain ⟨hn, h⟩ := ao h
      injection h with h
      obtain ⟨e1, e2⟩ := Ow C.rs o r'
      rw [h] at e1 e2
      obtain ⟨m1, m2⟩ := Mz k2 ho
      obtain ⟨m3, m4, m5⟩ := Iw k2 k4 hr
      refine ⟨p1, k1, fun e => (by rw [hM] at e; cases e), fun _ => ⟨kss, jss, m1, m3, iT hn, ⟨_, Oj (by rw [hv]; exact k3), by rw [XT, m4, e2]⟩, fun t Bx hm => ?_⟩⟩
      rw [e1, e2] at hm
      rcases List.mem_append.1 hm with hm | hm
      ·exact m2 t Bx hm
      ·exact m5 t Bx hm
     ·cases h
    ·cases h
   ·cases h
  ·cases h
def wM (C : Cx) (fn : Func) (W : List Nat) (s : SS) {ρ : Type} (k : Exit → SS → Option ρ) (kr : a8 C.rs → Option ρ) (res : ρ) : Exit → PS → Prop
 | .ret, p' => ∃ r, Sc C fn p' r ∧ kr r = some res
 | e, p' => ∃ s', gR s' p' ∧ dB C.sc W s s' ∧ k e s' = some res
theorem XV {a b : List Nat} {i : Nat} (h : aA a i = true) : aA (a ++ b) i = true := by rw [de, h]; rfl
theorem Vy {a b : List Nat} {i : Nat} (h : aA b i = true) : aA (a ++ b) i = true := by rw [de, h]; simp
variable {C : Cx} {fn : Func}
theorem qt {W : List Nat} {s : SS} {ρ : Type} {k : Exit → SS → Option ρ} {kr : a8 C.rs → Option ρ} {res : ρ} {e : Exit} {p : PS} (he : e ≠ .ret) (h : wM C fn W s k kr res e p) : ∃ s', gR s' p ∧ dB C.sc W s s' ∧ k e s' = some res := by
 cases e <;> first | exact h | exact absurd rfl he
theorem Lz {W : List Nat} {s s' : SS} {ρ : Type} {k : Exit → SS → Option ρ} {kr : a8 C.rs → Option ρ} {res : ρ} {e : Exit} {p : PS} (he : e ≠ .ret) (h1 : gR s' p) (h2 : dB C.sc W s s') (h3 : k e s' = some res) : wM C fn W s k kr res e p := by
 cases e <;> first | exact ⟨s', h1, h2, h3⟩ | exact absurd rfl he
def UI (C : Cx) (fn : Func) (c : Code) (W : List Nat) (body : (ρ : Type) → SS → (Exit → SS → Option ρ) → (a8 C.rs → Option ρ) → Option ρ) : Prop :=
 ∀ (ρ : Type) (s : SS) (p : PS) (k : Exit → SS → Option ρ) (kr : a8 C.rs → Option ρ) (res : ρ), l5 s → gR s p → body ρ s k kr = some res → PWP C.P C.n c (wM C fn W s k kr res) p
theorem Oq {wr : List Nat} {ms : List Mod} {s s1 : SS} (hpr : l5 s) (hk : dB C.sc wr s s1) (hchk : sJ C.sc wr ms s.pr s1 = true) : ∀ t, aA s.pr t = true → aA (cg C.sc wr ms s1).pr t = true := by
 intro t ht
 unfold sJ at hchk
 simp only [Bool.and_eq_true] at hchk
 obtain ⟨c1, c2, c3, c4⟩ := hchk
 rw [qr]
 refine ⟨?_, ?_, hk.prOk hpr t (by rw [hk.pr]; exact ht)⟩
 ·cases hm : aA (bv ms) t with
  | false => rfl
  | true =>
   have := (ur c1).2 t hm
   rw [hk.pr, ht] at this
   cases this
 ·cases hm : aA C.sc t with
  | false => rfl
  | true =>
   have := sX c2 t hm
   rw [ht] at this
   cases this
mutual
theorem D2 {pr pr' : List Nat} (h : ∀ t, aA pr t = true → aA pr' t = true) : ∀ v : SV, kV pr v = true → kV pr' v = true
 | .junk, _ => rfl
 | .d _, _ => rfl
 | .fe _, _ => rfl
 | .ptr _ _, _ => rfl
 | .row t, hs => h t hs
 | .re _ _ _, hs => by cases hs
 | .vw _ _ _, hs => by cases hs
 | .ag cs, hs => by simp only [kV] at hs ⊢; exact nz h cs hs
 | .tup cs, hs => by simp only [kV] at hs ⊢; exact nz h cs hs
 | .fn f ps qs, hs => by simp only [kV, Bool.and_eq_true] at hs ⊢; exact ⟨nz h ps hs.1, nz h qs hs.2⟩
theorem nz {pr pr' : List Nat} (h : ∀ t, aA pr t = true → aA pr' t = true) : ∀ cs : List SV, dX pr cs = true → dX pr' cs = true
 | [], _ => rfl
 | c :: cs, hs => by
  simp only [dX, Bool.and_eq_true] at hs ⊢
  exact ⟨D2 h c hs.1, nz h cs hs.2⟩
end
theorem xo {wr : List Nat} {ms : List Mod} {s s1 s2 : SS} {oc : List Nat} (hk : dB C.sc wr s s1) (hsub : ∀ t, aA s.pr t = true → aA (cg C.sc wr ms s1).pr t = true) (hk2 : dB C.sc wr (tC C.sc wr ms s1) s2) : dB C.sc wr s ⟨s2.sl, s2.bx, s.pr, s.ro, oc⟩ := by
 refine ⟨rfl, rfl, fun t ht => (hk.bx t ht).trans (hk2.bx t (hsub t ht)), fun i hi hsf => ?_, fun t ht ty cs hb => ?_⟩
 ·have e := hk.sl i hi hsf
  have := hk2.sl i hi (D2 hsub _ (by show kV s.pr (lkV s1.sl i) = true; rw [e]; exact hsf))
  exact this.trans e
 ·obtain ⟨cs1, h1, h2⟩ := hk.st t ht ty cs hb
  obtain ⟨cs2, h3, h4⟩ := hk2.st t ht ty cs1 h1
  exact ⟨cs2, h3, h4.trans h2⟩
theorem yp {s : SS} (h : l5 s) : l5 (clr s) := h
theorem LX {W : List Nat} {s s' : SS} (h : dB C.sc W (clr s) s') : dB C.sc W s s' := ⟨h.pr, h.ro, h.bx, h.sl, h.st⟩
theorem yb {c : Code} {wr : List Nat} {h : tU} {body : (ρ : Type) → SS → (Exit → SS → Option ρ) → (a8 C.rs → Option ρ) → Option ρ} (hb : UI C fn c wr body) : UI C fn c wr (Hk C wr h body) := by
 intro ρ s p k kr res hpr hs hx
 unfold Hk at hx
 split at hx
 ·rename_i ms h'
  split at hx
  ·cases hx
  ·rename_i s1 hnil
   obtain ⟨hchk, hx⟩ := ao hx
   obtain ⟨st, h1, h2⟩ := cO hx
   split at h2
   ·rename_i s2 hput
    refine ug (AW hs) ?_
    obtain ⟨p2, k1, k2, k3, k4⟩ := qx (sc := C.sc) (s := clr s) rfl (yp hpr) (rx hs) hnil
    refine ug k1 ?_
    have hk1 : dB C.sc wr s s1 := LX k3
    have hw : gR (tC C.sc wr ms s1) p2 := ⟨k2.w.sl, k2.w.bx⟩
    refine fu (hb _ (tC C.sc wr ms s1) p2 _ _ st (AZ ms s1) hw h1) fun e p' hq => ?_
    by_cases he : e = .ret
    ·subst he
     obtain ⟨r, _, h⟩ := hq
     cases h
    ·obtain ⟨s', m1, m2, m3⟩ := qt he hq
     cases e with
     | normal =>
      have m3 : qu ms s' = some st := m3
      unfold qu at m3
      split at m3
      ·rename_i s'' hf
       obtain ⟨p'', n1, n2, n3⟩ := rJ (sc := C.sc) (m2.prOk (AZ ms s1)) m1 hf
       have hchk' : sJ C.sc wr ms s1.pr s1 = true := by rw [hk1.pr]; exact hchk
       obtain ⟨o1, o2, o3⟩ := JB k2.w hchk' (m2.trans (n3 wr)) n2 m3 hput
       exact ⟨p'', n1, ⟨s2.sl, s2.bx, s.pr, s.ro, s.oc⟩, ⟨o1.sl, o1.bx⟩, xo hk1 (Oq hpr hk1 hchk) o2, h2⟩
      ·cases m3
     | ret => exact absurd rfl he
     | _ => cases m3
   ·cases h2
 ·exact hb ρ s p k kr res hpr hs hx
end
end Go.Proofs.YtmjkjaahbgikjaaGreat
